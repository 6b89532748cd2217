/- Chapter 7: the program's sets of dots moved by whatever function moves places apart. -/
import Derived.Test.YtmcdmacpgjkelaaDoorDuD
namespace Go.Proofs.YtmcdmacpgjkelaaDoor
open Go.ChangeShapes Go.WideShapes Go.ChangeAt Go.RowKit Go.Maps

/-- What is moved already, by the places to which dots are moved: g tells whence. -/
def mvL (S L : Int → Int → Bool) (g1 g2 : Int → Int → Int) (u v : Int) : Bool := S (g1 u v) (g2 u v) && !L (g1 u v) (g2 u v)
theorem mv_start {S : Int → Int → Bool} {g1 g2 : Int → Int → Int} (u v : Int) : false = mvL S S g1 g2 u v := by
  unfold mvL
  cases S (g1 u v) (g2 u v) <;> rfl
theorem mv_end {S L : Int → Int → Bool} {g1 g2 : Int → Int → Int} (h : ∀ x y, L x y = false) (u v : Int) : mvL S L g1 g2 u v = S (g1 u v) (g2 u v) := by
  unfold mvL
  rw [h]
  simp
theorem mv_step {S L : Int → Int → Bool} {g1 g2 : Int → Int → Int} {x y p q : Int} (hS : S x y = true) (hg : ∀ u v, (u = p ∧ v = q) ↔ (g1 u v = x ∧ g2 u v = y)) (u v : Int) : aS (mvL S L g1 g2) p q u v = mvL S (rS L x y) g1 g2 u v := by
  unfold aS mvL rS
  by_cases e : u = p ∧ v = q
  · obtain ⟨a, b⟩ := (hg u v).1 e
    obtain ⟨rfl, rfl⟩ := e
    rw [a, b, hS]
    simp
  · rw [pick_at e, pick_at (fun e2 => e ((hg u v).2 e2))]
    simp
/-- A function value that moves the dots of S by f, in worlds that have grown from w. -/
structure Mv (F K : Nat) (S : Int → Int → Bool) (f1 f2 g1 g2 : Int → Int → Int) (w : World) : Prop where
  cf : ∀ (args : Array Value) (W : World), (callFunc F args).run Tryd.prog W = .ok (.enter F args) W
  mv : ∀ x y W, S x y = true → w.grownBy W none → Calls Tryd.prog F #[.agg #[.int .i64 x, .int .i64 y], .pointer (some ⟨K, 0, none⟩)] W fun e w' => e = .returned (.agg #[.int .i64 (f1 x y), .int .i64 (f2 x y)]) ∧ Below W.heap.size W w'
  inv : ∀ x y, S x y = true → ∀ u v, (u = f1 x y ∧ v = f2 x y) ↔ (g1 u v = x ∧ g2 u v = y)
  bd : ∀ x y, S x y = true → 0 ≤ f1 x y ∧ f1 x y < 100 ∧ 0 ≤ f2 x y ∧ f2 x y < 100
set_option maxRecDepth 4000 in
set_option maxHeartbeats 1600000 in
theorem moved_any (b F K : Nat) (S : Int → Int → Bool) (f1 f2 g1 g2 : Int → Int → Int) (w : World) (h : Ds w b S) (hm : Mv F K S f1 f2 g1 g2 w) :
    Calls Tryd.prog 47 #[.map (some b), .func (.func F) #[] #[.pointer (some ⟨K, 0, none⟩)]] w fun e w' => (∃ c, e = .returned (.map (some c)) ∧ w.heap.size ≤ c ∧ Ds w' c (fun u v => S (g1 u v) (g2 u v))) ∧ Below w.heap.size w w' := by
  have hmm := @run_makeMap Tryd.prog
  have hbl := h.lt
  have HBD := Lib.hid h.bd
  have HM := Lib.hid hm
  have hcf := hm.cf
  have HH := Lib.hid h
  clear h hm
  go_enter Tryd.func47, Tryd.ntmps47
  go_wp2_with (at_range; refine dots_range vkey _ rfl _ 40 84 rfl Tryd.underlying40 b S rfl (HH.out.alloc _) ?_; intro w0 hr0 hg0 hs0)
  go_frame
  have er : (w.alloc (.map #[] 0)).heap.size = w.heap.size + 1 := by simp
  rw [er] at hr0 hs0
  simp only [er]
  have HR0 := Lib.hid hr0
  have HD0 := Lib.hid (((Dots.made (P := Tryd.prog) (k := 68) w).kept hg0 (by simp)).congr (mv_start (S := S) (g1 := g1) (g2 := g2)))
  have HB0 := Lib.hid (((Below.refl w.heap.size w).alloc (Nat.le_refl _) (.map #[] 0)).grown hg0 (by simp) (by simp))
  clear hr0 hg0 hs0 er HH
  go_loopw [6] (fun _ wr => ∃ L, Hid (Rs wr b (w.heap.size + 1) S L) ∧ Hid (Ds wr w.heap.size (mvL S L g1 g2)) ∧ Hid (Below w.heap.size w wr)) (fun _ wr => wr.rangeLeft b (w.heap.size + 1))
  case atStart => exact ⟨S, HR0, HD0, HB0⟩
  case round =>
    obtain ⟨L, HR, HD, HB⟩ := hrel
    go_wp2_with (at_next; refine dots_next vkey _ rfl _ rfl b (w.heap.size + 1) S L rfl HR.out ?_ ?_)
    · intro h0
      have HE := Lib.hid (HD.out.congr (mv_end h0))
      clear h0
      go_wp2
      go_ret
      exact ⟨⟨_, rfl, Nat.le_refl _, HE.out⟩, HB.out⟩
    · intro x y w2 hL hr2 hlt hg2 hs2 hen
      have hS := HR.out.sub hL
      have HR2 := Lib.hid hr2
      have HD2 := Lib.hid (HD.out.kept hg2 (by simp))
      have HB2 := Lib.hid (HB.out.grown hg2 HB.out.size (by intro j hj; cases hj; omega))
      have HLT := Lib.hid hlt
      have HSS := Lib.hid hS
      have hbx := HBD.out x y hS
      have HIN := Lib.hid fun u v => mv_step (L := L) hS (HM.out.inv x y hS) u v
      have hbf := HM.out.bd x y hS
      clear hr2 hlt hL hS hg2 hs2
      have hz2 : w.heap.size + 1 < w2.heap.size := HR2.out.lt
      have HMV := Lib.hid (HM.out.mv x y _ HSS.out (grown_of_below (HB2.out.alloc HB2.out.size (.cells #[.int .i64 x, .int .i64 y] 68)) (Nat.le_refl _)))
      generalize f1 x y = p at *
      generalize f2 x y = q at *
      go_wp2_with (first
        | (refine (HMV.out).mono ?_; rintro e w3 ⟨rfl, hb3⟩; have HG3 := Lib.hid ((World.grownBy_alloc w2 (.cells #[.int .i64 x, .int .i64 y] 68) none).andThen (grown_of_below hb3 (Nat.le_refl _)) (by simp)); have HD3 := Lib.hid (HD2.out.kept HG3.out (by simp)); clear hb3)
        | (go_at_call 70; refine (add_any _ _ _ _ _ HD3.out hbf).mono ?_; rintro e w6 ⟨rfl, hd6, hg6⟩))
      have HD6 := Lib.hid (hd6.congr HIN.out)
      have HR6 := Lib.hid ((HR2.out.kept HG3.out (by simp) (by simp)).kept hg6 (by simp; omega) (by simp))
      have HL6 := Lib.hid ((HR2.out.kept HG3.out (by simp) (by simp)).left hg6 (by simp; omega) (by simp))
      have HL3 := Lib.hid (HR2.out.left HG3.out (by simp) (by simp))
      have HB6 := Lib.hid ((HB2.out.grown HG3.out HB2.out.size (by simp)).grown hg6 (HB2.out.grown HG3.out HB2.out.size (by simp)).size (by intro j hj; cases hj; exact Nat.le_refl _))
      clear hd6 hg6
      go_wp2
      go_roundw
      case rel => exact ⟨_, HR6, HD6, HB6⟩
      case measure => rw [HL6.out, HL3.out]; exact HLT.out
end Go.Proofs.YtmcdmacpgjkelaaDoor
