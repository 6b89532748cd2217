/- The texts XDuZ XDvA XDvC XDvD XDuF XDuH joined. -/
import Derived.Test.YtbcgidgjdedkiaaDoorMtJ
import Derived.ScopeJumps
import Derived.WalkMore
/- Chapter 7: the program's pictures joined. -/
namespace Go.Proofs.YtbcgidgjdedkiaaDoor
open Go.ChangeShapes Go.WideShapes Go.ChangeAt Go.RowKit Go.Maps

theorem cf_joined1 : ∀ (args : Array Value) (V : World), (callFunc 82 args).run Tryd.prog V = .ok (.enter 82 args) V := fun _ _ => by kernel_rfl
set_option maxRecDepth 8000 in
theorem joined1_any (x y u v : Int) (K : Nat) (w : World) (c0 : w.cell? ⟨K, 0, none⟩ = some (.int .i64 u)) (c1 : w.cell? ⟨K, 1, none⟩ = some (.int .i64 v)) (h : Sml x y u v) :
    Calls Tryd.prog 82 #[.agg #[.int .i64 x, .int .i64 y], .pointer (some ⟨K, 0, none⟩)] w fun e w' => e = .returned (.agg #[.int .i64 (x + u), .int .i64 (y + v)]) ∧ Below w.heap.size w w' := by
  have HL := Lib.hid fun W => led_any x y u v W h
  have c0a := fun o p => cell_old (cell_old c0 o) p
  have c1a := fun o p => cell_old (cell_old c1 o) p
  obtain ⟨V, hV⟩ : ∃ V, V = (w.alloc (.cells #[.int .i64 x, .int .i64 y] 58)).alloc (.cells #[.int .i64 0, .int .i64 0] 58) := ⟨_, rfl⟩
  have k1 : V.heap[w.heap.size + 1]? = some (.cells #[.int .i64 0, .int .i64 0] 58) := by
    have h := (MapKept.heap_alloc (w.alloc (.cells #[.int .i64 x, .int .i64 y] 58)) (.cells #[.int .i64 0, .int .i64 0] 58)).1
    rw [show (w.alloc (.cells #[.int .i64 x, .int .i64 y] 58)).heap.size = w.heap.size + 1 by simp] at h
    rw [hV]
    exact h
  have hgV : w.grownBy V none := by rw [hV]; exact (World.grownBy_alloc w _ none).andThen (World.grownBy_alloc _ _ none) (by simp)
  go_enter Tryd.func82, Tryd.ntmps82
  go_wp2_with fail
  rw [← hV]
  clear hV
  refine (HL.out _).mono ?_
  rintro e w1 ⟨rfl, hb1⟩
  have hg1 := grown_of_below hb1 (Nat.le_refl _)
  have i1 := grown_heap k1 hg1 (by simp)
  have s0 := Lib.cell_of_heap i1 0
  have s1 := Lib.cell_of_heap i1 1
  have f0 := Lib.frozen_of_heap i1 0
  have f1 := Lib.frozen_of_heap i1 1
  have HG := Lib.hid (hgV.andThen hg1 (by simp))
  clear hb1 hg1 hgV k1
  go_wp2
  have q0 : ((w1.setCell ⟨w.heap.size + 1, 0, none⟩ (.int .i64 (x + u))).setCell ⟨w.heap.size + 1, 1, none⟩ (.int .i64 (y + v))).cell? ⟨w.heap.size + 1, 0, none⟩ = some (.int .i64 (x + u)) := put_farD (World.cell?_setCell_same w1 _ _ s0) (by omega)
  have q1 : ((w1.setCell ⟨w.heap.size + 1, 0, none⟩ (.int .i64 (x + u))).setCell ⟨w.heap.size + 1, 1, none⟩ (.int .i64 (y + v))).cell? ⟨w.heap.size + 1, 1, none⟩ = some (.int .i64 (y + v)) := World.cell?_setCell_same _ _ _ (put_farD s1 (by omega))
  have hB : Below w.heap.size w ((w1.setCell ⟨w.heap.size + 1, 0, none⟩ (.int .i64 (x + u))).setCell ⟨w.heap.size + 1, 1, none⟩ (.int .i64 (y + v))) := (((Below.refl w.heap.size w).grown HG.out (Nat.le_refl _) (by simp)).setCell (p := ⟨w.heap.size + 1, 0, none⟩) (by simp) _).setCell (p := ⟨w.heap.size + 1, 1, none⟩) (by simp) _
  exact bodyPost_ret (v := .agg #[.int .i64 (x + u), .int .i64 (y + v)]) (by simp [results, Tryd.results82, go_sem, q0, q1]) rfl ⟨rfl, hB⟩
set_option maxRecDepth 8000 in
set_option maxHeartbeats 3200000 in
theorem joined_any (W H V G u v : Nat) (X Y : Nat) (b d : Nat) (S T : Int → Int → Bool) (w : World) (hS : Ds w b S) (hT : Ds w d T) (hX : max W (u + V) = X) (hY : max H (v + G) = Y)
    (hb : ∀ x y, T x y = true → 0 ≤ x ∧ x + u < 100 ∧ 0 ≤ y ∧ y + v < 100) (b1 : W ≤ 50) (b2 : H ≤ 50) (b3 : V ≤ 50) (b4 : G ≤ 50) (b5 : u ≤ 50) (b6 : v ≤ 50) :
    Calls Tryd.prog 57 #[.agg #[.int .i64 (W : Int), .int .i64 (H : Int), .map (some b)], .agg #[.int .i64 (V : Int), .int .i64 (G : Int), .map (some d)], .agg #[.int .i64 (u : Int), .int .i64 (v : Int)]] w fun e w' => (∃ c, e = .returned (.agg #[.int .i64 (X : Int), .int .i64 (Y : Int), .map (some c)]) ∧ Ds w' c (uS (fun x y => T (x - u) (y - v)) S)) ∧ Below w.heap.size w w' := by
  have hbl := hS.lt
  have hdl := hT.lt
  obtain ⟨B, hB⟩ : ∃ B, B = (((w.alloc (.cells #[.int .i64 (W : Int), .int .i64 (H : Int), .map (some b)] 44)).alloc (.cells #[.int .i64 (V : Int), .int .i64 (G : Int), .map (some d)] 44)).alloc (.cells #[.int .i64 (u : Int), .int .i64 (v : Int)] 58)).alloc (.cells #[.int .i64 0, .int .i64 0, .map none] 44) := ⟨_, rfl⟩
  have k0 : B.heap[w.heap.size]? = some (.cells #[.int .i64 (W : Int), .int .i64 (H : Int), .map (some b)] 44) := by
    rw [hB, (MapKept.heap_alloc _ _).2 _ (by simp; omega), (MapKept.heap_alloc _ _).2 _ (by simp; omega), (MapKept.heap_alloc _ _).2 _ (by simp)]
    exact (MapKept.heap_alloc _ _).1
  have k1 : B.heap[w.heap.size + 1]? = some (.cells #[.int .i64 (V : Int), .int .i64 (G : Int), .map (some d)] 44) := by
    have h := (MapKept.heap_alloc (w.alloc (.cells #[.int .i64 (W : Int), .int .i64 (H : Int), .map (some b)] 44)) (.cells #[.int .i64 (V : Int), .int .i64 (G : Int), .map (some d)] 44)).1
    rw [show (w.alloc (.cells #[.int .i64 (W : Int), .int .i64 (H : Int), .map (some b)] 44)).heap.size = w.heap.size + 1 by simp] at h
    rw [hB, (MapKept.heap_alloc _ _).2 _ (by simp), (MapKept.heap_alloc _ _).2 _ (by simp)]
    exact h
  have k2 : B.heap[w.heap.size + 2]? = some (.cells #[.int .i64 (u : Int), .int .i64 (v : Int)] 58) := by
    have h := (MapKept.heap_alloc ((w.alloc (.cells #[.int .i64 (W : Int), .int .i64 (H : Int), .map (some b)] 44)).alloc (.cells #[.int .i64 (V : Int), .int .i64 (G : Int), .map (some d)] 44)) (.cells #[.int .i64 (u : Int), .int .i64 (v : Int)] 58)).1
    rw [show ((w.alloc (.cells #[.int .i64 (W : Int), .int .i64 (H : Int), .map (some b)] 44)).alloc (.cells #[.int .i64 (V : Int), .int .i64 (G : Int), .map (some d)] 44)).heap.size = w.heap.size + 2 by simp] at h
    rw [hB, (MapKept.heap_alloc _ _).2 _ (by simp)]
    exact h
  have k3 : B.heap[w.heap.size + 3]? = some (.cells #[.int .i64 0, .int .i64 0, .map none] 44) := by
    have h := (MapKept.heap_alloc (((w.alloc (.cells #[.int .i64 (W : Int), .int .i64 (H : Int), .map (some b)] 44)).alloc (.cells #[.int .i64 (V : Int), .int .i64 (G : Int), .map (some d)] 44)).alloc (.cells #[.int .i64 (u : Int), .int .i64 (v : Int)] 58)) (.cells #[.int .i64 0, .int .i64 0, .map none] 44)).1
    rw [show (((w.alloc (.cells #[.int .i64 (W : Int), .int .i64 (H : Int), .map (some b)] 44)).alloc (.cells #[.int .i64 (V : Int), .int .i64 (G : Int), .map (some d)] 44)).alloc (.cells #[.int .i64 (u : Int), .int .i64 (v : Int)] 58)).heap.size = w.heap.size + 3 by simp] at h
    rw [hB]
    exact h
  have hgB : w.grownBy B none := by rw [hB]; exact (((World.grownBy_alloc w _ none).andThen (World.grownBy_alloc _ _ none) (by simp)).andThen (World.grownBy_alloc _ _ none) (by simp)).andThen (World.grownBy_alloc _ _ none) (by simp)
  have hzB : B.heap.size = w.heap.size + 4 := by rw [hB]; simp
  have HS := Lib.hid (hS.kept hgB (by simp))
  have HT := Lib.hid (hT.kept hgB (by simp))
  have HMV : Hid (Mv 82 (w.heap.size + 2) T (fun x _ => x + u) (fun _ y => y + v) (fun x _ => x - u) (fun _ y => y - v) B) := Lib.hid
    { cf := cf_joined1
      mv := fun x y W' hs hg => by
        have hb1 := hb x y hs
        exact joined1_any x y u v (w.heap.size + 2) W' (hg.cell (show B.cell? ⟨w.heap.size + 2, 0, none⟩ = _ from Lib.cell_of_heap k2 0) (by simp)) (hg.cell (show B.cell? ⟨w.heap.size + 2, 1, none⟩ = _ from Lib.cell_of_heap k2 1) (by simp)) ⟨by omega, by omega, by omega, by omega, by omega, by omega, by omega, by omega⟩
      inv := fun x y _ a c => by constructor <;> rintro ⟨rfl, rfl⟩ <;> constructor <;> omega
      bd := fun x y hs => by have hb1 := hb x y hs; omega }
  have q2 : B.cell? ⟨w.heap.size + 1, 2, none⟩ = some (.map (some d)) := Lib.cell_of_heap k1 2
  go_enter Tryd.func57, Tryd.ntmps57
  go_wp2_with fail
  rw [← hB]
  clear hB hS hT
  refine (moved_any _ _ _ _ _ _ _ _ _ HT.out HMV.out).mono ?_
  rintro e w1 ⟨⟨c, rfl, hc, hd1⟩, hb1⟩
  have hg1 := grown_of_below hb1 (Nat.le_refl _)
  have i0 := grown_heap k0 hg1 (by simp)
  have i1 := grown_heap k1 hg1 (by simp)
  have i2 := grown_heap k2 hg1 (by simp)
  have i3 := grown_heap k3 hg1 (by simp)
  have HC1 := Lib.hid hd1
  have HS1 := Lib.hid (HS.out.kept hg1 (by simp))
  have HG1 := Lib.hid (hgB.andThen hg1 (by simp))
  have p2 : w1.cell? ⟨w.heap.size, 2, none⟩ = some (.map (some b)) := Lib.cell_of_heap i0 2
  have hc4 : w.heap.size + 4 ≤ c := by omega
  clear hd1 hb1 hg1 hgB k0 k1 k2 k3 q2 HS HT HMV hb hc hzB
  have eX : IntKind.i64.wrap ((u : Int) + V) = ((u + V : Nat) : Int) := by rw [IntWalk.i64_in _ (by omega)]; omega
  have eY : IntKind.i64.wrap ((v : Int) + G) = ((v + G : Nat) : Int) := by rw [IntWalk.i64_in _ (by omega)]; omega
  go_wp2_with (go_at_call 84; refine (copy_any _ _ _ _ _ HC1.out HS1.out (by omega)).mono ?_; rintro e w2 ⟨rfl, hd2, hg2⟩; have HC2 := Lib.hid hd2; have j0 := grown_heap i0 hg2 (by simp; omega); have j1 := grown_heap i1 hg2 (by simp; omega); have j2 := grown_heap i2 hg2 (by simp; omega); have j3 := grown_heap i3 hg2 (by simp; omega); have HG2 := Lib.hid (HG1.out.andThen hg2 (by intro j hj; cases hj; exact Or.inl (by omega))); have a0 := Lib.cell_of_heap j0 0; have a1 := Lib.cell_of_heap j0 1; have a2 := Lib.cell_of_heap j1 0; have a3 := Lib.cell_of_heap j1 1; have a4 := Lib.cell_of_heap j2 0; have a5 := Lib.cell_of_heap j2 1; have s0 := Lib.cell_of_heap j3 0; have s1 := Lib.cell_of_heap j3 1; have s2 := Lib.cell_of_heap j3 2; have f0 := Lib.frozen_of_heap j3 0; have f1 := Lib.frozen_of_heap j3 1; have f2 := Lib.frozen_of_heap j3 2; clear hd2 hg2)
  obtain ⟨e0, e1, e2⟩ := put3D (R := w.heap.size + 1 + 1 + 1) s0 s1 s2 (.int .i64 (max (W : Int) ((u : Int) + V))) (.int .i64 (max (H : Int) ((v : Int) + G))) (.map (some c))
  have hgE := grown_set3 w2 (w.heap.size + 1 + 1 + 1) (.int .i64 (max (W : Int) ((u : Int) + V))) (.int .i64 (max (H : Int) ((v : Int) + G))) (.map (some c))
  have HDE := Lib.hid (HC2.out.kept hgE (by simp; omega))
  have HBE := Lib.hid ((Below.refl w.heap.size w).grown (HG2.out.andThen hgE (by intro j hj; cases hj; exact Or.inl (by omega))) (Nat.le_refl _) (by simp))
  have mX : max (W : Int) ((u : Int) + V) = (X : Int) := by omega
  have mY : max (H : Int) ((v : Int) + G) = (Y : Int) := by omega
  refine bodyPost_ret (v := .agg #[.int .i64 (max (W : Int) ((u : Int) + V)), .int .i64 (max (H : Int) ((v : Int) + G)), .map (some c)]) (by simp [results, Tryd.results57, go_sem, e0, e1, e2]) rfl ⟨⟨c, ?_, HDE.out⟩, HBE.out⟩
  rw [mX, mY]
end Go.Proofs.YtbcgidgjdedkiaaDoor
/- Chapter 7: two pictures read, texts within limits, by the program. -/
namespace Go.Proofs.YtbcgidgjdedkiaaDoor
open Go.ChangeShapes Go.WideShapes Go.ChangeAt Go.RowKit Go.Maps

/-- What one reading gives, whether it succeeds or not. -/
def RdQ (l : List UInt8) (w' : World) (a b : Int) (m : Option Nat) : Prop :=
  isPic l = true → a = (pW l : Int) ∧ b = (pH l : Int) ∧ ∃ c, m = some c ∧ Ds w' c (gS (pW l) (pH l) (pD l))
theorem RdQ.kept {l : List UInt8} {w w' : World} {a b : Int} {m : Option Nat} (h : RdQ l w a b m) (hg : w.grownBy w' none) : RdQ l w' a b m := fun hp => by
  obtain ⟨h1, h2, c, h3, h4⟩ := h hp
  exact ⟨h1, h2, c, h3, h4.kept hg (by simp)⟩
theorem RdQ.kept1 {l : List UInt8} {w w' : World} {a b : Int} {m : Option Nat} {R : Nat} (h : RdQ l w a b m) (hg : w.grownBy w' (some R)) (hR : ∀ c S, Ds w c S → R ≠ c) : RdQ l w' a b m := fun hp => by
  obtain ⟨h1, h2, c, h3, h4⟩ := h hp
  exact ⟨h1, h2, c, h3, h4.kept hg (fun e => hR c _ h4 (Option.some.inj e).symm)⟩
theorem readPicture_q (s : ByteArray) (w : World) (hs : s.size ≤ 2000000) (hM : MaxL w) :
    Calls Tryd.prog 46 #[.string s] w fun e w' => (∃ a b m, e = .returned (.tuple #[.agg #[.int .i64 a, .int .i64 b, .map m], .bool (isPic s.data.toList)]) ∧ RdQ s.data.toList w' a b m) ∧ Below w.heap.size w w' :=
  (readPicture_any s w hs hM).mono fun e w' h => by
    obtain ⟨h1 | h1, hb⟩ := h
    · obtain ⟨hp, c, he, _, hd⟩ := h1
      rw [hp]
      exact ⟨⟨_, _, _, he, fun _ => ⟨rfl, rfl, c, rfl, hd⟩⟩, hb⟩
    · obtain ⟨hp, he⟩ := h1
      rw [hp]
      exact ⟨⟨_, _, _, he, fun h => by rw [hp] at h; cases h⟩, hb⟩
/-- A block of cells holds no dots. -/
theorem cells_ne {w : World} {R : Nat} {cs : Array Value} {t : TypeId} {fr : Nat × Nat} (h : w.heap[R]? = some (.cells cs t fr)) : ∀ c S, Ds w c S → R ≠ c := by
  rintro c S ⟨D, ⟨es, clock, hh, _⟩, _⟩ rfl
  rw [h] at hh
  cases hh
set_option maxRecDepth 8000 in
set_option maxHeartbeats 3200000 in
theorem readPictures_any (s t : ByteArray) (w : World) (hs : s.size ≤ 2000000) (ht : t.size ≤ 2000000) (hM : MaxL w) :
    Calls Tryd.prog 55 #[.string s, .string t] w fun e w' => (∃ a b m a' b' m', e = .returned (.tuple #[.agg #[.int .i64 a, .int .i64 b, .map m], .agg #[.int .i64 a', .int .i64 b', .map m'], .bool (isPic s.data.toList && isPic t.data.toList)]) ∧ RdQ s.data.toList w' a b m ∧ RdQ t.data.toList w' a' b' m') ∧ Below w.heap.size w w' := by
  have HR := Lib.hid fun V (h : MaxL V) => readPicture_q s V hs h
  have HT := Lib.hid fun V (h : MaxL V) => readPicture_q t V ht h
  obtain ⟨B, hB⟩ : ∃ B, B = (w.alloc (.cells #[.int .i64 0, .int .i64 0, .map none] 44)).alloc (.cells #[.int .i64 0, .int .i64 0, .map none] 44) := ⟨_, rfl⟩
  have k0 : B.heap[w.heap.size]? = some (.cells #[.int .i64 0, .int .i64 0, .map none] 44) := by
    rw [hB, (MapKept.heap_alloc _ _).2 _ (by simp)]
    exact (MapKept.heap_alloc _ _).1
  have k1 : B.heap[w.heap.size + 1]? = some (.cells #[.int .i64 0, .int .i64 0, .map none] 44) := by
    have h := (MapKept.heap_alloc (w.alloc (.cells #[.int .i64 0, .int .i64 0, .map none] 44)) (.cells #[.int .i64 0, .int .i64 0, .map none] 44)).1
    rw [show (w.alloc (.cells #[.int .i64 0, .int .i64 0, .map none] 44)).heap.size = w.heap.size + 1 by simp] at h
    rw [hB]
    exact h
  have hgB : w.grownBy B none := by rw [hB]; exact (World.grownBy_alloc w _ none).andThen (World.grownBy_alloc _ _ none) (by simp)
  have hzB : B.heap.size = w.heap.size + 2 := by rw [hB]; simp
  have HM := Lib.hid (hM.below ((Below.refl w.heap.size w).grown hgB (Nat.le_refl _) (by simp)))
  generalize s.data.toList = l at *
  generalize t.data.toList = r at *
  go_enter Tryd.func55, Tryd.ntmps55
  go_wp2_with fail
  rw [← hB]
  clear hB hM
  refine (HR.out _ HM.out).mono ?_
  rintro e w1 ⟨⟨a, b, m, rfl, hq1⟩, hb1⟩
  have hg1 := (grown_of_below hb1 (Nat.le_refl _)).andThen (World.grownBy_alloc w1 (.cells #[.int .i64 a, .int .i64 b, .map m] 44) none) (by simp)
  have HM1 := Lib.hid ((HM.out.below hb1).below ((Below.refl _ _).alloc (Nat.le_refl _) (.cells #[.int .i64 a, .int .i64 b, .map m] 44)))
  have HQ1 := Lib.hid (hq1.kept (World.grownBy_alloc w1 (.cells #[.int .i64 a, .int .i64 b, .map m] 44) none))
  have i0 := grown_heap k0 hg1 (by simp)
  have i1 := grown_heap k1 hg1 (by simp)
  have i2 := (MapKept.heap_alloc w1 (.cells #[.int .i64 a, .int .i64 b, .map m] 44)).1
  have HG1 := Lib.hid (hgB.andThen hg1 (by simp))
  have hz1 : w.heap.size + 2 ≤ w1.heap.size := by have := hb1.size; omega
  clear hq1 hb1 hg1 hgB k0 k1 hzB HM
  go_wp2_with (go_at_call 46; refine (HT.out _ HM1.out).mono ?_; rintro e w2 ⟨⟨a', b', m', rfl, hq2⟩, hb2⟩)
  have hg2 := (grown_of_below hb2 (Nat.le_refl _)).andThen (World.grownBy_alloc w2 (.cells #[.int .i64 a', .int .i64 b', .map m'] 44) none) (by simp)
  have HQ2 := Lib.hid (hq2.kept (World.grownBy_alloc w2 (.cells #[.int .i64 a', .int .i64 b', .map m'] 44) none))
  have HQ3 := Lib.hid (HQ1.out.kept hg2)
  have j0 := grown_heap i0 hg2 (by simp)
  have j1 := grown_heap i1 hg2 (by simp)
  have j2 := grown_heap i2 hg2 (by simp)
  have j3 := (MapKept.heap_alloc w2 (.cells #[.int .i64 a', .int .i64 b', .map m'] 44)).1
  have HG2 := Lib.hid (HG1.out.andThen hg2 (by simp))
  have hz2 : w1.heap.size + 1 ≤ w2.heap.size := by have := hb2.size; simp at this; omega
  clear hq2 hb2 hg2 i0 i1 i2 HQ1 HG1 HM1
  generalize w2.alloc (.cells #[.int .i64 a', .int .i64 b', .map m'] 44) = V at *
  have a0 := Lib.cell_of_heap j2 0
  have a1 := Lib.cell_of_heap j2 1
  have a2 := Lib.cell_of_heap j2 2
  have b0 := Lib.cell_of_heap j3 0
  have b1 := Lib.cell_of_heap j3 1
  have b2 := Lib.cell_of_heap j3 2
  have s0 := Lib.cell_of_heap j0 0
  have s1 := Lib.cell_of_heap j0 1
  have s2 := Lib.cell_of_heap j0 2
  have f0 := Lib.frozen_of_heap j0 0
  have f1 := Lib.frozen_of_heap j0 1
  have f2 := Lib.frozen_of_heap j0 2
  have t0 := Lib.cell_of_heap j1 0
  have t1 := Lib.cell_of_heap j1 1
  have t2 := Lib.cell_of_heap j1 2
  have g0 := Lib.frozen_of_heap j1 0
  have g1 := Lib.frozen_of_heap j1 1
  have g2 := Lib.frozen_of_heap j1 2
  cases hp : isPic l
  all_goals
    go_region
    have h1 := grown_set3 V w.heap.size (.int .i64 a) (.int .i64 b) (.map m)
    obtain ⟨e0, e1, e2⟩ := put3D s0 s1 s2 (.int .i64 a) (.int .i64 b) (.map m)
    obtain ⟨q0, q1, q2⟩ := put3D (h1.cell t0 (by simp)) (h1.cell t1 (by simp)) (h1.cell t2 (by simp)) (.int .i64 a') (.int .i64 b') (.map m')
    have h2 := grown_set3 (((V.setCell ⟨w.heap.size, 0, none⟩ (.int .i64 a)).setCell ⟨w.heap.size, 1, none⟩ (.int .i64 b)).setCell ⟨w.heap.size, 2, none⟩ (.map m)) (w.heap.size + 1) (.int .i64 a') (.int .i64 b') (.map m')
    have p0 := h2.cell e0 (by simp)
    have p1 := h2.cell e1 (by simp)
    have p2 := h2.cell e2 (by simp)
    have c0 := cells_ne j0
    have c1 := cells_ne (grown_heap j1 h1 (by simp))
    have r1 := (HQ3.out.kept1 h1 c0).kept1 h2 c1
    have r2 := (HQ2.out.kept1 h1 c0).kept1 h2 c1
    have hB := (Below.refl w.heap.size w).grown ((HG2.out.andThen h1 (by intro j hj; cases hj; exact Or.inl (Nat.le_refl _))).andThen h2 (by intro j hj; cases hj; exact Or.inl (Nat.le_succ _))) (Nat.le_refl _) (by simp)
    clear h1 h2 e0 e1 e2 c0 c1
    generalize (((((V.setCell ⟨w.heap.size, 0, none⟩ (.int .i64 a)).setCell ⟨w.heap.size, 1, none⟩ (.int .i64 b)).setCell ⟨w.heap.size, 2, none⟩ (.map m)).setCell ⟨w.heap.size + 1, 0, none⟩ (.int .i64 a')).setCell ⟨w.heap.size + 1, 1, none⟩ (.int .i64 b')).setCell ⟨w.heap.size + 1, 2, none⟩ (.map m') = wE at *
    go_wp2
  · exact bodyPost_ret (v := .tuple #[.agg #[.int .i64 a, .int .i64 b, .map m], .agg #[.int .i64 a', .int .i64 b', .map m'], .bool false]) (by simp [results, Tryd.results55, go_sem, p0, p1, p2, q0, q1, q2]) rfl ⟨⟨a, b, m, a', b', m', by simp [hp], r1, r2⟩, hB.drew⟩
  · exact bodyPost_ret (v := .tuple #[.agg #[.int .i64 a, .int .i64 b, .map m], .agg #[.int .i64 a', .int .i64 b', .map m'], .bool (isPic r)]) (by simp [results, Tryd.results55, go_sem, p0, p1, p2, q0, q1, q2]) rfl ⟨⟨a, b, m, a', b', m', by simp [hp], r1, r2⟩, hB.drew⟩
set_option maxRecDepth 8000 in
theorem tlim_no (W H : Int) (b : Nat) (w : World) (h : limB W H = false) :
    Calls Tryd.prog 56 #[.agg #[.int .i64 W, .int .i64 H, .map (some b)]] w fun e w' => e = .returned (.tuple #[.string ⟨#[]⟩, .bool false]) ∧ Below w.heap.size w w' := by
  have HL := Lib.hid fun V => limits_any W H b V
  rw [h] at HL
  clear h
  have HB := Lib.hid (show Below w.heap.size w (w.alloc (.cells #[.int .i64 W, .int .i64 H, .map (some b)] 44)) from (Below.refl _ _).alloc (Nat.le_refl _) _)
  go_enter Tryd.func56, Tryd.ntmps56
  go_wp2_with (go_at_call 77; refine (HL.out _).mono ?_; rintro e w1 ⟨rfl, hb1⟩)
  go_ret2
  exact ⟨rfl, HB.out.trans (hb1.mono HB.out.size)⟩
set_option maxRecDepth 8000 in
theorem tlim_yes (W H b : Nat) (S : Int → Int → Bool) (w : World) (hd : Ds w b S) (w0 : 1 ≤ W) (w1 : W ≤ 24) (h0 : 1 ≤ H) (h1 : H ≤ 24) :
    Calls Tryd.prog 56 #[.agg #[.int .i64 (W : Int), .int .i64 (H : Int), .map (some b)]] w fun e w' => e = .returned (.tuple #[.string (bt (sT W H S)), .bool true]) ∧ Below w.heap.size w w' := by
  have HL := Lib.hid fun V => limits_any (W : Int) (H : Int) b V
  have hlb : limB (W : Int) (H : Int) = true := by
    unfold limB
    rw [betr_yes (by omega) (by omega), betr_yes (by omega) (by omega)]
    rfl
  rw [hlb] at HL
  clear hlb
  have HT := Lib.hid fun V (hd : Ds V b S) => text_any W H (W * H) b S V hd rfl w0 (by omega) (by omega)
  generalize sT W H S = t at *
  have HB := Lib.hid (show Below w.heap.size w (w.alloc (.cells #[.int .i64 (W : Int), .int .i64 (H : Int), .map (some b)] 44)) from (Below.refl _ _).alloc (Nat.le_refl _) _)
  have HD := Lib.hid (hd.alloc (.cells #[.int .i64 (W : Int), .int .i64 (H : Int), .map (some b)] 44))
  have k0 := (MapKept.heap_alloc w (.cells #[.int .i64 (W : Int), .int .i64 (H : Int), .map (some b)] 44)).1
  clear hd
  go_enter Tryd.func56, Tryd.ntmps56
  go_wp2_with (first
    | (go_at_call 77; refine (HL.out _).mono ?_; rintro e w2 ⟨rfl, hb2⟩; have HD2 := Lib.hid (HD.out.below hb2); have HB2 := Lib.hid (HB.out.trans (hb2.mono HB.out.size)); have i0 := grown_heap k0 (grown_of_below hb2 (Nat.le_refl _)) (by simp); have a0 := Lib.cell_of_heap i0 0; have a1 := Lib.cell_of_heap i0 1; have a2 := Lib.cell_of_heap i0 2)
    | (go_at_call 66; refine (HT.out _ HD2.out).mono ?_; rintro e w5 ⟨rfl, hb5⟩))
  go_ret2
  exact ⟨rfl, HB2.out.trans (hb5.mono HB2.out.size)⟩
end Go.Proofs.YtbcgidgjdedkiaaDoor
/- Chapter 7: BesidePicture and BelowPicture, by the program. -/
namespace Go.Proofs.YtbcgidgjdedkiaaDoor
open Go.ChangeShapes Go.WideShapes Go.ChangeAt Go.RowKit Go.Maps

set_option maxRecDepth 8000 in
theorem impl_BesidePicture_no (s t : ByteArray) (w : World) (hs : s.size ≤ 2000000) (ht : t.size ≤ 2000000) (hM : MaxL w) (h : isPic s.data.toList = false ∨ isPic t.data.toList = false) :
    Calls Tryd.prog 26 #[.string s, .string t] w fun e w' => e = .returned (.tuple #[.string ⟨#[]⟩, .bool false]) ∧ Below w.heap.size w w' := by
  have HR := Lib.hid (readPictures_any s t w hs ht hM)
  have hb : (isPic s.data.toList && isPic t.data.toList) = false := by rcases h with h | h <;> simp [h]
  rw [hb] at HR
  clear hb h hM
  go_enter Tryd.func26, Tryd.ntmps26
  go_wp2_with (go_at_call 55; refine (HR.out).mono ?_; rintro e w1 ⟨⟨a, b, m, a', b', m', rfl, _, _⟩, hb1⟩)
  go_ret2
  exact ⟨rfl, (hb1.alloc hb1.size _).alloc (by have := hb1.size; simp; omega) _⟩
set_option maxRecDepth 8000 in
theorem impl_BelowPicture_no (s t : ByteArray) (w : World) (hs : s.size ≤ 2000000) (ht : t.size ≤ 2000000) (hM : MaxL w) (h : isPic s.data.toList = false ∨ isPic t.data.toList = false) :
    Calls Tryd.prog 28 #[.string s, .string t] w fun e w' => e = .returned (.tuple #[.string ⟨#[]⟩, .bool false]) ∧ Below w.heap.size w w' := by
  have HR := Lib.hid (readPictures_any s t w hs ht hM)
  have hb : (isPic s.data.toList && isPic t.data.toList) = false := by rcases h with h | h <;> simp [h]
  rw [hb] at HR
  clear hb h hM
  go_enter Tryd.func28, Tryd.ntmps28
  go_wp2_with (go_at_call 55; refine (HR.out).mono ?_; rintro e w1 ⟨⟨a, b, m, a', b', m', rfl, _, _⟩, hb1⟩)
  go_ret2
  exact ⟨rfl, (hb1.alloc hb1.size _).alloc (by have := hb1.size; simp; omega) _⟩
set_option maxRecDepth 8000 in
set_option maxHeartbeats 1600000 in
theorem impl_BesidePicture_yes (s t : ByteArray) (w : World) (hs : s.size ≤ 2000000) (ht : t.size ≤ 2000000) (hM : MaxL w) (hp : isPic s.data.toList = true) (hq : isPic t.data.toList = true) (h : pH s.data.toList = pH t.data.toList) :
    Calls Tryd.prog 26 #[.string s, .string t] w fun e w' => e = .returned (if pW s.data.toList + pW t.data.toList ≤ 24 then .tuple #[.string (bt (gText (pW s.data.toList + pW t.data.toList) (pH s.data.toList) (bD (pW s.data.toList) (pW t.data.toList) (pD s.data.toList) (pD t.data.toList)))), .bool true] else .tuple #[.string ⟨#[]⟩, .bool false]) ∧ Below w.heap.size w w' := by
  have HR := Lib.hid (readPictures_any s t w hs ht hM)
  rw [hp, hq] at HR
  have HQ := Lib.hid (show ∀ V a b m, RdQ s.data.toList V a b m → a = (pW s.data.toList : Int) ∧ b = (pH s.data.toList : Int) ∧ ∃ c, m = some c ∧ Ds V c (gS (pW s.data.toList) (pH s.data.toList) (pD s.data.toList)) from fun V a b m h => h hp)
  have HQ2 := Lib.hid (show ∀ V a b m, RdQ t.data.toList V a b m → a = (pW t.data.toList : Int) ∧ b = (pH t.data.toList : Int) ∧ ∃ c, m = some c ∧ Ds V c (gS (pW t.data.toList) (pH t.data.toList) (pD t.data.toList)) from fun V a b m h => h hq)
  have pa := pic_b hp
  have pb := pic_b hq
  obtain ⟨a0, a1, a2, a3⟩ : 1 ≤ pW s.data.toList ∧ pW s.data.toList ≤ 24 ∧ 1 ≤ pH s.data.toList ∧ pH s.data.toList ≤ 24 := ⟨pa.w0, pa.w1, pa.h0, pa.h1⟩
  obtain ⟨b0, b1⟩ : 1 ≤ pW t.data.toList ∧ pW t.data.toList ≤ 24 := ⟨pb.w0, pb.w1⟩
  rw [← sT_beside]
  rw [← h] at HQ2
  have HBT := Lib.hid (gS_bd (pW t.data.toList) (pH s.data.toList) (pD t.data.toList))
  clear hp hq pa pb hM h
  generalize gS (pW t.data.toList) (pH s.data.toList) (pD t.data.toList) = T at *
  generalize gS (pW s.data.toList) (pH s.data.toList) (pD s.data.toList) = S at *
  generalize pW s.data.toList = W at *
  generalize pH s.data.toList = H at *
  generalize pW t.data.toList = V at *
  obtain ⟨r, ok, hr, HT⟩ : ∃ (r : ByteArray) (ok : Bool), (if W + V ≤ 24 then (Value.tuple #[.string (bt (sT (W + V) H (uS (fun x y => T (x - W) y) S))), .bool true]) else .tuple #[.string ⟨#[]⟩, .bool false]) = .tuple #[.string r, .bool ok] ∧ Hid (∀ V1 x, Ds V1 x (uS (fun x y => T (x - W) y) S) → Calls Tryd.prog 56 #[.agg #[.int .i64 ((W : Int) + V), .int .i64 (H : Int), .map (some x)]] V1 fun e w' => e = .returned (.tuple #[.string r, .bool ok]) ∧ Below V1.heap.size V1 w') := by
    by_cases hw : W + V ≤ 24
    · rw [if_pos hw]
      refine ⟨_, _, rfl, Lib.hid fun V1 x h => ?_⟩
      have k := tlim_yes (W + V) H x (uS (fun x y => T (x - W) y) S) V1 h (by omega) hw a2 a3
      rw [show ((W + V : Nat) : Int) = (W : Int) + V from by omega] at k
      exact k
    · rw [if_neg hw]
      exact ⟨_, _, rfl, Lib.hid fun V1 x _ => tlim_no _ _ x V1 (show limB ((W : Int) + V) H = false from by unfold limB; rw [betr_no (by omega)]; rfl)⟩
  rw [hr]
  clear hr
  go_enter Tryd.func26, Tryd.ntmps26
  go_wp2_with (first
    | (go_at_call 55; refine (HR.out).mono ?_; rintro e w1 ⟨⟨a, b, m, a', b', m', rfl, q1, q2⟩, hb1⟩; obtain ⟨rfl, rfl, c, rfl, d1⟩ := HQ.out _ _ _ _ q1; obtain ⟨rfl, rfl, c', rfl, d2⟩ := HQ2.out _ _ _ _ q2; have HJ := Lib.hid (show ∀ V1, Ds V1 c S → Ds V1 c' T → Calls Tryd.prog 57 #[.agg #[.int .i64 (W : Int), .int .i64 (H : Int), .map (some c)], .agg #[.int .i64 (V : Int), .int .i64 (H : Int), .map (some c')], .agg #[.int .i64 (W : Int), .int .i64 0]] V1 fun e w' => (∃ x, e = .returned (.agg #[.int .i64 ((W + V : Nat) : Int), .int .i64 (H : Int), .map (some x)]) ∧ Ds w' x (uS (fun x y => T (x - W) y) S)) ∧ Below V1.heap.size V1 w' from fun V1 x y => by
        have k := joined_any W H V H W 0 (W + V) H c c' S T V1 x y (by omega) (by omega) (fun x y hxy => by have := HBT.out x y hxy; omega) (by omega) (by omega) (by omega) (by omega) (by omega) (by omega)
        simp only [show ((0 : Nat) : Int) = 0 from rfl, Int.sub_zero] at k
        exact k); have D1 := Lib.hid ((d1.alloc (.cells #[.int .i64 (W : Int), .int .i64 (H : Int), .map (some c)] 44)).alloc (.cells #[.int .i64 (V : Int), .int .i64 (H : Int), .map (some c')] 44)); have D2 := Lib.hid ((d2.alloc (.cells #[.int .i64 (W : Int), .int .i64 (H : Int), .map (some c)] 44)).alloc (.cells #[.int .i64 (V : Int), .int .i64 (H : Int), .map (some c')] 44)); have HB1 := Lib.hid ((hb1.alloc hb1.size (.cells #[.int .i64 (W : Int), .int .i64 (H : Int), .map (some c)] 44)).alloc (by have := hb1.size; simp; omega) (.cells #[.int .i64 (V : Int), .int .i64 (H : Int), .map (some c')] 44)); clear q1 q2 d1 d2 hb1 HBT)
    | (go_at_call 57; refine (HJ.out _ D1.out D2.out).mono ?_; rintro e w3 ⟨⟨x, rfl, d3⟩, hb3⟩; have HB3 := Lib.hid (HB1.out.trans (hb3.mono HB1.out.size)); clear hb3))
  refine (HT.out _ x d3).mono ?_
  rintro e w4 ⟨rfl, hb4⟩
  go_wp2
  go_ret2
  exact ⟨rfl, HB3.out.trans (hb4.mono HB3.out.size)⟩
set_option maxRecDepth 8000 in
theorem impl_BesidePicture_apart (s t : ByteArray) (w : World) (hs : s.size ≤ 2000000) (ht : t.size ≤ 2000000) (hM : MaxL w) (hp : isPic s.data.toList = true) (hq : isPic t.data.toList = true) (h : ¬ pH s.data.toList = pH t.data.toList) :
    Calls Tryd.prog 26 #[.string s, .string t] w fun e w' => e = .returned (.tuple #[.string ⟨#[]⟩, .bool false]) ∧ Below w.heap.size w w' := by
  have HR := Lib.hid (readPictures_any s t w hs ht hM)
  rw [hp, hq] at HR
  have HQ := Lib.hid (show ∀ V a b m, RdQ s.data.toList V a b m → a = (pW s.data.toList : Int) ∧ b = (pH s.data.toList : Int) ∧ ∃ c, m = some c ∧ Ds V c (gS (pW s.data.toList) (pH s.data.toList) (pD s.data.toList)) from fun V a b m h => h hp)
  have HQ2 := Lib.hid (show ∀ V a b m, RdQ t.data.toList V a b m → a = (pW t.data.toList : Int) ∧ b = (pH t.data.toList : Int) ∧ ∃ c, m = some c ∧ Ds V c (gS (pW t.data.toList) (pH t.data.toList) (pD t.data.toList)) from fun V a b m h => h hq)
  clear hp hq hM
  have h : ¬ ((pH s.data.toList : Nat) : Int) = ((pH t.data.toList : Nat) : Int) := by omega
  generalize pH s.data.toList = H at *
  generalize pH t.data.toList = G at *
  go_enter Tryd.func26, Tryd.ntmps26
  go_wp2_with (go_at_call 55; refine (HR.out).mono ?_; rintro e w1 ⟨⟨a, b, m, a', b', m', rfl, q1, q2⟩, hb1⟩; obtain ⟨rfl, rfl, c, rfl, _⟩ := HQ.out _ _ _ _ q1; obtain ⟨rfl, rfl, c', rfl, _⟩ := HQ2.out _ _ _ _ q2; clear q1 q2)
  go_ret2
  exact ⟨rfl, (hb1.alloc hb1.size _).alloc (by have := hb1.size; simp; omega) _⟩
set_option maxRecDepth 8000 in
theorem impl_BelowPicture_apart (s t : ByteArray) (w : World) (hs : s.size ≤ 2000000) (ht : t.size ≤ 2000000) (hM : MaxL w) (hp : isPic s.data.toList = true) (hq : isPic t.data.toList = true) (h : ¬ pW s.data.toList = pW t.data.toList) :
    Calls Tryd.prog 28 #[.string s, .string t] w fun e w' => e = .returned (.tuple #[.string ⟨#[]⟩, .bool false]) ∧ Below w.heap.size w w' := by
  have HR := Lib.hid (readPictures_any s t w hs ht hM)
  rw [hp, hq] at HR
  have HQ := Lib.hid (show ∀ V a b m, RdQ s.data.toList V a b m → a = (pW s.data.toList : Int) ∧ b = (pH s.data.toList : Int) ∧ ∃ c, m = some c ∧ Ds V c (gS (pW s.data.toList) (pH s.data.toList) (pD s.data.toList)) from fun V a b m h => h hp)
  have HQ2 := Lib.hid (show ∀ V a b m, RdQ t.data.toList V a b m → a = (pW t.data.toList : Int) ∧ b = (pH t.data.toList : Int) ∧ ∃ c, m = some c ∧ Ds V c (gS (pW t.data.toList) (pH t.data.toList) (pD t.data.toList)) from fun V a b m h => h hq)
  clear hp hq hM
  have h : ¬ ((pW s.data.toList : Nat) : Int) = ((pW t.data.toList : Nat) : Int) := by omega
  generalize pW s.data.toList = H at *
  generalize pW t.data.toList = G at *
  go_enter Tryd.func28, Tryd.ntmps28
  go_wp2_with (go_at_call 55; refine (HR.out).mono ?_; rintro e w1 ⟨⟨a, b, m, a', b', m', rfl, q1, q2⟩, hb1⟩; obtain ⟨rfl, rfl, c, rfl, _⟩ := HQ.out _ _ _ _ q1; obtain ⟨rfl, rfl, c', rfl, _⟩ := HQ2.out _ _ _ _ q2; clear q1 q2)
  go_ret2
  exact ⟨rfl, (hb1.alloc hb1.size _).alloc (by have := hb1.size; simp; omega) _⟩
set_option maxRecDepth 8000 in
set_option maxHeartbeats 1600000 in
theorem impl_BelowPicture_yes (s t : ByteArray) (w : World) (hs : s.size ≤ 2000000) (ht : t.size ≤ 2000000) (hM : MaxL w) (hp : isPic s.data.toList = true) (hq : isPic t.data.toList = true) (h : pW s.data.toList = pW t.data.toList) :
    Calls Tryd.prog 28 #[.string s, .string t] w fun e w' => e = .returned (if pH s.data.toList + pH t.data.toList ≤ 24 then .tuple #[.string (bt (gText (pW s.data.toList) (pH s.data.toList + pH t.data.toList) (uD (pW s.data.toList) (pH s.data.toList) (pD s.data.toList) (pD t.data.toList)))), .bool true] else .tuple #[.string ⟨#[]⟩, .bool false]) ∧ Below w.heap.size w w' := by
  have HR := Lib.hid (readPictures_any s t w hs ht hM)
  rw [hp, hq] at HR
  have HQ := Lib.hid (show ∀ V a b m, RdQ s.data.toList V a b m → a = (pW s.data.toList : Int) ∧ b = (pH s.data.toList : Int) ∧ ∃ c, m = some c ∧ Ds V c (gS (pW s.data.toList) (pH s.data.toList) (pD s.data.toList)) from fun V a b m h => h hp)
  have HQ2 := Lib.hid (show ∀ V a b m, RdQ t.data.toList V a b m → a = (pW t.data.toList : Int) ∧ b = (pH t.data.toList : Int) ∧ ∃ c, m = some c ∧ Ds V c (gS (pW t.data.toList) (pH t.data.toList) (pD t.data.toList)) from fun V a b m h => h hq)
  have pa := pic_b hp
  have pb := pic_b hq
  obtain ⟨a0, a1, a2, a3⟩ : 1 ≤ pW s.data.toList ∧ pW s.data.toList ≤ 24 ∧ 1 ≤ pH s.data.toList ∧ pH s.data.toList ≤ 24 := ⟨pa.w0, pa.w1, pa.h0, pa.h1⟩
  obtain ⟨b0, b1⟩ : 1 ≤ pH t.data.toList ∧ pH t.data.toList ≤ 24 := ⟨pb.h0, pb.h1⟩
  rw [← sT_below]
  rw [← h] at HQ2
  have HBT := Lib.hid (gS_bd (pW s.data.toList) (pH t.data.toList) (pD t.data.toList))
  clear hp hq pa pb hM h
  generalize gS (pW s.data.toList) (pH t.data.toList) (pD t.data.toList) = T at *
  generalize gS (pW s.data.toList) (pH s.data.toList) (pD s.data.toList) = S at *
  generalize pW s.data.toList = W at *
  generalize pH s.data.toList = H at *
  generalize pH t.data.toList = V at *
  obtain ⟨r, ok, hr, HT⟩ : ∃ (r : ByteArray) (ok : Bool), (if H + V ≤ 24 then (Value.tuple #[.string (bt (sT W (H + V) (uS (fun x y => T x (y - H)) S))), .bool true]) else .tuple #[.string ⟨#[]⟩, .bool false]) = .tuple #[.string r, .bool ok] ∧ Hid (∀ V1 x, Ds V1 x (uS (fun x y => T x (y - H)) S) → Calls Tryd.prog 56 #[.agg #[.int .i64 (W : Int), .int .i64 ((H : Int) + V), .map (some x)]] V1 fun e w' => e = .returned (.tuple #[.string r, .bool ok]) ∧ Below V1.heap.size V1 w') := by
    by_cases hw : H + V ≤ 24
    · rw [if_pos hw]
      refine ⟨_, _, rfl, Lib.hid fun V1 x h => ?_⟩
      have k := tlim_yes W (H + V) x (uS (fun x y => T x (y - H)) S) V1 h a0 a1 (by omega) hw
      rw [show ((H + V : Nat) : Int) = (H : Int) + V from by omega] at k
      exact k
    · rw [if_neg hw]
      exact ⟨_, _, rfl, Lib.hid fun V1 x _ => tlim_no _ _ x V1 (show limB W ((H : Int) + V) = false from by unfold limB; rw [betr_yes (by omega) (by omega), betr_no (by omega)]; rfl)⟩
  rw [hr]
  clear hr
  go_enter Tryd.func28, Tryd.ntmps28
  go_wp2_with (first
    | (go_at_call 55; refine (HR.out).mono ?_; rintro e w1 ⟨⟨a, b, m, a', b', m', rfl, q1, q2⟩, hb1⟩; obtain ⟨rfl, rfl, c, rfl, d1⟩ := HQ.out _ _ _ _ q1; obtain ⟨rfl, rfl, c', rfl, d2⟩ := HQ2.out _ _ _ _ q2; have HJ := Lib.hid (show ∀ V1, Ds V1 c S → Ds V1 c' T → Calls Tryd.prog 57 #[.agg #[.int .i64 (W : Int), .int .i64 (H : Int), .map (some c)], .agg #[.int .i64 (W : Int), .int .i64 (V : Int), .map (some c')], .agg #[.int .i64 0, .int .i64 (H : Int)]] V1 fun e w' => (∃ x, e = .returned (.agg #[.int .i64 (W : Int), .int .i64 ((H + V : Nat) : Int), .map (some x)]) ∧ Ds w' x (uS (fun x y => T x (y - H)) S)) ∧ Below V1.heap.size V1 w' from fun V1 x y => by
        have k := joined_any W H W V 0 H W (H + V) c c' S T V1 x y (by omega) (by omega) (fun x y hxy => by have := HBT.out x y hxy; omega) (by omega) (by omega) (by omega) (by omega) (by omega) (by omega)
        simp only [show ((0 : Nat) : Int) = 0 from rfl, Int.sub_zero] at k
        exact k); have D1 := Lib.hid ((d1.alloc (.cells #[.int .i64 (W : Int), .int .i64 (H : Int), .map (some c)] 44)).alloc (.cells #[.int .i64 (W : Int), .int .i64 (V : Int), .map (some c')] 44)); have D2 := Lib.hid ((d2.alloc (.cells #[.int .i64 (W : Int), .int .i64 (H : Int), .map (some c)] 44)).alloc (.cells #[.int .i64 (W : Int), .int .i64 (V : Int), .map (some c')] 44)); have HB1 := Lib.hid ((hb1.alloc hb1.size (.cells #[.int .i64 (W : Int), .int .i64 (H : Int), .map (some c)] 44)).alloc (by have := hb1.size; simp; omega) (.cells #[.int .i64 (W : Int), .int .i64 (V : Int), .map (some c')] 44)); clear q1 q2 d1 d2 hb1 HBT)
    | (go_at_call 57; refine (HJ.out _ D1.out D2.out).mono ?_; rintro e w3 ⟨⟨x, rfl, d3⟩, hb3⟩; have HB3 := Lib.hid (HB1.out.trans (hb3.mono HB1.out.size)); clear hb3))
  refine (HT.out _ x d3).mono ?_
  rintro e w4 ⟨rfl, hb4⟩
  go_wp2
  go_ret2
  exact ⟨rfl, HB3.out.trans (hb4.mono HB3.out.size)⟩
end Go.Proofs.YtbcgidgjdedkiaaDoor
/- Chapter 7: the laws of two pictures, whatever the texts. -/
namespace Go.Proofs.YtbcgidgjdedkiaaDoor
open Go.RowKit

theorem walk_BesidePicture (s t : ByteArray) (w : World) (hM : MaxL w) :
    Calls Tryd.prog 8 #[.string s, .string t] w fun e w' => e = .returned (.bool true) ∧ Below w.heap.size w w' := by
  by_cases hz : s.size ≤ 1048576
  · by_cases hy : t.size ≤ 1048576
    · have hs : s.size ≤ 2000000 := by omega
      have ht : t.size ≤ 2000000 := by omega
      by_cases hn : isPic s.data.toList = false ∨ isPic t.data.toList = false
      · exact lawP_BesidePicture_m s t _ _ hz hy (fun w => spec_BesidePicture_no s t w hs ht hn) (fun w hM => impl_BesidePicture_no s t w hs ht hM hn) w hM
      · have hp : isPic s.data.toList = true := by
          cases h : isPic s.data.toList with
          | true => rfl
          | false => exact absurd (.inl h) hn
        have hq : isPic t.data.toList = true := by
          cases h : isPic t.data.toList with
          | true => rfl
          | false => exact absurd (.inr h) hn
        by_cases he : pH s.data.toList = pH t.data.toList
        · by_cases hw : pW s.data.toList + pW t.data.toList ≤ 24
          · exact lawP_BesidePicture_m s t _ _ hz hy (fun w => spec_BesidePicture_both s t w hs ht hp hq he hw) (fun w hM => by
              have h := impl_BesidePicture_yes s t w hs ht hM hp hq he
              rw [if_pos hw] at h
              exact h) w hM
          · exact lawP_BesidePicture_m s t _ _ hz hy (fun w => spec_BesidePicture_apart s t w hs ht hp hq (fun h => hw h.2)) (fun w hM => by
              have h := impl_BesidePicture_yes s t w hs ht hM hp hq he
              rw [if_neg hw] at h
              exact h) w hM
        · exact lawP_BesidePicture_m s t _ _ hz hy (fun w => spec_BesidePicture_apart s t w hs ht hp hq (fun h => he h.1)) (fun w hM => impl_BesidePicture_apart s t w hs ht hM hp hq he) w hM
    · exact lawP_BesidePicture_big1 s t hz (by omega) w
  · exact lawP_BesidePicture_big0 s t (by omega) w
theorem walk_BelowPicture (s t : ByteArray) (w : World) (hM : MaxL w) :
    Calls Tryd.prog 9 #[.string s, .string t] w fun e w' => e = .returned (.bool true) ∧ Below w.heap.size w w' := by
  by_cases hz : s.size ≤ 1048576
  · by_cases hy : t.size ≤ 1048576
    · have hs : s.size ≤ 2000000 := by omega
      have ht : t.size ≤ 2000000 := by omega
      by_cases hn : isPic s.data.toList = false ∨ isPic t.data.toList = false
      · exact lawP_BelowPicture_m s t _ _ hz hy (fun w => spec_BelowPicture_no s t w hs ht hn) (fun w hM => impl_BelowPicture_no s t w hs ht hM hn) w hM
      · have hp : isPic s.data.toList = true := by
          cases h : isPic s.data.toList with
          | true => rfl
          | false => exact absurd (.inl h) hn
        have hq : isPic t.data.toList = true := by
          cases h : isPic t.data.toList with
          | true => rfl
          | false => exact absurd (.inr h) hn
        by_cases he : pW s.data.toList = pW t.data.toList
        · by_cases hw : pH s.data.toList + pH t.data.toList ≤ 24
          · exact lawP_BelowPicture_m s t _ _ hz hy (fun w => spec_BelowPicture_both s t w hp hq he hw) (fun w hM => by
              have h := impl_BelowPicture_yes s t w hs ht hM hp hq he
              rw [if_pos hw] at h
              exact h) w hM
          · exact lawP_BelowPicture_m s t _ _ hz hy (fun w => spec_BelowPicture_apart s t w hp hq (fun h => hw h.2)) (fun w hM => by
              have h := impl_BelowPicture_yes s t w hs ht hM hp hq he
              rw [if_neg hw] at h
              exact h) w hM
        · exact lawP_BelowPicture_m s t _ _ hz hy (fun w => spec_BelowPicture_apart s t w hp hq (fun h => he h.1)) (fun w hM => impl_BelowPicture_apart s t w hs ht hM hp hq he) w hM
    · exact lawP_BelowPicture_big1 s t hz (by omega) w
  · exact lawP_BelowPicture_big0 s t (by omega) w
end Go.Proofs.YtbcgidgjdedkiaaDoor
/- Chapter 7: the dots beside others, of the program's sets. -/
namespace Go.Proofs.YtbcgidgjdedkiaaDoor
open Go.ChangeShapes Go.WideShapes Go.ChangeAt Go.RowKit Go.Maps

set_option maxRecDepth 4000 in
set_option maxHeartbeats 1600000 in
theorem besideAny_any (d b : Nat) (S0 S : Int → Int → Bool) (w : World) (hd : Ds w d S0) (h : Ds w b S) :
    Calls Tryd.prog 87 #[.map (some d), .map (some b)] w fun e w' => (∃ c, e = .returned (.map (some c)) ∧ w.heap.size ≤ c ∧ Ds w' c (nbS S0 S)) ∧ Below w.heap.size w w' := by
  have hmm := @run_makeMap Tryd.prog
  have HBD := Lib.hid h.bd
  have hbl := h.lt
  have hdl := hd.lt
  have HD := Lib.hid hd
  have HBS := Lib.hid hd.bd
  have HP := Lib.hid fun x y W (hs : S x y = true) => placesBeside_any x y W (by have := HBD.out x y hs; omega) (by have := HBD.out x y hs; omega) (by have := HBD.out x y hs; omega) (by have := HBD.out x y hs; omega)
  have HH := Lib.hid h
  clear h hd
  go_enter Tryd.func87, Tryd.ntmps87
  go_wp2_with (at_range; refine dots_range vkey _ rfl _ 42 84 rfl Tryd.underlying42 b S rfl (HH.out.alloc _) ?_; intro w0 hr0 hg0 hs0)
  go_frame
  have er : (w.alloc (.map #[] 0)).heap.size = w.heap.size + 1 := by simp
  rw [er] at hr0 hs0
  simp only [er]
  have HR0 := Lib.hid hr0
  have HD0 := Lib.hid (((Dots.made (P := Tryd.prog) (k := 58) w).kept hg0 (by simp)).congr (nb_start (S := S0) (T := S)))
  have HB0 := Lib.hid (((Below.refl w.heap.size w).alloc (Nat.le_refl _) (.map #[] 0)).grown hg0 (by simp) (by simp))
  have HDD0 := Lib.hid ((HD.out.alloc (.map #[] 0)).kept hg0 (by simp))
  clear hr0 hg0 hs0 er HH HD
  go_loopw [6] (fun _ wr => ∃ L, Hid (Rs wr b (w.heap.size + 1) S L) ∧ Hid (Ds wr w.heap.size (nbS S0 (tlS S L))) ∧ Hid (Ds wr d S0) ∧ Hid (Below w.heap.size w wr)) (fun _ wr => wr.rangeLeft b (w.heap.size + 1))
  case atStart => exact ⟨S, HR0, HD0, HDD0, HB0⟩
  case round =>
    obtain ⟨L, HR, HD, HDD, HB⟩ := hrel
    go_wp2_with (at_next; refine dots_next vkey _ rfl _ rfl b (w.heap.size + 1) S L rfl HR.out ?_ ?_)
    · intro h0
      have HE := Lib.hid (HD.out.congr (nb_end h0))
      clear h0
      go_wp2
      go_ret
      exact ⟨⟨_, rfl, Nat.le_refl _, HE.out⟩, HB.out⟩
    · intro x y w2 hL hr2 hlt hg2 hs2 hen
      have hS := HR.out.sub hL
      have HR2 := Lib.hid hr2
      have HD2 := Lib.hid (HD.out.kept hg2 (by simp))
      have HDD2 := Lib.hid (HDD.out.kept hg2 (by simp; omega))
      have HB2 := Lib.hid (HB.out.grown hg2 HB.out.size (by intro j hj; cases hj; omega))
      have HLT := Lib.hid hlt
      have HSS := Lib.hid hS
      have hbx := HBD.out x y hS
      have HIN := Lib.hid fun u v => nb_in S0 S L u v
      clear hr2 hlt hL hS hg2 hs2
      have hz2 : w.heap.size + 1 < w2.heap.size := HR2.out.lt
      go_wp2_with (go_at_call 92; refine (HP.out x y _ HSS.out).mono ?_; rintro e w3 ⟨⟨A, c, rfl, ho3⟩, hb3⟩)
      obtain ⟨g, o, rfl, hg0, hg1, hcs⟩ := ho3 (by rw [prs_len, bsd_len]; omega)
      have hza : (w2.alloc (.cells #[.int .i64 x, .int .i64 y] 58)).heap.size = w2.heap.size + 1 := by simp
      rw [hza] at hg0 hb3
      have d0 : w3.cell? ⟨w2.heap.size, 0, none⟩ = some (.int .i64 x) := (hb3.cell (p := ⟨w2.heap.size, 0, none⟩) (Nat.lt_succ_self _)).trans (by simp [go_sem])
      have d1 : w3.cell? ⟨w2.heap.size, 1, none⟩ = some (.int .i64 y) := (hb3.cell (p := ⟨w2.heap.size, 1, none⟩) (Nat.lt_succ_self _)).trans (by simp [go_sem])
      have hg3 : w2.grownBy w3 none := (World.grownBy_alloc w2 _ none).andThen (grown_of_below hb3 (by simp)) (by simp)
      have HR3 := Lib.hid (HR2.out.kept hg3 (by simp) (by simp))
      have HL3 := Lib.hid (HR2.out.left hg3 (by simp) (by simp))
      have HD3 := Lib.hid ((HD2.out.kept hg3 (by simp)).congr HIN.out)
      have HDD3 := Lib.hid (HDD2.out.kept hg3 (by simp))
      have HB3 := Lib.hid (HB2.out.grown hg3 (by omega) (by simp))
      have HCS := Lib.hid hcs
      have hz3 : w2.heap.size < w3.heap.size := by omega
      clear ho3 hb3 hcs hg3 hza
      go_loopw [19] (fun i wr => ∃ j : Nat, j ≤ 4 ∧ i = .int .i64 (j : Int) ∧ Hid (Ds wr w.heap.size (nbF S0 S L ((bsd x y).take j))) ∧ Hid (w3.grownBy wr (some w.heap.size))) (fun i _ => 4 - (intOf i).toNat)
      case atStart => exact ⟨0, by omega, by simp, HD3, Lib.hid (grown_refl _ _)⟩
      case round =>
        obtain ⟨j, hj, rfl, HDj, HGj⟩ := hrel
        have hzr : w3.heap.size ≤ wr.heap.size := HGj.out.size
        by_cases hlt : j < 4
        · have hj4 : (j : Int) < 4 := by omega
          have hp := prs_get (bsd x y) j (by rw [bsd_len]; exact hlt)
          have s0 := HGj.out.cell (HCS.out _ _ hp.1).1 (by simp; omega)
          have s1 := HGj.out.cell (HCS.out _ _ hp.2).1 (by simp; omega)
          have b0 := HGj.out.cell d0 (by simp; omega)
          have b1 := HGj.out.cell d1 (by simp; omega)
          have ht := bsd_at x y j hlt
          have hbb := bsd_bds x y j hlt
          generalize hpq : (bsd x y)[j]'(by rw [bsd_len]; exact hlt) = pq at *
          obtain ⟨p, q⟩ := pq
          simp only at s0 s1 hbb
          rw [Nat.mul_comm 2 j] at s0 s1
          rw [← Nat.add_assoc] at s1
          have HRj := Lib.hid (HDD3.out.kept HGj.out (by simp; omega))
          have HHAS := Lib.hid fun W (h : Ds W d S0) => has_any d S0 p q W h (wf2_of (by omega) (by omega) (by omega) (by omega))
          have HT := Lib.hid ht
          clear hp ht hpq hbb
          cases hc : S0 p q with
          | false =>
            rw [hc] at HHAS
            have HE := Lib.hid (HDj.out.congr (nb_no (p := (p, q)) hc))
            clear hc
            go_wp2_with (go_at_call 63; refine (HHAS.out _ (HRj.out.alloc _)).mono ?_; rintro e w5 ⟨rfl, hb5⟩)
            have HG5 := Lib.hid ((HGj.out.andThen (World.grownBy_alloc _ (.cells #[.int .i64 p, .int .i64 q] 58) none) (by simp)).andThen (grown_of_below hb5 (Nat.le_refl _)) (by simp))
            have HE5 := Lib.hid ((HE.out.alloc (.cells #[.int .i64 p, .int .i64 q] 58)).below hb5)
            clear hb5
            go_wp2
            go_roundw
            case rel => exact ⟨j + 1, by omega, by go_num, by rw [HT.out]; exact HE5, HG5⟩
            case measure => simp [intOf]; omega
          | true =>
            have hpb := HBS.out p q hc
            rw [hc] at HHAS
            have HE := Lib.hid fun u v => nb_yes (S := S0) (T := S) (L := L) (l := (bsd x y).take j) (p := (p, q)) hc u v
            clear hc
            go_wp2_with (first
              | (go_at_call 63; refine (HHAS.out _ (HRj.out.alloc _)).mono ?_; rintro e w5 ⟨rfl, hb5⟩; have HG5 := Lib.hid ((HGj.out.andThen (World.grownBy_alloc _ (.cells #[.int .i64 p, .int .i64 q] 58) none) (by simp)).andThen (grown_of_below hb5 (Nat.le_refl _)) (by simp)); have HD5 := Lib.hid ((HDj.out.alloc (.cells #[.int .i64 p, .int .i64 q] 58)).below hb5); have e0 := (hb5.cell (p := ⟨wr.heap.size, 0, none⟩) (by simp)).trans (show (wr.alloc (.cells #[.int .i64 p, .int .i64 q] 58)).cell? ⟨wr.heap.size, 0, none⟩ = some (.int .i64 p) by simp [go_sem]); have e1 := (hb5.cell (p := ⟨wr.heap.size, 1, none⟩) (by simp)).trans (show (wr.alloc (.cells #[.int .i64 p, .int .i64 q] 58)).cell? ⟨wr.heap.size, 1, none⟩ = some (.int .i64 q) by simp [go_sem]); clear hb5)
              | (go_at_call 93; refine (add_any _ _ _ _ _ HD5.out (by omega)).mono ?_; rintro e w6 ⟨rfl, hd6, hg6⟩))
            have HG6 := Lib.hid (grown_tr HG5.out hg6)
            have HD6 := Lib.hid (hd6.congr HE.out)
            clear hd6 hg6
            go_wp2
            go_roundw
            case rel => exact ⟨j + 1, by omega, by go_num, by rw [HT.out]; exact HD6, HG6⟩
            case measure => simp [intOf]; omega
        · obtain rfl : j = 4 := by omega
          have ht4 : (bsd x y).take 4 = bsd x y := rfl
          rw [ht4] at HDj
          have HD7 := Lib.hid (HDj.out.congr (nb_out HSS.out))
          have HR7 := Lib.hid (HR3.out.kept HGj.out (by simp; omega) (by simp))
          have HL7 := Lib.hid (HR3.out.left HGj.out (by simp; omega) (by simp))
          have HDD7 := Lib.hid (HDD3.out.kept HGj.out (by simp; omega))
          have HB7 := Lib.hid (HB3.out.grown HGj.out HB3.out.size (by intro j hj; cases hj; exact Nat.le_refl _))
          go_wp2
          go_roundw
          case rel => exact ⟨_, HR7, HD7, HDD7, HB7⟩
          case measure => rw [HL7.out, HL3.out]; exact HLT.out
end Go.Proofs.YtbcgidgjdedkiaaDoor
/- Chapter 7: a piece taken out of the program's set of dots. -/
namespace Go.Proofs.YtbcgidgjdedkiaaDoor
open Go.ChangeShapes Go.WideShapes Go.ChangeAt Go.RowKit Go.Maps

/-- How many entries a block's map has. -/
def mapLen (w : World) (b : Nat) : Nat := match w.heap[b]? with | some (.map es _) => es.size | _ => 0
theorem mapLen_eq {w : World} {b W H : Nat} {S : Int → Int → Bool} (h : Ds w b S) (hb : Bd W H S) : mapLen w b = cnt (sD W S) (W * H) := by
  obtain ⟨D, h, hs⟩ := h
  rw [← has_size vkey h hs hb]
  obtain ⟨es, clock, hh, F, _, rfl⟩ := h
  simp [mapLen, hh, Maps.size, length_sorted]
theorem cnt_mono (f g : Nat → Bool) (n : Nat) (h : ∀ i, f i = true → g i = true) : cnt f n ≤ cnt g n := by
  induction n with
  | zero => exact Nat.le_refl _
  | succ n ih =>
    rw [cnt_succ, cnt_succ]
    have hn := h n
    cases hf : f n <;> cases hg : g n <;> simp_all
    omega
theorem cnt_less (f g : Nat → Bool) (n : Nat) (h : ∀ i, f i = true → g i = true) (j : Nat) (hj : j < n) (h1 : g j = true) (h2 : f j = false) : cnt f n < cnt g n := by
  induction n with
  | zero => omega
  | succ n ih =>
    rw [cnt_succ, cnt_succ]
    by_cases e : j = n
    · subst e
      rw [h1, h2]
      have := cnt_mono f g j h
      simp
      omega
    · have i2 := ih (by omega)
      have hn := h n
      clear ih h h1 h2
      cases hf : f n <;> cases hg : g n <;> simp_all
      omega
theorem cnt_pos (f : Nat → Bool) (n : Nat) : 0 < cnt f n ↔ ∃ j, j < n ∧ f j = true := by
  constructor
  · intro h
    induction n with
    | zero => simp [cnt] at h
    | succ n ih =>
      rw [cnt_succ] at h
      cases hf : f n with
      | true => exact ⟨n, by omega, hf⟩
      | false =>
        rw [hf] at h
        obtain ⟨j, h1, h2⟩ := ih (by simpa using h)
        exact ⟨j, by omega, h2⟩
  · rintro ⟨j, h1, h2⟩
    have := cnt_less (fun _ => false) f n (by simp) j h1 h2 rfl
    omega
/-- A set of places of a picture has one, or none. -/
theorem set_pos {W H : Nat} {S : Int → Int → Bool} (hb : Bd W H S) : 0 < cnt (sD W S) (W * H) ↔ ∃ x y, S x y = true := by
  rw [cnt_pos]
  constructor
  · rintro ⟨j, _, h⟩
    exact ⟨_, _, h⟩
  · rintro ⟨x, y, h⟩
    have hp := hb x y h
    obtain ⟨a, rfl⟩ := Int.eq_ofNat_of_zero_le hp.1
    obtain ⟨c, rfl⟩ := Int.eq_ofNat_of_zero_le hp.2.2.1
    have ha : a < W := by omega
    have hc : c < H := by omega
    refine ⟨c * W + a, place_lt ha hc, ?_⟩
    unfold sD
    rw [place_x ha, place_y ha]
    exact h
theorem mapLen_less {w w' : World} {b b' : Nat} {S T : Int → Int → Bool} (h : Ds w b S) (h' : Ds w' b' T) (hs : ∀ x y, T x y = true → S x y = true) {x y : Int} (h1 : S x y = true) (h2 : T x y = false) : mapLen w' b' < mapLen w b := by
  rw [mapLen_eq h h.bd, mapLen_eq h' (h.bd.sub hs)]
  have hp := h.bd x y h1
  obtain ⟨a, rfl⟩ := Int.eq_ofNat_of_zero_le hp.1
  obtain ⟨c, rfl⟩ := Int.eq_ofNat_of_zero_le hp.2.2.1
  have ha : a < 100 := by omega
  have hc : c < 100 := by omega
  refine cnt_less _ _ _ (fun i hi => hs _ _ hi) (c * 100 + a) (place_lt ha hc) ?_ ?_
  · unfold sD
    rw [place_x ha, place_y ha]
    exact h1
  · unfold sD
    rw [place_x ha, place_y ha]
    exact h2

/-- P is the piece of S in which the place (x, y) is. -/
structure Piece (S : Int → Int → Bool) (x y : Int) (P : Int → Int → Bool) : Prop where
  sub : ∀ u v, P u v = true → S u v = true
  fst : P x y = true
  cls : ∀ u v, S u v = true → nS P u v = true → P u v = true
  lst : ∀ Q : Int → Int → Bool, Q x y = true → (∀ u v, S u v = true → nS Q u v = true → Q u v = true) → ∀ u v, P u v = true → Q u v = true
/-- On the way: A is taken, F was found last. -/
structure Tkg (S : Int → Int → Bool) (x y : Int) (A F : Int → Int → Bool) : Prop where
  sa : ∀ u v, A u v = true → S u v = true
  sf : ∀ u v, F u v = true → S u v = true ∧ A u v = false
  ne : ∃ u v, F u v = true
  fst : A x y = true ∨ F x y = true
  cls : ∀ u v, S u v = true → nS A u v = true → A u v = true ∨ F u v = true
  lst : ∀ Q : Int → Int → Bool, Q x y = true → (∀ u v, S u v = true → nS Q u v = true → Q u v = true) → ∀ u v, A u v = true ∨ F u v = true → Q u v = true
theorem nS_iff {T : Int → Int → Bool} {x y : Int} : nS T x y = true ↔ T (x - 1) y = true ∨ T (x + 1) y = true ∨ T x (y - 1) = true ∨ T x (y + 1) = true := by
  unfold nS
  simp only [Bool.or_eq_true, or_assoc]
theorem nS_or {A F : Int → Int → Bool} {x y : Int} (h : nS (uS A F) x y = true) : nS A x y = true ∨ nS F x y = true := by
  rw [nS_iff] at h
  simp only [uS, Bool.or_eq_true] at h
  rw [nS_iff, nS_iff]
  rcases h with (h | h) | (h | h) | (h | h) | (h | h)
  · exact .inl (.inl h)
  · exact .inr (.inl h)
  · exact .inl (.inr (.inl h))
  · exact .inr (.inr (.inl h))
  · exact .inl (.inr (.inr (.inl h)))
  · exact .inr (.inr (.inr (.inl h)))
  · exact .inl (.inr (.inr (.inr h)))
  · exact .inr (.inr (.inr (.inr h)))
theorem nS_mono {A F : Int → Int → Bool} (hs : ∀ u v, A u v = true → F u v = true) {x y : Int} (h : nS A x y = true) : nS F x y = true := by
  rw [nS_iff] at h ⊢
  rcases h with h | h | h | h
  · exact .inl (hs _ _ h)
  · exact .inr (.inl (hs _ _ h))
  · exact .inr (.inr (.inl (hs _ _ h)))
  · exact .inr (.inr (.inr (hs _ _ h)))
theorem tkg_start {S : Int → Int → Bool} {x y : Int} (h : S x y = true) : Tkg S x y (fun _ _ => false) (aS (fun _ _ => false) x y) where
  sa := fun _ _ h => (by cases h)
  sf := fun u v hf => by
    simp [aS] at hf
    obtain ⟨rfl, rfl⟩ := hf
    exact ⟨h, rfl⟩
  ne := ⟨x, y, by simp [aS]⟩
  fst := .inr (by simp [aS])
  cls := fun u v _ hn => by simp [nS] at hn
  lst := fun Q hq _ u v hf => by
    rcases hf with hf | hf
    · cases hf
    · simp [aS] at hf
      obtain ⟨rfl, rfl⟩ := hf
      exact hq
section
variable {S A F : Int → Int → Bool} {x y : Int}
/-- The dots that are left, what is found next. -/
theorem tkg_sub (u v : Int) : dS (dS S A) F u v = dS S (uS A F) u v := by
  unfold dS uS
  cases S u v <;> cases A u v <;> cases F u v <;> rfl
theorem tkg_next (h : Tkg S x y A F) (hne : ∃ u v, nbS (dS S (uS A F)) F u v = true) : Tkg S x y (uS A F) (nbS (dS S (uS A F)) F) where
  sa := fun u v hu => by
    unfold uS at hu
    rw [Bool.or_eq_true] at hu
    exact hu.elim (h.sa u v) fun hf => (h.sf u v hf).1
  sf := fun u v hu => by
    unfold nbS dS at hu
    simp only [Bool.and_eq_true, Bool.not_eq_true'] at hu
    exact hu.1
  ne := hne
  fst := .inl (by unfold uS; rw [Bool.or_eq_true]; exact h.fst)
  cls := fun u v hs hn => by
    by_cases ha : uS A F u v = true
    · exact .inl ha
    · right
      have ha2 : uS A F u v = false := by simpa using ha
      unfold nbS dS
      rw [hs, ha2]
      rcases nS_or hn with hn | hn
      · exact absurd (by unfold uS; rw [Bool.or_eq_true]; exact h.cls u v hs hn) ha
      · rw [hn]; rfl
  lst := fun Q hq hc u v hu => by
    rcases hu with hu | hu
    · unfold uS at hu
      rw [Bool.or_eq_true] at hu
      exact h.lst Q hq hc u v hu
    · unfold nbS dS at hu
      simp only [Bool.and_eq_true] at hu
      exact hc u v hu.1.1 (nS_mono (fun a b hf => h.lst Q hq hc a b (.inr hf)) hu.2)
theorem tkg_end (h : Tkg S x y A F) (hne : ¬ ∃ u v, nbS (dS S (uS A F)) F u v = true) : Piece S x y (uS A F) where
  sub := fun u v hu => by
    unfold uS at hu
    rw [Bool.or_eq_true] at hu
    exact hu.elim (h.sa u v) fun hf => (h.sf u v hf).1
  fst := by unfold uS; rw [Bool.or_eq_true]; exact h.fst
  cls := fun u v hs hn => by
    by_cases ha : uS A F u v = true
    · exact ha
    · have ha2 : uS A F u v = false := by simpa using ha
      rcases nS_or hn with hn | hn
      · exact absurd (by unfold uS; rw [Bool.or_eq_true]; exact h.cls u v hs hn) ha
      · exact absurd ⟨u, v, by unfold nbS dS; rw [hs, ha2, hn]; rfl⟩ hne
  lst := fun Q hq hc u v hu => by
    unfold uS at hu
    rw [Bool.or_eq_true] at hu
    exact h.lst Q hq hc u v hu
end
end Go.Proofs.YtbcgidgjdedkiaaDoor
