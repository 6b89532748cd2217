/- Chapter 9: ParsePuzzle by the program, given what its parts hand back: where the text is that of what was read. -/
import Derived.Test.YtljleceepghfjaaDoorTiO
import Derived.Test.YtljleceepghfjaaDoorTgH
namespace Go.Proofs.YtljleceepghfjaaDoor
open Go.ChangeShapes Go.WideShapes Go.ChangeAt Go.RowKit

theorem le_allocP (w : World) (o : Obj) : w.heap.size ≤ (w.alloc o).heap.size := by simp
set_option maxRecDepth 4000 in
set_option maxHeartbeats 1600000 in
theorem impl_ParsePuzzle_yes (s x y : ByteArray) (v : Int) (cs : List Clu) (n : Nat) (w : World) (ht : Tab9 w) (hl : cs.length = n)
    (hc : ∀ W, Below w.heap.size w W → Calls Tryd.prog 12 #[.string s, .string ⟨#[58]⟩] W fun e w' => ∃ f : Bool, e = .returned (.tuple #[.string x, .string y, .bool f]) ∧ Below W.heap.size W w')
    (hv : ∀ W, Below w.heap.size w W → Calls Tryd.prog 13 #[.string x] W fun e w' => e = .returned (.int .i64 v) ∧ Below W.heap.size W w')
    (hcs : ∀ W, Below w.heap.size w W → Calls Tryd.prog 14 #[.string y] W fun e w' => (∃ A c, e = .returned (.slice A n c) ∧ Own w' W.heap.size w'.heap.size A (c64 cs)) ∧ Below W.heap.size W w')
    (hok : okp9 v cs = true) (hs : pzR v cs n = s) :
    Calls Tryd.prog 5 #[.string s] w (ResZ true v cs w) := by
  have rm := Rm.new w 24
  have b0 : Below w.heap.size w (w.alloc (.cells #[.int .i64 0, .slice none 0 0] 24)) := (Below.refl _ _).alloc (Nat.le_refl _) _
  have z0 : (w.alloc (.cells #[.int .i64 0, .slice none 0 0] 24)).heap.size = w.heap.size + 1 := by simp
  have HC := Lib.hid hc
  have HV := Lib.hid hv
  have HCS := Lib.hid hcs
  have HL := Lib.hid hl
  have HPT : Hid (∀ A c lo W, Below w.heap.size w W → Own W lo W.heap.size A (c64 cs) → Calls Tryd.prog 15 #[.agg #[.int .i64 v, .slice A n c]] W fun e w' => e = .returned (.tuple #[.string s, .bool true]) ∧ Below W.heap.size W w') := Lib.hid fun A c lo W hW ho => by
    have h := impl_PuzzleText_yes v A n c lo cs W hl ho hok (tab_below9 ht hW)
    rw [hs] at h
    exact h
  have HB0 := Lib.hid b0
  have HR0 := Lib.hid rm
  have HZ0 := Lib.hid z0
  clear rm b0 z0 hc hv hcs hl ht hok hs
  go_enter Tryd.func5, Tryd.ntmps5
  go_wp2_with (first
    | (go_at_call 12; refine (HC.out _ HB0.out).mono ?_; rintro e w1 ⟨f, rfl, b1⟩; have HB1 := Lib.hid (HB0.out.trans (b1.mono HB0.out.size)); have HR1 := Lib.hid (HR0.out.below b1 (by rw [HZ0.out]; exact Nat.le_refl _)); have HZ1 : Hid (w.heap.size + 1 ≤ w1.heap.size) := Lib.hid (by have := b1.size; rw [HZ0.out] at this; exact this); clear b1)
    | (go_at_call 13; refine (HV.out _ HB1.out).mono ?_; rintro e w2 ⟨rfl, b2⟩; have HB2 := Lib.hid (HB1.out.trans (b2.mono HB1.out.size)); have HR2 := Lib.hid (HR1.out.below b2 HZ1.out); have HZ2 := Lib.hid (Nat.le_trans HZ1.out b2.size); clear b2)
    | (go_at_call 14; refine (HCS.out _ HB2.out).mono ?_; rintro e w3 ⟨⟨A, c, rfl, o3⟩, b3⟩; have HB3 := Lib.hid (HB2.out.trans (b3.mono HB2.out.size)); have HR3 := Lib.hid (HR2.out.below b3 HZ2.out); have HZ3 := Lib.hid (Nat.le_trans HZ2.out b3.size); have HZX := Lib.hid HB2.out.size; have HBX := Lib.hid ((Below.refl w3.heap.size w3).alloc (Nat.le_refl _) (.cells #[.int .i64 v, .slice A n c] 24)); have HO3 := Lib.hid (o3.below HBX.out (Nat.le_refl _)); clear b3 o3)
    | (go_at_call 15; refine (HPT.out A c _ _ (HB3.out.trans (HBX.out.mono HB3.out.size)) (HO3.out.wide (Nat.le_refl _) HBX.out.size)).mono ?_; rintro e w4 ⟨rfl, b4⟩; have HB4 := Lib.hid ((HB3.out.trans (HBX.out.mono HB3.out.size)).trans (b4.mono (HB3.out.trans (HBX.out.mono HB3.out.size)).size)); obtain ⟨d0, d1⟩ := ((Bx.new w3 v A n c 24).below b4 (by simp)).cells; obtain ⟨r0, r1, f0, f1⟩ := (HR3.out.below HBX.out HZ3.out).below b4 (Nat.le_trans HZ3.out HBX.out.size); have HO4 := Lib.hid (HO3.out.below b4 HBX.out.size); have HZ4 := Lib.hid (Nat.le_trans HBX.out.size b4.size); clear b4))
  have HB := Lib.hid (set2_below9 HB4.out (Nat.le_refl w.heap.size) (.int .i64 v) (.slice A n c))
  have HOf := Lib.hid (own_far9 (Q := w.heap.size) HO4.out (Nat.lt_of_lt_of_le (Nat.lt_succ_self _) HZ2.out) (.int .i64 v) (.slice A n c))
  have HZf := Lib.hid (set2_size9 w4 w.heap.size (.int .i64 v) (.slice A n c))
  exact bodyPost_ret (v := .tuple #[.agg #[.int .i64 v, .slice A n c], .bool true]) (by simp [results, Tryd.results5, go_sem, r0, r1]) rfl ⟨A, c, by rw [HL.out], (by rw [HZf.out]; exact HOf.out.wide HZX.out HZ4.out), HB.out⟩
end Go.Proofs.YtljleceepghfjaaDoor
