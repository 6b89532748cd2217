/- The law FnExactIsDesk, walked: whatever the desk. The library's word on internal/bytealg.MaxLen (MaxL) is asked, as by chapter 7's pictures. -/
import Derived.Test.YtppdjjdejggjaaaDoorDvB
import Derived.Test.YtppdjjdejggjaaaDoorDtC
import Derived.Test.YtppdjjdejggjaaaDoorSpA
import Derived.Test.YtppdjjdejggjaaaDoorImB
import Derived.Test.YtppdjjdejggjaaaDoorDuY
import Derived.Lib.Hide
namespace Go.Proofs.YtppdjjdejggjaaaDoor
open Go.RowKit

/-- Whether sides and a picture make a desk. -/
def dkB (s : Int) (p : ByteArray) : Bool := decide (3 ≤ s ∧ s ≤ 24) && isPic p.data.toList
set_option maxHeartbeats 800000 in
theorem szDesk_any (s : Int) (p : ByteArray) (l : Int) (w : World) (h1 : 0 ≤ l) (h2 : l ≤ 1048576) (h3 : p.size ≤ 9223372036854775807) :
    Calls Tryd.prog 5 #[.agg #[.int .i64 s, .string p], .int .i64 l] w fun e w' => e = .returned (.int .i64 (if l < p.size then -1 else l - p.size)) ∧ Below w.heap.size w w' := by
  rcases Int.lt_or_le l p.size with h | h
  · rw [if_pos h]
    go_enter Tryd.func5, Tryd.ntmps5
    go_wp2
    go_ret
    exact ⟨rfl, (Below.refl _ _).alloc (Nat.le_refl _) _⟩
  · rw [if_neg (by omega)]
    go_enter Tryd.func5, Tryd.ntmps5
    go_wp2
    go_ret
    exact ⟨rfl, (Below.refl _ _).alloc (Nat.le_refl _) _⟩
set_option maxHeartbeats 800000 in
theorem toDesk_any (s : Int) (p : ByteArray) (w : World) :
    Calls Tryd.prog 7 #[.agg #[.int .i64 s, .string p]] w fun e w' => e = .returned (.agg #[.int .i64 s, .string p]) ∧ Below w.heap.size w w' := by
  go_enter Tryd.func7, Tryd.ntmps7
  go_wp2
  exact bodyPost_ret (v := .agg #[.int .i64 s, .string p]) (by simp [results, Tryd.results7, go_sem]) rfl ⟨rfl, by repeat (first | exact Below.refl _ _ | (refine Below.setCell ?_ (by simp) _) | (refine Below.alloc ?_ (by simp; try omega) _))⟩
set_option maxHeartbeats 800000 in
theorem coGood_any (s : Int) (p : ByteArray) (w : World) (h : p.size ≤ 1048576) :
    Calls Tryd.prog 14 #[.agg #[.int .i64 s, .string p]] w fun e w' => e = .returned (.bool (dkB s p)) ∧ Below w.heap.size w w' := by
  have HP := Lib.hid fun W => spec_IsPicture p W (by omega)
  by_cases hs : 3 ≤ s ∧ s ≤ 24
  · obtain ⟨h1, h2⟩ := hs
    have HE : Hid (dkB s p = isPic p.data.toList) := Lib.hid (by simp [dkB, h1, h2])
    go_enter Tryd.func14, Tryd.ntmps14
    go_wp2_with (first
      | (go_at_call 27; refine (shSides_yes _ _ h1 h2).mono ?_; rintro e w' ⟨rfl, rfl⟩)
      | (go_at_call 28; refine (HP.out _).mono ?_; rintro e w1 ⟨rfl, hb1⟩))
    go_ret
    exact ⟨by rw [HE.out]; rfl, ((Below.refl _ _).alloc (Nat.le_refl _) _).trans (hb1.mono (by simp))⟩
  · have HS : Hid (s < 3 ∨ 24 < s) := Lib.hid (by omega)
    have HE : Hid (dkB s p = false) := Lib.hid (by simp [dkB]; omega)
    clear hs
    go_enter Tryd.func14, Tryd.ntmps14
    go_wp2_with (go_at_call 27; refine (shSides_no _ _ HS.out).mono ?_; rintro e w' ⟨rfl, rfl⟩)
    go_ret
    exact ⟨by rw [HE.out]; rfl, (Below.refl _ _).alloc (Nat.le_refl _) _⟩
set_option maxHeartbeats 800000 in
theorem spec_IsDesk_any (s : Int) (p : ByteArray) (w : World) (h : p.size ≤ 1048576) :
    Calls Tryd.prog 6 #[.agg #[.int .i64 s, .string p]] w fun e w' => e = .returned (.bool (dkB s p)) ∧ Below w.heap.size w w' := by
  go_enter Tryd.func6, Tryd.ntmps6
  go_wp2_with (go_at_call 14; refine (coGood_any _ _ _ h).mono ?_; rintro e w1 ⟨rfl, hb1⟩)
  go_ret
  exact ⟨rfl, ((Below.refl _ _).alloc (Nat.le_refl _) _).trans (hb1.mono (by simp))⟩
set_option maxHeartbeats 800000 in
theorem impl_IsDesk_any (s : Int) (p : ByteArray) (w : World) (h : p.size ≤ 1048576) (hM : MaxL w) :
    Calls Tryd.prog 8 #[.agg #[.int .i64 s, .string p]] w fun e w' => e = .returned (.bool (dkB s p)) ∧ Below w.heap.size w w' := by
  have HP := Lib.hid fun W hM => impl_IsPicture p W (by omega) hM
  have HM := Lib.hid (hM.below ((Below.refl w.heap.size w).alloc (Nat.le_refl _) (.cells #[.int .i64 s, .string p] 26)))
  by_cases hs : 3 ≤ s ∧ s ≤ 24
  · obtain ⟨h1, h2⟩ := hs
    have HE : Hid (dkB s p = isPic p.data.toList) := Lib.hid (by simp [dkB, h1, h2])
    go_enter Tryd.func8, Tryd.ntmps8
    go_wp2_with (first
      | (go_at_call 15; refine (areSides_yes _ _ h1 h2).mono ?_; rintro e w' ⟨rfl, rfl⟩)
      | (go_at_call 16; refine (HP.out _ HM.out).mono ?_; rintro e w1 ⟨rfl, hb1⟩))
    go_ret
    exact ⟨by rw [HE.out]; rfl, ((Below.refl _ _).alloc (Nat.le_refl _) _).trans (hb1.mono (by simp))⟩
  · have HS : Hid (s < 3 ∨ 24 < s) := Lib.hid (by omega)
    have HE : Hid (dkB s p = false) := Lib.hid (by simp [dkB]; omega)
    clear hs
    go_enter Tryd.func8, Tryd.ntmps8
    go_wp2_with (go_at_call 15; refine (areSides_no _ _ HS.out).mono ?_; rintro e w' ⟨rfl, rfl⟩)
    go_ret
    exact ⟨by rw [HE.out]; rfl, (Below.refl _ _).alloc (Nat.le_refl _) _⟩
set_option maxHeartbeats 1600000 in
theorem walk_IsDesk (s : Int) (p : ByteArray) (w : World) (hp : p.size ≤ 9223372036854775807) (hM : MaxL w) :
    Calls Tryd.prog 3 #[.agg #[.int .i64 s, .string p]] w fun e w' => e = .returned (.bool true) ∧ Below w.heap.size w w' := by
  have c0 : (w.alloc (.cells #[.int .i64 s, .string p] 23)).cell? ⟨w.heap.size, 0, none⟩ = some (.int .i64 s) := by simp [go_sem]
  have c1 : (w.alloc (.cells #[.int .i64 s, .string p] 23)).cell? ⟨w.heap.size, 1, none⟩ = some (.string p) := by simp [go_sem]
  have HB : Below w.heap.size w (w.alloc (.cells #[.int .i64 s, .string p] 23)) := (Below.refl _ _).alloc (Nat.le_refl _) _
  have hl : w.heap.size < (w.alloc (.cells #[.int .i64 s, .string p] 23)).heap.size := by simp
  have HM := Lib.hid (hM.below HB)
  rcases Int.lt_or_le 1048576 p.size with h | h
  · have HZ := Lib.hid fun W => (by have := szDesk_any s p 1048576 W (by omega) (by omega) hp; rw [if_pos h] at this; exact this)
    go_enter Tryd.func3, Tryd.ntmps3
    go_wp2_with (go_at_call 5; refine (HZ.out _).mono ?_; rintro e w1 ⟨rfl, hb1⟩; replace c0 := (hb1.cell (p := ⟨w.heap.size, 0, none⟩) hl).trans c0; replace c1 := (hb1.cell (p := ⟨w.heap.size, 1, none⟩) hl).trans c1; replace HM := Lib.hid (HM.out.below hb1); replace HB := HB.trans (hb1.mono HB.size); replace hl := Nat.lt_of_lt_of_le hl hb1.size; clear hb1)
    go_ret
    exact ⟨rfl, HB⟩
  · have HZ := Lib.hid fun W => (by have := szDesk_any s p 1048576 W (by omega) (by omega) hp; rw [if_neg (by omega)] at this; exact this)
    have hz : p.size ≤ 1048576 := by omega
    go_enter Tryd.func3, Tryd.ntmps3
    go_wp2_with (first
      | (go_at_call 5; refine (HZ.out _).mono ?_; rintro e w1 ⟨rfl, hb1⟩; replace c0 := (hb1.cell (p := ⟨w.heap.size, 0, none⟩) hl).trans c0; replace c1 := (hb1.cell (p := ⟨w.heap.size, 1, none⟩) hl).trans c1; replace HM := Lib.hid (HM.out.below hb1); replace HB := HB.trans (hb1.mono HB.size); replace hl := Nat.lt_of_lt_of_le hl hb1.size; clear hb1)
      | (go_at_call 7; refine (toDesk_any _ _ _).mono ?_; rintro e w1 ⟨rfl, hb1⟩; replace c0 := (hb1.cell (p := ⟨w.heap.size, 0, none⟩) hl).trans c0; replace c1 := (hb1.cell (p := ⟨w.heap.size, 1, none⟩) hl).trans c1; replace HM := Lib.hid (HM.out.below hb1); replace HB := HB.trans (hb1.mono HB.size); replace hl := Nat.lt_of_lt_of_le hl hb1.size; clear hb1)
      | (go_at_call 6; refine (spec_IsDesk_any _ _ _ hz).mono ?_; rintro e w1 ⟨rfl, hb1⟩; replace c0 := (hb1.cell (p := ⟨w.heap.size, 0, none⟩) hl).trans c0; replace c1 := (hb1.cell (p := ⟨w.heap.size, 1, none⟩) hl).trans c1; replace HM := Lib.hid (HM.out.below hb1); replace HB := HB.trans (hb1.mono HB.size); replace hl := Nat.lt_of_lt_of_le hl hb1.size; clear hb1)
      | (go_at_call 8; refine (impl_IsDesk_any _ _ _ hz HM.out).mono ?_; rintro e w1 ⟨rfl, hb1⟩; replace c0 := (hb1.cell (p := ⟨w.heap.size, 0, none⟩) hl).trans c0; replace c1 := (hb1.cell (p := ⟨w.heap.size, 1, none⟩) hl).trans c1; replace HM := Lib.hid (HM.out.below hb1); replace HB := HB.trans (hb1.mono HB.size); replace hl := Nat.lt_of_lt_of_le hl hb1.size; clear hb1))
    go_ret
    exact ⟨rfl, HB⟩
end Go.Proofs.YtppdjjdejggjaaaDoor
