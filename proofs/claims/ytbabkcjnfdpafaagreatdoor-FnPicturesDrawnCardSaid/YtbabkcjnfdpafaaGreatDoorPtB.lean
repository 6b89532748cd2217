/- Chapter 7's law of pictures turned: what every function that it calls answers, one statement a function, said of the text's bytes. Condition, by the program: the library's variable of internal/bytealg holds some number. -/
import Derived.Test.YtbabkcjnfdpafaaGreatDoorPtA
import Derived.Test.YtbabkcjnfdpafaaGreatDoorDvC
import Derived.Test.YtbabkcjnfdpafaaGreatDoorMc
namespace Go.Proofs.YtbabkcjnfdpafaaGreatDoor
open Go.ChangeShapes Go.WideShapes Go.ChangeAt Go.RowKit

theorem MaxL.on {w w1 : World} (h : MaxL w) (hb : Below w.heap.size w w1) : MaxL w1 := h.below hb

theorem spec_IsPicture_L (l : List UInt8) (w : World) (hl : l.length ≤ 1048576) : Calls Tryz.prog 36 #[.string (bt l)] w fun e w' => e = .returned (.bool (isPic l)) ∧ Below w.heap.size w w' := by
  have q := spec_IsPicture (bt l) w (by rw [bt_size]; omega)
  rw [bt_list] at q
  exact q
theorem spec_CountDots_L (l : List UInt8) (w : World) (hl : l.length ≤ 1048576) : Calls Tryz.prog 32 #[.string (bt l)] w fun e w' => e = .returned (.tuple #[.int .i64 (doV l), .bool (isPic l)]) ∧ Below w.heap.size w w' := by
  have hz : (bt l).size ≤ 2000000 := by rw [bt_size]; omega
  cases h : isPic l with
  | true =>
    have q := spec_CountDots_yes (bt l) w (by omega) (by rw [bt_list]; exact h)
    simp only [bt_list] at q
    rw [doV, h, cond_true]
    exact q
  | false =>
    have q := spec_CountDots_no (bt l) w (by omega) (by rw [bt_list]; exact h)
    rw [doV, h, cond_false]
    exact q
theorem impl_TurnPicture_L (l : List UInt8) (w : World) (hl : l.length ≤ 1048576) (hM : MaxL w) : Calls Tryz.prog 20 #[.string (bt l)] w fun e w' => e = .returned (.tuple #[.string (bt (tuL l)), .bool (isPic l)]) ∧ Below w.heap.size w w' := by
  have hz : (bt l).size ≤ 2000000 := by rw [bt_size]; omega
  cases h : isPic l with
  | true =>
    have q := impl_TurnPicture_yes (bt l) w hz hM (by rw [bt_list]; exact h)
    simp only [bt_list] at q
    rw [tuL, h, cond_true]
    exact q
  | false =>
    have q := impl_TurnPicture_no (bt l) w hz hM (by rw [bt_list]; exact h)
    rw [tuL, h, cond_false]
    exact q

theorem impl_IsPicture_L (l : List UInt8) (w : World) (hl : l.length ≤ 1048576) (hM : MaxL w) : Calls Tryz.prog 35 #[.string (bt l)] w fun e w' => e = .returned (.bool (isPic l)) ∧ Below w.heap.size w w' := by
  have q := impl_IsPicture (bt l) w (by rw [bt_size]; omega) hM
  rw [bt_list] at q
  exact q
theorem impl_CountDots_L (l : List UInt8) (w : World) (hl : l.length ≤ 1048576) (hM : MaxL w) : Calls Tryz.prog 17 #[.string (bt l)] w fun e w' => e = .returned (.tuple #[.int .i64 (doV l), .bool (isPic l)]) ∧ Below w.heap.size w w' := by
  have hz : (bt l).size ≤ 2000000 := by rw [bt_size]; omega
  cases h : isPic l with
  | true =>
    have q := impl_CountDots_yes (bt l) w (by omega) hM (by rw [bt_list]; exact h)
    simp only [bt_list] at q
    rw [doV, h, cond_true]
    exact q
  | false =>
    have q := impl_CountDots_no (bt l) w (by omega) hM (by rw [bt_list]; exact h)
    rw [doV, h, cond_false]
    exact q
theorem impl_BelowPicture_L (l m : List UInt8) (w : World) (hl : l.length ≤ 1048576) (hm : m.length ≤ 1048576) (hM : MaxL w) : Calls Tryz.prog 21 #[.string (bt l), .string (bt m)] w fun e w' => e = .returned (.tuple #[.string (bt (blL l m)), .bool (blB l m)]) ∧ Below w.heap.size w w' := by
  have hz : (bt l).size ≤ 2000000 := by rw [bt_size]; omega
  have hy : (bt m).size ≤ 2000000 := by rw [bt_size]; omega
  cases ha : isPic l with
  | false =>
    have q := impl_BelowPicture_no (bt l) (bt m) w hz hy hM (.inl (by rw [bt_list]; exact ha))
    have e : blB l m = false := by simp [blB, ha]
    rw [blL, e, cond_false]
    exact q
  | true =>
    cases hb : isPic m with
    | false =>
      have q := impl_BelowPicture_no (bt l) (bt m) w hz hy hM (.inr (by rw [bt_list]; exact hb))
      have e : blB l m = false := by simp [blB, hb]
      rw [blL, e, cond_false]
      exact q
    | true =>
      have A : isPic (bt l).data.toList = true := by rw [bt_list]; exact ha
      have B : isPic (bt m).data.toList = true := by rw [bt_list]; exact hb
      by_cases hc : pW l = pW m ∧ pH l + pH m ≤ 24
      · have e : blB l m = true := by
          simp only [blB, ha, hb, Bool.true_and, decide_eq_true_eq]
          exact hc
        have C : pW (bt l).data.toList = pW (bt m).data.toList := by simp only [bt_list]; exact hc.1
        have q := impl_BelowPicture_yes (bt l) (bt m) w hz hy hM A B C
        simp only [bt_list] at q
        rw [if_pos hc.2] at q
        rw [blL, e, cond_true]
        exact q
      · have e : blB l m = false := by
          simp only [blB, ha, hb, Bool.true_and, decide_eq_false_iff_not]
          exact hc
        rw [blL, e, cond_false]
        by_cases hd : pW l = pW m
        · have q := impl_BelowPicture_yes (bt l) (bt m) w hz hy hM A B (by simp only [bt_list]; exact hd)
          simp only [bt_list] at q
          rw [if_neg (fun h => hc ⟨hd, h⟩)] at q
          exact q
        · have q := impl_BelowPicture_apart (bt l) (bt m) w hz hy hM A B (by simp only [bt_list]; exact hd)
          exact q

end Go.Proofs.YtbabkcjnfdpafaaGreatDoor
