/- Chapter 7's law of pictures turned: what every function that it calls answers, one statement a function, said of the text's bytes. Condition, by the program: the library's variable of internal/bytealg holds some number. -/
import Derived.Test.YtmcdmacpgjkelaaDoorPtA
import Derived.Test.YtmcdmacpgjkelaaDoorDvC
import Derived.Test.YtmcdmacpgjkelaaDoorMc
namespace Go.Proofs.YtmcdmacpgjkelaaDoor
open Go.ChangeShapes Go.WideShapes Go.ChangeAt Go.RowKit

theorem MaxL.on {w w1 : World} (h : MaxL w) (hb : Below w.heap.size w w1) : MaxL w1 := h.below hb

theorem spec_TurnPicture_L (l : List UInt8) (w : World) (hl : l.length ≤ 1048576) : Calls Tryd.prog 8 #[.string (bt l)] w fun e w' => e = .returned (.tuple #[.string (bt (tuL l)), .bool (isPic l)]) ∧ Below w.heap.size w w' := by
  have hz : (bt l).size ≤ 2000000 := by rw [bt_size]; omega
  cases h : isPic l with
  | true =>
    have q := spec_TurnPicture_yes (bt l) _ _ _ _ w (isP_of (bt l) hz (by rw [bt_list]; exact h))
    simp only [bt_list] at q
    rw [tuL, h, cond_true]
    exact q
  | false =>
    have q := spec_TurnPicture_no (bt l) w hz (by rw [bt_list]; exact h)
    rw [tuL, h, cond_false]
    exact q

theorem spec_MirrorPicture_L (l : List UInt8) (w : World) (hl : l.length ≤ 1048576) : Calls Tryd.prog 10 #[.string (bt l)] w fun e w' => e = .returned (.tuple #[.string (bt (miL l)), .bool (isPic l)]) ∧ Below w.heap.size w w' := by
  have hz : (bt l).size ≤ 2000000 := by rw [bt_size]; omega
  cases h : isPic l with
  | true =>
    have q := spec_MirrorPicture_yes (bt l) _ _ _ _ w (isP_of (bt l) hz (by rw [bt_list]; exact h))
    simp only [bt_list] at q
    rw [miL, h, cond_true]
    exact q
  | false =>
    have q := spec_MirrorPicture_no (bt l) w hz (by rw [bt_list]; exact h)
    rw [miL, h, cond_false]
    exact q

theorem spec_OtherDots_L (l : List UInt8) (w : World) (hl : l.length ≤ 1048576) : Calls Tryd.prog 12 #[.string (bt l)] w fun e w' => e = .returned (.tuple #[.string (bt (otL l)), .bool (isPic l)]) ∧ Below w.heap.size w w' := by
  have hz : (bt l).size ≤ 2000000 := by rw [bt_size]; omega
  cases h : isPic l with
  | true =>
    have q := spec_OtherDots_yes (bt l) _ _ _ _ w (isP_of (bt l) hz (by rw [bt_list]; exact h))
    simp only [bt_list] at q
    rw [otL, h, cond_true]
    exact q
  | false =>
    have q := spec_OtherDots_no (bt l) w hz (by rw [bt_list]; exact h)
    rw [otL, h, cond_false]
    exact q

theorem spec_LeastPicture_L (l : List UInt8) (w : World) (hl : l.length ≤ 1048576) : Calls Tryd.prog 14 #[.string (bt l)] w fun e w' => e = .returned (.tuple #[.string (bt (leL l)), .bool (isPic l)]) ∧ Below w.heap.size w w' := by
  have hz : (bt l).size ≤ 2000000 := by rw [bt_size]; omega
  cases h : isPic l with
  | true =>
    have q := spec_LeastPicture_yes (bt l) _ _ _ _ w (isP_of (bt l) hz (by rw [bt_list]; exact h)) (by rw [bt_list]; exact (pic_b h).h1)
    simp only [bt_list] at q
    rw [leL, h, cond_true]
    exact q
  | false =>
    have q := spec_LeastPicture_no (bt l) w hz (by rw [bt_list]; exact h)
    rw [leL, h, cond_false]
    exact q

theorem spec_IsPicture_L (l : List UInt8) (w : World) (hl : l.length ≤ 1048576) : Calls Tryd.prog 65 #[.string (bt l)] w fun e w' => e = .returned (.bool (isPic l)) ∧ Below w.heap.size w w' := by
  have q := spec_IsPicture (bt l) w (by rw [bt_size]; omega)
  rw [bt_list] at q
  exact q
theorem spec_SizeOfPicture_L (l : List UInt8) (w : World) (hl : l.length ≤ 1048576) : Calls Tryd.prog 16 #[.string (bt l)] w fun e w' => e = .returned (.tuple #[.int .i64 (wiV l), .int .i64 (hiV l), .bool (isPic l)]) ∧ Below w.heap.size w w' := by
  have hz : (bt l).size ≤ 2000000 := by rw [bt_size]; omega
  cases h : isPic l with
  | true =>
    have q := spec_SizeOfPicture_yes (bt l) w (by omega) (by rw [bt_list]; exact h)
    simp only [bt_list] at q
    rw [wiV, hiV, h, cond_true, cond_true]
    exact q
  | false =>
    have q := spec_SizeOfPicture_no (bt l) w (by omega) (by rw [bt_list]; exact h)
    rw [wiV, hiV, h, cond_false, cond_false]
    exact q

theorem spec_BesidePicture_L (l m : List UInt8) (w : World) (hl : l.length ≤ 1048576) (hm : m.length ≤ 1048576) : Calls Tryd.prog 21 #[.string (bt l), .string (bt m)] w fun e w' => e = .returned (.tuple #[.string (bt (bsL l m)), .bool (bsB l m)]) ∧ Below w.heap.size w w' := by
  have hz : (bt l).size ≤ 2000000 := by rw [bt_size]; omega
  have hy : (bt m).size ≤ 2000000 := by rw [bt_size]; omega
  cases ha : isPic l with
  | false =>
    have q := spec_BesidePicture_no (bt l) (bt m) w hz hy (.inl (by rw [bt_list]; exact ha))
    have e : bsB l m = false := by simp [bsB, ha]
    rw [bsL, e, cond_false]
    exact q
  | true =>
    cases hb : isPic m with
    | false =>
      have q := spec_BesidePicture_no (bt l) (bt m) w hz hy (.inr (by rw [bt_list]; exact hb))
      have e : bsB l m = false := by simp [bsB, hb]
      rw [bsL, e, cond_false]
      exact q
    | true =>
      have A : isPic (bt l).data.toList = true := by rw [bt_list]; exact ha
      have B : isPic (bt m).data.toList = true := by rw [bt_list]; exact hb
      by_cases hc : pH l = pH m ∧ pW l + pW m ≤ 24
      · have e : bsB l m = true := by
          simp only [bsB, ha, hb, Bool.true_and, decide_eq_true_eq]
          exact hc
        have C : pH (bt l).data.toList = pH (bt m).data.toList := by simp only [bt_list]; exact hc.1
        have q := spec_BesidePicture_both (bt l) (bt m) w hz hy A B C (by simp only [bt_list]; exact hc.2)
        simp only [bt_list] at q
        rw [bsL, e, cond_true]
        exact q
      · have e : bsB l m = false := by
          simp only [bsB, ha, hb, Bool.true_and, decide_eq_false_iff_not]
          exact hc
        have q := spec_BesidePicture_apart (bt l) (bt m) w hz hy A B (by simp only [bt_list]; exact hc)
        rw [bsL, e, cond_false]
        exact q

theorem spec_BelowPicture_L (l m : List UInt8) (w : World) (hl : l.length ≤ 1048576) (hm : m.length ≤ 1048576) : Calls Tryd.prog 23 #[.string (bt l), .string (bt m)] w fun e w' => e = .returned (.tuple #[.string (bt (blL l m)), .bool (blB l m)]) ∧ Below w.heap.size w w' := by
  have hz : (bt l).size ≤ 2000000 := by rw [bt_size]; omega
  have hy : (bt m).size ≤ 2000000 := by rw [bt_size]; omega
  cases ha : isPic l with
  | false =>
    have q := spec_BelowPicture_no (bt l) (bt m) w hz hy (.inl (by rw [bt_list]; exact ha))
    have e : blB l m = false := by simp [blB, ha]
    rw [blL, e, cond_false]
    exact q
  | true =>
    cases hb : isPic m with
    | false =>
      have q := spec_BelowPicture_no (bt l) (bt m) w hz hy (.inr (by rw [bt_list]; exact hb))
      have e : blB l m = false := by simp [blB, hb]
      rw [blL, e, cond_false]
      exact q
    | true =>
      have A : isPic (bt l).data.toList = true := by rw [bt_list]; exact ha
      have B : isPic (bt m).data.toList = true := by rw [bt_list]; exact hb
      by_cases hc : pW l = pW m ∧ pH l + pH m ≤ 24
      · have e : blB l m = true := by
          simp only [blB, ha, hb, Bool.true_and, decide_eq_true_eq]
          exact hc
        have C : pW (bt l).data.toList = pW (bt m).data.toList := by simp only [bt_list]; exact hc.1
        have q := spec_BelowPicture_both (bt l) (bt m) w A B C (by simp only [bt_list]; exact hc.2)
        simp only [bt_list] at q
        rw [blL, e, cond_true]
        exact q
      · have e : blB l m = false := by
          simp only [blB, ha, hb, Bool.true_and, decide_eq_false_iff_not]
          exact hc
        have q := spec_BelowPicture_apart (bt l) (bt m) w A B (by simp only [bt_list]; exact hc)
        rw [blL, e, cond_false]
        exact q

theorem impl_TurnPicture_L (l : List UInt8) (w : World) (hl : l.length ≤ 1048576) (hM : MaxL w) : Calls Tryd.prog 7 #[.string (bt l)] w fun e w' => e = .returned (.tuple #[.string (bt (tuL l)), .bool (isPic l)]) ∧ Below w.heap.size w w' := by
  have hz : (bt l).size ≤ 2000000 := by rw [bt_size]; omega
  cases h : isPic l with
  | true =>
    have q := impl_TurnPicture_yes (bt l) w hz hM (by rw [bt_list]; exact h)
    simp only [bt_list] at q
    rw [tuL, h, cond_true]
    exact q
  | false =>
    have q := impl_TurnPicture_no (bt l) w hz hM (by rw [bt_list]; exact h)
    rw [tuL, h, cond_false]
    exact q

theorem impl_MirrorPicture_L (l : List UInt8) (w : World) (hl : l.length ≤ 1048576) (hM : MaxL w) : Calls Tryd.prog 9 #[.string (bt l)] w fun e w' => e = .returned (.tuple #[.string (bt (miL l)), .bool (isPic l)]) ∧ Below w.heap.size w w' := by
  have hz : (bt l).size ≤ 2000000 := by rw [bt_size]; omega
  cases h : isPic l with
  | true =>
    have q := impl_MirrorPicture_yes (bt l) w hz hM (by rw [bt_list]; exact h)
    simp only [bt_list] at q
    rw [miL, h, cond_true]
    exact q
  | false =>
    have q := impl_MirrorPicture_no (bt l) w hz hM (by rw [bt_list]; exact h)
    rw [miL, h, cond_false]
    exact q

theorem impl_OtherDots_L (l : List UInt8) (w : World) (hl : l.length ≤ 1048576) (hM : MaxL w) : Calls Tryd.prog 11 #[.string (bt l)] w fun e w' => e = .returned (.tuple #[.string (bt (otL l)), .bool (isPic l)]) ∧ Below w.heap.size w w' := by
  have hz : (bt l).size ≤ 2000000 := by rw [bt_size]; omega
  cases h : isPic l with
  | true =>
    have q := impl_OtherDots_yes (bt l) w hz hM (by rw [bt_list]; exact h)
    simp only [bt_list] at q
    rw [otL, h, cond_true]
    exact q
  | false =>
    have q := impl_OtherDots_no (bt l) w hz hM (by rw [bt_list]; exact h)
    rw [otL, h, cond_false]
    exact q

theorem impl_LeastPicture_L (l : List UInt8) (w : World) (hl : l.length ≤ 1048576) (hM : MaxL w) : Calls Tryd.prog 13 #[.string (bt l)] w fun e w' => e = .returned (.tuple #[.string (bt (leL l)), .bool (isPic l)]) ∧ Below w.heap.size w w' := by
  have hz : (bt l).size ≤ 2000000 := by rw [bt_size]; omega
  cases h : isPic l with
  | true =>
    have q := impl_LeastPicture_yes (bt l) w hz hM (by rw [bt_list]; exact h)
    simp only [bt_list] at q
    rw [leL, h, cond_true]
    exact q
  | false =>
    have q := impl_LeastPicture_no (bt l) w hz hM (by rw [bt_list]; exact h)
    rw [leL, h, cond_false]
    exact q

theorem impl_IsPicture_L (l : List UInt8) (w : World) (hl : l.length ≤ 1048576) (hM : MaxL w) : Calls Tryd.prog 17 #[.string (bt l)] w fun e w' => e = .returned (.bool (isPic l)) ∧ Below w.heap.size w w' := by
  have q := impl_IsPicture (bt l) w (by rw [bt_size]; omega) hM
  rw [bt_list] at q
  exact q
theorem impl_CountDots_L (l : List UInt8) (w : World) (hl : l.length ≤ 1048576) (hM : MaxL w) : Calls Tryd.prog 18 #[.string (bt l)] w fun e w' => e = .returned (.tuple #[.int .i64 (doV l), .bool (isPic l)]) ∧ Below w.heap.size w w' := by
  have hz : (bt l).size ≤ 2000000 := by rw [bt_size]; omega
  cases h : isPic l with
  | true =>
    have q := impl_CountDots_yes (bt l) w (by omega) hM (by rw [bt_list]; exact h)
    simp only [bt_list] at q
    rw [doV, h, cond_true]
    exact q
  | false =>
    have q := impl_CountDots_no (bt l) w (by omega) hM (by rw [bt_list]; exact h)
    rw [doV, h, cond_false]
    exact q
theorem impl_SizeOfPicture_L (l : List UInt8) (w : World) (hl : l.length ≤ 1048576) (hM : MaxL w) : Calls Tryd.prog 15 #[.string (bt l)] w fun e w' => e = .returned (.tuple #[.int .i64 (wiV l), .int .i64 (hiV l), .bool (isPic l)]) ∧ Below w.heap.size w w' := by
  have hz : (bt l).size ≤ 2000000 := by rw [bt_size]; omega
  cases h : isPic l with
  | true =>
    have q := impl_SizeOfPicture_yes (bt l) w (by omega) hM (by rw [bt_list]; exact h)
    simp only [bt_list] at q
    rw [wiV, hiV, h, cond_true, cond_true]
    exact q
  | false =>
    have q := impl_SizeOfPicture_no (bt l) w (by omega) hM (by rw [bt_list]; exact h)
    rw [wiV, hiV, h, cond_false, cond_false]
    exact q

theorem impl_BesidePicture_L (l m : List UInt8) (w : World) (hl : l.length ≤ 1048576) (hm : m.length ≤ 1048576) (hM : MaxL w) : Calls Tryd.prog 20 #[.string (bt l), .string (bt m)] w fun e w' => e = .returned (.tuple #[.string (bt (bsL l m)), .bool (bsB l m)]) ∧ Below w.heap.size w w' := by
  have hz : (bt l).size ≤ 2000000 := by rw [bt_size]; omega
  have hy : (bt m).size ≤ 2000000 := by rw [bt_size]; omega
  cases ha : isPic l with
  | false =>
    have q := impl_BesidePicture_no (bt l) (bt m) w hz hy hM (.inl (by rw [bt_list]; exact ha))
    have e : bsB l m = false := by simp [bsB, ha]
    rw [bsL, e, cond_false]
    exact q
  | true =>
    cases hb : isPic m with
    | false =>
      have q := impl_BesidePicture_no (bt l) (bt m) w hz hy hM (.inr (by rw [bt_list]; exact hb))
      have e : bsB l m = false := by simp [bsB, hb]
      rw [bsL, e, cond_false]
      exact q
    | true =>
      have A : isPic (bt l).data.toList = true := by rw [bt_list]; exact ha
      have B : isPic (bt m).data.toList = true := by rw [bt_list]; exact hb
      by_cases hc : pH l = pH m ∧ pW l + pW m ≤ 24
      · have e : bsB l m = true := by
          simp only [bsB, ha, hb, Bool.true_and, decide_eq_true_eq]
          exact hc
        have C : pH (bt l).data.toList = pH (bt m).data.toList := by simp only [bt_list]; exact hc.1
        have q := impl_BesidePicture_yes (bt l) (bt m) w hz hy hM A B C
        simp only [bt_list] at q
        rw [if_pos hc.2] at q
        rw [bsL, e, cond_true]
        exact q
      · have e : bsB l m = false := by
          simp only [bsB, ha, hb, Bool.true_and, decide_eq_false_iff_not]
          exact hc
        rw [bsL, e, cond_false]
        by_cases hd : pH l = pH m
        · have q := impl_BesidePicture_yes (bt l) (bt m) w hz hy hM A B (by simp only [bt_list]; exact hd)
          simp only [bt_list] at q
          rw [if_neg (fun h => hc ⟨hd, h⟩)] at q
          exact q
        · have q := impl_BesidePicture_apart (bt l) (bt m) w hz hy hM A B (by simp only [bt_list]; exact hd)
          exact q

theorem impl_BelowPicture_L (l m : List UInt8) (w : World) (hl : l.length ≤ 1048576) (hm : m.length ≤ 1048576) (hM : MaxL w) : Calls Tryd.prog 22 #[.string (bt l), .string (bt m)] w fun e w' => e = .returned (.tuple #[.string (bt (blL l m)), .bool (blB l m)]) ∧ Below w.heap.size w w' := by
  have hz : (bt l).size ≤ 2000000 := by rw [bt_size]; omega
  have hy : (bt m).size ≤ 2000000 := by rw [bt_size]; omega
  cases ha : isPic l with
  | false =>
    have q := impl_BelowPicture_no (bt l) (bt m) w hz hy hM (.inl (by rw [bt_list]; exact ha))
    have e : blB l m = false := by simp [blB, ha]
    rw [blL, e, cond_false]
    exact q
  | true =>
    cases hb : isPic m with
    | false =>
      have q := impl_BelowPicture_no (bt l) (bt m) w hz hy hM (.inr (by rw [bt_list]; exact hb))
      have e : blB l m = false := by simp [blB, hb]
      rw [blL, e, cond_false]
      exact q
    | true =>
      have A : isPic (bt l).data.toList = true := by rw [bt_list]; exact ha
      have B : isPic (bt m).data.toList = true := by rw [bt_list]; exact hb
      by_cases hc : pW l = pW m ∧ pH l + pH m ≤ 24
      · have e : blB l m = true := by
          simp only [blB, ha, hb, Bool.true_and, decide_eq_true_eq]
          exact hc
        have C : pW (bt l).data.toList = pW (bt m).data.toList := by simp only [bt_list]; exact hc.1
        have q := impl_BelowPicture_yes (bt l) (bt m) w hz hy hM A B C
        simp only [bt_list] at q
        rw [if_pos hc.2] at q
        rw [blL, e, cond_true]
        exact q
      · have e : blB l m = false := by
          simp only [blB, ha, hb, Bool.true_and, decide_eq_false_iff_not]
          exact hc
        rw [blL, e, cond_false]
        by_cases hd : pW l = pW m
        · have q := impl_BelowPicture_yes (bt l) (bt m) w hz hy hM A B (by simp only [bt_list]; exact hd)
          simp only [bt_list] at q
          rw [if_neg (fun h => hc ⟨hd, h⟩)] at q
          exact q
        · have q := impl_BelowPicture_apart (bt l) (bt m) w hz hy hM A B (by simp only [bt_list]; exact hd)
          exact q

end Go.Proofs.YtmcdmacpgjkelaaDoor
