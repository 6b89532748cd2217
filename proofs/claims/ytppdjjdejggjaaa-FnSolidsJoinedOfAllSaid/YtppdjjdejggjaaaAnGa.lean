/- The law FnSolidsJoinedOfAll, walked: whatever the arguments it answers true. No condition. -/
import Derived.Test.YtppdjjdejggjaaaBase
import Derived.Test.YtppdjjdejggjaaaAnA
import Derived.Test.YtppdjjdejggjaaaAnF
import Derived.Lib.Hide
import Derived.Deep.Cut
namespace Go.Proofs.Ytppdjjdejggjaaa
open Go.ChangeShapes Go.WideShapes Go.ChangeAt Go.RowKit

set_option maxRecDepth 4000 in
set_option maxHeartbeats 16000000 in
theorem solids_no (k d m e n : Int) (w : World) (hk : ksB k = false) (hc : kcB k = false) :
    Calls Try.prog 6 #[.int .i64 k, .int .i64 d, .int .i64 m, .int .i64 e, .int .i64 n] w fun e w' => e = .returned (.bool true) ∧ Below w.heap.size w w' := by
  have HB : Below w.heap.size w w := Below.refl _ _

  go_enter Try.func6, Try.ntmps6
  go_upto_region 13 with (first
      | (go_at_call 41; refine (impl_OctahedronNumber_any _ _).mono ?_; rintro e w1 ⟨rfl, hb1⟩; replace HB := HB.trans (hb1.mono HB.size); clear hb1)
      | (go_at_call 42; refine (spec_OctahedronNumber_any _ _).mono ?_; rintro e w1 ⟨rfl, hb1⟩; replace HB := HB.trans (hb1.mono HB.size); clear hb1)
      | (go_at_call 43; refine (impl_CubeNumber_any _ _).mono ?_; rintro e w1 ⟨rfl, hb1⟩; replace HB := HB.trans (hb1.mono HB.size); clear hb1)
      | (go_at_call 44; refine (spec_CubeNumber_any _ _).mono ?_; rintro e w1 ⟨rfl, hb1⟩; replace HB := HB.trans (hb1.mono HB.size); clear hb1)
      | (go_at_call 45; refine (impl_StarNumber_any _ _).mono ?_; rintro e w1 ⟨rfl, hb1⟩; replace HB := HB.trans (hb1.mono HB.size); clear hb1)
      | (go_at_call 46; refine (spec_StarNumber_any _ _).mono ?_; rintro e w1 ⟨rfl, hb1⟩; replace HB := HB.trans (hb1.mono HB.size); clear hb1)
      | (go_at_call 47; refine (impl_SumOfSquares_any _ _).mono ?_; rintro e w1 ⟨rfl, hb1⟩; replace HB := HB.trans (hb1.mono HB.size); clear hb1)
      | (go_at_call 48; refine (spec_SumOfSquares_any _ _).mono ?_; rintro e w1 ⟨rfl, hb1⟩; replace HB := HB.trans (hb1.mono HB.size); clear hb1)
      | (go_at_call 49; refine (impl_SumOfCubes_any _ _).mono ?_; rintro e w1 ⟨rfl, hb1⟩; replace HB := HB.trans (hb1.mono HB.size); clear hb1)
      | (go_at_call 50; refine (spec_SumOfCubes_any _ _).mono ?_; rintro e w1 ⟨rfl, hb1⟩; replace HB := HB.trans (hb1.mono HB.size); clear hb1)
      | (go_at_call 51; refine (impl_CentredCube_any _ _).mono ?_; rintro e w1 ⟨rfl, hb1⟩; replace HB := HB.trans (hb1.mono HB.size); clear hb1)
      | (go_at_call 52; refine (spec_CentredCube_any _ _).mono ?_; rintro e w1 ⟨rfl, hb1⟩; replace HB := HB.trans (hb1.mono HB.size); clear hb1))
  simp only [List.append]
  go_wp2_with (fail)
  rcases Bool.eq_false_or_eq_true (smB d m) with hm | hm
  · obtain ⟨m1, m2, m3, m4, m5, m6, m7, m8, m9⟩ := smp_of hm
    by_cases hd : d = 1
    · have hq := smp_one hm hd
      subst hd
      rw [hq] at m2 m3
      rcases Bool.eq_false_or_eq_true (spB e n) with hp | hp
      case' inl => obtain ⟨e1, e2⟩ := spl_of hp
      all_goals
        go_wp2_with (first
            | (go_at_call 54; refine (impl_SimplexNumber_any _ _ _).mono ?_; rintro e w1 ⟨rfl, hb1⟩; replace HB := HB.trans (hb1.mono HB.size); clear hb1)
            | (go_at_call 55; refine (spec_SimplexNumber_any _ _ _).mono ?_; rintro e w1 ⟨rfl, hb1⟩; replace HB := HB.trans (hb1.mono HB.size); clear hb1)
            | (go_at_call 56; refine (impl_SimplexPlace_any _ _ _).mono ?_; rintro e w1 ⟨rfl, hb1⟩; replace HB := HB.trans (hb1.mono HB.size); clear hb1)
            | (go_at_call 57; refine (spec_SimplexPlace_any _ _ _).mono ?_; rintro e w1 ⟨rfl, hb1⟩; replace HB := HB.trans (hb1.mono HB.size); clear hb1)
            | (go_at_call 53; refine (impl_PyramidNumber_any _ _ _).mono ?_; rintro e w1 ⟨rfl, hb1⟩; replace HB := HB.trans (hb1.mono HB.size); clear hb1))
        go_ret
        exact ⟨rfl, HB⟩
    · have hd1 : 1 < d := by omega
      have hd2 : (d == 1) = false := by simpa using hd
      rcases Int.lt_or_le 0 m with h0 | h0
      · obtain ⟨q1, q2, q3, q4, q5, q6, q7⟩ := smq_of hm hd1 h0
        by_cases hd3 : d = 3
        · obtain ⟨y1, y2⟩ := smp_three hm hd3
          subst hd3
          rw [show (3 : Int) - 1 = 2 from rfl] at q2 q3 q6 q7
          rcases Bool.eq_false_or_eq_true (spB e n) with hp | hp
          case' inl => obtain ⟨e1, e2⟩ := spl_of hp
          all_goals
            go_wp2_with (first
                | (go_at_call 54; refine (impl_SimplexNumber_any _ _ _).mono ?_; rintro e w1 ⟨rfl, hb1⟩; replace HB := HB.trans (hb1.mono HB.size); clear hb1)
                | (go_at_call 55; refine (spec_SimplexNumber_any _ _ _).mono ?_; rintro e w1 ⟨rfl, hb1⟩; replace HB := HB.trans (hb1.mono HB.size); clear hb1)
                | (go_at_call 56; refine (impl_SimplexPlace_any _ _ _).mono ?_; rintro e w1 ⟨rfl, hb1⟩; replace HB := HB.trans (hb1.mono HB.size); clear hb1)
                | (go_at_call 57; refine (spec_SimplexPlace_any _ _ _).mono ?_; rintro e w1 ⟨rfl, hb1⟩; replace HB := HB.trans (hb1.mono HB.size); clear hb1)
                | (go_at_call 53; refine (impl_PyramidNumber_any _ _ _).mono ?_; rintro e w1 ⟨rfl, hb1⟩; replace HB := HB.trans (hb1.mono HB.size); clear hb1))
            go_ret
            exact ⟨rfl, HB⟩
        · have hd4 : (d == 3) = false := by simpa using hd3
          rcases Bool.eq_false_or_eq_true (spB e n) with hp | hp
          case' inl => obtain ⟨e1, e2⟩ := spl_of hp
          all_goals
            go_wp2_with (first
                | (go_at_call 54; refine (impl_SimplexNumber_any _ _ _).mono ?_; rintro e w1 ⟨rfl, hb1⟩; replace HB := HB.trans (hb1.mono HB.size); clear hb1)
                | (go_at_call 55; refine (spec_SimplexNumber_any _ _ _).mono ?_; rintro e w1 ⟨rfl, hb1⟩; replace HB := HB.trans (hb1.mono HB.size); clear hb1)
                | (go_at_call 56; refine (impl_SimplexPlace_any _ _ _).mono ?_; rintro e w1 ⟨rfl, hb1⟩; replace HB := HB.trans (hb1.mono HB.size); clear hb1)
                | (go_at_call 57; refine (spec_SimplexPlace_any _ _ _).mono ?_; rintro e w1 ⟨rfl, hb1⟩; replace HB := HB.trans (hb1.mono HB.size); clear hb1)
                | (go_at_call 53; refine (impl_PyramidNumber_any _ _ _).mono ?_; rintro e w1 ⟨rfl, hb1⟩; replace HB := HB.trans (hb1.mono HB.size); clear hb1))
            go_ret
            exact ⟨rfl, HB⟩
      · by_cases hd3 : d = 3
        · obtain ⟨y1, y2⟩ := smp_three hm hd3
          subst hd3
          rcases Bool.eq_false_or_eq_true (spB e n) with hp | hp
          case' inl => obtain ⟨e1, e2⟩ := spl_of hp
          all_goals
            go_wp2_with (first
                | (go_at_call 54; refine (impl_SimplexNumber_any _ _ _).mono ?_; rintro e w1 ⟨rfl, hb1⟩; replace HB := HB.trans (hb1.mono HB.size); clear hb1)
                | (go_at_call 55; refine (spec_SimplexNumber_any _ _ _).mono ?_; rintro e w1 ⟨rfl, hb1⟩; replace HB := HB.trans (hb1.mono HB.size); clear hb1)
                | (go_at_call 56; refine (impl_SimplexPlace_any _ _ _).mono ?_; rintro e w1 ⟨rfl, hb1⟩; replace HB := HB.trans (hb1.mono HB.size); clear hb1)
                | (go_at_call 57; refine (spec_SimplexPlace_any _ _ _).mono ?_; rintro e w1 ⟨rfl, hb1⟩; replace HB := HB.trans (hb1.mono HB.size); clear hb1)
                | (go_at_call 53; refine (impl_PyramidNumber_any _ _ _).mono ?_; rintro e w1 ⟨rfl, hb1⟩; replace HB := HB.trans (hb1.mono HB.size); clear hb1))
            go_ret
            exact ⟨rfl, HB⟩
        · have hd4 : (d == 3) = false := by simpa using hd3
          rcases Bool.eq_false_or_eq_true (spB e n) with hp | hp
          case' inl => obtain ⟨e1, e2⟩ := spl_of hp
          all_goals
            go_wp2_with (first
                | (go_at_call 54; refine (impl_SimplexNumber_any _ _ _).mono ?_; rintro e w1 ⟨rfl, hb1⟩; replace HB := HB.trans (hb1.mono HB.size); clear hb1)
                | (go_at_call 55; refine (spec_SimplexNumber_any _ _ _).mono ?_; rintro e w1 ⟨rfl, hb1⟩; replace HB := HB.trans (hb1.mono HB.size); clear hb1)
                | (go_at_call 56; refine (impl_SimplexPlace_any _ _ _).mono ?_; rintro e w1 ⟨rfl, hb1⟩; replace HB := HB.trans (hb1.mono HB.size); clear hb1)
                | (go_at_call 57; refine (spec_SimplexPlace_any _ _ _).mono ?_; rintro e w1 ⟨rfl, hb1⟩; replace HB := HB.trans (hb1.mono HB.size); clear hb1)
                | (go_at_call 53; refine (impl_PyramidNumber_any _ _ _).mono ?_; rintro e w1 ⟨rfl, hb1⟩; replace HB := HB.trans (hb1.mono HB.size); clear hb1))
            go_ret
            exact ⟨rfl, HB⟩
  · rcases Bool.eq_false_or_eq_true (spB e n) with hp | hp
    case' inl => obtain ⟨e1, e2⟩ := spl_of hp
    all_goals
      go_wp2_with (first
          | (go_at_call 54; refine (impl_SimplexNumber_any _ _ _).mono ?_; rintro e w1 ⟨rfl, hb1⟩; replace HB := HB.trans (hb1.mono HB.size); clear hb1)
          | (go_at_call 55; refine (spec_SimplexNumber_any _ _ _).mono ?_; rintro e w1 ⟨rfl, hb1⟩; replace HB := HB.trans (hb1.mono HB.size); clear hb1)
          | (go_at_call 56; refine (impl_SimplexPlace_any _ _ _).mono ?_; rintro e w1 ⟨rfl, hb1⟩; replace HB := HB.trans (hb1.mono HB.size); clear hb1)
          | (go_at_call 57; refine (spec_SimplexPlace_any _ _ _).mono ?_; rintro e w1 ⟨rfl, hb1⟩; replace HB := HB.trans (hb1.mono HB.size); clear hb1)
          | (go_at_call 53; refine (impl_PyramidNumber_any _ _ _).mono ?_; rintro e w1 ⟨rfl, hb1⟩; replace HB := HB.trans (hb1.mono HB.size); clear hb1))
      go_ret
      exact ⟨rfl, HB⟩
end Go.Proofs.Ytppdjjdejggjaaa
