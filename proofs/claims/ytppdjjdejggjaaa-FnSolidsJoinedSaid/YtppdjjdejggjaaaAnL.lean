/- The law FnSolidsJoined, walked: whatever the bytes it answers true. No condition. -/
import Derived.Test.YtppdjjdejggjaaaBase
import Derived.Test.YtppdjjdejggjaaaAnA
import Derived.Test.YtppdjjdejggjaaaAnF
import Derived.Test.YtppdjjdejggjaaaDrD
import Derived.Lib.Hide
import Derived.Deep.Cut
namespace Go.Proofs.Ytppdjjdejggjaaa
open Go.ChangeShapes Go.WideShapes Go.ChangeAt Go.RowKit

theorem ks_cases (k : Int) : (ksB k = false ∧ kcB k = false) ∨ (ksB k = true ∧ k = 0 ∧ kcB k = false) ∨ (ksB k = true ∧ 0 < k) := by
  rcases Bool.eq_false_or_eq_true (ksB k) with h | h
  · rcases Int.lt_or_le 0 k with a | a
    · exact Or.inr (Or.inr ⟨h, a⟩)
    · refine Or.inr (Or.inl ⟨h, ?_, ?_⟩)
      · have := (ks_iff.1 h).1; omega
      · simp [kcB]; omega
  · refine Or.inl ⟨h, ?_⟩
    simp [ksB] at h
    simp [kcB]
    omega
set_option maxRecDepth 4000 in
set_option maxHeartbeats 32000000 in
theorem walk_SolidsJoined (A' : Option Addr) (n' a' : Nat) (B' : Option Addr) (m' c' : Nat) (w : World) (hn : n' ≤ 9223372036854775807) (hx : Bys w A' n') (hm' : m' ≤ 9223372036854775807) (hy : Bys w B' m') :
    Calls Try.prog 7 #[.slice A' n' a', .slice B' m' c'] w fun e w' => e = .returned (.bool true) ∧ Below w.heap.size w w' := by
  rcases Bool.eq_false_or_eq_true (bgB n' m') with hg | hg
  · go_enter Try.func7, Try.ntmps7
    go_wp2_with (go_at_call 37; refine (big_any _ _ _ _ _ _ _ hn hm').mono ?_; rintro e w' ⟨rfl, rfl⟩)
    go_ret
    exact ⟨rfl, Below.refl _ _⟩
  · obtain ⟨g1, g2⟩ := bg_no hg
    go_enter Try.func7, Try.ntmps7
    go_wp2_with (go_at_call 37; refine (big_any _ _ _ _ _ _ _ hn hm').mono ?_; rintro e w' ⟨rfl, rfl⟩)
    refine (DrawOctahedronNumber_any A' n' a' _ hx (by omega)).mono ?_
    rintro e w1 ⟨⟨k, rfl⟩, hb1⟩
    have HB := hb1
    clear hb1
    rcases ks_cases k with ⟨hk, hc⟩ | ⟨hk, rfl, hc⟩ | ⟨hk, h0k⟩
    · go_upto_region 16 with (first
            | (go_at_call 41; refine (impl_OctahedronNumber_any _ _).mono ?_; rintro e w1 ⟨rfl, hb1⟩; replace HB := HB.trans (hb1.mono HB.size); clear hb1)
            | (go_at_call 42; refine (spec_OctahedronNumber_any _ _).mono ?_; rintro e w1 ⟨rfl, hb1⟩; replace HB := HB.trans (hb1.mono HB.size); clear hb1)
            | (go_at_call 43; refine (impl_CubeNumber_any _ _).mono ?_; rintro e w1 ⟨rfl, hb1⟩; replace HB := HB.trans (hb1.mono HB.size); clear hb1)
            | (go_at_call 44; refine (spec_CubeNumber_any _ _).mono ?_; rintro e w1 ⟨rfl, hb1⟩; replace HB := HB.trans (hb1.mono HB.size); clear hb1)
            | (go_at_call 45; refine (impl_StarNumber_any _ _).mono ?_; rintro e w1 ⟨rfl, hb1⟩; replace HB := HB.trans (hb1.mono HB.size); clear hb1)
            | (go_at_call 46; refine (spec_StarNumber_any _ _).mono ?_; rintro e w1 ⟨rfl, hb1⟩; replace HB := HB.trans (hb1.mono HB.size); clear hb1)
            | (go_at_call 47; refine (impl_SumOfSquares_any _ _).mono ?_; rintro e w1 ⟨rfl, hb1⟩; replace HB := HB.trans (hb1.mono HB.size); clear hb1)
            | (go_at_call 48; refine (spec_SumOfSquares_any _ _).mono ?_; rintro e w1 ⟨rfl, hb1⟩; replace HB := HB.trans (hb1.mono HB.size); clear hb1)
            | (go_at_call 49; refine (impl_SumOfCubes_any _ _).mono ?_; rintro e w1 ⟨rfl, hb1⟩; replace HB := HB.trans (hb1.mono HB.size); clear hb1)
            | (go_at_call 50; refine (spec_SumOfCubes_any _ _).mono ?_; rintro e w1 ⟨rfl, hb1⟩; replace HB := HB.trans (hb1.mono HB.size); clear hb1)
            | (go_at_call 51; refine (impl_CentredCube_any _ _).mono ?_; rintro e w1 ⟨rfl, hb1⟩; replace HB := HB.trans (hb1.mono HB.size); clear hb1)
            | (go_at_call 52; refine (spec_CentredCube_any _ _).mono ?_; rintro e w1 ⟨rfl, hb1⟩; replace HB := HB.trans (hb1.mono HB.size); clear hb1))
      simp only [List.append]
      go_wp2_with (fail)
      refine (DrawSimplexNumber_any B' m' c' _ (hy.below HB (Nat.le_refl _)) (by omega)).mono ?_
      rintro e w2 ⟨⟨d, m, rfl⟩, hb2⟩
      replace HB := HB.trans (hb2.mono HB.size)
      clear hb2
      go_wp2_with (first
            | (go_at_call 54; refine (impl_SimplexNumber_any _ _ _).mono ?_; rintro e w1 ⟨rfl, hb1⟩; replace HB := HB.trans (hb1.mono HB.size); clear hb1)
            | (go_at_call 55; refine (spec_SimplexNumber_any _ _ _).mono ?_; rintro e w1 ⟨rfl, hb1⟩; replace HB := HB.trans (hb1.mono HB.size); clear hb1))
      refine (DrawSimplexPlace_any B' m' c' _ (hy.below HB (Nat.le_refl _)) (by omega)).mono ?_
      rintro e w3 ⟨⟨f, o, rfl⟩, hb3⟩
      replace HB := HB.trans (hb3.mono HB.size)
      clear hb3
      rcases Bool.eq_false_or_eq_true (smB d m) with hm | hm
      · obtain ⟨m1, m2, m3, m4, m5, m6, m7, m8, m9⟩ := smp_of hm
        by_cases hd : d = 1
        · have hq := smp_one hm hd
          subst hd
          rw [hq] at m2 m3
          rcases Bool.eq_false_or_eq_true (spB f o) with hp | hp
          case' inl => obtain ⟨e1, e2⟩ := spl_of hp
          all_goals
            simp only [hm]
            as_aux_lemma =>
            go_wp2_with (first
                | (go_at_call 56; refine (impl_SimplexPlace_any _ _ _).mono ?_; rintro e w1 ⟨rfl, hb1⟩; replace HB := HB.trans (hb1.mono HB.size); clear hb1)
                | (go_at_call 57; refine (spec_SimplexPlace_any _ _ _).mono ?_; rintro e w1 ⟨rfl, hb1⟩; replace HB := HB.trans (hb1.mono HB.size); clear hb1)
                | (go_at_call 54; refine (impl_SimplexNumber_any _ _ _).mono ?_; rintro e w1 ⟨rfl, hb1⟩; replace HB := HB.trans (hb1.mono HB.size); clear hb1)
                | (go_at_call 53; refine (impl_PyramidNumber_any _ _ _).mono ?_; rintro e w1 ⟨rfl, hb1⟩; replace HB := HB.trans (hb1.mono HB.size); clear hb1))
            go_ret
            exact ⟨rfl, HB⟩
        · have hd1 : 1 < d := by omega
          have hd2 : (d == 1) = false := by simpa using hd
          rcases Int.lt_or_le 0 m with h0 | h0
          · obtain ⟨q1, q2, q3, q4, q5, q6, q7⟩ := smq_of hm hd1 h0
            by_cases hd3 : d = 3
            · obtain ⟨y1, y2⟩ := smp_three hm hd3
              subst hd3
              rw [show (3 : Int) - 1 = 2 from rfl] at q2 q3 q6 q7
              rcases Bool.eq_false_or_eq_true (spB f o) with hp | hp
              case' inl => obtain ⟨e1, e2⟩ := spl_of hp
              all_goals
                simp only [hm]
                as_aux_lemma =>
                go_wp2_with (first
                    | (go_at_call 56; refine (impl_SimplexPlace_any _ _ _).mono ?_; rintro e w1 ⟨rfl, hb1⟩; replace HB := HB.trans (hb1.mono HB.size); clear hb1)
                    | (go_at_call 57; refine (spec_SimplexPlace_any _ _ _).mono ?_; rintro e w1 ⟨rfl, hb1⟩; replace HB := HB.trans (hb1.mono HB.size); clear hb1)
                    | (go_at_call 54; refine (impl_SimplexNumber_any _ _ _).mono ?_; rintro e w1 ⟨rfl, hb1⟩; replace HB := HB.trans (hb1.mono HB.size); clear hb1)
                    | (go_at_call 53; refine (impl_PyramidNumber_any _ _ _).mono ?_; rintro e w1 ⟨rfl, hb1⟩; replace HB := HB.trans (hb1.mono HB.size); clear hb1))
                go_ret
                exact ⟨rfl, HB⟩
            · have hd4 : (d == 3) = false := by simpa using hd3
              rcases Bool.eq_false_or_eq_true (spB f o) with hp | hp
              case' inl => obtain ⟨e1, e2⟩ := spl_of hp
              all_goals
                simp only [hm]
                as_aux_lemma =>
                go_wp2_with (first
                    | (go_at_call 56; refine (impl_SimplexPlace_any _ _ _).mono ?_; rintro e w1 ⟨rfl, hb1⟩; replace HB := HB.trans (hb1.mono HB.size); clear hb1)
                    | (go_at_call 57; refine (spec_SimplexPlace_any _ _ _).mono ?_; rintro e w1 ⟨rfl, hb1⟩; replace HB := HB.trans (hb1.mono HB.size); clear hb1)
                    | (go_at_call 54; refine (impl_SimplexNumber_any _ _ _).mono ?_; rintro e w1 ⟨rfl, hb1⟩; replace HB := HB.trans (hb1.mono HB.size); clear hb1)
                    | (go_at_call 53; refine (impl_PyramidNumber_any _ _ _).mono ?_; rintro e w1 ⟨rfl, hb1⟩; replace HB := HB.trans (hb1.mono HB.size); clear hb1))
                go_ret
                exact ⟨rfl, HB⟩
          · by_cases hd3 : d = 3
            · obtain ⟨y1, y2⟩ := smp_three hm hd3
              subst hd3
              rcases Bool.eq_false_or_eq_true (spB f o) with hp | hp
              case' inl => obtain ⟨e1, e2⟩ := spl_of hp
              all_goals
                simp only [hm]
                as_aux_lemma =>
                go_wp2_with (first
                    | (go_at_call 56; refine (impl_SimplexPlace_any _ _ _).mono ?_; rintro e w1 ⟨rfl, hb1⟩; replace HB := HB.trans (hb1.mono HB.size); clear hb1)
                    | (go_at_call 57; refine (spec_SimplexPlace_any _ _ _).mono ?_; rintro e w1 ⟨rfl, hb1⟩; replace HB := HB.trans (hb1.mono HB.size); clear hb1)
                    | (go_at_call 54; refine (impl_SimplexNumber_any _ _ _).mono ?_; rintro e w1 ⟨rfl, hb1⟩; replace HB := HB.trans (hb1.mono HB.size); clear hb1)
                    | (go_at_call 53; refine (impl_PyramidNumber_any _ _ _).mono ?_; rintro e w1 ⟨rfl, hb1⟩; replace HB := HB.trans (hb1.mono HB.size); clear hb1))
                go_ret
                exact ⟨rfl, HB⟩
            · have hd4 : (d == 3) = false := by simpa using hd3
              rcases Bool.eq_false_or_eq_true (spB f o) with hp | hp
              case' inl => obtain ⟨e1, e2⟩ := spl_of hp
              all_goals
                simp only [hm]
                as_aux_lemma =>
                go_wp2_with (first
                    | (go_at_call 56; refine (impl_SimplexPlace_any _ _ _).mono ?_; rintro e w1 ⟨rfl, hb1⟩; replace HB := HB.trans (hb1.mono HB.size); clear hb1)
                    | (go_at_call 57; refine (spec_SimplexPlace_any _ _ _).mono ?_; rintro e w1 ⟨rfl, hb1⟩; replace HB := HB.trans (hb1.mono HB.size); clear hb1)
                    | (go_at_call 54; refine (impl_SimplexNumber_any _ _ _).mono ?_; rintro e w1 ⟨rfl, hb1⟩; replace HB := HB.trans (hb1.mono HB.size); clear hb1)
                    | (go_at_call 53; refine (impl_PyramidNumber_any _ _ _).mono ?_; rintro e w1 ⟨rfl, hb1⟩; replace HB := HB.trans (hb1.mono HB.size); clear hb1))
                go_ret
                exact ⟨rfl, HB⟩
      · rcases Bool.eq_false_or_eq_true (spB f o) with hp | hp
        case' inl => obtain ⟨e1, e2⟩ := spl_of hp
        all_goals
          simp only [hm]
          as_aux_lemma =>
          go_wp2_with (first
              | (go_at_call 56; refine (impl_SimplexPlace_any _ _ _).mono ?_; rintro e w1 ⟨rfl, hb1⟩; replace HB := HB.trans (hb1.mono HB.size); clear hb1)
              | (go_at_call 57; refine (spec_SimplexPlace_any _ _ _).mono ?_; rintro e w1 ⟨rfl, hb1⟩; replace HB := HB.trans (hb1.mono HB.size); clear hb1)
              | (go_at_call 54; refine (impl_SimplexNumber_any _ _ _).mono ?_; rintro e w1 ⟨rfl, hb1⟩; replace HB := HB.trans (hb1.mono HB.size); clear hb1)
              | (go_at_call 53; refine (impl_PyramidNumber_any _ _ _).mono ?_; rintro e w1 ⟨rfl, hb1⟩; replace HB := HB.trans (hb1.mono HB.size); clear hb1))
          go_ret
          exact ⟨rfl, HB⟩
    · obtain ⟨a1, a2, a3, a4, a5, a6, a7, a8⟩ := sol_of hk
      go_upto_region 16 with (first
            | (go_at_call 41; refine (impl_OctahedronNumber_any _ _).mono ?_; rintro e w1 ⟨rfl, hb1⟩; replace HB := HB.trans (hb1.mono HB.size); clear hb1)
            | (go_at_call 42; refine (spec_OctahedronNumber_any _ _).mono ?_; rintro e w1 ⟨rfl, hb1⟩; replace HB := HB.trans (hb1.mono HB.size); clear hb1)
            | (go_at_call 43; refine (impl_CubeNumber_any _ _).mono ?_; rintro e w1 ⟨rfl, hb1⟩; replace HB := HB.trans (hb1.mono HB.size); clear hb1)
            | (go_at_call 44; refine (spec_CubeNumber_any _ _).mono ?_; rintro e w1 ⟨rfl, hb1⟩; replace HB := HB.trans (hb1.mono HB.size); clear hb1)
            | (go_at_call 45; refine (impl_StarNumber_any _ _).mono ?_; rintro e w1 ⟨rfl, hb1⟩; replace HB := HB.trans (hb1.mono HB.size); clear hb1)
            | (go_at_call 46; refine (spec_StarNumber_any _ _).mono ?_; rintro e w1 ⟨rfl, hb1⟩; replace HB := HB.trans (hb1.mono HB.size); clear hb1)
            | (go_at_call 47; refine (impl_SumOfSquares_any _ _).mono ?_; rintro e w1 ⟨rfl, hb1⟩; replace HB := HB.trans (hb1.mono HB.size); clear hb1)
            | (go_at_call 48; refine (spec_SumOfSquares_any _ _).mono ?_; rintro e w1 ⟨rfl, hb1⟩; replace HB := HB.trans (hb1.mono HB.size); clear hb1)
            | (go_at_call 49; refine (impl_SumOfCubes_any _ _).mono ?_; rintro e w1 ⟨rfl, hb1⟩; replace HB := HB.trans (hb1.mono HB.size); clear hb1)
            | (go_at_call 50; refine (spec_SumOfCubes_any _ _).mono ?_; rintro e w1 ⟨rfl, hb1⟩; replace HB := HB.trans (hb1.mono HB.size); clear hb1)
            | (go_at_call 51; refine (impl_CentredCube_any _ _).mono ?_; rintro e w1 ⟨rfl, hb1⟩; replace HB := HB.trans (hb1.mono HB.size); clear hb1)
            | (go_at_call 52; refine (spec_CentredCube_any _ _).mono ?_; rintro e w1 ⟨rfl, hb1⟩; replace HB := HB.trans (hb1.mono HB.size); clear hb1))
      simp only [List.append]
      go_wp2_with (first
            | (go_at_call 53; refine (impl_PyramidNumber_any _ _ _).mono ?_; rintro e w1 ⟨rfl, hb1⟩; replace HB := HB.trans (hb1.mono HB.size); clear hb1)
            | (go_at_call 30; refine (impl_PolygonNumber_any _ _ _).mono ?_; rintro e w1 ⟨rfl, hb1⟩; replace HB := HB.trans (hb1.mono HB.size); clear hb1)
            | (go_at_call 43; refine (impl_CubeNumber_any _ _).mono ?_; rintro e w1 ⟨rfl, hb1⟩; replace HB := HB.trans (hb1.mono HB.size); clear hb1)
            | (go_at_call 49; refine (impl_SumOfCubes_any _ _).mono ?_; rintro e w1 ⟨rfl, hb1⟩; replace HB := HB.trans (hb1.mono HB.size); clear hb1))
      refine (DrawSimplexNumber_any B' m' c' _ (hy.below HB (Nat.le_refl _)) (by omega)).mono ?_
      rintro e w2 ⟨⟨d, m, rfl⟩, hb2⟩
      replace HB := HB.trans (hb2.mono HB.size)
      clear hb2
      go_wp2_with (first
            | (go_at_call 54; refine (impl_SimplexNumber_any _ _ _).mono ?_; rintro e w1 ⟨rfl, hb1⟩; replace HB := HB.trans (hb1.mono HB.size); clear hb1)
            | (go_at_call 55; refine (spec_SimplexNumber_any _ _ _).mono ?_; rintro e w1 ⟨rfl, hb1⟩; replace HB := HB.trans (hb1.mono HB.size); clear hb1))
      refine (DrawSimplexPlace_any B' m' c' _ (hy.below HB (Nat.le_refl _)) (by omega)).mono ?_
      rintro e w3 ⟨⟨f, o, rfl⟩, hb3⟩
      replace HB := HB.trans (hb3.mono HB.size)
      clear hb3
      rcases Bool.eq_false_or_eq_true (smB d m) with hm | hm
      · obtain ⟨m1, m2, m3, m4, m5, m6, m7, m8, m9⟩ := smp_of hm
        by_cases hd : d = 1
        · have hq := smp_one hm hd
          subst hd
          rw [hq] at m2 m3
          rcases Bool.eq_false_or_eq_true (spB f o) with hp | hp
          case' inl => obtain ⟨e1, e2⟩ := spl_of hp
          all_goals
            simp only [hm]
            as_aux_lemma =>
            go_wp2_with (first
                | (go_at_call 56; refine (impl_SimplexPlace_any _ _ _).mono ?_; rintro e w1 ⟨rfl, hb1⟩; replace HB := HB.trans (hb1.mono HB.size); clear hb1)
                | (go_at_call 57; refine (spec_SimplexPlace_any _ _ _).mono ?_; rintro e w1 ⟨rfl, hb1⟩; replace HB := HB.trans (hb1.mono HB.size); clear hb1)
                | (go_at_call 54; refine (impl_SimplexNumber_any _ _ _).mono ?_; rintro e w1 ⟨rfl, hb1⟩; replace HB := HB.trans (hb1.mono HB.size); clear hb1)
                | (go_at_call 53; refine (impl_PyramidNumber_any _ _ _).mono ?_; rintro e w1 ⟨rfl, hb1⟩; replace HB := HB.trans (hb1.mono HB.size); clear hb1))
            go_ret
            exact ⟨rfl, HB⟩
        · have hd1 : 1 < d := by omega
          have hd2 : (d == 1) = false := by simpa using hd
          rcases Int.lt_or_le 0 m with h0 | h0
          · obtain ⟨q1, q2, q3, q4, q5, q6, q7⟩ := smq_of hm hd1 h0
            by_cases hd3 : d = 3
            · obtain ⟨y1, y2⟩ := smp_three hm hd3
              subst hd3
              rw [show (3 : Int) - 1 = 2 from rfl] at q2 q3 q6 q7
              rcases Bool.eq_false_or_eq_true (spB f o) with hp | hp
              case' inl => obtain ⟨e1, e2⟩ := spl_of hp
              all_goals
                simp only [hm]
                as_aux_lemma =>
                go_wp2_with (first
                    | (go_at_call 56; refine (impl_SimplexPlace_any _ _ _).mono ?_; rintro e w1 ⟨rfl, hb1⟩; replace HB := HB.trans (hb1.mono HB.size); clear hb1)
                    | (go_at_call 57; refine (spec_SimplexPlace_any _ _ _).mono ?_; rintro e w1 ⟨rfl, hb1⟩; replace HB := HB.trans (hb1.mono HB.size); clear hb1)
                    | (go_at_call 54; refine (impl_SimplexNumber_any _ _ _).mono ?_; rintro e w1 ⟨rfl, hb1⟩; replace HB := HB.trans (hb1.mono HB.size); clear hb1)
                    | (go_at_call 53; refine (impl_PyramidNumber_any _ _ _).mono ?_; rintro e w1 ⟨rfl, hb1⟩; replace HB := HB.trans (hb1.mono HB.size); clear hb1))
                go_ret
                exact ⟨rfl, HB⟩
            · have hd4 : (d == 3) = false := by simpa using hd3
              rcases Bool.eq_false_or_eq_true (spB f o) with hp | hp
              case' inl => obtain ⟨e1, e2⟩ := spl_of hp
              all_goals
                simp only [hm]
                as_aux_lemma =>
                go_wp2_with (first
                    | (go_at_call 56; refine (impl_SimplexPlace_any _ _ _).mono ?_; rintro e w1 ⟨rfl, hb1⟩; replace HB := HB.trans (hb1.mono HB.size); clear hb1)
                    | (go_at_call 57; refine (spec_SimplexPlace_any _ _ _).mono ?_; rintro e w1 ⟨rfl, hb1⟩; replace HB := HB.trans (hb1.mono HB.size); clear hb1)
                    | (go_at_call 54; refine (impl_SimplexNumber_any _ _ _).mono ?_; rintro e w1 ⟨rfl, hb1⟩; replace HB := HB.trans (hb1.mono HB.size); clear hb1)
                    | (go_at_call 53; refine (impl_PyramidNumber_any _ _ _).mono ?_; rintro e w1 ⟨rfl, hb1⟩; replace HB := HB.trans (hb1.mono HB.size); clear hb1))
                go_ret
                exact ⟨rfl, HB⟩
          · by_cases hd3 : d = 3
            · obtain ⟨y1, y2⟩ := smp_three hm hd3
              subst hd3
              rcases Bool.eq_false_or_eq_true (spB f o) with hp | hp
              case' inl => obtain ⟨e1, e2⟩ := spl_of hp
              all_goals
                simp only [hm]
                as_aux_lemma =>
                go_wp2_with (first
                    | (go_at_call 56; refine (impl_SimplexPlace_any _ _ _).mono ?_; rintro e w1 ⟨rfl, hb1⟩; replace HB := HB.trans (hb1.mono HB.size); clear hb1)
                    | (go_at_call 57; refine (spec_SimplexPlace_any _ _ _).mono ?_; rintro e w1 ⟨rfl, hb1⟩; replace HB := HB.trans (hb1.mono HB.size); clear hb1)
                    | (go_at_call 54; refine (impl_SimplexNumber_any _ _ _).mono ?_; rintro e w1 ⟨rfl, hb1⟩; replace HB := HB.trans (hb1.mono HB.size); clear hb1)
                    | (go_at_call 53; refine (impl_PyramidNumber_any _ _ _).mono ?_; rintro e w1 ⟨rfl, hb1⟩; replace HB := HB.trans (hb1.mono HB.size); clear hb1))
                go_ret
                exact ⟨rfl, HB⟩
            · have hd4 : (d == 3) = false := by simpa using hd3
              rcases Bool.eq_false_or_eq_true (spB f o) with hp | hp
              case' inl => obtain ⟨e1, e2⟩ := spl_of hp
              all_goals
                simp only [hm]
                as_aux_lemma =>
                go_wp2_with (first
                    | (go_at_call 56; refine (impl_SimplexPlace_any _ _ _).mono ?_; rintro e w1 ⟨rfl, hb1⟩; replace HB := HB.trans (hb1.mono HB.size); clear hb1)
                    | (go_at_call 57; refine (spec_SimplexPlace_any _ _ _).mono ?_; rintro e w1 ⟨rfl, hb1⟩; replace HB := HB.trans (hb1.mono HB.size); clear hb1)
                    | (go_at_call 54; refine (impl_SimplexNumber_any _ _ _).mono ?_; rintro e w1 ⟨rfl, hb1⟩; replace HB := HB.trans (hb1.mono HB.size); clear hb1)
                    | (go_at_call 53; refine (impl_PyramidNumber_any _ _ _).mono ?_; rintro e w1 ⟨rfl, hb1⟩; replace HB := HB.trans (hb1.mono HB.size); clear hb1))
                go_ret
                exact ⟨rfl, HB⟩
      · rcases Bool.eq_false_or_eq_true (spB f o) with hp | hp
        case' inl => obtain ⟨e1, e2⟩ := spl_of hp
        all_goals
          simp only [hm]
          as_aux_lemma =>
          go_wp2_with (first
              | (go_at_call 56; refine (impl_SimplexPlace_any _ _ _).mono ?_; rintro e w1 ⟨rfl, hb1⟩; replace HB := HB.trans (hb1.mono HB.size); clear hb1)
              | (go_at_call 57; refine (spec_SimplexPlace_any _ _ _).mono ?_; rintro e w1 ⟨rfl, hb1⟩; replace HB := HB.trans (hb1.mono HB.size); clear hb1)
              | (go_at_call 54; refine (impl_SimplexNumber_any _ _ _).mono ?_; rintro e w1 ⟨rfl, hb1⟩; replace HB := HB.trans (hb1.mono HB.size); clear hb1)
              | (go_at_call 53; refine (impl_PyramidNumber_any _ _ _).mono ?_; rintro e w1 ⟨rfl, hb1⟩; replace HB := HB.trans (hb1.mono HB.size); clear hb1))
          go_ret
          exact ⟨rfl, HB⟩
    · obtain ⟨a1, a2, a3, a4, a5, a6, a7, a8⟩ := sol_of hk
      obtain ⟨b1, b2, b3, b4, b5, b6, b7, b8, c1, c2, c3, c4, c5, c6, c7, c8, c9, d1, d2, d3, d4, d5⟩ := sod_of hk h0k
      go_upto_region 16 with (first
            | (go_at_call 41; refine (impl_OctahedronNumber_any _ _).mono ?_; rintro e w1 ⟨rfl, hb1⟩; replace HB := HB.trans (hb1.mono HB.size); clear hb1)
            | (go_at_call 42; refine (spec_OctahedronNumber_any _ _).mono ?_; rintro e w1 ⟨rfl, hb1⟩; replace HB := HB.trans (hb1.mono HB.size); clear hb1)
            | (go_at_call 43; refine (impl_CubeNumber_any _ _).mono ?_; rintro e w1 ⟨rfl, hb1⟩; replace HB := HB.trans (hb1.mono HB.size); clear hb1)
            | (go_at_call 44; refine (spec_CubeNumber_any _ _).mono ?_; rintro e w1 ⟨rfl, hb1⟩; replace HB := HB.trans (hb1.mono HB.size); clear hb1)
            | (go_at_call 45; refine (impl_StarNumber_any _ _).mono ?_; rintro e w1 ⟨rfl, hb1⟩; replace HB := HB.trans (hb1.mono HB.size); clear hb1)
            | (go_at_call 46; refine (spec_StarNumber_any _ _).mono ?_; rintro e w1 ⟨rfl, hb1⟩; replace HB := HB.trans (hb1.mono HB.size); clear hb1)
            | (go_at_call 47; refine (impl_SumOfSquares_any _ _).mono ?_; rintro e w1 ⟨rfl, hb1⟩; replace HB := HB.trans (hb1.mono HB.size); clear hb1)
            | (go_at_call 48; refine (spec_SumOfSquares_any _ _).mono ?_; rintro e w1 ⟨rfl, hb1⟩; replace HB := HB.trans (hb1.mono HB.size); clear hb1)
            | (go_at_call 49; refine (impl_SumOfCubes_any _ _).mono ?_; rintro e w1 ⟨rfl, hb1⟩; replace HB := HB.trans (hb1.mono HB.size); clear hb1)
            | (go_at_call 50; refine (spec_SumOfCubes_any _ _).mono ?_; rintro e w1 ⟨rfl, hb1⟩; replace HB := HB.trans (hb1.mono HB.size); clear hb1)
            | (go_at_call 51; refine (impl_CentredCube_any _ _).mono ?_; rintro e w1 ⟨rfl, hb1⟩; replace HB := HB.trans (hb1.mono HB.size); clear hb1)
            | (go_at_call 52; refine (spec_CentredCube_any _ _).mono ?_; rintro e w1 ⟨rfl, hb1⟩; replace HB := HB.trans (hb1.mono HB.size); clear hb1))
      simp only [List.append]
      go_wp2_with (first
            | (go_at_call 53; refine (impl_PyramidNumber_any _ _ _).mono ?_; rintro e w1 ⟨rfl, hb1⟩; replace HB := HB.trans (hb1.mono HB.size); clear hb1)
            | (go_at_call 30; refine (impl_PolygonNumber_any _ _ _).mono ?_; rintro e w1 ⟨rfl, hb1⟩; replace HB := HB.trans (hb1.mono HB.size); clear hb1)
            | (go_at_call 43; refine (impl_CubeNumber_any _ _).mono ?_; rintro e w1 ⟨rfl, hb1⟩; replace HB := HB.trans (hb1.mono HB.size); clear hb1)
            | (go_at_call 49; refine (impl_SumOfCubes_any _ _).mono ?_; rintro e w1 ⟨rfl, hb1⟩; replace HB := HB.trans (hb1.mono HB.size); clear hb1))
      refine (DrawSimplexNumber_any B' m' c' _ (hy.below HB (Nat.le_refl _)) (by omega)).mono ?_
      rintro e w2 ⟨⟨d, m, rfl⟩, hb2⟩
      replace HB := HB.trans (hb2.mono HB.size)
      clear hb2
      go_wp2_with (first
            | (go_at_call 54; refine (impl_SimplexNumber_any _ _ _).mono ?_; rintro e w1 ⟨rfl, hb1⟩; replace HB := HB.trans (hb1.mono HB.size); clear hb1)
            | (go_at_call 55; refine (spec_SimplexNumber_any _ _ _).mono ?_; rintro e w1 ⟨rfl, hb1⟩; replace HB := HB.trans (hb1.mono HB.size); clear hb1))
      refine (DrawSimplexPlace_any B' m' c' _ (hy.below HB (Nat.le_refl _)) (by omega)).mono ?_
      rintro e w3 ⟨⟨f, o, rfl⟩, hb3⟩
      replace HB := HB.trans (hb3.mono HB.size)
      clear hb3
      rcases Bool.eq_false_or_eq_true (smB d m) with hm | hm
      · obtain ⟨m1, m2, m3, m4, m5, m6, m7, m8, m9⟩ := smp_of hm
        by_cases hd : d = 1
        · have hq := smp_one hm hd
          subst hd
          rw [hq] at m2 m3
          rcases Bool.eq_false_or_eq_true (spB f o) with hp | hp
          case' inl => obtain ⟨e1, e2⟩ := spl_of hp
          all_goals
            simp only [hm]
            as_aux_lemma =>
            go_wp2_with (first
                | (go_at_call 56; refine (impl_SimplexPlace_any _ _ _).mono ?_; rintro e w1 ⟨rfl, hb1⟩; replace HB := HB.trans (hb1.mono HB.size); clear hb1)
                | (go_at_call 57; refine (spec_SimplexPlace_any _ _ _).mono ?_; rintro e w1 ⟨rfl, hb1⟩; replace HB := HB.trans (hb1.mono HB.size); clear hb1)
                | (go_at_call 54; refine (impl_SimplexNumber_any _ _ _).mono ?_; rintro e w1 ⟨rfl, hb1⟩; replace HB := HB.trans (hb1.mono HB.size); clear hb1)
                | (go_at_call 53; refine (impl_PyramidNumber_any _ _ _).mono ?_; rintro e w1 ⟨rfl, hb1⟩; replace HB := HB.trans (hb1.mono HB.size); clear hb1))
            go_ret
            exact ⟨rfl, HB⟩
        · have hd1 : 1 < d := by omega
          have hd2 : (d == 1) = false := by simpa using hd
          rcases Int.lt_or_le 0 m with h0 | h0
          · obtain ⟨q1, q2, q3, q4, q5, q6, q7⟩ := smq_of hm hd1 h0
            by_cases hd3 : d = 3
            · obtain ⟨y1, y2⟩ := smp_three hm hd3
              subst hd3
              rw [show (3 : Int) - 1 = 2 from rfl] at q2 q3 q6 q7
              rcases Bool.eq_false_or_eq_true (spB f o) with hp | hp
              case' inl => obtain ⟨e1, e2⟩ := spl_of hp
              all_goals
                simp only [hm]
                as_aux_lemma =>
                go_wp2_with (first
                    | (go_at_call 56; refine (impl_SimplexPlace_any _ _ _).mono ?_; rintro e w1 ⟨rfl, hb1⟩; replace HB := HB.trans (hb1.mono HB.size); clear hb1)
                    | (go_at_call 57; refine (spec_SimplexPlace_any _ _ _).mono ?_; rintro e w1 ⟨rfl, hb1⟩; replace HB := HB.trans (hb1.mono HB.size); clear hb1)
                    | (go_at_call 54; refine (impl_SimplexNumber_any _ _ _).mono ?_; rintro e w1 ⟨rfl, hb1⟩; replace HB := HB.trans (hb1.mono HB.size); clear hb1)
                    | (go_at_call 53; refine (impl_PyramidNumber_any _ _ _).mono ?_; rintro e w1 ⟨rfl, hb1⟩; replace HB := HB.trans (hb1.mono HB.size); clear hb1))
                go_ret
                exact ⟨rfl, HB⟩
            · have hd4 : (d == 3) = false := by simpa using hd3
              rcases Bool.eq_false_or_eq_true (spB f o) with hp | hp
              case' inl => obtain ⟨e1, e2⟩ := spl_of hp
              all_goals
                simp only [hm]
                as_aux_lemma =>
                go_wp2_with (first
                    | (go_at_call 56; refine (impl_SimplexPlace_any _ _ _).mono ?_; rintro e w1 ⟨rfl, hb1⟩; replace HB := HB.trans (hb1.mono HB.size); clear hb1)
                    | (go_at_call 57; refine (spec_SimplexPlace_any _ _ _).mono ?_; rintro e w1 ⟨rfl, hb1⟩; replace HB := HB.trans (hb1.mono HB.size); clear hb1)
                    | (go_at_call 54; refine (impl_SimplexNumber_any _ _ _).mono ?_; rintro e w1 ⟨rfl, hb1⟩; replace HB := HB.trans (hb1.mono HB.size); clear hb1)
                    | (go_at_call 53; refine (impl_PyramidNumber_any _ _ _).mono ?_; rintro e w1 ⟨rfl, hb1⟩; replace HB := HB.trans (hb1.mono HB.size); clear hb1))
                go_ret
                exact ⟨rfl, HB⟩
          · by_cases hd3 : d = 3
            · obtain ⟨y1, y2⟩ := smp_three hm hd3
              subst hd3
              rcases Bool.eq_false_or_eq_true (spB f o) with hp | hp
              case' inl => obtain ⟨e1, e2⟩ := spl_of hp
              all_goals
                simp only [hm]
                as_aux_lemma =>
                go_wp2_with (first
                    | (go_at_call 56; refine (impl_SimplexPlace_any _ _ _).mono ?_; rintro e w1 ⟨rfl, hb1⟩; replace HB := HB.trans (hb1.mono HB.size); clear hb1)
                    | (go_at_call 57; refine (spec_SimplexPlace_any _ _ _).mono ?_; rintro e w1 ⟨rfl, hb1⟩; replace HB := HB.trans (hb1.mono HB.size); clear hb1)
                    | (go_at_call 54; refine (impl_SimplexNumber_any _ _ _).mono ?_; rintro e w1 ⟨rfl, hb1⟩; replace HB := HB.trans (hb1.mono HB.size); clear hb1)
                    | (go_at_call 53; refine (impl_PyramidNumber_any _ _ _).mono ?_; rintro e w1 ⟨rfl, hb1⟩; replace HB := HB.trans (hb1.mono HB.size); clear hb1))
                go_ret
                exact ⟨rfl, HB⟩
            · have hd4 : (d == 3) = false := by simpa using hd3
              rcases Bool.eq_false_or_eq_true (spB f o) with hp | hp
              case' inl => obtain ⟨e1, e2⟩ := spl_of hp
              all_goals
                simp only [hm]
                as_aux_lemma =>
                go_wp2_with (first
                    | (go_at_call 56; refine (impl_SimplexPlace_any _ _ _).mono ?_; rintro e w1 ⟨rfl, hb1⟩; replace HB := HB.trans (hb1.mono HB.size); clear hb1)
                    | (go_at_call 57; refine (spec_SimplexPlace_any _ _ _).mono ?_; rintro e w1 ⟨rfl, hb1⟩; replace HB := HB.trans (hb1.mono HB.size); clear hb1)
                    | (go_at_call 54; refine (impl_SimplexNumber_any _ _ _).mono ?_; rintro e w1 ⟨rfl, hb1⟩; replace HB := HB.trans (hb1.mono HB.size); clear hb1)
                    | (go_at_call 53; refine (impl_PyramidNumber_any _ _ _).mono ?_; rintro e w1 ⟨rfl, hb1⟩; replace HB := HB.trans (hb1.mono HB.size); clear hb1))
                go_ret
                exact ⟨rfl, HB⟩
      · rcases Bool.eq_false_or_eq_true (spB f o) with hp | hp
        case' inl => obtain ⟨e1, e2⟩ := spl_of hp
        all_goals
          simp only [hm]
          as_aux_lemma =>
          go_wp2_with (first
              | (go_at_call 56; refine (impl_SimplexPlace_any _ _ _).mono ?_; rintro e w1 ⟨rfl, hb1⟩; replace HB := HB.trans (hb1.mono HB.size); clear hb1)
              | (go_at_call 57; refine (spec_SimplexPlace_any _ _ _).mono ?_; rintro e w1 ⟨rfl, hb1⟩; replace HB := HB.trans (hb1.mono HB.size); clear hb1)
              | (go_at_call 54; refine (impl_SimplexNumber_any _ _ _).mono ?_; rintro e w1 ⟨rfl, hb1⟩; replace HB := HB.trans (hb1.mono HB.size); clear hb1)
              | (go_at_call 53; refine (impl_PyramidNumber_any _ _ _).mono ?_; rintro e w1 ⟨rfl, hb1⟩; replace HB := HB.trans (hb1.mono HB.size); clear hb1))
          go_ret
          exact ⟨rfl, HB⟩
end Go.Proofs.Ytppdjjdejggjaaa
