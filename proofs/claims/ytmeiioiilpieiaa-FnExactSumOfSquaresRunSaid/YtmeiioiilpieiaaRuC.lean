/- Chapter 5: two runs of one sum; the laws SumOfRun, CubeAsOdds, PowerAsOdds, SameSums. -/
import Derived.Test.YtmeiioiilpieiaaRuB
import Derived.BigRegion
namespace Go.Proofs.Ytmeiioiilpieiaa
open Go.ChangeShapes Go.WideShapes Go.ChangeAt Go.RowKit

theorem eqRun_any (a b : Int) (w : World) : Calls Try.prog 30 #[.agg #[.int .i64 a, .int .i64 b], .agg #[.int .i64 a, .int .i64 b]] w fun e w' => e = .returned (.bool true) ∧ Below w.heap.size w w' := by
  exact eqRun_same a b w
set_option maxHeartbeats 800000 in
theorem lawN_SumOfRun (f l : Int) (ok : Bool) (r : Int)
    (hs : ∀ w : World, Calls Try.prog 18 #[.agg #[.int .i64 f, .int .i64 l]] w fun e w' => e = .returned (.tuple #[.int .i64 r, .bool ok]) ∧ Below w.heap.size w w')
    (hi : ∀ w : World, Calls Try.prog 20 #[.agg #[.int .i64 f, .int .i64 l]] w fun e w' => e = .returned (.tuple #[.int .i64 r, .bool ok]) ∧ Below w.heap.size w w') (w : World) :
    Calls Try.prog 3 #[.agg #[.int .i64 f, .int .i64 l]] w fun e w' => e = .returned (.bool true) ∧ Below w.heap.size w w' := by
  have HS := Lib.hid hs
  have HI := Lib.hid hi
  clear hs hi
  go_enter Try.func3, Try.ntmps3
  go_wp2_with fail
  have c0 : (w.alloc (.cells #[.int .i64 f, .int .i64 l] 23)).cell? ⟨w.heap.size, 0, none⟩ = some (.int .i64 f) := by simp [go_sem]
  have c1 : (w.alloc (.cells #[.int .i64 f, .int .i64 l] 23)).cell? ⟨w.heap.size, 1, none⟩ = some (.int .i64 l) := by simp [go_sem]
  have hz : w.heap.size < (w.alloc (.cells #[.int .i64 f, .int .i64 l] 23)).heap.size := by simp
  have hb : Below w.heap.size w (w.alloc (.cells #[.int .i64 f, .int .i64 l] 23)) := (Below.refl _ _).alloc (Nat.le_refl _) _
  generalize w.alloc (.cells #[.int .i64 f, .int .i64 l] 23) = W at *
  obtain ⟨R, hR⟩ : ∃ R, R = w.heap.size := ⟨_, rfl⟩
  rw [← hR] at c0 c1 hz ⊢
  have HR := Lib.hid hR
  clear hR
  refine (toRun_any f l W).mono ?_
  rintro e w1 ⟨rfl, hb1⟩
  go_wp2_with fail
  refine (HS.out w1).mono ?_
  rintro e w2 ⟨rfl, hb2⟩
  have hb12 := hb1.trans (hb2.mono hb1.size)
  have d0 := (hb12.cell (p := ⟨R, 0, none⟩) hz).trans c0
  have d1 := (hb12.cell (p := ⟨R, 1, none⟩) hz).trans c1
  go_wp2_with fail
  refine (toRun_any f l w2).mono ?_
  rintro e w3 ⟨rfl, hb3⟩
  go_wp2_with fail
  refine (HI.out w3).mono ?_
  rintro e w4 ⟨rfl, hb4⟩
  go_wp2
  go_ret
  exact ⟨rfl, hb.trans ((hb12.trans ((hb3.trans (hb4.mono hb3.size)).mono hb12.size)).mono hb.size)⟩
theorem walk_SumOfRun (f l : Int) (w : World) : Calls Try.prog 3 #[.agg #[.int .i64 f, .int .i64 l]] w fun e w' => e = .returned (.bool true) ∧ Below w.heap.size w w' := by
  by_cases h : (f < -1000000 ∨ 1000000 < f) ∨ (l < 0 ∨ 1000000 < l)
  · exact lawN_SumOfRun f l false 0 (fun w => spec_SumOfRun_no f l w h) (fun w => impl_SumOfRun_no f l w h) w
  · have hb := sum_bds' f l (by omega) (by omega) (by omega) (by omega)
    exact lawN_SumOfRun f l true _ (fun w => spec_SumOfRun_yes f l w hb) (fun w => impl_SumOfRun_yes f l w hb) w
set_option maxHeartbeats 800000 in
theorem lawR_CubeAsOdds (k : Int) (ok : Bool) (x y : Int)
    (hs : ∀ w : World, Calls Try.prog 44 #[.int .i64 k] w fun e w' => e = .returned (.tuple #[.agg #[.int .i64 x, .int .i64 y], .bool ok]) ∧ Below w.heap.size w w')
    (hi : ∀ w : World, Calls Try.prog 45 #[.int .i64 k] w fun e w' => e = .returned (.tuple #[.agg #[.int .i64 x, .int .i64 y], .bool ok]) ∧ Below w.heap.size w w') (w : World) :
    Calls Try.prog 12 #[.int .i64 k] w fun e w' => e = .returned (.bool true) ∧ Below w.heap.size w w' := by
  have HS := Lib.hid hs
  have HI := Lib.hid hi
  clear hs hi
  go_enter Try.func12, Try.ntmps12
  go_wp2_with fail
  refine (HS.out _).mono ?_
  rintro e w1 ⟨rfl, hb1⟩
  go_wp2_with fail
  have hbA : Below w.heap.size w (w1.alloc (.cells #[.int .i64 x, .int .i64 y] 26)) := hb1.alloc hb1.size _
  have zA : w1.heap.size < (w1.alloc (.cells #[.int .i64 x, .int .i64 y] 26)).heap.size := by simp
  have p0 : (w1.alloc (.cells #[.int .i64 x, .int .i64 y] 26)).cell? ⟨w1.heap.size, 0, none⟩ = some (.int .i64 x) := by simp [go_sem]
  have p1 : (w1.alloc (.cells #[.int .i64 x, .int .i64 y] 26)).cell? ⟨w1.heap.size, 1, none⟩ = some (.int .i64 y) := by simp [go_sem]
  generalize (w1.alloc (.cells #[.int .i64 x, .int .i64 y] 26)) = wA at *
  obtain ⟨R, hR⟩ : ∃ R, R = w1.heap.size := ⟨_, rfl⟩
  rw [← hR] at zA p0 p1 ⊢
  clear hR hb1
  refine (HI.out _).mono ?_
  rintro e w2 ⟨rfl, hb2⟩
  have q0 := (hb2.cell (p := ⟨R, 0, none⟩) zA).trans p0
  have q1 := (hb2.cell (p := ⟨R, 1, none⟩) zA).trans p1
  have zB : R < w2.heap.size := Nat.lt_of_lt_of_le zA hb2.size
  have q2 : (w2.alloc (.cells #[.int .i64 x, .int .i64 y] 26)).cell? ⟨R, 0, none⟩ = some (.int .i64 x) := (((Below.refl w2.heap.size w2).alloc (Nat.le_refl _) _).cell (p := ⟨R, 0, none⟩) zB).trans q0
  have q3 : (w2.alloc (.cells #[.int .i64 x, .int .i64 y] 26)).cell? ⟨R, 1, none⟩ = some (.int .i64 y) := (((Below.refl w2.heap.size w2).alloc (Nat.le_refl _) _).cell (p := ⟨R, 1, none⟩) zB).trans q1
  go_wp2_with fail
  refine (eqRun_any x y _).mono ?_
  rintro e w3 ⟨rfl, hb3⟩
  go_wp2
  go_ret
  have zz := hbA.size
  have hz2 := hb2.size
  exact ⟨rfl, hbA.trans ((hb2.trans ((((Below.refl _ _).alloc (Nat.le_refl _) _).trans (hb3.mono (by simp))).mono hz2)).mono zz)⟩
set_option maxHeartbeats 800000 in
theorem lawR_PowerAsOdds (k e : Int) (ok : Bool) (x y : Int)
    (hs : ∀ w : World, Calls Try.prog 46 #[.int .i64 k, .int .i64 e] w fun e w' => e = .returned (.tuple #[.agg #[.int .i64 x, .int .i64 y], .bool ok]) ∧ Below w.heap.size w w')
    (hi : ∀ w : World, Calls Try.prog 47 #[.int .i64 k, .int .i64 e] w fun e w' => e = .returned (.tuple #[.agg #[.int .i64 x, .int .i64 y], .bool ok]) ∧ Below w.heap.size w w') (w : World) :
    Calls Try.prog 13 #[.int .i64 k, .int .i64 e] w fun e w' => e = .returned (.bool true) ∧ Below w.heap.size w w' := by
  have HS := Lib.hid hs
  have HI := Lib.hid hi
  clear hs hi
  go_enter Try.func13, Try.ntmps13
  go_wp2_with fail
  refine (HS.out _).mono ?_
  rintro e w1 ⟨rfl, hb1⟩
  go_wp2_with fail
  have hbA : Below w.heap.size w (w1.alloc (.cells #[.int .i64 x, .int .i64 y] 26)) := hb1.alloc hb1.size _
  have zA : w1.heap.size < (w1.alloc (.cells #[.int .i64 x, .int .i64 y] 26)).heap.size := by simp
  have p0 : (w1.alloc (.cells #[.int .i64 x, .int .i64 y] 26)).cell? ⟨w1.heap.size, 0, none⟩ = some (.int .i64 x) := by simp [go_sem]
  have p1 : (w1.alloc (.cells #[.int .i64 x, .int .i64 y] 26)).cell? ⟨w1.heap.size, 1, none⟩ = some (.int .i64 y) := by simp [go_sem]
  generalize (w1.alloc (.cells #[.int .i64 x, .int .i64 y] 26)) = wA at *
  obtain ⟨R, hR⟩ : ∃ R, R = w1.heap.size := ⟨_, rfl⟩
  rw [← hR] at zA p0 p1 ⊢
  clear hR hb1
  refine (HI.out _).mono ?_
  rintro e w2 ⟨rfl, hb2⟩
  have q0 := (hb2.cell (p := ⟨R, 0, none⟩) zA).trans p0
  have q1 := (hb2.cell (p := ⟨R, 1, none⟩) zA).trans p1
  have zB : R < w2.heap.size := Nat.lt_of_lt_of_le zA hb2.size
  have q2 : (w2.alloc (.cells #[.int .i64 x, .int .i64 y] 26)).cell? ⟨R, 0, none⟩ = some (.int .i64 x) := (((Below.refl w2.heap.size w2).alloc (Nat.le_refl _) _).cell (p := ⟨R, 0, none⟩) zB).trans q0
  have q3 : (w2.alloc (.cells #[.int .i64 x, .int .i64 y] 26)).cell? ⟨R, 1, none⟩ = some (.int .i64 y) := (((Below.refl w2.heap.size w2).alloc (Nat.le_refl _) _).cell (p := ⟨R, 1, none⟩) zB).trans q1
  go_wp2_with fail
  refine (eqRun_any x y _).mono ?_
  rintro e w3 ⟨rfl, hb3⟩
  go_wp2
  go_ret
  have zz := hbA.size
  have hz2 := hb2.size
  exact ⟨rfl, hbA.trans ((hb2.trans ((((Below.refl _ _).alloc (Nat.le_refl _) _).trans (hb3.mono (by simp))).mono hz2)).mono zz)⟩
theorem walk_CubeAsOdds (k : Int) (w : World) : Calls Try.prog 12 #[.int .i64 k] w fun e w' => e = .returned (.bool true) ∧ Below w.heap.size w w' := by
  by_cases h : k < 1 ∨ 1000 < k
  · exact lawR_CubeAsOdds k false 0 0 (fun w => spec_CubeAsOdds_no k w h) (fun w => impl_CubeAsOdds_no k w h) w
  · exact lawR_CubeAsOdds k true _ _ (fun w => spec_CubeAsOdds_yes k w (by omega) (by omega)) (fun w => impl_CubeAsOdds_yes k w (by omega) (by omega)) w
theorem walk_PowerAsOdds (k e : Int) (w : World) : Calls Try.prog 13 #[.int .i64 k, .int .i64 e] w fun e w' => e = .returned (.bool true) ∧ Below w.heap.size w w' := by
  by_cases h : (k < 1 ∨ 100 < k) ∨ (e < 2 ∨ 6 < e)
  · exact lawR_PowerAsOdds k e false 0 0 (fun w => spec_PowerAsOdds_no k e w h) (fun w => impl_PowerAsOdds_no k e w h) w
  · obtain ⟨E, rfl⟩ : ∃ E : Nat, e = (E : Int) + 1 := ⟨(e - 1).toNat, by omega⟩
    exact lawR_PowerAsOdds k _ true _ _ (fun w => spec_PowerAsOdds_yes k E w (by omega) (by omega) (by omega) (by omega)) (fun w => impl_PowerAsOdds_yes k E w (by omega) (by omega) (by omega) (by omega)) w
/-- What SameSums asks of its length. -/
structure SameB (l : Int) : Prop where
  l1 : 1 ≤ l
  l2 : l ≤ 1000
  p0 : 0 ≤ l * l
  p1 : l * l ≤ 1000000
theorem same_b (l : Int) (h1 : 1 ≤ l) (h2 : l ≤ 1000) : SameB l := ⟨h1, h2, sq_nn l, sq_le l 1000 (by omega) h2⟩
theorem spec_SameSums_no (l : Int) (w : World) (h : l < 1 ∨ 1000 < l) :
    Calls Try.prog 54 #[.int .i64 l] w fun e w' => e = .returned (.tuple #[.agg #[.int .i64 0, .int .i64 0], .agg #[.int .i64 0, .int .i64 0], .bool false]) ∧ Below w.heap.size w w' := by
  have HA := Lib.hid (betr_no h)
  clear h
  go_enter Try.func54, Try.ntmps54
  go_wp2_with (go_at_call 56; refine (rin_any _ _ _ _).mono ?_; rw [HA.out]; rintro e w' ⟨rfl, rfl⟩)
  exact bodyPost_ret (v := .tuple #[.agg #[.int .i64 0, .int .i64 0], .agg #[.int .i64 0, .int .i64 0], .bool false]) (by simp [results, Try.results54, go_sem]) rfl ⟨rfl, ((Below.refl _ _).alloc (Nat.le_refl _) _).alloc (by simp) _⟩
theorem impl_SameSums_no (l : Int) (w : World) (h : l < 1 ∨ 1000 < l) :
    Calls Try.prog 55 #[.int .i64 l] w fun e w' => e = .returned (.tuple #[.agg #[.int .i64 0, .int .i64 0], .agg #[.int .i64 0, .int .i64 0], .bool false]) ∧ Below w.heap.size w w' := by
  have HA := Lib.hid (betr_no h)
  clear h
  go_enter Try.func55, Try.ntmps55
  go_wp2_with (go_at_call 59; refine (rwithin_any _ _ _ _).mono ?_; rw [HA.out]; rintro e w' ⟨rfl, rfl⟩)
  exact bodyPost_ret (v := .tuple #[.agg #[.int .i64 0, .int .i64 0], .agg #[.int .i64 0, .int .i64 0], .bool false]) (by simp [results, Try.results55, go_sem]) rfl ⟨rfl, ((Below.refl _ _).alloc (Nat.le_refl _) _).alloc (by simp) _⟩
theorem set_four {W : World} {R T : Nat} {u v x y : Value} (hRT : R ≠ T) (p q r s : Value) (c0 : W.cell? ⟨R, 0, none⟩ = some u) (c1 : W.cell? ⟨R, 1, none⟩ = some v) (d0 : W.cell? ⟨T, 0, none⟩ = some x) (d1 : W.cell? ⟨T, 1, none⟩ = some y) :
    ((((W.setCell ⟨R, 0, none⟩ p).setCell ⟨R, 1, none⟩ q).setCell ⟨T, 0, none⟩ r).setCell ⟨T, 1, none⟩ s).cell? ⟨R, 0, none⟩ = some p ∧
    ((((W.setCell ⟨R, 0, none⟩ p).setCell ⟨R, 1, none⟩ q).setCell ⟨T, 0, none⟩ r).setCell ⟨T, 1, none⟩ s).cell? ⟨R, 1, none⟩ = some q ∧
    ((((W.setCell ⟨R, 0, none⟩ p).setCell ⟨R, 1, none⟩ q).setCell ⟨T, 0, none⟩ r).setCell ⟨T, 1, none⟩ s).cell? ⟨T, 0, none⟩ = some r ∧
    ((((W.setCell ⟨R, 0, none⟩ p).setCell ⟨R, 1, none⟩ q).setCell ⟨T, 0, none⟩ r).setCell ⟨T, 1, none⟩ s).cell? ⟨T, 1, none⟩ = some s := by
  have ne : ∀ (V : World) (a b : Addr) (z : Value), (a.block ≠ b.block ∨ a.off ≠ b.off) → (V.setCell b z).cell? a = V.cell? a := fun V a b z h => World.cell?_setCell_other V _ _ _ (by intro e; subst e; simp at h)
  refine ⟨?_, ?_, ?_, ?_⟩
  · rw [ne _ _ _ _ (.inl hRT), ne _ _ _ _ (.inl hRT), ne _ _ _ _ (.inr (by simp))]
    exact World.cell?_setCell_same _ _ _ c0
  · rw [ne _ _ _ _ (.inl hRT), ne _ _ _ _ (.inl hRT)]
    exact World.cell?_setCell_same _ _ _ ((ne _ _ _ _ (.inr (by simp))).trans c1)
  · rw [ne _ _ _ _ (.inr (by simp))]
    exact World.cell?_setCell_same _ _ _ (((ne _ _ _ _ (.inl hRT.symm)).trans (ne _ _ _ _ (.inl hRT.symm))).trans d0)
  · exact World.cell?_setCell_same _ _ _ ((((ne _ _ _ _ (.inr (by simp))).trans (ne _ _ _ _ (.inl hRT.symm))).trans (ne _ _ _ _ (.inl hRT.symm))).trans d1)
set_option maxHeartbeats 1600000 in
theorem spec_SameSums_yes (l : Int) (w : World) (h : SameB l) :
    Calls Try.prog 54 #[.int .i64 l] w fun e w' => e = .returned (.tuple #[.agg #[.int .i64 (l * l), .int .i64 (l + 1)], .agg #[.int .i64 (l * l + (l + 1)), .int .i64 l], .bool true]) ∧ Below w.heap.size w w' := by
  obtain ⟨l1, l2, p0, p1⟩ := h
  have HA := Lib.hid (betr_yes l1 l2)
  go_enter Try.func54, Try.ntmps54
  go_wp2_with (go_at_call 56; refine (rin_any _ _ _ _).mono ?_; rw [HA.out]; rintro e w' ⟨rfl, rfl⟩)
  have q1 : IntKind.i64.wrap (l * l + (l + 1)) = l * l + (l + 1) := IntWalk.i64_in _ (by omega)
  go_region
  go_wp2
  exact bodyPost_ret (v := .tuple #[.agg #[.int .i64 (l * l), .int .i64 (l + 1)], .agg #[.int .i64 (l * l + (l + 1)), .int .i64 l], .bool true]) (by simp [results, Try.results54, go_sem]) rfl ⟨rfl, ((((Below.refl _ _).alloc (Nat.le_refl _) _).alloc (by simp) _).alloc (by simp; omega) _).drew⟩
set_option maxHeartbeats 1600000 in
theorem impl_SameSums_yes (l : Int) (w : World) (h : SameB l) :
    Calls Try.prog 55 #[.int .i64 l] w fun e w' => e = .returned (.tuple #[.agg #[.int .i64 (l * l), .int .i64 (l + 1)], .agg #[.int .i64 (l * l + (l + 1)), .int .i64 l], .bool true]) ∧ Below w.heap.size w w' := by
  obtain ⟨l1, l2, p0, p1⟩ := h
  have HA := Lib.hid (betr_yes l1 l2)
  go_enter Try.func55, Try.ntmps55
  go_wp2_with (go_at_call 59; refine (rwithin_any _ _ _ _).mono ?_; rw [HA.out]; rintro e w' ⟨rfl, rfl⟩)
  have q1 : IntKind.i64.wrap (l * l + (l + 1)) = l * l + (l + 1) := IntWalk.i64_in _ (by omega)
  go_region_with (go_at_call 60; refine (last_below _ _ _ (by omega) (by omega) (by omega) (by omega)).mono ?_; rintro e w1 ⟨rfl, hb1⟩; obtain ⟨c1, f1⟩ := bcell hb1)
  all_goals
    have hB : Below w.heap.size w w1 := ((((Below.refl _ _).alloc (Nat.le_refl _) _).alloc (by simp) _).alloc (by simp; omega) _).drew.trans (hb1.mono (by simp; omega))
    obtain ⟨s0, s1, s2, s3⟩ := set_four (W := w1) (R := w.heap.size) (T := w.heap.size + 1) (by omega) (.int .i64 (l * l)) (.int .i64 (l + 1)) (.int .i64 (l * l + (l + 1))) (.int .i64 l) (u := .int .i64 0) (v := .int .i64 0) (x := .int .i64 0) (y := .int .i64 0)
      ((c1 _ _ (by simp; omega)).trans (by simp [go_sem])) ((c1 _ _ (by simp; omega)).trans (by simp [go_sem])) ((c1 _ _ (by simp)).trans (by simp [go_sem])) ((c1 _ _ (by simp)).trans (by simp [go_sem]))
    go_wp2
    exact bodyPost_ret (v := .tuple #[.agg #[.int .i64 (l * l), .int .i64 (l + 1)], .agg #[.int .i64 (l * l + (l + 1)), .int .i64 l], .bool true]) (by simp [results, Try.results55, go_sem, s0, s1, s2, s3]) rfl ⟨rfl, by repeat (first | exact hB | refine Below.setCell ?_ (by simp) _)⟩
end Go.Proofs.Ytmeiioiilpieiaa
