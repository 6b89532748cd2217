/- Chapter 5: two runs of one sum; the laws SumOfRun, CubeAsOdds, PowerAsOdds, SameSums. -/
import Derived.Test.YtcfpdlkkniilpaaGreatDoorRuB
import Derived.BigRegion
namespace Go.Proofs.YtcfpdlkkniilpaaGreatDoor
open Go.ChangeShapes Go.WideShapes Go.ChangeAt Go.RowKit

/-- What SameSums asks of its length. -/
structure SameB (l : Int) : Prop where
  l1 : 1 ≤ l
  l2 : l ≤ 1000
  p0 : 0 ≤ l * l
  p1 : l * l ≤ 1000000
theorem same_b (l : Int) (h1 : 1 ≤ l) (h2 : l ≤ 1000) : SameB l := ⟨h1, h2, sq_nn l, sq_le l 1000 (by omega) h2⟩
theorem spec_SameSums_no (l : Int) (w : World) (h : l < 1 ∨ 1000 < l) :
    Calls Tryz.prog 29 #[.int .i64 l] w fun e w' => e = .returned (.tuple #[.agg #[.int .i64 0, .int .i64 0], .agg #[.int .i64 0, .int .i64 0], .bool false]) ∧ Below w.heap.size w w' := by
  have HA := Lib.hid (betr_no h)
  clear h
  go_enter Tryz.func29, Tryz.ntmps29
  go_wp2_with (go_at_call 46; refine (rin_any _ _ _ _).mono ?_; rw [HA.out]; rintro e w' ⟨rfl, rfl⟩)
  exact bodyPost_ret (v := .tuple #[.agg #[.int .i64 0, .int .i64 0], .agg #[.int .i64 0, .int .i64 0], .bool false]) (by simp [results, Tryz.results29, go_sem]) rfl ⟨rfl, ((Below.refl _ _).alloc (Nat.le_refl _) _).alloc (by simp) _⟩
theorem impl_SameSums_no (l : Int) (w : World) (h : l < 1 ∨ 1000 < l) :
    Calls Tryz.prog 28 #[.int .i64 l] w fun e w' => e = .returned (.tuple #[.agg #[.int .i64 0, .int .i64 0], .agg #[.int .i64 0, .int .i64 0], .bool false]) ∧ Below w.heap.size w w' := by
  have HA := Lib.hid (betr_no h)
  clear h
  go_enter Tryz.func28, Tryz.ntmps28
  go_wp2_with (go_at_call 43; refine (rwithin_any _ _ _ _).mono ?_; rw [HA.out]; rintro e w' ⟨rfl, rfl⟩)
  exact bodyPost_ret (v := .tuple #[.agg #[.int .i64 0, .int .i64 0], .agg #[.int .i64 0, .int .i64 0], .bool false]) (by simp [results, Tryz.results28, go_sem]) rfl ⟨rfl, ((Below.refl _ _).alloc (Nat.le_refl _) _).alloc (by simp) _⟩
theorem set_four {W : World} {R T : Nat} {u v x y : Value} (hRT : R ≠ T) (p q r s : Value) (c0 : W.cell? ⟨R, 0, none⟩ = some u) (c1 : W.cell? ⟨R, 1, none⟩ = some v) (d0 : W.cell? ⟨T, 0, none⟩ = some x) (d1 : W.cell? ⟨T, 1, none⟩ = some y) :
    ((((W.setCell ⟨R, 0, none⟩ p).setCell ⟨R, 1, none⟩ q).setCell ⟨T, 0, none⟩ r).setCell ⟨T, 1, none⟩ s).cell? ⟨R, 0, none⟩ = some p ∧
    ((((W.setCell ⟨R, 0, none⟩ p).setCell ⟨R, 1, none⟩ q).setCell ⟨T, 0, none⟩ r).setCell ⟨T, 1, none⟩ s).cell? ⟨R, 1, none⟩ = some q ∧
    ((((W.setCell ⟨R, 0, none⟩ p).setCell ⟨R, 1, none⟩ q).setCell ⟨T, 0, none⟩ r).setCell ⟨T, 1, none⟩ s).cell? ⟨T, 0, none⟩ = some r ∧
    ((((W.setCell ⟨R, 0, none⟩ p).setCell ⟨R, 1, none⟩ q).setCell ⟨T, 0, none⟩ r).setCell ⟨T, 1, none⟩ s).cell? ⟨T, 1, none⟩ = some s := by
  have ne : ∀ (V : World) (a b : Addr) (z : Value), (a.block ≠ b.block ∨ a.off ≠ b.off) → (V.setCell b z).cell? a = V.cell? a := fun V a b z h => World.cell?_setCell_other V _ _ _ (by intro e; subst e; simp at h)
  refine ⟨?_, ?_, ?_, ?_⟩
  · rw [ne _ _ _ _ (.inl hRT), ne _ _ _ _ (.inl hRT), ne _ _ _ _ (.inr (by simp))]
    exact World.cell?_setCell_same _ _ _ c0
  · rw [ne _ _ _ _ (.inl hRT), ne _ _ _ _ (.inl hRT)]
    exact World.cell?_setCell_same _ _ _ ((ne _ _ _ _ (.inr (by simp))).trans c1)
  · rw [ne _ _ _ _ (.inr (by simp))]
    exact World.cell?_setCell_same _ _ _ (((ne _ _ _ _ (.inl hRT.symm)).trans (ne _ _ _ _ (.inl hRT.symm))).trans d0)
  · exact World.cell?_setCell_same _ _ _ ((((ne _ _ _ _ (.inr (by simp))).trans (ne _ _ _ _ (.inl hRT.symm))).trans (ne _ _ _ _ (.inl hRT.symm))).trans d1)
set_option maxHeartbeats 1600000 in
theorem spec_SameSums_yes (l : Int) (w : World) (h : SameB l) :
    Calls Tryz.prog 29 #[.int .i64 l] w fun e w' => e = .returned (.tuple #[.agg #[.int .i64 (l * l), .int .i64 (l + 1)], .agg #[.int .i64 (l * l + (l + 1)), .int .i64 l], .bool true]) ∧ Below w.heap.size w w' := by
  obtain ⟨l1, l2, p0, p1⟩ := h
  have HA := Lib.hid (betr_yes l1 l2)
  go_enter Tryz.func29, Tryz.ntmps29
  go_wp2_with (go_at_call 46; refine (rin_any _ _ _ _).mono ?_; rw [HA.out]; rintro e w' ⟨rfl, rfl⟩)
  have q1 : IntKind.i64.wrap (l * l + (l + 1)) = l * l + (l + 1) := IntWalk.i64_in _ (by omega)
  go_region
  go_wp2
  exact bodyPost_ret (v := .tuple #[.agg #[.int .i64 (l * l), .int .i64 (l + 1)], .agg #[.int .i64 (l * l + (l + 1)), .int .i64 l], .bool true]) (by simp [results, Tryz.results29, go_sem]) rfl ⟨rfl, ((((Below.refl _ _).alloc (Nat.le_refl _) _).alloc (by simp) _).alloc (by simp; omega) _).drew⟩
set_option maxHeartbeats 1600000 in
theorem impl_SameSums_yes (l : Int) (w : World) (h : SameB l) :
    Calls Tryz.prog 28 #[.int .i64 l] w fun e w' => e = .returned (.tuple #[.agg #[.int .i64 (l * l), .int .i64 (l + 1)], .agg #[.int .i64 (l * l + (l + 1)), .int .i64 l], .bool true]) ∧ Below w.heap.size w w' := by
  obtain ⟨l1, l2, p0, p1⟩ := h
  have HA := Lib.hid (betr_yes l1 l2)
  go_enter Tryz.func28, Tryz.ntmps28
  go_wp2_with (go_at_call 43; refine (rwithin_any _ _ _ _).mono ?_; rw [HA.out]; rintro e w' ⟨rfl, rfl⟩)
  have q1 : IntKind.i64.wrap (l * l + (l + 1)) = l * l + (l + 1) := IntWalk.i64_in _ (by omega)
  go_region_with (go_at_call 40; refine (last_below _ _ _ (by omega) (by omega) (by omega) (by omega)).mono ?_; rintro e w1 ⟨rfl, hb1⟩; obtain ⟨c1, f1⟩ := bcell hb1)
  all_goals
    have hB : Below w.heap.size w w1 := ((((Below.refl _ _).alloc (Nat.le_refl _) _).alloc (by simp) _).alloc (by simp; omega) _).drew.trans (hb1.mono (by simp; omega))
    obtain ⟨s0, s1, s2, s3⟩ := set_four (W := w1) (R := w.heap.size) (T := w.heap.size + 1) (by omega) (.int .i64 (l * l)) (.int .i64 (l + 1)) (.int .i64 (l * l + (l + 1))) (.int .i64 l) (u := .int .i64 0) (v := .int .i64 0) (x := .int .i64 0) (y := .int .i64 0)
      ((c1 _ _ (by simp; omega)).trans (by simp [go_sem])) ((c1 _ _ (by simp; omega)).trans (by simp [go_sem])) ((c1 _ _ (by simp)).trans (by simp [go_sem])) ((c1 _ _ (by simp)).trans (by simp [go_sem]))
    go_wp2
    exact bodyPost_ret (v := .tuple #[.agg #[.int .i64 (l * l), .int .i64 (l + 1)], .agg #[.int .i64 (l * l + (l + 1)), .int .i64 l], .bool true]) (by simp [results, Tryz.results28, go_sem, s0, s1, s2, s3]) rfl ⟨rfl, by repeat (first | exact hB | refine Below.setCell ?_ (by simp) _)⟩
end Go.Proofs.YtcfpdlkkniilpaaGreatDoor
