/- Chapter 6: the program's sides: numbers at spots, distances in the spiral. -/
import Derived.Test.YthnjjpiofgbngaaSjC
import Derived.Test.YthnjjpiofgbngaaSiD
namespace Go.Proofs.Ythnjjpiofgbngaa
open Go.ChangeShapes Go.WideShapes Go.ChangeAt Go.RowKit

theorem ab_swap (x y : Int) : ab (x - y) = ab (y - x) := by unfold ab; omega
set_option maxRecDepth 4000 in
set_option maxHeartbeats 800000 in
theorem impl_NumberAt_yes (x y : Int) (w : World) (h : isSpot x y = true) :
    Calls Try.prog 25 #[.agg #[.int .i64 x, .int .i64 y]] w fun e w' => e = .returned (.tuple #[.int .i64 (nu x y), .bool true]) ∧ Below w.heap.size w w' := by
  have HA := Lib.hid h
  obtain ⟨x0, x1, y0, y1⟩ := isSpot_bds h
  have HV : Hid (∀ (R lo hi : Nat) (W : World), Own W lo hi (some ⟨R, 0, none⟩) (prs sqK.ss) → hi ≤ W.heap.size → Calls Try.prog 71 #[.agg #[.slice (some ⟨R, 0, none⟩) 4 4, .int .i64 2, .func (.func 96) #[] #[]], .agg #[.int .i64 x, .int .i64 y]] W fun e w' => e = .returned (.int .i64 (nu x y)) ∧ Below W.heap.size W w') := Lib.hid fun R lo hi W h hh =>
    sqNum h hh x y (by omega) (by omega) (by omega) (by omega)
  clear h
  generalize nu x y = N at *
  have HB : Hid (Below w.heap.size w (w.alloc (.cells #[.int .i64 x, .int .i64 y] 23))) := Lib.hid ((Below.refl _ _).alloc (Nat.le_refl _) _)
  have HP := Lib.hid (box2_new w (.int .i64 x) (.int .i64 y) 23)
  go_enter Try.func25, Try.ntmps25
  go_wp2_with (first
    | (go_at_call 70; refine (imSpot_any _ _ _).mono ?_; rw [HA.out]; rintro e w1 ⟨rfl, hb1⟩; have HP := Lib.hid (HP.out.below hb1); have HB := Lib.hid (HB.out.trans (hb1.mono HB.out.size)); have c0 := HP.out.c0; have c1 := HP.out.c1; clear hb1))
  go_region_held3 (fun w' => w'.cell? ⟨w.heap.size, 0, none⟩ = some (.int .i64 x) ∧ w'.cell? ⟨w.heap.size, 1, none⟩ = some (.int .i64 y))
    (first | with_reducible exact HP.out.pair | with_reducible exact HP.out.drew.pair)
    (first
      | (go_at_call 65; refine (squareSpiral_any _).mono ?_; rintro e w2 ⟨⟨R, rfl, hO⟩, hb2⟩; have HO := Lib.hid hO; have HP := Lib.hid (show Box2 w2 _ _ _ from (by first | with_reducible exact HP.out.drew.below hb2 | with_reducible exact HP.out.below hb2)); have HB := Lib.hid (show Below _ w w2 from (by first | with_reducible exact HB.out.drew.trans (hb2.mono HB.out.drew.size) | with_reducible exact HB.out.trans (hb2.mono HB.out.size))); clear hO hb2)
      | (go_at_call 72; refine (vectorTo_any _ _ _).mono ?_; rintro e w3 ⟨rfl, hb3⟩; have HO := Lib.hid (HO.out.below hb3 (Nat.le_refl _)); have HZ3 := Lib.hid hb3.size; have HP := Lib.hid (HP.out.below hb3); have HB := Lib.hid (HB.out.trans (hb3.mono HB.out.size)); clear hb3)
      | (go_at_call 71; refine (HV.out _ _ _ _ HO.out (by first | exact Nat.le_refl _ | exact HZ3.out)).mono ?_; rintro e w4 ⟨rfl, hb4⟩; have HP := Lib.hid (HP.out.below hb4); have HB := Lib.hid (HB.out.trans (hb4.mono HB.out.size)); clear hb4))
  all_goals
    go_wp2
    go_ret2
    exact ⟨rfl, HB.out⟩
set_option maxRecDepth 4000 in
set_option maxHeartbeats 800000 in
theorem impl_DistanceOf_yes (a b : Int) (w : World) (a0 : 0 ≤ a) (a1 : a ≤ 1000000) (b0 : 0 ≤ b) (b1 : b ≤ 1000000) :
    Calls Try.prog 38 #[.int .i64 a, .int .i64 b] w fun e w' => e = .returned (.tuple #[.int .i64 (dst a b), .bool true]) ∧ Below w.heap.size w w' := by
  have HA := Lib.hid (betr_yes a0 a1)
  have HA2 := Lib.hid (betr_yes b0 b1)
  have p := sp_500 a a0 (by omega)
  have q := sp_500 b b0 (by omega)
  have HV : Hid (∀ (R lo hi : Nat) (W : World), Own W lo hi (some ⟨R, 0, none⟩) (prs sqK.ss) → hi ≤ W.heap.size → Calls Try.prog 78 #[.agg #[.slice (some ⟨R, 0, none⟩) 4 4, .int .i64 2, .func (.func 96) #[] #[]], .int .i64 a, .int .i64 b] W fun e w' => e = .returned (.agg #[.int .i64 ((sp b).1 - (sp a).1), .int .i64 ((sp b).2 - (sp a).2)]) ∧ Below W.heap.size W w') := Lib.hid fun R lo hi W h hh =>
    wayBetween_any sqK R _ 4 2 8 a _ _ _ _ _ b _ _ _ _ _ _ W lo hi (sq_at h hh a a0 (by omega)) (sq_at h hh b b0 (by omega)) (by omega) (by omega) (by omega) (by omega)
  have hd : dst a b = ab ((sp b).1 - (sp a).1) + ab ((sp b).2 - (sp a).2) := by rw [dst, ab_swap, ab_swap (sp a).2]
  rw [hd]
  have p0 : -1000 ≤ (sp b).1 - (sp a).1 ∧ (sp b).1 - (sp a).1 ≤ 1000 := by omega
  have q0 : -1000 ≤ (sp b).2 - (sp a).2 ∧ (sp b).2 - (sp a).2 ≤ 1000 := by omega
  clear p q hd a0 a1 b0 b1
  generalize (sp b).1 - (sp a).1 = x at *
  generalize (sp b).2 - (sp a).2 = y at *
  have HSX := Lib.hid fun W => sizeOf_any x W (by omega) (by omega)
  have HSY := Lib.hid fun W => sizeOf_any y W (by omega) (by omega)
  have hw : IntKind.i64.wrap (ab x + ab y) = ab x + ab y := IntWalk.i64_in _ (by unfold ab; omega)
  have hw2 : wrap64 (ab x + ab y) = ab x + ab y := IntWalk.wrap64_in _ (by unfold ab; omega)
  clear p0 q0
  generalize ab x = ax at *
  generalize ab y = ay at *
  have HB := Lib.hid (Below.refl w.heap.size w)
  go_enter Try.func38, Try.ntmps38
  go_wp2_with (first
    | (go_at_call 64; refine (isOn_any _ _).mono ?_; (first | rw [HA.out] | rw [HA2.out]); rintro e w' ⟨rfl, rfl⟩)
    | (go_at_call 65; refine (squareSpiral_any _).mono ?_; rintro e w1 ⟨⟨R, rfl, hO⟩, hb1⟩; have HO := Lib.hid hO; have HB := Lib.hid (HB.out.trans (hb1.mono HB.out.size)); clear hO hb1)
    | (go_at_call 78; refine (HV.out _ _ _ _ HO.out (Nat.le_refl _)).mono ?_; rintro e w2 ⟨rfl, hb2⟩; have HB := Lib.hid (HB.out.trans (hb2.mono HB.out.size)); clear hb2))
  have HBA := Lib.hid (HB.out.alloc HB.out.size (.cells #[.int .i64 x, .int .i64 y] 53))
  have c0 : (w2.alloc (.cells #[.int .i64 x, .int .i64 y] 53)).cell? ⟨w2.heap.size, 0, none⟩ = some (.int .i64 x) := by simp [go_sem]
  have c1 : (w2.alloc (.cells #[.int .i64 x, .int .i64 y] 53)).cell? ⟨w2.heap.size, 1, none⟩ = some (.int .i64 y) := by simp [go_sem]
  generalize w2.alloc (.cells #[.int .i64 x, .int .i64 y] 53) = w3 at *
  go_quiet (first
    | (go_at_call 81; refine (HSX.out _).mono ?_; rintro e w' ⟨rfl, rfl⟩; exact ⟨rfl, _, rfl⟩)
    | (go_at_call 81; refine (HSY.out _).mono ?_; rintro e w' ⟨rfl, rfl⟩; exact ⟨rfl, _, rfl⟩))
  go_wp2
  go_ret2
  exact ⟨rfl, below_drewN HBA.out _⟩
end Go.Proofs.Ythnjjpiofgbngaa
