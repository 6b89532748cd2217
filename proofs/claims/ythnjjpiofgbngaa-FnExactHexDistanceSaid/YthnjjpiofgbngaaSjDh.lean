/- Chapter 6: the program's sides: numbers at spots, distances in the hexagon spiral. -/
import Derived.Test.YthnjjpiofgbngaaSjB
import Derived.Test.YthnjjpiofgbngaaSiO
import Derived.Test.YthnjjpiofgbngaaSiD
namespace Go.Proofs.Ythnjjpiofgbngaa
open Go.ChangeShapes Go.WideShapes Go.ChangeAt Go.RowKit

theorem hsz_swap (a b c d : Int) : hsz (a - b) (c - d) = hsz (b - a) (d - c) := by unfold hsz ab; omega
theorem impl_HexNumberAt_no (x y : Int) (w : World) (h : isHexSpot x y = false) :
    Calls Try.prog 49 #[.agg #[.int .i64 x, .int .i64 y]] w fun e w' => e = .returned (.tuple #[.int .i64 0, .bool false]) ∧ Below w.heap.size w w' := by
  have HB : Hid (Below w.heap.size w (w.alloc (.cells #[.int .i64 x, .int .i64 y] 23))) := Lib.hid ((Below.refl _ _).alloc (Nat.le_refl _) _)
  have HP := Lib.hid (box2_new w (.int .i64 x) (.int .i64 y) 23)
  cases hs : isSpot x y
  · have HA := Lib.hid hs
    clear h hs
    go_enter Try.func49, Try.ntmps49
    go_wp2_with (go_at_call 70; refine (imSpot_any _ _ _).mono ?_; rw [HA.out]; rintro e w1 ⟨rfl, hb1⟩)
    go_ret2
    exact ⟨rfl, HB.out.trans (hb1.mono HB.out.size)⟩
  · have HA := Lib.hid hs
    have HC : Hid (betr (x + y) (-400) 400 = false) := Lib.hid (by simpa [isHexSpot, hs] using h)
    obtain ⟨x0, x1, y0, y1⟩ := isSpot_bds hs
    clear h hs
    go_enter Try.func49, Try.ntmps49
    go_wp2_with (first
      | (go_at_call 70; refine (imSpot_any _ _ _).mono ?_; rw [HA.out]; rintro e w1 ⟨rfl, hb1⟩; have HP := Lib.hid (HP.out.below hb1); have HB := Lib.hid (HB.out.trans (hb1.mono HB.out.size)); have c0 := HP.out.c0; have c1 := HP.out.c1; clear hb1)
      | (go_at_call 82; refine (rofSize_any _ _ _ (by omega) (by omega)).mono ?_; rw [HC.out]; rintro e w' ⟨rfl, rfl⟩))
    go_ret2
    exact ⟨rfl, HB.out⟩
set_option maxRecDepth 4000 in
set_option maxHeartbeats 800000 in
theorem impl_HexNumberAt_yes (x y : Int) (w : World) (h : isHexSpot x y = true) :
    Calls Try.prog 49 #[.agg #[.int .i64 x, .int .i64 y]] w fun e w' => e = .returned (.tuple #[.int .i64 (hn x y), .bool true]) ∧ Below w.heap.size w w' := by
  obtain ⟨x0, x1, y0, y1, _, hs, hc⟩ := isHexSpot_bds h
  have HA := Lib.hid hs
  have HC := Lib.hid hc
  clear hs hc
  have HV : Hid (∀ (R lo hi : Nat) (W : World), Own W lo hi (some ⟨R, 0, none⟩) (prs hxK.ss) → hi ≤ W.heap.size → Calls Try.prog 71 #[.agg #[.slice (some ⟨R, 0, none⟩) 6 6, .int .i64 1, .func (.func 90) #[] #[]], .agg #[.int .i64 x, .int .i64 y]] W fun e w' => e = .returned (.int .i64 (hn x y)) ∧ Below W.heap.size W w') := Lib.hid fun R lo hi W h hh =>
    hxNum h hh x y (by omega) (by omega) (by omega) (by omega)
  clear h
  generalize hn x y = N at *
  have HB : Hid (Below w.heap.size w (w.alloc (.cells #[.int .i64 x, .int .i64 y] 23))) := Lib.hid ((Below.refl _ _).alloc (Nat.le_refl _) _)
  have HP := Lib.hid (box2_new w (.int .i64 x) (.int .i64 y) 23)
  go_enter Try.func49, Try.ntmps49
  go_wp2_with (first
    | (go_at_call 70; refine (imSpot_any _ _ _).mono ?_; rw [HA.out]; rintro e w1 ⟨rfl, hb1⟩; have HP := Lib.hid (HP.out.below hb1); have HB := Lib.hid (HB.out.trans (hb1.mono HB.out.size)); have c0 := HP.out.c0; have c1 := HP.out.c1; clear hb1)
    | (go_at_call 82; refine (rofSize_any _ _ _ (by omega) (by omega)).mono ?_; rw [HC.out]; rintro e w' ⟨rfl, rfl⟩))
  go_region_held3 (fun w' => w'.cell? ⟨w.heap.size, 0, none⟩ = some (.int .i64 x) ∧ w'.cell? ⟨w.heap.size, 1, none⟩ = some (.int .i64 y))
    (first | with_reducible exact HP.out.pair | with_reducible exact HP.out.drew.pair)
    (first
      | (go_at_call 86; refine (hexagonSpiral_any _).mono ?_; rintro e w2 ⟨⟨R, rfl, hO⟩, hb2⟩; have HO := Lib.hid hO; have HP := Lib.hid (show Box2 w2 _ _ _ from (by first | with_reducible exact HP.out.drew.below hb2 | with_reducible exact HP.out.below hb2)); have HB := Lib.hid (show Below _ w w2 from (by first | with_reducible exact HB.out.drew.trans (hb2.mono HB.out.drew.size) | with_reducible exact HB.out.trans (hb2.mono HB.out.size))); clear hO hb2)
      | (go_at_call 72; refine (vectorTo_any _ _ _).mono ?_; rintro e w3 ⟨rfl, hb3⟩; have HO := Lib.hid (HO.out.below hb3 (Nat.le_refl _)); have HZ3 := Lib.hid hb3.size; have HP := Lib.hid (HP.out.below hb3); have HB := Lib.hid (HB.out.trans (hb3.mono HB.out.size)); clear hb3)
      | (go_at_call 71; refine (HV.out _ _ _ _ HO.out (by first | exact Nat.le_refl _ | exact HZ3.out)).mono ?_; rintro e w4 ⟨rfl, hb4⟩; have HP := Lib.hid (HP.out.below hb4); have HB := Lib.hid (HB.out.trans (hb4.mono HB.out.size)); clear hb4))
  all_goals
    go_wp2
    go_ret2
    exact ⟨rfl, HB.out⟩
theorem impl_HexDistance_yes (a b : Int) (w : World) (a0 : 0 ≤ a) (a1 : a ≤ 1000000) (b0 : 0 ≤ b) (b1 : b ≤ 1000000) :
    Calls Try.prog 55 #[.int .i64 a, .int .i64 b] w fun e w' => e = .returned (.tuple #[.int .i64 (hdst a b), .bool true]) ∧ Below w.heap.size w w' := by
  have HA := Lib.hid (betr_yes a0 a1)
  have HA2 := Lib.hid (betr_yes b0 b1)
  have p := hp_600 a a0 (by omega)
  have q := hp_600 b b0 (by omega)
  have HV : Hid (∀ (R lo hi : Nat) (W : World), Own W lo hi (some ⟨R, 0, none⟩) (prs hxK.ss) → hi ≤ W.heap.size → Calls Try.prog 78 #[.agg #[.slice (some ⟨R, 0, none⟩) 6 6, .int .i64 1, .func (.func 90) #[] #[]], .int .i64 a, .int .i64 b] W fun e w' => e = .returned (.agg #[.int .i64 ((hp b).1 - (hp a).1), .int .i64 ((hp b).2 - (hp a).2)]) ∧ Below W.heap.size W w') := Lib.hid fun R lo hi W h hh =>
    wayBetween_any hxK R _ 6 1 6 a _ _ _ _ _ b _ _ _ _ _ _ W lo hi (hx_at h hh a a0 (by omega)) (hx_at h hh b b0 (by omega)) (by omega) (by omega) (by omega) (by omega)
  have hd : hdst a b = hsz ((hp b).1 - (hp a).1) ((hp b).2 - (hp a).2) := by rw [hdst, hsz_swap]
  rw [hd]
  have HS := Lib.hid fun W => hexagonRing_any ((hp b).1 - (hp a).1) ((hp b).2 - (hp a).2) W (by omega) (by omega) (by omega) (by omega)
  clear p q hd a0 a1 b0 b1
  generalize hsz ((hp b).1 - (hp a).1) ((hp b).2 - (hp a).2) = N at *
  generalize (hp b).1 - (hp a).1 = x at *
  generalize (hp b).2 - (hp a).2 = y at *
  have HB := Lib.hid (Below.refl w.heap.size w)
  go_enter Try.func55, Try.ntmps55
  go_wp2_with (first
    | (go_at_call 64; refine (isOn_any _ _).mono ?_; (first | rw [HA.out] | rw [HA2.out]); rintro e w' ⟨rfl, rfl⟩)
    | (go_at_call 86; refine (hexagonSpiral_any _).mono ?_; rintro e w1 ⟨⟨R, rfl, hO⟩, hb1⟩; have HO := Lib.hid hO; have HB := Lib.hid (HB.out.trans (hb1.mono HB.out.size)); clear hO hb1)
    | (go_at_call 78; refine (HV.out _ _ _ _ HO.out (Nat.le_refl _)).mono ?_; rintro e w2 ⟨rfl, hb2⟩; have HB := Lib.hid (HB.out.trans (hb2.mono HB.out.size)); clear hb2)
    | (go_at_call 90; refine (HS.out _).mono ?_; rintro e w3 ⟨rfl, hb3⟩; have HB := Lib.hid (HB.out.trans (hb3.mono HB.out.size)); clear hb3))
  go_ret2
  exact ⟨rfl, HB.out⟩
end Go.Proofs.Ythnjjpiofgbngaa
