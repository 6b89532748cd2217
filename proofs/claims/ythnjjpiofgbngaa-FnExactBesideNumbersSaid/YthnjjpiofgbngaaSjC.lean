/- Chapter 6: the program's sides: spots, rings and steps of the spiral. -/
import Derived.Test.YthnjjpiofgbngaaSjB
import Derived.Test.YthnjjpiofgbngaaSiC
namespace Go.Proofs.Ythnjjpiofgbngaa
open Go.ChangeShapes Go.WideShapes Go.ChangeAt Go.RowKit

theorem sp_500 (n : Int) (h0 : 0 ≤ n) (h1 : n ≤ 1000001) : -500 ≤ (sp n).1 ∧ (sp n).1 ≤ 500 ∧ -500 ≤ (sp n).2 ∧ (sp n).2 ≤ 500 := by
  have a := sp_bds n h0
  have b := rg_le5 n h0 h1
  omega
set_option maxHeartbeats 800000 in
theorem impl_SpotOf_yes (n : Int) (w : World) (h0 : 0 ≤ n) (h1 : n ≤ 1000000) :
    Calls Try.prog 21 #[.int .i64 n] w fun e w' => e = .returned (.tuple #[.agg #[.int .i64 (sp n).1, .int .i64 (sp n).2], .bool true]) ∧ Below w.heap.size w w' := by
  have HA := Lib.hid (betr_yes h0 h1)
  have HV : Hid (∀ (R lo hi : Nat) (W : World), Own W lo hi (some ⟨R, 0, none⟩) (prs sqK.ss) → hi ≤ W.heap.size → Calls Try.prog 66 #[.agg #[.slice (some ⟨R, 0, none⟩) 4 4, .int .i64 2, .func (.func 96) #[] #[]], .int .i64 n] W fun e w' => e = .returned (.agg #[.int .i64 (sp n).1, .int .i64 (sp n).2]) ∧ Below W.heap.size W w') := Lib.hid fun R lo hi W h hh => sqVec _ h hh n h0 (by omega)
  generalize (sp n).1 = x at *
  generalize (sp n).2 = y at *
  clear h0 h1
  have HB : Hid (Below w.heap.size w (w.alloc (.cells #[.int .i64 0, .int .i64 0] 23))) := Lib.hid ((Below.refl _ _).alloc (Nat.le_refl _) _)
  have HP := Lib.hid (boxw_new w (.int .i64 0) (.int .i64 0) 23)
  go_enter Try.func21, Try.ntmps21
  go_wp2_with (first
    | (go_at_call 64; refine (isOn_any _ _).mono ?_; rw [HA.out]; rintro e w' ⟨rfl, rfl⟩)
    | (go_at_call 65; refine (squareSpiral_any _).mono ?_; rintro e w1 ⟨⟨R, rfl, hO⟩, hb1⟩; have HO := Lib.hid hO; have HP := Lib.hid (HP.out.below hb1); have HB := Lib.hid (HB.out.trans (hb1.mono HB.out.size)); clear hO hb1)
    | (go_at_call 66; refine (HV.out _ _ _ _ HO.out (Nat.le_refl _)).mono ?_; rintro e w2 ⟨rfl, hb2⟩; have HP := Lib.hid (HP.out.below hb2); have HB := Lib.hid (HB.out.trans (hb2.mono HB.out.size)); clear hb2)
    | (go_at_call 67; refine (vspot_any _ _ _).mono ?_; rintro e w3 ⟨rfl, hb3⟩; have HP := Lib.hid (HP.out.below hb3); have HB := Lib.hid (HB.out.trans (hb3.mono HB.out.size)); have c0 := HP.out.c0; have f0 := HP.out.f0; have c1 := HP.out.c1; have f1 := HP.out.f1; clear hb3))
  obtain ⟨d0, d1⟩ := put2 c0 c1 (.int .i64 x) (.int .i64 y)
  have hB5 : Below w.heap.size w ((w3.setCell ⟨w.heap.size, 0, none⟩ (.int .i64 x)).setCell ⟨w.heap.size, 1, none⟩ (.int .i64 y)) := (HB.out.setCell (Nat.le_refl _) _).setCell (Nat.le_refl _) _
  generalize ((w3.setCell ⟨w.heap.size, 0, none⟩ (.int .i64 x)).setCell ⟨w.heap.size, 1, none⟩ (.int .i64 y)) = wE at *
  exact bodyPost_ret (v := .tuple #[.agg #[.int .i64 x, .int .i64 y], .bool true]) (by simp [results, Try.results21, go_sem, d0, d1]) rfl ⟨rfl, hB5⟩
set_option maxHeartbeats 800000 in
theorem impl_StepFrom_yes (n : Int) (w : World) (h0 : 0 ≤ n) (h1 : n ≤ 1000000) :
    Calls Try.prog 31 #[.int .i64 n] w fun e w' => e = .returned (.tuple #[.agg #[.int .i64 ((sp (n + 1)).1 - (sp n).1), .int .i64 ((sp (n + 1)).2 - (sp n).2)], .bool true]) ∧ Below w.heap.size w w' := by
  have HA := Lib.hid (betr_yes h0 h1)
  have b0 := sp_500 n h0 (by omega)
  have b1 := sp_500 (n + 1) (by omega) (by omega)
  have HV : Hid (∀ (R lo hi : Nat) (W : World), Own W lo hi (some ⟨R, 0, none⟩) (prs sqK.ss) → hi ≤ W.heap.size → Calls Try.prog 78 #[.agg #[.slice (some ⟨R, 0, none⟩) 4 4, .int .i64 2, .func (.func 96) #[] #[]], .int .i64 n, .int .i64 (n + 1)] W fun e w' => e = .returned (.agg #[.int .i64 ((sp (n + 1)).1 - (sp n).1), .int .i64 ((sp (n + 1)).2 - (sp n).2)]) ∧ Below W.heap.size W w') := Lib.hid fun R lo hi W h hh =>
    wayBetween_any sqK R _ 4 2 8 n _ _ _ _ _ (n + 1) _ _ _ _ _ _ W lo hi (sq_at h hh n h0 (by omega)) (sq_at h hh (n + 1) (by omega) (by omega)) (by omega) (by omega) (by omega) (by omega)
  clear b0 b1
  generalize (sp (n + 1)).1 - (sp n).1 = x at *
  generalize (sp (n + 1)).2 - (sp n).2 = y at *
  have HB : Hid (Below w.heap.size w (w.alloc (.cells #[.int .i64 0, .int .i64 0] 23))) := Lib.hid ((Below.refl _ _).alloc (Nat.le_refl _) _)
  have HP := Lib.hid (boxw_new w (.int .i64 0) (.int .i64 0) 23)
  go_enter Try.func31, Try.ntmps31
  go_wp2_with (first
    | (go_at_call 64; refine (isOn_any _ _).mono ?_; rw [HA.out]; rintro e w' ⟨rfl, rfl⟩)
    | (go_at_call 65; refine (squareSpiral_any _).mono ?_; rintro e w1 ⟨⟨R, rfl, hO⟩, hb1⟩; have HO := Lib.hid hO; have HP := Lib.hid (HP.out.below hb1); have HB := Lib.hid (HB.out.trans (hb1.mono HB.out.size)); clear hO hb1)
    | (go_at_call 78; refine (HV.out _ _ _ _ HO.out (Nat.le_refl _)).mono ?_; rintro e w2 ⟨rfl, hb2⟩; have HP := Lib.hid (HP.out.below hb2); have HB := Lib.hid (HB.out.trans (hb2.mono HB.out.size)); clear hb2)
    | (go_at_call 67; refine (vspot_any _ _ _).mono ?_; rintro e w3 ⟨rfl, hb3⟩; have HP := Lib.hid (HP.out.below hb3); have HB := Lib.hid (HB.out.trans (hb3.mono HB.out.size)); have c0 := HP.out.c0; have f0 := HP.out.f0; have c1 := HP.out.c1; have f1 := HP.out.f1; clear hb3))
  obtain ⟨d0, d1⟩ := put2 c0 c1 (.int .i64 x) (.int .i64 y)
  have hB5 : Below w.heap.size w ((w3.setCell ⟨w.heap.size, 0, none⟩ (.int .i64 x)).setCell ⟨w.heap.size, 1, none⟩ (.int .i64 y)) := (HB.out.setCell (Nat.le_refl _) _).setCell (Nat.le_refl _) _
  generalize ((w3.setCell ⟨w.heap.size, 0, none⟩ (.int .i64 x)).setCell ⟨w.heap.size, 1, none⟩ (.int .i64 y)) = wE at *
  exact bodyPost_ret (v := .tuple #[.agg #[.int .i64 x, .int .i64 y], .bool true]) (by simp [results, Try.results31, go_sem, d0, d1]) rfl ⟨rfl, hB5⟩
theorem impl_RingOf_yes (n : Int) (w : World) (h0 : 0 ≤ n) (h1 : n ≤ 1000000) :
    Calls Try.prog 27 #[.int .i64 n] w fun e w' => e = .returned (.tuple #[.int .i64 (rg n), .bool true]) ∧ Below w.heap.size w w' := by
  have HA := Lib.hid (betr_yes h0 h1)
  have HV : Hid (∀ (R : Nat) (W : World), Calls Try.prog 74 #[.agg #[.slice (some ⟨R, 0, none⟩) 4 4, .int .i64 2, .func (.func 96) #[] #[]], .int .i64 n] W fun e w' => e = .returned (.int .i64 (rg n)) ∧ Below W.heap.size W w') := Lib.hid fun R W =>
    ringOf_any R _ 4 2 8 n _ _ W (by decide) (by omega) (by omega) (sq_fits n h0 (by omega))
  clear h0 h1
  generalize rg n = r at *
  have HB := Lib.hid (Below.refl w.heap.size w)
  go_enter Try.func27, Try.ntmps27
  go_wp2_with (first
    | (go_at_call 64; refine (isOn_any _ _).mono ?_; rw [HA.out]; rintro e w' ⟨rfl, rfl⟩)
    | (go_at_call 65; refine (squareSpiral_any _).mono ?_; rintro e w1 ⟨⟨R, rfl, hO⟩, hb1⟩; have HO := Lib.hid hO; have HB := Lib.hid (HB.out.trans (hb1.mono HB.out.size)); clear hO hb1)
    | (go_at_call 74; refine (HV.out _ _).mono ?_; rintro e w2 ⟨rfl, hb2⟩; have HB := Lib.hid (HB.out.trans (hb2.mono HB.out.size)); clear hb2))
  go_ret2
  exact ⟨rfl, HB.out⟩
theorem impl_RingNumbers_yes (n : Int) (w : World) (h0 : 0 ≤ n) (h1 : n ≤ 499) :
    Calls Try.prog 29 #[.int .i64 n] w fun e w' => e = .returned (.tuple #[.int .i64 (ringLo n), .int .i64 (ringHi n), .bool true]) ∧ Below w.heap.size w w' := by
  have HA := Lib.hid (betr_yes h0 h1)
  by_cases hz : n = 0
  · subst hz
    have HL : Hid (ringLo 0 = 0) := Lib.hid rfl
    have HH : Hid (ringHi 0 = 0) := Lib.hid rfl
    rw [HL.out, HH.out]
    go_enter Try.func29, Try.ntmps29
    go_wp2_with (go_at_call 76; refine (rwithin_any _ _ _ _).mono ?_; rw [HA.out]; rintro e w' ⟨rfl, rfl⟩)
    go_ret3
    exact ⟨rfl, Below.refl _ _⟩
  · have el : ringLo n = (2 * n - 1) * (2 * n - 1) - 1 + 1 := by rw [ringLo, if_neg hz]; omega
    have eh : ringHi n = (2 * n + 1) * (2 * n + 1) - 1 := by rw [ringHi, if_neg hz]
    have q := sq_exp n
    have q2 := sq_ring n
    obtain ⟨r0, r1, r2⟩ := rr_b (r := n) h0 (by omega)
    obtain ⟨k, hk⟩ : ∃ k, k = n - 1 := ⟨_, rfl⟩
    have HVA : Hid (∀ (R : Nat) (W : World), Calls Try.prog 77 #[.agg #[.slice (some ⟨R, 0, none⟩) 4 4, .int .i64 2, .func (.func 96) #[] #[]], .int .i64 k] W fun e w' => e = .returned (.int .i64 ((2 * n - 1) * (2 * n - 1) - 1)) ∧ Below W.heap.size W w') := Lib.hid fun R W =>
      lastOfRing_any R _ 4 2 8 k _ W (by decide) (by omega) (by omega) (by rw [hk, show n - 1 + 1 = n by omega, show (2 * n - 1) * (2 * n - 1) - 1 + 1 = (2 * n - 1) * (2 * n - 1) by omega]; exact sq_bds h0 (by omega)) (by omega) (by omega) (by omega) (by omega)
    have HVB : Hid (∀ (R : Nat) (W : World), Calls Try.prog 77 #[.agg #[.slice (some ⟨R, 0, none⟩) 4 4, .int .i64 2, .func (.func 96) #[] #[]], .int .i64 n] W fun e w' => e = .returned (.int .i64 ((2 * n + 1) * (2 * n + 1) - 1)) ∧ Below W.heap.size W w') := Lib.hid fun R W =>
      lastOfRing_any R _ 4 2 8 n _ W (by decide) (by omega) (by omega) (by rw [show (2 * n + 1) * (2 * n + 1) - 1 + 1 = (2 * (n + 1) - 1) * (2 * (n + 1) - 1) by rw [show 2 * (n + 1) - 1 = 2 * n + 1 by omega]; omega]; exact sq_bds (by omega) (by omega)) (by omega) (by omega) (by omega) (by omega)
    have hw1 : wrap64 (n - 1) = k := by rw [hk]; exact IntWalk.wrap64_in _ (by omega)
    have hw2 : IntKind.i64.wrap ((2 * n - 1) * (2 * n - 1) - 1 + 1) = (2 * n - 1) * (2 * n - 1) - 1 + 1 := IntWalk.i64_in _ (by omega)
    have hne : (n == 0) = false := by simpa using hz
    have b0 : 0 ≤ (2 * n - 1) * (2 * n - 1) - 1 := by omega
    have b1 : (2 * n - 1) * (2 * n - 1) - 1 ≤ 100000000 := by omega
    rw [el, eh]
    clear h0 h1 hk q q2 r0 r1 r2 hz el eh
    generalize (2 * n - 1) * (2 * n - 1) - 1 = p at *
    generalize (2 * n + 1) * (2 * n + 1) - 1 = q at *
    have HB := Lib.hid (Below.refl w.heap.size w)
    go_enter Try.func29, Try.ntmps29
    go_wp2_with (first
      | (go_at_call 76; refine (rwithin_any _ _ _ _).mono ?_; rw [HA.out]; rintro e w' ⟨rfl, rfl⟩)
      | (go_at_call 65; refine (squareSpiral_any _).mono ?_; rintro e w1 ⟨⟨R, rfl, hO⟩, hb1⟩; have HO := Lib.hid hO; have HB := Lib.hid (HB.out.trans (hb1.mono HB.out.size)); clear hO hb1)
      | (go_at_call_of 77 k; refine (HVA.out _ _).mono ?_; rintro e w2 ⟨rfl, hb2⟩; have HB := Lib.hid (HB.out.trans (hb2.mono HB.out.size)); clear hb2)
      | (go_at_call_of 77 n; refine (HVB.out _ _).mono ?_; rintro e w3 ⟨rfl, hb3⟩; have HB := Lib.hid (HB.out.trans (hb3.mono HB.out.size)); clear hb3))
    go_ret3
    exact ⟨rfl, HB.out⟩
end Go.Proofs.Ythnjjpiofgbngaa
