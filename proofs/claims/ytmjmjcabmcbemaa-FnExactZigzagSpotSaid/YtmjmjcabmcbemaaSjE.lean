/- Chapter 6: the program's sides: the triangle and the zigzag. -/
import Derived.Test.YtmjmjcabmcbemaaSjB
import Derived.Test.YtmjmjcabmcbemaaSiJ
namespace Go.Proofs.Ytmjmjcabmcbemaa
open Go.ChangeShapes Go.WideShapes Go.ChangeAt Go.RowKit

theorem tri_bds (k : Int) (h3 : -3000000 ≤ k) (h4 : k ≤ 3000000) : RuleBds 0 1 1 k (num 3 k) := by
  obtain ⟨a0, a1, b0, b1, c0, c1, d0⟩ := num_bds 3 k (by omega) (by omega) h3 h4
  have e1 := num_twice 3 k
  have e2 : ((3 : Int) - 2) * k * k = 1 * k * k := by grind
  have e3 : ((3 : Int) - 4) * k = -(1 * k) := by grind
  have e4 : ((3 : Int) - 2) * k = 1 * k := by grind
  constructor <;> omega
theorem tri_fits (n : Int) (h3 : 0 ≤ n) (h4 : n ≤ 1000000) : Fits 0 1 1 n (pl 3 n) (num 3) :=
  ⟨fun k h5 h6 => tri_bds k (by omega) (by omega), pl_nn 3 n (by omega) h3, by have := pl_le 3 n (by omega) h3 (by omega); omega, fun k h5 _ => fits_iff 3 n k (by omega) h3 (by omega)⟩
theorem triRule_any (w : World) :
    Calls Try.prog 15 #[.int .i64 3] w fun e w' => e = .returned (.agg #[.int .i64 0, .int .i64 1, .int .i64 1]) ∧ Below w.heap.size w w' := by
  simpa using polygonRule_any 3 w (by omega) (by omega)
theorem goesDown_any (l : Int) (w : World) (h : 0 ≤ l) :
    Calls Try.prog 12 #[.int .i64 l] w fun e w' => e = .returned (.bool (decide (l % 2 = 1))) ∧ w = w' := by
  have e : l.tmod 2 = l % 2 := Int.tmod_eq_emod_of_nonneg h
  have h0 : 0 ≤ l % 2 := Int.emod_nonneg _ (by omega)
  have h1 : l % 2 < 2 := Int.emod_lt_of_pos _ (by omega)
  have HD : Hid (decide (l % 2 = 1) = (l % 2 == 1)) := Lib.hid (by by_cases c : l % 2 = 1 <;> simp [c])
  clear h
  generalize hk : l % 2 = k at *
  clear hk
  go_enter Try.func12, Try.ntmps12
  go_wp2
  go_ret
  exact ⟨ret_bool HD.out.symm, rfl⟩
set_option maxHeartbeats 800000 in
theorem lineOf_any (n : Int) (w : World) (h0 : 0 ≤ n) (h1 : n ≤ 1000000) :
    Calls Try.prog 11 #[.int .i64 n] w fun e w' => e = .returned (.tuple #[.int .i64 (ln n), .int .i64 (inl n)]) ∧ Below w.heap.size w w' := by
  obtain ⟨l0, l1, m0, m1, hk⟩ := ln_b n h0 h1
  have HL := Lib.hid fun W => lastPlace_any 0 1 1 n (pl 3 n) (num 3) W (tri_fits n h0 h1)
  have HLN : Hid (pl 3 n = ln n) := Lib.hid rfl
  rw [HLN.out] at HL
  clear HLN
  have HM := Lib.hid fun W => numberAt_any 0 1 1 (ln n) (num 3 (ln n)) W (tri_bds _ (by omega) (by omega))
  generalize inl n = k at *
  generalize num 3 (ln n) = m at *
  generalize ln n = l at *
  have hw : wrap64 (n - m) = k := by rw [hk]; exact IntWalk.wrap64_in _ (by omega)
  have hw2 : n - m = k := hk.symm
  clear hk
  have HB := Lib.hid (Below.refl w.heap.size w)
  go_enter Try.func11, Try.ntmps11
  go_wp2_with (first
    | (go_at_call 15; refine (triRule_any _).mono ?_; rintro e w1 ⟨rfl, hb1⟩; have HT := Lib.hid (box3_new w1 (.int .i64 0) (.int .i64 1) (.int .i64 1) 33); have HB := Lib.hid ((HB.out.trans (hb1.mono HB.out.size)).alloc hb1.size (.cells #[.int .i64 0, .int .i64 1, .int .i64 1] 33)); clear hb1)
    | (go_at_call 16; refine (HL.out _).mono ?_; rintro e w2 ⟨rfl, hb2⟩; have HT := Lib.hid (HT.out.below hb2); have HB := Lib.hid (HB.out.trans (hb2.mono HB.out.size)); have c0 := HT.out.c0; have c1 := HT.out.c1; have c2 := HT.out.c2; clear hb2)
    | (go_at_call 17; refine (HM.out _).mono ?_; rintro e w3 ⟨rfl, hb3⟩; have HB := Lib.hid (HB.out.trans (hb3.mono HB.out.size)); clear hb3))
  go_ret2
  exact ⟨rfl, HB.out⟩
theorem impl_ZigzagSpot_yes (n : Int) (w : World) (h0 : 0 ≤ n) (h1 : n ≤ 1000000) :
    Calls Try.prog 5 #[.int .i64 n] w fun e w' => e = .returned (.tuple #[.agg #[.int .i64 (zzX (ln n) (inl n)), .int .i64 (zzY (ln n) (inl n))], .bool true]) ∧ Below w.heap.size w w' := by
  have HA := Lib.hid (betr_yes h0 h1)
  have HL := Lib.hid fun W => lineOf_any n W h0 h1
  obtain ⟨l0, l1, m0, m1, hk⟩ := ln_b n h0 h1
  have k0 : 0 ≤ inl n := by omega
  have k1 : inl n ≤ 1000000 := by omega
  clear h0 h1 m0 m1 hk
  generalize inl n = k at *
  generalize ln n = l at *
  have HG := Lib.hid fun W => goesDown_any l W l0
  have HB : Hid (Below w.heap.size w (w.alloc (.cells #[.int .i64 0, .int .i64 0] 23))) := Lib.hid ((Below.refl _ _).alloc (Nat.le_refl _) _)
  have HP := Lib.hid (boxw_new w (.int .i64 0) (.int .i64 0) 23)
  by_cases hd : l % 2 = 1
  · have HX : Hid (zzX l k = k) := Lib.hid (by rw [zzX, if_pos hd])
    have HY : Hid (zzY l k = l - k) := Lib.hid (by rw [zzY, if_pos hd])
    have HD : Hid (decide (l % 2 = 1) = true) := Lib.hid (by simp [hd])
    rw [HX.out, HY.out]
    clear hd
    go_enter Try.func5, Try.ntmps5
    go_wp2_with (first
      | (go_at_call 10; refine (isOn_any _ _).mono ?_; rw [HA.out]; rintro e w' ⟨rfl, rfl⟩)
      | (go_at_call 11; refine (HL.out _).mono ?_; rintro e w1 ⟨rfl, hb1⟩; have HP := Lib.hid (HP.out.below hb1); have HB := Lib.hid (HB.out.trans (hb1.mono HB.out.size)); have c0 := HP.out.c0; have f0 := HP.out.f0; have c1 := HP.out.c1; have f1 := HP.out.f1; clear hb1)
      | (go_at_call 12; refine (HG.out _).mono ?_; rw [HD.out]; rintro e w' ⟨rfl, rfl⟩))
    obtain ⟨d0, d1⟩ := put2 c0 c1 (.int .i64 (k)) (.int .i64 (l - k))
    have hB5 : Below w.heap.size w ((w1.setCell ⟨w.heap.size, 0, none⟩ (.int .i64 (k))).setCell ⟨w.heap.size, 1, none⟩ (.int .i64 (l - k))) := (HB.out.setCell (Nat.le_refl _) _).setCell (Nat.le_refl _) _
    generalize ((w1.setCell ⟨w.heap.size, 0, none⟩ (.int .i64 (k))).setCell ⟨w.heap.size, 1, none⟩ (.int .i64 (l - k))) = wE at *
    exact bodyPost_ret (v := .tuple #[.agg #[.int .i64 (k), .int .i64 (l - k)], .bool true]) (by simp [results, Try.results5, go_sem, d0, d1]) rfl ⟨rfl, hB5⟩
  · have HX : Hid (zzX l k = l - k) := Lib.hid (by rw [zzX, if_neg hd])
    have HY : Hid (zzY l k = k) := Lib.hid (by rw [zzY, if_neg hd])
    have HD : Hid (decide (l % 2 = 1) = false) := Lib.hid (by simp [hd])
    rw [HX.out, HY.out]
    clear hd
    go_enter Try.func5, Try.ntmps5
    go_wp2_with (first
      | (go_at_call 10; refine (isOn_any _ _).mono ?_; rw [HA.out]; rintro e w' ⟨rfl, rfl⟩)
      | (go_at_call 11; refine (HL.out _).mono ?_; rintro e w1 ⟨rfl, hb1⟩; have HP := Lib.hid (HP.out.below hb1); have HB := Lib.hid (HB.out.trans (hb1.mono HB.out.size)); have c0 := HP.out.c0; have f0 := HP.out.f0; have c1 := HP.out.c1; have f1 := HP.out.f1; clear hb1)
      | (go_at_call 12; refine (HG.out _).mono ?_; rw [HD.out]; rintro e w' ⟨rfl, rfl⟩))
    obtain ⟨d0, d1⟩ := put2 c0 c1 (.int .i64 (l - k)) (.int .i64 (k))
    have hB5 : Below w.heap.size w ((w1.setCell ⟨w.heap.size, 0, none⟩ (.int .i64 (l - k))).setCell ⟨w.heap.size, 1, none⟩ (.int .i64 (k))) := (HB.out.setCell (Nat.le_refl _) _).setCell (Nat.le_refl _) _
    generalize ((w1.setCell ⟨w.heap.size, 0, none⟩ (.int .i64 (l - k))).setCell ⟨w.heap.size, 1, none⟩ (.int .i64 (k))) = wE at *
    exact bodyPost_ret (v := .tuple #[.agg #[.int .i64 (l - k), .int .i64 (k)], .bool true]) (by simp [results, Try.results5, go_sem, d0, d1]) rfl ⟨rfl, hB5⟩
end Go.Proofs.Ytmjmjcabmcbemaa
