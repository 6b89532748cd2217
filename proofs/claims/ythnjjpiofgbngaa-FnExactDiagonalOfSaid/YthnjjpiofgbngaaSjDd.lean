/- Chapter 6: the program's sides: diagonals. -/
import Derived.Test.YthnjjpiofgbngaaSjB
import Derived.Test.YthnjjpiofgbngaaSiE
namespace Go.Proofs.Ythnjjpiofgbngaa
open Go.ChangeShapes Go.WideShapes Go.ChangeAt Go.RowKit

theorem impl_DiagonalOf_no (dx dy n : Int) (w : World) (h : dgOk dx dy n = false) :
    Calls Try.prog 40 #[.int .i64 dx, .int .i64 dy, .int .i64 n] w (ResI false [] w) := by
  cases hx : betr dx (-1) 1
  · have HX := Lib.hid hx
    clear h hx
    go_enter Try.func40, Try.ntmps40
    go_wp2_with (go_at_call 82; refine (rofSize_any _ _ _ (by omega) (by omega)).mono ?_; rw [HX.out]; rintro e w' ⟨rfl, rfl⟩)
    go_ret2
    exact resI_nil (Below.refl _ _)
  · cases hy : betr dy (-1) 1
    · have HX := Lib.hid hx
      have HY := Lib.hid hy
      clear h hx hy
      go_enter Try.func40, Try.ntmps40
      go_wp2_with (go_at_call 82; refine (rofSize_any _ _ _ (by omega) (by omega)).mono ?_; (first | rw [HX.out] | rw [HY.out]); rintro e w' ⟨rfl, rfl⟩)
      go_ret2
      exact resI_nil (Below.refl _ _)
    · have HN : Hid (betr n 0 400 = false) := Lib.hid (by simpa [dgOk, hx, hy] using h)
      have HX := Lib.hid hx
      have HY := Lib.hid hy
      clear h hx hy
      go_enter Try.func40, Try.ntmps40
      go_wp2_with (first
        | (go_at_call 82; refine (rofSize_any _ _ _ (by omega) (by omega)).mono ?_; (first | rw [HX.out] | rw [HY.out]); rintro e w' ⟨rfl, rfl⟩)
        | (go_at_call 76; refine (rwithin_any _ _ _ _).mono ?_; rw [HN.out]; rintro e w' ⟨rfl, rfl⟩))
      go_ret2
      exact resI_nil (Below.refl _ _)
set_option maxHeartbeats 800000 in
theorem impl_DiagonalOf_yes (dx dy n : Int) (w : World) (h : dgOk dx dy n = true) :
    Calls Try.prog 40 #[.int .i64 dx, .int .i64 dy, .int .i64 n] w (ResI true (dgs dx dy n.toNat) w) := by
  obtain ⟨u0, u1, v0, v1, n0, n1⟩ := dgOk_bds h
  have HX := Lib.hid (betr_yes u0 u1)
  have HY := Lib.hid (betr_yes v0 v1)
  have HN := Lib.hid (betr_yes n0 n1)
  clear h
  obtain ⟨k, rfl⟩ := Int.eq_ofNat_of_zero_le n0
  rw [show (k : Int).toNat = k by omega]
  have HV : Hid (∀ (R lo hi : Nat) (W : World), Own W lo hi (some ⟨R, 0, none⟩) (prs sqK.ss) → hi ≤ W.heap.size → Calls Try.prog 83 #[.agg #[.slice (some ⟨R, 0, none⟩) 4 4, .int .i64 2, .func (.func 96) #[] #[]], .agg #[.int .i64 0, .int .i64 0], .agg #[.int .i64 dx, .int .i64 dy], .int .i64 (k : Int)] W fun e w' => (∃ A c, e = .returned (.slice A k c) ∧ w'.ownsRow W.heap.size 3 1 (.slice A k c) k (i64s (dgs dx dy k))) ∧ Below W.heap.size W w') := Lib.hid fun R lo hi W h hh => by
    have e : dgs dx dy k = rl (fun j => nu ((j : Int) * dx) ((j : Int) * dy)) k := rfl
    rw [e]
    refine numbersAlong_any R _ 4 k 2 0 0 dx dy _ W (by omega) (by omega) (by omega) (by omega) u0 u1 v0 v1 (by omega) fun j W2 hj hW => ?_
    obtain ⟨p0, p1⟩ := dg_prod j dx u0 u1 (by omega)
    obtain ⟨q0, q1⟩ := dg_prod j dy v0 v1 (by omega)
    rw [Int.zero_add, Int.zero_add]
    exact sqNum (h.below hW hh) (Nat.le_trans hh hW.size) _ _ (by omega) (by omega) (by omega) (by omega)
  have HLN : Hid ((dgs dx dy k).length = k) := Lib.hid (dgs_len dx dy k)
  clear u0 u1 v0 v1 n0 n1
  generalize dgs dx dy k = xs at *
  have HB := Lib.hid (Below.refl w.heap.size w)
  go_enter Try.func40, Try.ntmps40
  go_wp2_with (first
    | (go_at_call 82; refine (rofSize_any _ _ _ (by omega) (by omega)).mono ?_; (first | rw [HX.out] | rw [HY.out]); rintro e w' ⟨rfl, rfl⟩)
    | (go_at_call 76; refine (rwithin_any _ _ _ _).mono ?_; rw [HN.out]; rintro e w' ⟨rfl, rfl⟩)
    | (go_at_call 65; refine (squareSpiral_any _).mono ?_; rintro e w1 ⟨⟨R, rfl, hO⟩, hb1⟩; have HO := Lib.hid hO; have HB := Lib.hid (HB.out.trans (hb1.mono HB.out.size)); clear hO hb1)
    | (go_at_call 83; refine (HV.out _ _ _ _ HO.out (Nat.le_refl _)).mono ?_; rintro e w2 ⟨⟨A, c, rfl, hO2⟩, hb2⟩; have HR := Lib.hid (own_of_row hO2); have HB2 := Lib.hid (HB.out.trans (hb2.mono HB.out.size)); have HZ := Lib.hid HB.out.size; clear hO2 hb2))
  go_ret2
  exact ⟨A, c, by rw [HLN.out]; rfl, HR.out.wide HZ.out (Nat.le_refl _), HB2.out⟩
end Go.Proofs.Ythnjjpiofgbngaa
