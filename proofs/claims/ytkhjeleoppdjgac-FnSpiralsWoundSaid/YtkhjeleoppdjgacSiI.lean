/- Chapter 6: the specification's triangle and zigzag. -/
import Derived.Test.YtkhjeleoppdjgacSiA
namespace Go.Proofs.Ytkhjeleoppdjgac
open Go.ChangeShapes Go.WideShapes Go.ChangeAt Go.RowKit

/-- The line of a number, and how far it lies in it. -/
noncomputable def ln (n : Int) : Int := pl 3 n
noncomputable def inl (n : Int) : Int := n - num 3 (pl 3 n)
structure LnB (n l m k : Int) : Prop where
  l0 : 0 ≤ l
  l1 : l ≤ 1414214
  m0 : 0 ≤ m
  m1 : m ≤ n
  k : k = n - m
theorem ln_b (n : Int) (h0 : 0 ≤ n) (h1 : n ≤ 1000000) : LnB n (ln n) (num 3 (ln n)) (inl n) :=
  ⟨pl_nn 3 n (by omega) h0, pl_le 3 n (by omega) h0 (by omega), num_nn 3 _ (by omega), (fits_iff 3 n (pl 3 n) (by omega) h0 (pl_nn 3 n (by omega) h0)).2 (Int.le_refl _), rfl⟩
def zzX (l k : Int) : Int := if l % 2 = 1 then k else l - k
def zzY (l k : Int) : Int := if l % 2 = 1 then l - k else k
def zzN (x y : Int) : Int := if (x + y) % 2 = 1 then num 3 (x + y) + x else num 3 (x + y) + y
theorem spec_TriangleSpot_no (n : Int) (w : World) (h : n < 0 ∨ 1000000 < n) :
    Calls Try.prog 49 #[.int .i64 n] w fun e w' => e = .returned (.tuple #[.agg #[.int .i64 0, .int .i64 0], .bool false]) ∧ Below w.heap.size w w' := by
  have HA := Lib.hid (betr_no h)
  clear h
  go_enter Try.func49, Try.ntmps49
  go_wp2_with (go_at_call 87; refine (spGood_any _ _).mono ?_; rw [HA.out]; rintro e w' ⟨rfl, rfl⟩)
  exact bodyPost_ret (v := .tuple #[.agg #[.int .i64 0, .int .i64 0], .bool false]) (by simp [results, Try.results49, go_sem]) rfl ⟨rfl, (Below.refl _ _).alloc (Nat.le_refl _) _⟩
theorem spec_ZigzagSpot_no (n : Int) (w : World) (h : n < 0 ∨ 1000000 < n) :
    Calls Try.prog 55 #[.int .i64 n] w fun e w' => e = .returned (.tuple #[.agg #[.int .i64 0, .int .i64 0], .bool false]) ∧ Below w.heap.size w w' := by
  have HA := Lib.hid (betr_no h)
  clear h
  go_enter Try.func55, Try.ntmps55
  go_wp2_with (go_at_call 87; refine (spGood_any _ _).mono ?_; rw [HA.out]; rintro e w' ⟨rfl, rfl⟩)
  exact bodyPost_ret (v := .tuple #[.agg #[.int .i64 0, .int .i64 0], .bool false]) (by simp [results, Try.results55, go_sem]) rfl ⟨rfl, (Below.refl _ _).alloc (Nat.le_refl _) _⟩
theorem spec_TriangleSpot_yes (n : Int) (w : World) (h0 : 0 ≤ n) (h1 : n ≤ 1000000) :
    Calls Try.prog 49 #[.int .i64 n] w fun e w' => e = .returned (.tuple #[.agg #[.int .i64 (inl n), .int .i64 (ln n)], .bool true]) ∧ Below w.heap.size w w' := by
  have HA := Lib.hid (betr_yes h0 h1)
  obtain ⟨l0, l1, m0, m1, hk⟩ := ln_b n h0 h1
  have HL := Lib.hid fun W => shBelow_any 3 n W (by omega) (by omega) h0 (by omega)
  have HM := Lib.hid fun W => shNumber_any 3 (ln n) W (by omega) (by omega) (by omega) (by omega)
  have HLN : Hid (pl 3 n = ln n) := Lib.hid rfl
  rw [HLN.out] at HL
  clear HLN
  generalize inl n = k at *
  generalize num 3 (ln n) = m at *
  generalize ln n = l at *
  subst hk
  go_enter Try.func49, Try.ntmps49
  go_wp2_with (first
    | (go_at_call 87; refine (spGood_any _ _).mono ?_; rw [HA.out]; rintro e w' ⟨rfl, rfl⟩)
    | (go_at_call 122; refine (HL.out _).mono ?_; rintro e w' ⟨rfl, rfl⟩)
    | (go_at_call 123; refine (HM.out _).mono ?_; rintro e w' ⟨rfl, rfl⟩))
  exact bodyPost_ret (v := .tuple #[.agg #[.int .i64 (n - m), .int .i64 (l)], .bool true]) (by simp [results, Try.results49, go_sem]) rfl ⟨rfl, (Below.refl _ _).alloc (Nat.le_refl _) _⟩
theorem spec_ZigzagSpot_yes (n : Int) (w : World) (h0 : 0 ≤ n) (h1 : n ≤ 1000000) :
    Calls Try.prog 55 #[.int .i64 n] w fun e w' => e = .returned (.tuple #[.agg #[.int .i64 (zzX (ln n) (inl n)), .int .i64 (zzY (ln n) (inl n))], .bool true]) ∧ Below w.heap.size w w' := by
  have HA := Lib.hid (betr_yes h0 h1)
  obtain ⟨l0, l1, m0, m1, hk⟩ := ln_b n h0 h1
  have HL := Lib.hid fun W => shBelow_any 3 n W (by omega) (by omega) h0 (by omega)
  have HM := Lib.hid fun W => shNumber_any 3 (ln n) W (by omega) (by omega) (by omega) (by omega)
  have HLN : Hid (pl 3 n = ln n) := Lib.hid rfl
  rw [HLN.out] at HL
  clear HLN
  generalize inl n = k at *
  generalize num 3 (ln n) = m at *
  generalize ln n = l at *
  subst hk
  by_cases ho : l % 2 = 1
  · have HZ : Hid (zzX l (n - m) = n - m ∧ zzY l (n - m) = l - (n - m)) := Lib.hid ⟨if_pos ho, if_pos ho⟩
    rw [HZ.out.1, HZ.out.2]
    clear HZ
    have hob : (l % 2 == 1) = true := by simpa using ho
    clear ho
    go_enter Try.func55, Try.ntmps55
    go_wp2_with (first
    | (go_at_call 87; refine (spGood_any _ _).mono ?_; rw [HA.out]; rintro e w' ⟨rfl, rfl⟩)
    | (go_at_call 122; refine (HL.out _).mono ?_; rintro e w' ⟨rfl, rfl⟩)
    | (go_at_call 123; refine (HM.out _).mono ?_; rintro e w' ⟨rfl, rfl⟩))
    exact bodyPost_ret (v := .tuple #[.agg #[.int .i64 (n - m), .int .i64 (l - (n - m))], .bool true]) (by simp [results, Try.results55, go_sem]) rfl ⟨rfl, (Below.refl _ _).alloc (Nat.le_refl _) _⟩
  · have HZ : Hid (zzX l (n - m) = l - (n - m) ∧ zzY l (n - m) = n - m) := Lib.hid ⟨if_neg ho, if_neg ho⟩
    rw [HZ.out.1, HZ.out.2]
    clear HZ
    have hob : (l % 2 == 1) = false := by simpa using ho
    clear ho
    go_enter Try.func55, Try.ntmps55
    go_wp2_with (first
    | (go_at_call 87; refine (spGood_any _ _).mono ?_; rw [HA.out]; rintro e w' ⟨rfl, rfl⟩)
    | (go_at_call 122; refine (HL.out _).mono ?_; rintro e w' ⟨rfl, rfl⟩)
    | (go_at_call 123; refine (HM.out _).mono ?_; rintro e w' ⟨rfl, rfl⟩))
    exact bodyPost_ret (v := .tuple #[.agg #[.int .i64 (l - (n - m)), .int .i64 (n - m)], .bool true]) (by simp [results, Try.results55, go_sem]) rfl ⟨rfl, (Below.refl _ _).alloc (Nat.le_refl _) _⟩
end Go.Proofs.Ytkhjeleoppdjgac
