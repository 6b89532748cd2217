/- Chapter 4: shared numbers: one contract a function, the answers plain functions. -/
import Derived.Test.YtcjfkbpkhlfbdaaSdU
namespace Go.Proofs.Ytcjfkbpkhlfbdaa
open Go.ChangeShapes Go.WideShapes Go.ChangeAt Go.RowKit

theorem two_t {a b : Int} (h : two a b = true) : (3 ≤ a ∧ a ≤ 24) ∧ (3 ≤ b ∧ b ≤ 24) ∧ a ≠ b := by
  simp [two] at h
  omega
theorem two_f {a b : Int} (h : two a b = false) : (a < 3 ∨ 24 < a) ∨ (b < 3 ∨ 24 < b) ∨ a = b := by
  simp [two] at h
  omega
def tsIn (n : Int) : Bool := decide (0 ≤ n ∧ n ≤ 1000000000000)
theorem ts_t {n : Int} (h : tsIn n = true) : 0 ≤ n ∧ n ≤ 1000000000000 := by simpa [tsIn] using h
theorem ts_f {n : Int} (h : tsIn n = false) : n < 0 ∨ 1000000000000 < n := by simp [tsIn] at h; omega
/-- IsShared: its answer, and whether there is one. -/
def isO (a b n : Int) : Bool := two a b && tsIn n
noncomputable def isV (a b n : Int) : Bool := isO a b n && (isP a n && isP b n)
noncomputable def psX (a b n : Int) : Int := bif isV a b n then pl a n else 0
noncomputable def psY (a b n : Int) : Int := bif isV a b n then pl b n else 0
theorem isO_t {a b n : Int} (h : isO a b n = true) : ((3 ≤ a ∧ a ≤ 24) ∧ (3 ≤ b ∧ b ≤ 24) ∧ a ≠ b) ∧ 0 ≤ n ∧ n ≤ 1000000000000 := by
  simp only [isO, Bool.and_eq_true] at h
  exact ⟨two_t h.1, ts_t h.2⟩
theorem isO_f {a b n : Int} (h : isO a b n = false) : ((a < 3 ∨ 24 < a) ∨ (b < 3 ∨ 24 < b) ∨ a = b) ∨ (n < 0 ∨ 1000000000000 < n) := by
  simp only [isO, Bool.and_eq_false_iff] at h
  exact h.imp two_f ts_f
theorem isV_f {a b n : Int} (h : isO a b n = false) : isV a b n = false := by rw [isV, h, Bool.false_and]
theorem isV_t {a b n : Int} (h : isO a b n = true) : isV a b n = (isP a n && isP b n) := by rw [isV, h, Bool.true_and]
theorem impl_IsShared_any (a b n : Int) (w : World) : Calls Try.prog 10 #[.int .i64 a, .int .i64 b, .int .i64 n] w fun e w' => e = .returned (.tuple #[.bool (isV a b n), .bool (isO a b n)]) ∧ Below w.heap.size w w' := by
  rcases Bool.eq_false_or_eq_true (isO a b n) with h | h
  · obtain ⟨⟨a1, b1, hne⟩, n1, n2⟩ := isO_t h
    rw [isV_t h, h]
    exact impl_IsShared_yes a b n w a1.1 a1.2 b1.1 b1.2 hne n1 n2
  · rw [isV_f h, h]
    exact impl_IsShared_no a b n w (isO_f h)
theorem spec_IsShared_all (a b n : Int) (w : World) : Calls Try.prog 17 #[.int .i64 a, .int .i64 b, .int .i64 n] w fun e w' => e = .returned (.tuple #[.bool (isV a b n), .bool (isO a b n)]) ∧ Below w.heap.size w w' := by
  rcases Bool.eq_false_or_eq_true (isO a b n) with h | h
  · obtain ⟨⟨a1, b1, hne⟩, n1, n2⟩ := isO_t h
    rw [isV_t h, h]
    refine (spec_IsShared_yes a b n w a1.1 a1.2 b1.1 b1.2 hne n1 n2).mono ?_
    rintro e w' ⟨rfl, hb⟩
    exact ⟨rfl, by first | exact hb | (subst hb; exact Below.refl _ _)⟩
  · rw [isV_f h, h]
    refine (spec_IsShared_no a b n w (isO_f h)).mono ?_
    rintro e w' ⟨rfl, hb⟩
    exact ⟨rfl, by first | exact hb | (subst hb; exact Below.refl _ _)⟩
theorem pok_o {a b n : Int} (h : isO a b n = true) : pok a n = isP a n ∧ pok b n = isP b n := by
  obtain ⟨⟨a1, b1, hne⟩, n1, n2⟩ := isO_t h
  exact ⟨pok_in a n a1.1 a1.2 n1 n2, pok_in b n b1.1 b1.2 n1 n2⟩
theorem impl_PlacesShared_any (a b n : Int) (w : World) : Calls Try.prog 11 #[.int .i64 a, .int .i64 b, .int .i64 n] w fun e w' => e = .returned (.tuple #[.int .i64 (psX a b n), .int .i64 (psY a b n), .bool (isV a b n)]) ∧ Below w.heap.size w w' := by
  rcases Bool.eq_false_or_eq_true (isV a b n) with h | h
  · have ho : isO a b n = true := by simp only [isV, Bool.and_eq_true] at h; exact h.1
    have hp : isP a n = true ∧ isP b n = true := by simp only [isV, Bool.and_eq_true] at h; exact h.2
    obtain ⟨⟨a1, b1, hne⟩, n1, n2⟩ := isO_t ho
    rw [psX, psY, h, cond_true, cond_true]
    exact impl_PlacesShared_yes a b n w hne ((pok_o ho).1.trans hp.1) ((pok_o ho).2.trans hp.2)
  · rw [psX, psY, h, cond_false, cond_false]
    refine impl_PlacesShared_fail a b n w ?_
    rcases Bool.eq_false_or_eq_true (isO a b n) with ho | ho
    · rw [isV_t ho, Bool.and_eq_false_iff] at h
      rw [(pok_o ho).1, (pok_o ho).2]
      exact .inr h
    · rcases isO_f ho with (h1 | h1 | h1) | h1
      · exact .inr (.inl (pok_no _ _ (.inl h1)))
      · exact .inr (.inr (pok_no _ _ (.inl h1)))
      · exact .inl h1
      · exact .inr (.inl (pok_no _ _ (.inr h1)))
theorem spec_PlacesShared_all (a b n : Int) (w : World) : Calls Try.prog 18 #[.int .i64 a, .int .i64 b, .int .i64 n] w fun e w' => e = .returned (.tuple #[.int .i64 (psX a b n), .int .i64 (psY a b n), .bool (isV a b n)]) ∧ Below w.heap.size w w' := by
  rcases Bool.eq_false_or_eq_true (isO a b n) with ho | ho
  · obtain ⟨⟨a1, b1, hne⟩, n1, n2⟩ := isO_t ho
    rcases Bool.eq_false_or_eq_true (isV a b n) with h | h
    · have hp : isP a n = true ∧ isP b n = true := by simp only [isV, Bool.and_eq_true] at h; exact h.2
      rw [psX, psY, h, cond_true, cond_true]
      refine (spec_PlacesShared_yes a b n w a1.1 a1.2 b1.1 b1.2 hne n1 n2 hp.1 hp.2).mono ?_
      rintro e w' ⟨rfl, hb⟩
      exact ⟨rfl, by first | exact hb | (subst hb; exact Below.refl _ _)⟩
    · rw [psX, psY, h, cond_false, cond_false]
      rw [isV_t ho, Bool.and_eq_false_iff] at h
      refine (spec_PlacesShared_miss a b n w a1.1 a1.2 b1.1 b1.2 hne n1 n2 h).mono ?_
      rintro e w' ⟨rfl, hb⟩
      exact ⟨rfl, by first | exact hb | (subst hb; exact Below.refl _ _)⟩
  · rw [psX, psY, isV_f ho, cond_false, cond_false]
    refine (spec_PlacesShared_no a b n w (isO_f ho)).mono ?_
    rintro e w' ⟨rfl, hb⟩
    exact ⟨rfl, by first | exact hb | (subst hb; exact Below.refl _ _)⟩
/-- SharedUpTo: its list, and whether there is one. -/
def suB (a b m : Int) : Bool := two a b && decide (0 ≤ m ∧ m ≤ 1000000)
noncomputable def suL (a b m : Int) : List Int := bif suB a b m then shr a [b] ((pl a m).toNat + 1) else []
theorem su_t {a b m : Int} (h : suB a b m = true) : ((3 ≤ a ∧ a ≤ 24) ∧ (3 ≤ b ∧ b ≤ 24) ∧ a ≠ b) ∧ 0 ≤ m ∧ m ≤ 1000000 := by
  simp only [suB, Bool.and_eq_true, decide_eq_true_eq] at h
  exact ⟨two_t h.1, h.2⟩
theorem su_f {a b m : Int} (h : suB a b m = false) : ((a < 3 ∨ 24 < a) ∨ (b < 3 ∨ 24 < b) ∨ a = b) ∨ (m < 0 ∨ 1000000 < m) := by
  simp only [suB, Bool.and_eq_false_iff, decide_eq_false_iff_not] at h
  exact h.imp two_f (by omega)
theorem impl_SharedUpTo_any (a b m : Int) (w : World) : Calls Try.prog 6 #[.int .i64 a, .int .i64 b, .int .i64 m] w (ResI (suB a b m) (suL a b m) w) := by
  rcases Bool.eq_false_or_eq_true (suB a b m) with h | h
  · obtain ⟨⟨a1, b1, hne⟩, n1, n2⟩ := su_t h
    rw [suL, h, cond_true]
    exact impl_SharedUpTo_yes a b m w a1.1 a1.2 b1.1 b1.2 hne n1 n2
  · rw [suL, h, cond_false]
    exact impl_SharedUpTo_no a b m w (su_f h)
theorem spec_SharedUpTo_any (a b m : Int) (w : World) : Calls Try.prog 7 #[.int .i64 a, .int .i64 b, .int .i64 m] w (ResI (suB a b m) (suL a b m) w) := by
  rcases Bool.eq_false_or_eq_true (suB a b m) with h | h
  · obtain ⟨⟨a1, b1, hne⟩, n1, n2⟩ := su_t h
    rw [suL, h, cond_true]
    exact spec_SharedUpTo_yes a b m w a1.1 a1.2 b1.1 b1.2 hne n1 n2
  · rw [suL, h, cond_false]
    exact spec_SharedUpTo_no a b m w (su_f h)
/-- SharedByThree: its list, and whether there is one. -/
def tuB (a b c m : Int) : Bool := two a b && two b c && two a c && decide (0 ≤ m ∧ m ≤ 1000000)
noncomputable def tuL (a b c m : Int) : List Int := bif tuB a b c m then shr a [b, c] ((pl a m).toNat + 1) else []
theorem impl_SharedByThree_any (a b c m : Int) (w : World) : Calls Try.prog 20 #[.int .i64 a, .int .i64 b, .int .i64 c, .int .i64 m] w (ResI (tuB a b c m) (tuL a b c m) w) := by
  rcases Bool.eq_false_or_eq_true (tuB a b c m) with h | h
  · rw [tuL, h, cond_true]
    simp only [tuB, Bool.and_eq_true, decide_eq_true_eq] at h
    obtain ⟨⟨⟨h1, h2⟩, h3⟩, m1, m2⟩ := h
    have t1 := two_t h1
    have t2 := two_t h2
    have t3 := two_t h3
    exact impl_SharedByThree_yes a b c m w t1.1.1 t1.1.2 t1.2.1.1 t1.2.1.2 t2.2.1.1 t2.2.1.2 t1.2.2 t2.2.2 t3.2.2 m1 m2
  · rw [tuL, h, cond_false]
    simp only [tuB, Bool.and_eq_false_iff, decide_eq_false_iff_not] at h
    rcases Bool.eq_false_or_eq_true (two a c) with h1 | h1
    · rcases Bool.eq_false_or_eq_true (two b c) with h2 | h2
      · refine impl_SharedByThree_none a b c m w h1 h2 ?_
        rcases h with ((h | h) | h) | h
        · exact .inl (two_f h)
        · rw [h2] at h; cases h
        · rw [h1] at h; cases h
        · exact .inr (by omega)
      · exact impl_SharedByThree_no a b c m w (.inr h2)
    · exact impl_SharedByThree_no a b c m w (.inl h1)
theorem spec_SharedByThree_any (a b c m : Int) (w : World) : Calls Try.prog 21 #[.int .i64 a, .int .i64 b, .int .i64 c, .int .i64 m] w (ResI (tuB a b c m) (tuL a b c m) w) := by
  rcases Bool.eq_false_or_eq_true (tuB a b c m) with h | h
  · rw [tuL, h, cond_true]
    simp only [tuB, Bool.and_eq_true, decide_eq_true_eq] at h
    obtain ⟨⟨⟨h1, h2⟩, h3⟩, m1, m2⟩ := h
    have t1 := two_t h1
    have t2 := two_t h2
    have t3 := two_t h3
    exact spec_SharedByThree_yes a b c m w t1.1.1 t1.1.2 t1.2.1.1 t1.2.1.2 t2.2.1.1 t2.2.1.2 t1.2.2 t2.2.2 t3.2.2 m1 m2
  · rw [tuL, h, cond_false]
    simp only [tuB, Bool.and_eq_false_iff, decide_eq_false_iff_not] at h
    refine spec_SharedByThree_no a b c m w ?_
    rcases h with ((h | h) | h) | h
    · exact .inl (two_f h)
    · exact .inr (.inl (two_f h))
    · have hx := two_f h
      by_cases ha : a < 3 ∨ 24 < a
      · exact .inl (.inl ha)
      · by_cases hc : c < 3 ∨ 24 < c
        · exact .inr (.inl (.inr (.inl hc)))
        · exact .inr (.inr (.inl (by omega)))
    · exact .inr (.inr (.inr (by omega)))
/-- NextShared: its answer, and whether there is one. -/
def nxI (a b n : Int) : Bool := two a b && decide (0 ≤ n ∧ n ≤ 1000000000)
noncomputable def nxV (a b n : Int) : Int := bif nxI a b n then Classical.choose (nxt_ex 1000000000 a b n) else 0
noncomputable def nxB (a b n : Int) : Bool := nxI a b n && Classical.choose (Classical.choose_spec (nxt_ex 1000000000 a b n))
theorem nx_t {a b n : Int} (h : nxI a b n = true) : (((3 ≤ a ∧ a ≤ 24) ∧ (3 ≤ b ∧ b ≤ 24) ∧ a ≠ b) ∧ 0 ≤ n ∧ n ≤ 1000000000) ∧ Nxt 1000000000 a b n (nxV a b n) (nxB a b n) := by
  have hs := Classical.choose_spec (Classical.choose_spec (nxt_ex 1000000000 a b n))
  refine ⟨?_, by rw [nxV, nxB, h, cond_true, Bool.true_and]; exact hs⟩
  simp only [nxI, Bool.and_eq_true, decide_eq_true_eq] at h
  exact ⟨two_t h.1, h.2⟩
theorem nx_f {a b n : Int} (h : nxI a b n = false) : (((a < 3 ∨ 24 < a) ∨ (b < 3 ∨ 24 < b) ∨ a = b) ∨ (n < 0 ∨ 1000000000 < n)) ∧ nxV a b n = 0 ∧ nxB a b n = false := by
  refine ⟨?_, by rw [nxV, h, cond_false], by rw [nxB, h, Bool.false_and]⟩
  simp only [nxI, Bool.and_eq_false_iff, decide_eq_false_iff_not] at h
  exact h.imp two_f (by omega)
theorem impl_NextShared_any (a b n : Int) (w : World) : Calls Try.prog 13 #[.int .i64 a, .int .i64 b, .int .i64 n] w fun e w' => e = .returned (.tuple #[.int .i64 (nxV a b n), .bool (nxB a b n)]) ∧ Below w.heap.size w w' := by
  rcases Bool.eq_false_or_eq_true (nxI a b n) with h | h
  · obtain ⟨⟨⟨a1, b1, hne⟩, n1, n2⟩, hx⟩ := nx_t h
    exact impl_NextShared_yes a b n _ _ w a1.1 a1.2 b1.1 b1.2 hne n1 n2 hx
  · obtain ⟨h1, h2, h3⟩ := nx_f h
    rw [h2, h3]
    exact impl_NextShared_no a b n w h1
theorem spec_NextShared_all (a b n : Int) (w : World) : Calls Try.prog 15 #[.int .i64 a, .int .i64 b, .int .i64 n] w fun e w' => e = .returned (.tuple #[.int .i64 (nxV a b n), .bool (nxB a b n)]) ∧ Below w.heap.size w w' := by
  rcases Bool.eq_false_or_eq_true (nxI a b n) with h | h
  · obtain ⟨⟨⟨a1, b1, hne⟩, n1, n2⟩, hx⟩ := nx_t h
    exact spec_NextShared_any a b n _ _ w a1.1 a1.2 b1.1 b1.2 hne n1 n2 hx
  · obtain ⟨h1, h2, h3⟩ := nx_f h
    rw [h2, h3]
    refine (spec_NextShared_no a b n w h1).mono ?_
    rintro e w' ⟨rfl, hb⟩
    exact ⟨rfl, by first | exact hb | (subst hb; exact Below.refl _ _)⟩
end Go.Proofs.Ytcjfkbpkhlfbdaa
