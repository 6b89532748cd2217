/- Forms change: one contract a function, the answers plain functions; what the law asks of them. No condition. -/
import Derived.Test.YtjfpnecnmdclfaaFcA
import Derived.Test.YtjfpnecnmdclfaaMd
import Derived.Test.YtjfpnecnmdclfaaMe
import Derived.Test.YtjfpnecnmdclfaaTbW
import Derived.Test.YtjfpnecnmdclfaaTbZ
import Derived.Test.YtjfpnecnmdclfaaTdA
import Derived.Test.YtjfpnecnmdclfaaTeC
namespace Go.Proofs.Ytjfpnecnmdclfaa
open Go.ChangeShapes Go.WideShapes Go.ChangeAt Go.RowKit

noncomputable def fsB (xs : List Int) : Bool := fm8 xs && ent8 (trm8 (0 :: xs))
noncomputable def fsL (xs : List Int) : List Int := bif fsB xs then trm8 (0 :: xs) else []
theorem fs_t {xs : List Int} (h : fsB xs = true) : fm8 xs = true ∧ ent8 (trm8 (0 :: xs)) = true ∧ fsL xs = trm8 (0 :: xs) := by
  have h' := h
  simp only [fsB, Bool.and_eq_true] at h'
  exact ⟨h'.1, h'.2, by rw [fsL, h, cond_true]⟩
theorem fs_len (xs : List Int) : (fsL xs).length ≤ 12 := by
  rcases Bool.eq_false_or_eq_true (fsB xs) with h | h
  · obtain ⟨_, h2, h3⟩ := fs_t h
    rw [h3]
    exact ent8_len h2
  · rw [fsL, h, cond_false]; simp
theorem impl_FormOfSums_own (A : Option Addr) (n c lo : Nat) (xs : List Int) (w : World) (hn : xs.length = n) (hm : n ≤ 1048576) (ha : Own w lo w.heap.size A (i64s xs)) :
    Calls Try.prog 7 #[.slice A n c] w (ResI (fsB xs) (fsL xs) w) := by
  subst hn
  rcases Bool.eq_false_or_eq_true (fm8 xs) with h | h
  · have e : fsB xs = ent8 (trm8 (0 :: xs)) := by rw [fsB, h, Bool.true_and]
    have hy := impl_FormOfSums_yes A _ c lo xs w rfl ha h
    rcases Bool.eq_false_or_eq_true (ent8 (trm8 (0 :: xs))) with h2 | h2
    · rw [fsL, e, h2, cond_true]
      rw [h2] at hy
      exact hy
    · rw [fsL, e, h2, cond_false]
      rw [h2] at hy
      exact hy
  · have e : fsB xs = false := by rw [fsB, h, Bool.false_and]
    rw [fsL, e, cond_false]
    exact impl_FormOfSums_no A _ c lo xs w rfl hm ha h
theorem spec_FormOfSums_own (A : Option Addr) (n c lo : Nat) (xs : List Int) (w : World) (hn : xs.length = n) (hm : n ≤ 1048576) (ha : Own w lo w.heap.size A (i64s xs)) :
    Calls Try.prog 8 #[.slice A n c] w (ResI (fsB xs) (fsL xs) w) := by
  subst hn
  rcases Bool.eq_false_or_eq_true (fm8 xs) with h | h
  · have e : fsB xs = ent8 (trm8 (0 :: xs)) := by rw [fsB, h, Bool.true_and]
    have hy := spec_FormOfSums_yes A _ c lo xs w rfl ha h
    rcases Bool.eq_false_or_eq_true (ent8 (trm8 (0 :: xs))) with h2 | h2
    · rw [fsL, e, h2, cond_true]
      rw [h2] at hy
      exact hy
    · rw [fsL, e, h2, cond_false]
      rw [h2] at hy
      exact hy
  · have e : fsB xs = false := by rw [fsB, h, Bool.false_and]
    rw [fsL, e, cond_false]
    exact spec_FormOfSums_no A _ c lo xs w rfl hm ha h
noncomputable def fbB (xs : List Int) : Bool := fm8 xs && ent8 (stp8 xs)
noncomputable def fbL (xs : List Int) : List Int := bif fbB xs then stp8 xs else []
theorem fb_t {xs : List Int} (h : fbB xs = true) : fm8 xs = true ∧ ent8 (stp8 xs) = true ∧ fbL xs = stp8 xs := by
  have h' := h
  simp only [fbB, Bool.and_eq_true] at h'
  exact ⟨h'.1, h'.2, by rw [fbL, h, cond_true]⟩
theorem fb_len (xs : List Int) : (fbL xs).length ≤ 12 := by
  rcases Bool.eq_false_or_eq_true (fbB xs) with h | h
  · obtain ⟨_, h2, h3⟩ := fb_t h
    rw [h3]
    exact ent8_len h2
  · rw [fbL, h, cond_false]; simp
theorem impl_FormBehind_own (A : Option Addr) (n c lo : Nat) (xs : List Int) (w : World) (hn : xs.length = n) (hm : n ≤ 1048576) (ha : Own w lo w.heap.size A (i64s xs)) :
    Calls Try.prog 9 #[.slice A n c] w (ResI (fbB xs) (fbL xs) w) := by
  subst hn
  rcases Bool.eq_false_or_eq_true (fm8 xs) with h | h
  · have e : fbB xs = ent8 (stp8 xs) := by rw [fbB, h, Bool.true_and]
    have hy := impl_FormBehind_yes A _ c lo xs w rfl ha h
    rcases Bool.eq_false_or_eq_true (ent8 (stp8 xs)) with h2 | h2
    · rw [fbL, e, h2, cond_true]
      rw [h2] at hy
      exact hy
    · rw [fbL, e, h2, cond_false]
      rw [h2] at hy
      exact hy
  · have e : fbB xs = false := by rw [fbB, h, Bool.false_and]
    rw [fbL, e, cond_false]
    exact impl_FormBehind_no A _ c lo xs w rfl hm ha h
theorem spec_FormBehind_own (A : Option Addr) (n c lo : Nat) (xs : List Int) (w : World) (hn : xs.length = n) (hm : n ≤ 1048576) (ha : Own w lo w.heap.size A (i64s xs)) :
    Calls Try.prog 10 #[.slice A n c] w (ResI (fbB xs) (fbL xs) w) := by
  subst hn
  rcases Bool.eq_false_or_eq_true (fm8 xs) with h | h
  · have e : fbB xs = ent8 (stp8 xs) := by rw [fbB, h, Bool.true_and]
    have hy := spec_FormBehind_yes A _ c lo xs w rfl ha h
    rcases Bool.eq_false_or_eq_true (ent8 (stp8 xs)) with h2 | h2
    · rw [fbL, e, h2, cond_true]
      rw [h2] at hy
      exact hy
    · rw [fbL, e, h2, cond_false]
      rw [h2] at hy
      exact hy
  · have e : fbB xs = false := by rw [fbB, h, Bool.false_and]
    rw [fbL, e, cond_false]
    exact spec_FormBehind_no A _ c lo xs w rfl hm ha h
noncomputable def tpB (xs : List Int) : Bool := fm8 xs && ent8 (trm8 (tms8 xs))
noncomputable def tpL (xs : List Int) : List Int := bif tpB xs then trm8 (tms8 xs) else []
theorem tp_t {xs : List Int} (h : tpB xs = true) : fm8 xs = true ∧ ent8 (trm8 (tms8 xs)) = true ∧ tpL xs = trm8 (tms8 xs) := by
  have h' := h
  simp only [tpB, Bool.and_eq_true] at h'
  exact ⟨h'.1, h'.2, by rw [tpL, h, cond_true]⟩
theorem tp_len (xs : List Int) : (tpL xs).length ≤ 12 := by
  rcases Bool.eq_false_or_eq_true (tpB xs) with h | h
  · obtain ⟨_, h2, h3⟩ := tp_t h
    rw [h3]
    exact ent8_len h2
  · rw [tpL, h, cond_false]; simp
theorem impl_TimesPlace_own (A : Option Addr) (n c lo : Nat) (xs : List Int) (w : World) (hn : xs.length = n) (hm : n ≤ 1048576) (ha : Own w lo w.heap.size A (i64s xs)) :
    Calls Try.prog 11 #[.slice A n c] w (ResI (tpB xs) (tpL xs) w) := by
  subst hn
  rcases Bool.eq_false_or_eq_true (fm8 xs) with h | h
  · have e : tpB xs = ent8 (trm8 (tms8 xs)) := by rw [tpB, h, Bool.true_and]
    have hy := impl_TimesPlace_yes A _ c lo xs w rfl ha h
    rcases Bool.eq_false_or_eq_true (ent8 (trm8 (tms8 xs))) with h2 | h2
    · rw [tpL, e, h2, cond_true]
      rw [h2] at hy
      exact hy
    · rw [tpL, e, h2, cond_false]
      rw [h2] at hy
      exact hy
  · have e : tpB xs = false := by rw [tpB, h, Bool.false_and]
    rw [tpL, e, cond_false]
    exact impl_TimesPlace_no A _ c lo xs w rfl hm ha h
theorem spec_TimesPlace_own (A : Option Addr) (n c lo : Nat) (xs : List Int) (w : World) (hn : xs.length = n) (hm : n ≤ 1048576) (ha : Own w lo w.heap.size A (i64s xs)) :
    Calls Try.prog 12 #[.slice A n c] w (ResI (tpB xs) (tpL xs) w) := by
  subst hn
  rcases Bool.eq_false_or_eq_true (fm8 xs) with h | h
  · have e : tpB xs = ent8 (trm8 (tms8 xs)) := by rw [tpB, h, Bool.true_and]
    have hy := spec_TimesPlace_yes A _ c lo xs w rfl ha h
    rcases Bool.eq_false_or_eq_true (ent8 (trm8 (tms8 xs))) with h2 | h2
    · rw [tpL, e, h2, cond_true]
      rw [h2] at hy
      exact hy
    · rw [tpL, e, h2, cond_false]
      rw [h2] at hy
      exact hy
  · have e : tpB xs = false := by rw [tpB, h, Bool.false_and]
    rw [tpL, e, cond_false]
    exact spec_TimesPlace_no A _ c lo xs w rfl hm ha h
noncomputable def tfB (xs : List Int) : Bool := gd8 xs && ent8 (fst8 stp8 xs.length xs)
noncomputable def tfL (xs : List Int) : List Int := bif tfB xs then fst8 stp8 xs.length xs else []
theorem tf_t {xs : List Int} (h : tfB xs = true) : gd8 xs = true ∧ ent8 (fst8 stp8 xs.length xs) = true ∧ tfL xs = fst8 stp8 xs.length xs := by
  have h' := h
  simp only [tfB, Bool.and_eq_true] at h'
  exact ⟨h'.1, h'.2, by rw [tfL, h, cond_true]⟩
theorem tf_len (xs : List Int) : (tfL xs).length ≤ 12 := by
  rcases Bool.eq_false_or_eq_true (tfB xs) with h | h
  · obtain ⟨_, h2, h3⟩ := tf_t h
    rw [h3]
    exact ent8_len h2
  · rw [tfL, h, cond_false]; simp
theorem impl_TransformOf_own (A : Option Addr) (n c lo : Nat) (xs : List Int) (w : World) (hn : xs.length = n) (hm : n ≤ 1048576) (ha : Own w lo w.heap.size A (i64s xs)) :
    Calls Try.prog 16 #[.slice A n c] w (ResI (tfB xs) (tfL xs) w) := by
  subst hn
  rcases Bool.eq_false_or_eq_true (gd8 xs) with h | h
  · have e : tfB xs = ent8 (fst8 stp8 xs.length xs) := by rw [tfB, h, Bool.true_and]
    have hy := impl_TransformOf_yes A _ c lo xs w rfl ha h
    rcases Bool.eq_false_or_eq_true (ent8 (fst8 stp8 xs.length xs)) with h2 | h2
    · rw [tfL, e, h2, cond_true]
      rw [h2] at hy
      exact hy
    · rw [tfL, e, h2, cond_false]
      rw [h2] at hy
      exact hy
  · have e : tfB xs = false := by rw [tfB, h, Bool.false_and]
    rw [tfL, e, cond_false]
    exact impl_TransformOf_no A _ c lo xs w rfl hm ha h
theorem spec_TransformOf_own (A : Option Addr) (n c lo : Nat) (xs : List Int) (w : World) (hn : xs.length = n) (hm : n ≤ 1048576) (ha : Own w lo w.heap.size A (i64s xs)) :
    Calls Try.prog 17 #[.slice A n c] w (ResI (tfB xs) (tfL xs) w) := by
  subst hn
  rcases Bool.eq_false_or_eq_true (gd8 xs) with h | h
  · have e : tfB xs = ent8 (fst8 stp8 xs.length xs) := by rw [tfB, h, Bool.true_and]
    have hy := spec_TransformOf_yes A _ c lo xs w rfl ha h
    rcases Bool.eq_false_or_eq_true (ent8 (fst8 stp8 xs.length xs)) with h2 | h2
    · rw [tfL, e, h2, cond_true]
      rw [h2] at hy
      exact hy
    · rw [tfL, e, h2, cond_false]
      rw [h2] at hy
      exact hy
  · have e : tfB xs = false := by rw [tfB, h, Bool.false_and]
    rw [tfL, e, cond_false]
    exact spec_TransformOf_no A _ c lo xs w rfl hm ha h
noncomputable def utB (xs : List Int) : Bool := gd8 xs && ent8 (fst8 dif8 xs.length xs)
noncomputable def utL (xs : List Int) : List Int := bif utB xs then fst8 dif8 xs.length xs else []
theorem ut_t {xs : List Int} (h : utB xs = true) : gd8 xs = true ∧ ent8 (fst8 dif8 xs.length xs) = true ∧ utL xs = fst8 dif8 xs.length xs := by
  have h' := h
  simp only [utB, Bool.and_eq_true] at h'
  exact ⟨h'.1, h'.2, by rw [utL, h, cond_true]⟩
theorem ut_len (xs : List Int) : (utL xs).length ≤ 12 := by
  rcases Bool.eq_false_or_eq_true (utB xs) with h | h
  · obtain ⟨_, h2, h3⟩ := ut_t h
    rw [h3]
    exact ent8_len h2
  · rw [utL, h, cond_false]; simp
theorem impl_UndoTransform_own (A : Option Addr) (n c lo : Nat) (xs : List Int) (w : World) (hn : xs.length = n) (hm : n ≤ 1048576) (ha : Own w lo w.heap.size A (i64s xs)) :
    Calls Try.prog 18 #[.slice A n c] w (ResI (utB xs) (utL xs) w) := by
  subst hn
  rcases Bool.eq_false_or_eq_true (gd8 xs) with h | h
  · have e : utB xs = ent8 (fst8 dif8 xs.length xs) := by rw [utB, h, Bool.true_and]
    have hy := impl_UndoTransform_yes A _ c lo xs w rfl ha h
    rcases Bool.eq_false_or_eq_true (ent8 (fst8 dif8 xs.length xs)) with h2 | h2
    · rw [utL, e, h2, cond_true]
      rw [h2] at hy
      exact hy
    · rw [utL, e, h2, cond_false]
      rw [h2] at hy
      exact hy
  · have e : utB xs = false := by rw [utB, h, Bool.false_and]
    rw [utL, e, cond_false]
    exact impl_UndoTransform_no A _ c lo xs w rfl hm ha h
theorem spec_UndoTransform_own (A : Option Addr) (n c lo : Nat) (xs : List Int) (w : World) (hn : xs.length = n) (hm : n ≤ 1048576) (ha : Own w lo w.heap.size A (i64s xs)) :
    Calls Try.prog 19 #[.slice A n c] w (ResI (utB xs) (utL xs) w) := by
  subst hn
  rcases Bool.eq_false_or_eq_true (gd8 xs) with h | h
  · have e : utB xs = ent8 (fst8 dif8 xs.length xs) := by rw [utB, h, Bool.true_and]
    have hy := spec_UndoTransform_yes A _ c lo xs w rfl ha h
    rcases Bool.eq_false_or_eq_true (ent8 (fst8 dif8 xs.length xs)) with h2 | h2
    · rw [utL, e, h2, cond_true]
      rw [h2] at hy
      exact hy
    · rw [utL, e, h2, cond_false]
      rw [h2] at hy
      exact hy
  · have e : utB xs = false := by rw [utB, h, Bool.false_and]
    rw [utL, e, cond_false]
    exact spec_UndoTransform_no A _ c lo xs w rfl hm ha h
noncomputable def foB (xs : List Int) : Bool := gd8 xs && ent8 (trm8 (fst8 dif8 xs.length xs))
noncomputable def foL (xs : List Int) : List Int := bif foB xs then trm8 (fst8 dif8 xs.length xs) else []
theorem fo_t {xs : List Int} (h : foB xs = true) : gd8 xs = true ∧ ent8 (trm8 (fst8 dif8 xs.length xs)) = true ∧ foL xs = trm8 (fst8 dif8 xs.length xs) := by
  have h' := h
  simp only [foB, Bool.and_eq_true] at h'
  exact ⟨h'.1, h'.2, by rw [foL, h, cond_true]⟩
theorem fo_len (xs : List Int) : (foL xs).length ≤ 12 := by
  rcases Bool.eq_false_or_eq_true (foB xs) with h | h
  · obtain ⟨_, h2, h3⟩ := fo_t h
    rw [h3]
    exact ent8_len h2
  · rw [foL, h, cond_false]; simp
theorem impl_FormOf_own (A : Option Addr) (n c lo : Nat) (xs : List Int) (w : World) (hn : xs.length = n) (hm : n ≤ 1048576) (ha : Own w lo w.heap.size A (i64s xs)) :
    Calls Try.prog 20 #[.slice A n c] w (ResI (foB xs) (foL xs) w) := by
  subst hn
  rcases Bool.eq_false_or_eq_true (gd8 xs) with h | h
  · have e : foB xs = ent8 (trm8 (fst8 dif8 xs.length xs)) := by rw [foB, h, Bool.true_and]
    have hy := impl_FormOf_yes A _ c lo xs w rfl ha h
    rcases Bool.eq_false_or_eq_true (ent8 (trm8 (fst8 dif8 xs.length xs))) with h2 | h2
    · rw [foL, e, h2, cond_true]
      rw [h2] at hy
      exact hy
    · rw [foL, e, h2, cond_false]
      rw [h2] at hy
      exact hy
  · have e : foB xs = false := by rw [foB, h, Bool.false_and]
    rw [foL, e, cond_false]
    exact impl_FormOf_no A _ c lo xs w rfl hm ha h
def fhB (s : Int) : Bool := decide (3 ≤ s ∧ s ≤ 24)
def fhL (s : Int) : List Int := bif fhB s then [0, 1, s - 2] else []
theorem impl_FormOfShape_any (s : Int) (w : World) : Calls Try.prog 22 #[.int .i64 s] w (ResI (fhB s) (fhL s) w) := by
  rcases Bool.eq_false_or_eq_true (fhB s) with h | h
  · have h' := h
    simp only [fhB, decide_eq_true_eq] at h'
    rw [fhL, h, cond_true]
    exact impl_FormOfShape_yes s w h'.1 h'.2
  · have h' := h
    simp only [fhB, decide_eq_false_iff_not] at h'
    rw [fhL, h, cond_false]
    exact impl_FormOfShape_no s w (by omega)
theorem spec_FormOfShape_any (s : Int) (w : World) : Calls Try.prog 23 #[.int .i64 s] w (ResI (fhB s) (fhL s) w) := by
  rcases Bool.eq_false_or_eq_true (fhB s) with h | h
  · have h' := h
    simp only [fhB, decide_eq_true_eq] at h'
    rw [fhL, h, cond_true]
    exact spec_FormOfShape_yes s w h'.1 h'.2
  · have h' := h
    simp only [fhB, decide_eq_false_iff_not] at h'
    rw [fhL, h, cond_false]
    exact spec_FormOfShape_no s w (by omega)
theorem fh_len (s : Int) : (fhL s).length ≤ 3 := by
  rcases Bool.eq_false_or_eq_true (fhB s) with h | h <;> simp [fhL, h]
def chB (n k : Int) : Bool := decide ((0 ≤ n ∧ n ≤ 60) ∧ 0 ≤ k)
def chV (n k : Int) : Int := bif chB n k then (chs n.toNat k.toNat : Int) else 0
theorem impl_ChooseOf_any (n k : Int) (w : World) : Calls Try.prog 28 #[.int .i64 n, .int .i64 k] w fun e w' => e = .returned (.tuple #[.int .i64 (chV n k), .bool (chB n k)]) ∧ Below w.heap.size w w' := by
  rcases Bool.eq_false_or_eq_true (chB n k) with h | h
  · have h' := h
    simp only [chB, decide_eq_true_eq] at h'
    rw [chV, h, cond_true]
    obtain ⟨N, rfl⟩ := Int.eq_ofNat_of_zero_le h'.1.1
    rw [Int.toNat_natCast]
    exact impl_ChooseOf_yes N k w (by omega) h'.2
  · have h' := h
    simp only [chB, decide_eq_false_iff_not] at h'
    rw [chV, h, cond_false]
    exact impl_ChooseOf_no n k w (by omega)
theorem spec_ChooseOf_any (n k : Int) (w : World) : Calls Try.prog 29 #[.int .i64 n, .int .i64 k] w fun e w' => e = .returned (.tuple #[.int .i64 (chV n k), .bool (chB n k)]) ∧ Below w.heap.size w w' := by
  rcases Bool.eq_false_or_eq_true (chB n k) with h | h
  · have h' := h
    simp only [chB, decide_eq_true_eq] at h'
    rw [chV, h, cond_true]
    obtain ⟨N, rfl⟩ := Int.eq_ofNat_of_zero_le h'.1.1
    rw [Int.toNat_natCast]
    refine (spec_ChooseOf_yes N k w (by omega) h'.2).mono ?_
    rintro e w' ⟨rfl, hb⟩
    exact ⟨rfl, by first | exact hb | (subst hb; exact Below.refl _ _)⟩
  · have h' := h
    simp only [chB, decide_eq_false_iff_not] at h'
    rw [chV, h, cond_false]
    refine (spec_ChooseOf_no n k w (by omega)).mono ?_
    rintro e w' ⟨rfl, hb⟩
    exact ⟨rfl, by first | exact hb | (subst hb; exact Below.refl _ _)⟩
/-- Pascal's rule, as the law asks it. -/
structure Chf (n k : Int) : Prop where
  b1 : chB (n - 1) (k - 1) = true
  b2 : chB (n - 1) k = true
  sum : chV (n - 1) (k - 1) + chV (n - 1) k = chV n k
  n1 : n ≤ 60
  l1 : 0 ≤ chV (n - 1) (k - 1) ∧ chV (n - 1) (k - 1) ≤ 1152921504606846976
  l2 : 0 ≤ chV (n - 1) k ∧ chV (n - 1) k ≤ 1152921504606846976
theorem chV_bd (n k : Int) : 0 ≤ chV n k ∧ chV n k ≤ 1152921504606846976 := by
  rcases Bool.eq_false_or_eq_true (chB n k) with h | h
  · have h' := h
    simp only [chB, decide_eq_true_eq] at h'
    rw [chV, h, cond_true]
    have h1 := chs_le n.toNat k.toNat
    have h2 : 2 ^ n.toNat ≤ 2 ^ 60 := Nat.pow_le_pow_right (by omega) (by omega)
    have h3 : 2 ^ 60 = 1152921504606846976 := by decide
    omega
  · rw [chV, h, cond_false]; omega
theorem chf_of {n k : Int} (h : chB n k = true) (hn : 0 < n) (hk : 0 < k) : Chf n k := by
  have h' := h
  simp only [chB, decide_eq_true_eq] at h'
  have b1 : chB (n - 1) (k - 1) = true := by simp only [chB, decide_eq_true_eq]; omega
  have b2 : chB (n - 1) k = true := by simp only [chB, decide_eq_true_eq]; omega
  refine ⟨b1, b2, ?_, h'.1.2, chV_bd _ _, chV_bd _ _⟩
  rw [chV, chV, chV, h, b1, b2, cond_true, cond_true, cond_true]
  obtain ⟨N, hN⟩ : ∃ N : Nat, n = (N : Int) + 1 := ⟨(n - 1).toNat, by omega⟩
  obtain ⟨K, hK⟩ : ∃ K : Nat, k = (K : Int) + 1 := ⟨(k - 1).toNat, by omega⟩
  have e1 : n.toNat = N + 1 := by omega
  have e2 : k.toNat = K + 1 := by omega
  have e3 : (n - 1).toNat = N := by omega
  have e4 : (k - 1).toNat = K := by omega
  rw [e1, e2, e3, e4, chs_succ]
  omega
/-! ### values -/
theorem vok_small {v : Int} (h1 : -256000000 ≤ v) (h2 : v ≤ 256000000) : vok8 v = true := by simp only [vok8, decide_eq_true_eq]; omega
/-- The value of a form at one of the first places. -/
theorem impl_ValueOf_at (xs : List Int) (k : Nat) (A : Option Addr) (n c lo : Nat) (w : World) (hn : xs.length = n) (ha : Own w lo w.heap.size A (i64s xs)) (h : fm8 xs = true) (hk : k ≤ 8) (u : Int) (hu : val8 xs k = u) :
    Calls Try.prog 14 #[.slice A n c, .int .i64 (k : Int)] w fun e w' => e = .returned (.tuple #[.int .i64 u, .bool true]) ∧ Below w.heap.size w w' := by
  have hb := val8_small (fm8_bd h) hk
  have hv := vok_small hb.1 hb.2
  exact valueOf_impl k A n c lo xs w hn ha h (by omega) true u hv.symm (by rw [if_pos hv, hu])
theorem impl_ValueOf_none (xs : List Int) (k : Int) (A : Option Addr) (n c lo : Nat) (w : World) (hn : xs.length = n) (hm : n ≤ 1048576) (ha : Own w lo w.heap.size A (i64s xs)) (h : fm8 xs = false) :
    Calls Try.prog 14 #[.slice A n c, .int .i64 k] w fun e w' => e = .returned (.tuple #[.int .i64 0, .bool false]) ∧ Below w.heap.size w w' :=
  valueOf_no_impl k A n c lo xs w hn hm ha (.inl h)
/-- What the law's sums are. -/
def tot8 (xs : List Int) (n : Nat) : Int := val8 (0 :: xs) n
theorem tot8_zero (xs : List Int) : tot8 xs 0 = 0 := rfl
theorem tot8_succ (xs : List Int) (n : Nat) : tot8 xs (n + 1) = tot8 xs n + val8 xs n := val8_sums xs n
theorem tot8_bd {xs : List Int} (h : fm8 xs = true) (n : Nat) : n ≤ 7 → -(256000000 * (n : Int)) ≤ tot8 xs n ∧ tot8 xs n ≤ 256000000 * (n : Int) := by
  induction n with
  | zero => intro _; rw [tot8_zero]; omega
  | succ n ih =>
    intro hn
    have h1 := ih (by omega)
    have h2 := val8_small (fm8_bd h) (n := n) (by omega)
    rw [tot8_succ]
    omega
theorem fs_val {xs : List Int} (h : fsB xs = true) : fm8 (fsL xs) = true ∧ ∀ n, val8 (fsL xs) n = tot8 xs n := by
  obtain ⟨_, h2, h3⟩ := fs_t h
  rw [h3]
  exact ⟨(fm8_trm _).trans h2, fun n => val8_trm _ n⟩
theorem tp_val {xs : List Int} (h : tpB xs = true) : fm8 (tpL xs) = true ∧ ∀ n : Nat, val8 (tpL xs) n = (n : Int) * val8 xs n := by
  obtain ⟨_, h2, h3⟩ := tp_t h
  rw [h3]
  exact ⟨(fm8_trm _).trans h2, fun n => (val8_trm _ n).trans (val8_times xs n)⟩
theorem fb_val {xs : List Int} (h : fbB xs = true) : fm8 (fbL xs) = true ∧ ∀ n, val8 (fbL xs) n = val8 xs (n + 1) := by
  obtain ⟨h1, h2, h3⟩ := fb_t h
  rw [h3]
  exact ⟨(fm8_stp h1).trans h2, fun n => rfl⟩
theorem fh_val {s : Int} (h : fhB s = true) : (3 ≤ s ∧ s ≤ 24) ∧ (fhL s).length = 3 ∧ fm8 (fhL s) = true ∧ ∀ k : Nat, val8 (fhL s) k = num s (k : Int) := by
  have h' := h
  simp only [fhB, decide_eq_true_eq] at h'
  have e : fhL s = [0, 1, s - 2] := by rw [fhL, h, cond_true]
  rw [e]
  refine ⟨h', rfl, ?_, val8_shape s⟩
  rw [fm8_of_last (fun _ => by show s - 2 ≠ 0; omega)]
  simp [ent8, allIn]
  omega
theorem tf_back {xs : List Int} (h : tfB xs = true) : utB (tfL xs) = true ∧ utL (tfL xs) = xs ∧ foB (tfL xs) = true ∧ foL (tfL xs) = trm8 xs := by
  obtain ⟨h1, h2, h3⟩ := tf_t h
  have hl := gd8_len h1
  have e1 : (fst8 stp8 xs.length xs).length = xs.length := fst8_len _ _ _
  have hg : gd8 (fst8 stp8 xs.length xs) = true := (gd8_fst _ _ hl.1).trans h2
  have hu := undo_of xs.length xs rfl
  have he : ent8 xs = true := by
    rw [gd8_ent, Bool.and_eq_true] at h1
    exact h1.2
  have ht : ent8 (trm8 xs) = true := by
    have h5 : (trm8 xs).length ≤ xs.length := by rw [trm8_len]; exact tln8_le _ _
    simp only [ent8, Bool.and_eq_true, decide_eq_true_eq] at he ⊢
    refine ⟨by omega, ?_⟩
    have h6 := he.2
    simp only [allIn, List.all_eq_true] at h6 ⊢
    exact fun x hx => h6 x (List.mem_of_mem_take hx)
  have hb : utB (tfL xs) = true := by rw [h3, utB, hg, Bool.true_and, e1, hu]; exact he
  have hb2 : foB (tfL xs) = true := by rw [h3, foB, hg, Bool.true_and, e1, hu]; exact ht
  refine ⟨hb, ?_, hb2, ?_⟩
  · rw [utL, hb, cond_true, h3, e1, hu]
  · rw [foL, hb2, cond_true, h3, e1, hu]
theorem ut_back {xs : List Int} (h : utB xs = true) : tfB (utL xs) = true ∧ tfL (utL xs) = xs := by
  obtain ⟨h1, h2, h3⟩ := ut_t h
  have hl := gd8_len h1
  have e1 : (fst8 dif8 xs.length xs).length = xs.length := fst8_len _ _ _
  have hg : gd8 (fst8 dif8 xs.length xs) = true := (gd8_fst _ _ hl.1).trans h2
  have hu := of_undo xs.length xs rfl
  have he : ent8 xs = true := by
    rw [gd8_ent, Bool.and_eq_true] at h1
    exact h1.2
  have hb : tfB (utL xs) = true := by rw [h3, tfB, hg, Bool.true_and, e1, hu]; exact he
  exact ⟨hb, by rw [tfL, hb, cond_true, h3, e1, hu]⟩
/-! ### shapes of lists -/
noncomputable def slB (xs : List Int) : Bool := gd8 xs && decide (3 ≤ xs.length ∧ 3 ≤ sd8 xs ∧ sd8 xs ≤ 24 ∧ 0 ≤ xs.getD 0 0) && mt8 (sd8 xs) (pl (sd8 xs) (xs.getD 0 0)) xs xs.length
noncomputable def slS (xs : List Int) : Int := bif slB xs then sd8 xs else 0
noncomputable def slP (xs : List Int) : Int := bif slB xs then pl (sd8 xs) (xs.getD 0 0) else 0
theorem sl_no {xs : List Int} (h : ¬ (gd8 xs = true ∧ 3 ≤ xs.length ∧ 3 ≤ sd8 xs ∧ sd8 xs ≤ 24 ∧ 0 ≤ xs.getD 0 0)) : slB xs = false ∧ slS xs = 0 ∧ slP xs = 0 := by
  have hb : slB xs = false := by
    rw [slB, Bool.and_eq_false_iff]
    left
    rw [Bool.and_eq_false_iff]
    rcases Bool.eq_false_or_eq_true (gd8 xs) with h1 | h1
    · right
      rw [decide_eq_false_iff_not]
      exact fun h2 => h ⟨h1, h2⟩
    · exact .inl h1
  exact ⟨hb, by rw [slS, hb, cond_false], by rw [slP, hb, cond_false]⟩
theorem sl_yes {xs : List Int} (h : gd8 xs = true ∧ 3 ≤ xs.length ∧ 3 ≤ sd8 xs ∧ sd8 xs ≤ 24 ∧ 0 ≤ xs.getD 0 0) : ans3 (mt8 (sd8 xs) (pl (sd8 xs) (xs.getD 0 0)) xs xs.length) (sd8 xs) (pl (sd8 xs) (xs.getD 0 0)) = R3 (slS xs) (slP xs) (slB xs) := by
  have hb : slB xs = mt8 (sd8 xs) (pl (sd8 xs) (xs.getD 0 0)) xs xs.length := by rw [slB, h.1, decide_eq_true h.2, Bool.true_and, Bool.true_and]
  rw [slS, slP, hb]
  cases mt8 (sd8 xs) (pl (sd8 xs) (xs.getD 0 0)) xs xs.length <;> rfl
theorem impl_ShapeOfList_own (A : Option Addr) (n c lo : Nat) (xs : List Int) (w : World) (hn : xs.length = n) (hm : n ≤ 1048576) (ha : Own w lo w.heap.size A (i64s xs)) :
    Calls Try.prog 25 #[.slice A n c] w fun e w' => e = .returned (.tuple #[.int .i64 (slS xs), .int .i64 (slP xs), .bool (slB xs)]) ∧ Below w.heap.size w w' := by
  subst hn
  by_cases h : gd8 xs = true ∧ 3 ≤ xs.length ∧ 3 ≤ sd8 xs ∧ sd8 xs ≤ 24 ∧ 0 ≤ xs.getD 0 0
  · rw [show Ending.returned (.tuple #[.int .i64 (slS xs), .int .i64 (slP xs), .bool (slB xs)]) = _ from (sl_yes h).symm]
    exact impl_ShapeOfList_in A _ c lo xs w rfl ha h.1 h.2.1 h.2.2.1 h.2.2.2.1 _ (fun _ => rfl) (fun h5 => by omega)
  · obtain ⟨e1, e2, e3⟩ := sl_no h
    rw [e1, e2, e3]
    by_cases hg : gd8 xs = false ∨ xs.length < 3
    · exact impl_ShapeOfList_no A _ c lo xs w rfl hm ha hg
    · have h1 : gd8 xs = true := by
        cases hq : gd8 xs with
        | false => exact absurd (.inl hq) hg
        | true => rfl
      by_cases hs : sd8 xs < 3 ∨ 24 < sd8 xs
      · exact impl_ShapeOfList_out A _ c lo xs w rfl ha h1 (by omega) hs
      · exact impl_ShapeOfList_in A _ c lo xs w rfl ha h1 (by omega) (by omega) (by omega) _ (fun h5 => absurd ⟨h1, by omega, by omega, by omega, h5⟩ h) (fun _ => rfl)
theorem spec_ShapeOfList_own (A : Option Addr) (n c lo : Nat) (xs : List Int) (w : World) (hn : xs.length = n) (hm : n ≤ 1048576) (ha : Own w lo w.heap.size A (i64s xs)) :
    Calls Try.prog 26 #[.slice A n c] w fun e w' => e = .returned (.tuple #[.int .i64 (slS xs), .int .i64 (slP xs), .bool (slB xs)]) ∧ Below w.heap.size w w' := by
  subst hn
  by_cases h : gd8 xs = true ∧ 3 ≤ xs.length ∧ 3 ≤ sd8 xs ∧ sd8 xs ≤ 24 ∧ 0 ≤ xs.getD 0 0
  · rw [show Ending.returned (.tuple #[.int .i64 (slS xs), .int .i64 (slP xs), .bool (slB xs)]) = _ from (sl_yes h).symm]
    exact spec_ShapeOfList_in A _ c lo xs w rfl ha h.1 h.2.1 h.2.2.1 h.2.2.2.1 h.2.2.2.2
  · obtain ⟨e1, e2, e3⟩ := sl_no h
    rw [e1, e2, e3]
    by_cases hg : gd8 xs = false ∨ xs.length < 3
    · exact spec_ShapeOfList_no A _ c lo xs w rfl hm ha hg
    · have h1 : gd8 xs = true := by
        cases hq : gd8 xs with
        | false => exact absurd (.inl hq) hg
        | true => rfl
      refine spec_ShapeOfList_out A _ c lo xs w rfl ha h1 (by omega) ?_
      by_cases hs : sd8 xs < 3 ∨ 24 < sd8 xs
      · exact .inl hs
      · refine .inr ?_
        by_cases h5 : 0 ≤ xs.getD 0 0
        · exact absurd ⟨h1, by omega, by omega, by omega, h5⟩ h
        · omega
/-- What the law asks of a list that is a shape's. -/
structure Slf (xs : List Int) : Prop where
  s1 : 3 ≤ slS xs
  s2 : slS xs ≤ 24
  p0 : 0 ≤ slP xs
  p1 : slP xs ≤ 90000
  len : xs.length ≤ 12
  at_ : ∀ k, k < xs.length → num (slS xs) (slP xs + (k : Int)) = xs.getD k 0
theorem slf_of {xs : List Int} (h : slB xs = true) : Slf xs := by
  have e1 : slS xs = sd8 xs := by rw [slS, h, cond_true]
  have e2 : slP xs = pl (sd8 xs) (xs.getD 0 0) := by rw [slP, h, cond_true]
  rw [slB, Bool.and_eq_true, Bool.and_eq_true, decide_eq_true_eq] at h
  obtain ⟨⟨h1, h2, h3, h4, h5⟩, h6⟩ := h
  have hx := gd8_at h1 0
  have hp := pl_nn (sd8 xs) (xs.getD 0 0) h3 h5
  have hq : pl (sd8 xs) (xs.getD 0 0) ≤ 90000 := by
    have g := num_ge (sd8 xs) (pl (sd8 xs) (xs.getD 0 0)) h3
    have g2 := (pl_is (sd8 xs) (xs.getD 0 0) h3 h5).2.1
    rcases Int.lt_or_le 90000 (pl (sd8 xs) (xs.getD 0 0)) with h7 | h7
    · have : 90001 * 90002 ≤ pl (sd8 xs) (xs.getD 0 0) * (pl (sd8 xs) (xs.getD 0 0) + 1) := Int.mul_le_mul (by omega) (by omega) (by omega) (by omega)
      omega
    · exact h7
  refine ⟨by omega, by omega, by omega, by omega, (gd8_len h1).2, ?_⟩
  rw [e1, e2]
  exact mt8_all h6
end Go.Proofs.Ytjfpnecnmdclfaa
