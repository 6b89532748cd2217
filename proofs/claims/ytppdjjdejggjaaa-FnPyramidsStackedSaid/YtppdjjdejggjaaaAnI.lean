/- Pyramids, their layers, frustums and cannonballs: each function with one contract, and what holds of its answers. No condition. -/
import Derived.Test.YtppdjjdejggjaaaAnF
import Derived.Test.YtppdjjdejggjaaaAnH
import Derived.Test.YtppdjjdejggjaaaSoG
import Derived.Test.YtppdjjdejggjaaaAnA
namespace Go.Proofs.Ytppdjjdejggjaaa
open Go.ChangeShapes Go.WideShapes Go.ChangeAt Go.RowKit

noncomputable def lpB (s n : Int) : Bool := tsB s n && decide (pyr s (lst (pyr s) n) = n)
noncomputable def lpV (s n : Int) : Int := bif lpB s n then lst (pyr s) n else 0
def frB (s f t : Int) : Bool := decide ((3 ≤ s ∧ s ≤ 24) ∧ (0 ≤ t ∧ t ≤ 2000) ∧ 1 ≤ f ∧ f ≤ 2000)
def frV (s f t : Int) : Int := bif frB s f t && decide (f ≤ t) then pyr s t - pyr s (f - 1) else 0
def llB (s k : Int) : Bool := decide ((3 ≤ s ∧ s ≤ 24) ∧ 0 ≤ k ∧ k ≤ 200)
def llL (s k : Int) : List Int := bif llB s k then nums s k.toNat else []
def cbB (a b n : Int) : Bool := decide ((3 ≤ a ∧ a ≤ 24) ∧ (3 ≤ b ∧ b ≤ 24) ∧ 0 ≤ n ∧ n ≤ 2000)
noncomputable def cbL (a b n : Int) : List Int := bif cbB a b n then cbl a b n.toNat else []
theorem spec_LayersOfPyramid_any (s n : Int) (w : World) :
    Calls Try.prog 66 #[.int .i64 s, .int .i64 n] w fun e w' => e = .returned (.tuple #[.int .i64 (lpV s n), .bool (lpB s n)]) ∧ Below w.heap.size w w' := by
  by_cases h : (s < 3 ∨ 24 < s) ∨ (n < 0 ∨ 1000000000000 < n)
  · have e := tsB_no h
    rw [show lpV s n = 0 from by simp [lpV, lpB, e], show lpB s n = false from by simp [lpB, e]]
    exact spec_LayersOfPyramid_no s n w h
  · have e := tsB_yes h
    by_cases c : pyr s (lst (pyr s) n) = n
    · rw [show lpV s n = lst (pyr s) n from by simp [lpV, lpB, e, c], show lpB s n = true from by simp [lpB, e, c]]
      exact spec_LayersOfPyramid_yes s n w (by omega) (by omega) (by omega) (by omega) c
    · rw [show lpV s n = 0 from by simp [lpV, lpB, e, c], show lpB s n = false from by simp [lpB, e, c]]
      exact spec_LayersOfPyramid_miss s n w (by omega) (by omega) (by omega) (by omega) c
theorem spec_IsPyramidal_any (s n : Int) (w : World) :
    Calls Try.prog 67 #[.int .i64 s, .int .i64 n] w fun e w' => e = .returned (.tuple #[.bool (lpB s n), .bool (tsB s n)]) ∧ Below w.heap.size w w' := by
  by_cases h : (s < 3 ∨ 24 < s) ∨ (n < 0 ∨ 1000000000000 < n)
  · have e := tsB_no h
    rw [show lpB s n = false from by simp [lpB, e], e]
    exact spec_IsPyramidal_no s n w h
  · have e := tsB_yes h
    by_cases c : pyr s (lst (pyr s) n) = n
    · rw [show lpB s n = true from by simp [lpB, e, c], e]
      exact spec_IsPyramidal_yes s n w (by omega) (by omega) (by omega) (by omega) c
    · rw [show lpB s n = false from by simp [lpB, e, c], e]
      exact spec_IsPyramidal_miss s n w (by omega) (by omega) (by omega) (by omega) c
theorem spec_FrustumNumber_any (s f t : Int) (w : World) :
    Calls Try.prog 69 #[.int .i64 s, .int .i64 f, .int .i64 t] w fun e w' => e = .returned (.tuple #[.int .i64 (frV s f t), .bool (frB s f t)]) ∧ Below w.heap.size w w' := by
  by_cases h : ((3 ≤ s ∧ s ≤ 24) ∧ (0 ≤ t ∧ t ≤ 2000) ∧ 1 ≤ f ∧ f ≤ 2000)
  · have e : frB s f t = true := by simp only [frB, decide_eq_true_eq]; exact h
    by_cases c : f ≤ t
    · rw [show frV s f t = pyr s t - pyr s (f - 1) from by simp [frV, e, c], e]
      exact spec_FrustumNumber_yes s f t w (by omega) (by omega) (by omega) (by omega) (by omega) (by omega) c
    · rw [show frV s f t = 0 from by simp [frV, e, c], e]
      exact spec_FrustumNumber_none s f t w (by omega) (by omega) (by omega) (by omega) (by omega) (by omega) (by omega)
  · have e : frB s f t = false := by simp only [frB, decide_eq_false_iff_not]; exact h
    rw [show frV s f t = 0 from by simp [frV, e], e]
    exact spec_FrustumNumber_no0 s f t w (by omega)
theorem spec_LayerList_any (s k : Int) (w : World) : Calls Try.prog 70 #[.int .i64 s, .int .i64 k] w (ResI (llB s k) (llL s k) w) := by
  by_cases h : (s < 3 ∨ 24 < s) ∨ (k < 0 ∨ 200 < k)
  · have e : llB s k = false := by simp [llB]; omega
    rw [show llL s k = [] from by simp [llL, e], e]
    exact spec_LayerList_no s k w h
  · obtain ⟨N, rfl⟩ := Int.eq_ofNat_of_zero_le (show 0 ≤ k by omega)
    have e : llB s (N : Int) = true := by simp [llB]; omega
    rw [show llL s (N : Int) = nums s N from by simp [llL, e], e]
    exact spec_LayerList_yes s N w (by omega) (by omega) (by omega)
theorem spec_Cannonballs_any (a b n : Int) (w : World) : Calls Try.prog 72 #[.int .i64 a, .int .i64 b, .int .i64 n] w (ResI (cbB a b n) (cbL a b n) w) := by
  by_cases h : ((a < 3 ∨ 24 < a) ∨ (n < 0 ∨ 2000 < n)) ∨ (b < 3 ∨ 24 < b)
  · have e : cbB a b n = false := by simp [cbB]; omega
    rw [show cbL a b n = [] from by simp [cbL, e], e]
    exact spec_Cannonballs_no0 a b n w (by omega)
  · obtain ⟨N, rfl⟩ := Int.eq_ofNat_of_zero_le (show 0 ≤ n by omega)
    have e : cbB a b (N : Int) = true := by simp [cbB]; omega
    rw [show cbL a b (N : Int) = cbl a b N from by simp [cbL, e], e]
    exact spec_Cannonballs_yes a b N w (by omega) (by omega) (by omega) (by omega) (by omega)
theorem impl_LayersOfPyramid_any (s n : Int) (w : World) :
    Calls Try.prog 62 #[.int .i64 s, .int .i64 n] w fun e w' => e = .returned (.tuple #[.int .i64 (lpV s n), .bool (lpB s n)]) ∧ Below w.heap.size w w' := by
  by_cases h : (s < 3 ∨ 24 < s) ∨ (n < 0 ∨ 1000000000000 < n)
  · have e := tsB_no h
    rw [show lpV s n = 0 from by simp [lpV, lpB, e], show lpB s n = false from by simp [lpB, e]]
    exact impl_LayersOfPyramid_no s n w h
  · have e := tsB_yes h
    by_cases c : pyr s (lst (pyr s) n) = n
    · rw [show lpV s n = lst (pyr s) n from by simp [lpV, lpB, e, c], show lpB s n = true from by simp [lpB, e, c]]
      exact impl_LayersOfPyramid_yes s n w (by omega) (by omega) (by omega) (by omega) c
    · rw [show lpV s n = 0 from by simp [lpV, lpB, e, c], show lpB s n = false from by simp [lpB, e, c]]
      exact impl_LayersOfPyramid_miss s n w (by omega) (by omega) (by omega) (by omega) c
theorem impl_IsPyramidal_any (s n : Int) (w : World) :
    Calls Try.prog 63 #[.int .i64 s, .int .i64 n] w fun e w' => e = .returned (.tuple #[.bool (lpB s n), .bool (tsB s n)]) ∧ Below w.heap.size w w' := by
  by_cases h : (s < 3 ∨ 24 < s) ∨ (n < 0 ∨ 1000000000000 < n)
  · have e := tsB_no h
    rw [show lpB s n = false from by simp [lpB, e], e]
    exact impl_IsPyramidal_no s n w h
  · have e := tsB_yes h
    by_cases c : pyr s (lst (pyr s) n) = n
    · rw [show lpB s n = true from by simp [lpB, e, c], e]
      exact impl_IsPyramidal_yes s n w (by omega) (by omega) (by omega) (by omega) c
    · rw [show lpB s n = false from by simp [lpB, e, c], e]
      exact impl_IsPyramidal_miss s n w (by omega) (by omega) (by omega) (by omega) c
theorem impl_FrustumNumber_any (s f t : Int) (w : World) :
    Calls Try.prog 68 #[.int .i64 s, .int .i64 f, .int .i64 t] w fun e w' => e = .returned (.tuple #[.int .i64 (frV s f t), .bool (frB s f t)]) ∧ Below w.heap.size w w' := by
  by_cases h : ((3 ≤ s ∧ s ≤ 24) ∧ (0 ≤ t ∧ t ≤ 2000) ∧ 1 ≤ f ∧ f ≤ 2000)
  · have e : frB s f t = true := by simp only [frB, decide_eq_true_eq]; exact h
    by_cases c : f ≤ t
    · rw [show frV s f t = pyr s t - pyr s (f - 1) from by simp [frV, e, c], e]
      obtain ⟨F, rfl⟩ := Int.eq_ofNat_of_zero_le (show 0 ≤ f by omega)
      obtain ⟨T, rfl⟩ := Int.eq_ofNat_of_zero_le (show 0 ≤ t by omega)
      exact impl_FrustumNumber_yes s F T w (by omega) (by omega) (by omega) (by omega) (by omega)
    · rw [show frV s f t = 0 from by simp [frV, e, c], e]
      exact impl_FrustumNumber_none s f t w (by omega) (by omega) (by omega) (by omega) (by omega) (by omega) (by omega)
  · have e : frB s f t = false := by simp only [frB, decide_eq_false_iff_not]; exact h
    rw [show frV s f t = 0 from by simp [frV, e], e]
    exact impl_FrustumNumber_no0 s f t w (by omega)
theorem impl_LayerList_any (s k : Int) (w : World) : Calls Try.prog 64 #[.int .i64 s, .int .i64 k] w (ResI (llB s k) (llL s k) w) := by
  by_cases h : (s < 3 ∨ 24 < s) ∨ (k < 0 ∨ 200 < k)
  · have e : llB s k = false := by simp [llB]; omega
    rw [show llL s k = [] from by simp [llL, e], e]
    exact impl_LayerList_no s k w h
  · obtain ⟨N, rfl⟩ := Int.eq_ofNat_of_zero_le (show 0 ≤ k by omega)
    have e : llB s (N : Int) = true := by simp [llB]; omega
    rw [show llL s (N : Int) = nums s N from by simp [llL, e], e]
    exact impl_LayerList_yes s N w (by omega) (by omega) (by omega)
theorem impl_Cannonballs_any (a b n : Int) (w : World) : Calls Try.prog 71 #[.int .i64 a, .int .i64 b, .int .i64 n] w (ResI (cbB a b n) (cbL a b n) w) := by
  by_cases h : ((a < 3 ∨ 24 < a) ∨ (n < 0 ∨ 2000 < n)) ∨ (b < 3 ∨ 24 < b)
  · have e : cbB a b n = false := by simp [cbB]; omega
    rw [show cbL a b n = [] from by simp [cbL, e], e]
    exact impl_Cannonballs_no0 a b n w (by omega)
  · obtain ⟨N, rfl⟩ := Int.eq_ofNat_of_zero_le (show 0 ≤ n by omega)
    have e : cbB a b (N : Int) = true := by simp [cbB]; omega
    rw [show cbL a b (N : Int) = cbl a b N from by simp [cbL, e], e]
    exact impl_Cannonballs_yes a b N w (by omega) (by omega) (by omega) (by omega) (by omega)

theorem pyl_of {s k : Int} (hs : 3 ≤ s) (hk : 0 ≤ k) : lst (pyr s) (pyr s k) = k := by
  have q := sq_pyr s hs
  have n0 := q.nn hk
  obtain ⟨a, b, c⟩ := lst_is q (pyr s k) n0
  have d := (lst_iff q (pyr s k) k n0 hk).1 (Int.le_refl _)
  rcases Int.lt_or_eq_of_le d with h | h
  · have := q.lt hk h
    omega
  · exact h.symm
/-- A pyramid and its layers. -/
structure Pyd (s k : Int) : Prop where
  y : pyB s k = true
  l : lpB s (pyV s k) = true
  v : lpV s (pyV s k) = k
  t : tsB s (pyV s k) = true
  k0 : 0 ≤ k
  k1 : k ≤ 2000
  n0 : 0 ≤ pyV s k
  n1 : pyV s k ≤ 100000000000
theorem py_iff {s k : Int} : pyB s k = true ↔ (3 ≤ s ∧ s ≤ 24) ∧ 0 ≤ k ∧ k ≤ 2000 := by simp [pyB]
theorem pyd_of {s k : Int} (h : pyB s k = true) : Pyd s k := by
  obtain ⟨⟨h1, h2⟩, h3, h4⟩ := py_iff.1 h
  have v : pyV s k = pyr s k := by simp [pyV, h]
  obtain ⟨n0, n1⟩ := pyr_few s k h1 h2 h3 h4
  have t : tsB s (pyr s k) = true := by simp [tsB]; omega
  have l : lpB s (pyr s k) = true := by simp [lpB, t, pyl_of h1 h3]
  exact ⟨h, by rw [v]; exact l, by rw [v]; simp [lpV, l, pyl_of h1 h3], by rw [v]; exact t, h3, h4, by omega, by omega⟩
structure Pyt (s k : Int) : Prop where
  y : pyB s (k - 1) = true
  p : pnB s k = true
  e : pyV s (k - 1) + pnV s k = pyV s k
  n0 : 0 ≤ pyV s (k - 1)
  n1 : pyV s (k - 1) ≤ 100000000000
  n2 : 0 ≤ pnV s k
  n3 : pnV s k ≤ 100000000000
theorem pyt_of {s k : Int} (h : pyB s k = true) (hk : 0 < k) : Pyt s k := by
  obtain ⟨⟨h1, h2⟩, h3, h4⟩ := py_iff.1 h
  have y : pyB s (k - 1) = true := by simp [pyB]; omega
  have p : pnB s k = true := by simp [pnB]; omega
  have e1 : pyV s k = pyr s k := by simp [pyV, h]
  have e2 : pyV s (k - 1) = pyr s (k - 1) := by simp [pyV, y]
  have e3 : pnV s k = num s k := by simp [pnV, p]
  have u := pyr_succ s (k - 1)
  rw [show k - 1 + 1 = k from by omega] at u
  have a := pyr_few s k h1 h2 h3 h4
  have b := pyr_few s (k - 1) h1 h2 (by omega) (by omega)
  have c := num_nn s k h1
  exact ⟨y, p, by rw [e1, e2, e3, u], by omega, by omega, by omega, by omega⟩
theorem sumF_eq (xs : List Int) (k : Nat) : sumF xs k = sumTo xs k := by
  induction k with
  | zero => rfl
  | succ k ih => rw [sumF, sumTo, ih]
structure Pyl (s k : Int) : Prop where
  l : llB s k = true
  n : ((llL s k).length : Int) = k
  m : (llL s k).length ≤ 200
  sm : sumF (llL s k) (llL s k).length = pyV s k
  b : ∀ j, j ≤ (llL s k).length → -1000000000000000000 ≤ sumF (llL s k) j ∧ sumF (llL s k) j ≤ 1000000000000000000
theorem pyl_few {s k : Int} (h : pyB s k = true) (hk : k ≤ 200) : Pyl s k := by
  obtain ⟨⟨h1, h2⟩, h3, h4⟩ := py_iff.1 h
  obtain ⟨N, rfl⟩ := Int.eq_ofNat_of_zero_le h3
  have l : llB s (N : Int) = true := by simp [llB]; omega
  have e : llL s (N : Int) = nums s N := by simp [llL, l]
  have v : pyV s (N : Int) = pyr s N := by simp [pyV, h]
  have hs : ∀ j, j ≤ N → sumF (nums s N) j = pyr s (j : Int) := by
    intro j hj
    have := sum_nr s 1 N j hj
    rw [nr_one] at this
    rw [sumF_eq, this, show ((1 : Nat) : Int) + (j : Int) - 1 = j from by omega, show ((1 : Nat) : Int) - 1 = 0 from rfl, pyr_zero]
    omega
  refine ⟨l, by rw [e, nums_len], by rw [e, nums_len]; omega, by rw [e, nums_len, v]; exact hs N (Nat.le_refl _), ?_⟩
  rw [e, nums_len]
  intro j hj
  rw [hs j hj]
  have := pyr_few s (j : Int) h1 h2 (by omega) (by omega)
  omega
structure Frs (s f t : Int) : Prop where
  a : pyB s t = true
  b : pyB s (f - 1) = true
  e : pyV s t - pyV s (f - 1) = frV s f t
  f0 : 1 ≤ f
  f1 : f ≤ 2000
  n0 : 0 ≤ pyV s t
  n1 : pyV s t ≤ 100000000000
  n2 : 0 ≤ pyV s (f - 1)
  n3 : pyV s (f - 1) ≤ 100000000000
theorem frs_of {s f t : Int} (h : frB s f t = true) (hc : f ≤ t) : Frs s f t := by
  have h' := h
  simp only [frB, decide_eq_true_eq] at h'
  obtain ⟨⟨h1, h2⟩, ⟨h3, h4⟩, h5, h6⟩ := h'
  have a : pyB s t = true := by simp [pyB]; omega
  have b : pyB s (f - 1) = true := by simp [pyB]; omega
  have e1 : pyV s t = pyr s t := by simp [pyV, a]
  have e2 : pyV s (f - 1) = pyr s (f - 1) := by simp [pyV, b]
  have x := pyr_few s t h1 h2 h3 h4
  have y := pyr_few s (f - 1) h1 h2 (by omega) (by omega)
  exact ⟨a, b, by rw [e1, e2]; simp [frV, h, hc], h5, h6, by omega, by omega, by omega, by omega⟩
/-- The list of cannonballs: rising, of polygonal pyramids, none greater than the last one asked for. -/
structure Cbs (a b : Int) (n : Nat) : Prop where
  mem : ∀ j, j < (cbl a b n).length → 1 ≤ (cbl a b n).getD j 0 ∧ (cbl a b n).getD j 0 ≤ n ∧ num b (pl b (pyr a ((cbl a b n).getD j 0))) = pyr a ((cbl a b n).getD j 0)
  ris : ∀ j, j + 1 < (cbl a b n).length → (cbl a b n).getD j 0 < (cbl a b n).getD (j + 1) 0
  one : 0 < n → 0 < (cbl a b n).length ∧ (cbl a b n).getD 0 0 = 1
theorem getD_app_left {xs ys : List Int} {j : Nat} (h : j < xs.length) : (xs ++ ys).getD j 0 = xs.getD j 0 := by simp [List.getD, List.getElem?_append_left h]
theorem getD_app_last {xs : List Int} {y : Int} : (xs ++ [y]).getD xs.length 0 = y := by simp [List.getD]
theorem cbs_of (a b : Int) (hb : 3 ≤ b) (n : Nat) : Cbs a b n := by
  induction n with
  | zero => exact ⟨by simp [cbl], by simp [cbl], by omega⟩
  | succ n ih =>
    by_cases h : num b (pl b (pyr a ((n : Int) + 1))) = pyr a ((n : Int) + 1)
    · have e := cbl_hit a b n h
      have len : (cbl a b (n + 1)).length = (cbl a b n).length + 1 := by rw [e]; simp
      have old : ∀ j, j < (cbl a b n).length → (cbl a b (n + 1)).getD j 0 = (cbl a b n).getD j 0 := fun j hj => by rw [e]; exact getD_app_left hj
      have new : (cbl a b (n + 1)).getD (cbl a b n).length 0 = (n : Int) + 1 := by rw [e]; exact getD_app_last
      refine ⟨fun j hj => ?_, fun j hj => ?_, fun _ => ⟨by omega, ?_⟩⟩
      · by_cases hl : j < (cbl a b n).length
        · have := ih.mem j hl
          rw [old j hl]
          exact ⟨this.1, by have := this.2.1; push_cast; omega, this.2.2⟩
        · have : j = (cbl a b n).length := by omega
          rw [this, new]
          exact ⟨by omega, by push_cast; omega, h⟩
      · by_cases hl : j + 1 < (cbl a b n).length
        · rw [old j (by omega), old (j + 1) hl]
          exact ih.ris j hl
        · have : j + 1 = (cbl a b n).length := by omega
          rw [this, new, old j (by omega)]
          have := (ih.mem j (by omega)).2.1
          omega
      · rcases Nat.eq_zero_or_pos n with rfl | hn
        · have : (cbl a b 0).length = 0 := by simp [cbl]
          rw [this] at new
          simpa using new
        · rw [old 0 (ih.one hn).1]
          exact (ih.one hn).2
    · have e := cbl_miss a b n h
      refine ⟨fun j hj => ?_, fun j hj => ?_, fun _ => ?_⟩
      · rw [e] at hj ⊢
        have := ih.mem j hj
        exact ⟨this.1, by have := this.2.1; push_cast; omega, this.2.2⟩
      · rw [e] at hj ⊢
        exact ih.ris j hj
      · rw [e]
        rcases Nat.eq_zero_or_pos n with rfl | hn
        · refine absurd ?_ h
          rw [show ((0 : Nat) : Int) + 1 = 1 from rfl, pyr_one]
          exact (pl_of b 1 1 hb (by omega) (num_one b)).2
        · exact ih.one hn
theorem ll_len (s k : Int) : (llL s k).length ≤ 1000000000 := by
  unfold llL
  rcases Bool.eq_false_or_eq_true (llB s k) with h | h
  · simp only [h, cond_true, nums_len]
    simp [llB] at h
    omega
  · simp [h]
theorem cb_len (a b n : Int) : (cbL a b n).length ≤ 1000000000 := by
  unfold cbL
  rcases Bool.eq_false_or_eq_true (cbB a b n) with h | h
  · simp only [h, cond_true]
    have := cbl_len a b n.toNat
    simp [cbB] at h
    omega
  · simp [h]
/-- What is asked of a number of the list. -/
structure Cbf (a b n x : Int) : Prop where
  y : pyB a x = true
  t : tsB b (pyV a x) = true
  p : poB b (pyV a x) = true
  l : ¬ x > n
theorem cbl_fact {a b n : Int} (h : cbB a b n = true) (j : Nat) (hj : j < (cbL a b n).length) : Cbf a b n ((cbL a b n).getD j 0) := by
  have e : cbL a b n = cbl a b n.toNat := by simp [cbL, h]
  simp only [cbB, decide_eq_true_eq] at h
  obtain ⟨⟨a1, a2⟩, ⟨b1, b2⟩, n1, n2⟩ := h
  rw [e] at hj ⊢
  obtain ⟨m1, m2, m3⟩ := (cbs_of a b b1 n.toNat).mem j hj
  generalize (cbl a b n.toNat).getD j 0 = x at *
  have y : pyB a x = true := by simp [pyB]; omega
  have v : pyV a x = pyr a x := by simp [pyV, y]
  have f := pyr_few a x a1 a2 (by omega) (by omega)
  have t : tsB b (pyr a x) = true := by simp [tsB]; omega
  exact ⟨y, by rw [v]; exact t, by rw [v]; simp [poB, t, m3], by omega⟩
theorem cbl_ris {a b n : Int} (h : cbB a b n = true) : ∀ j, j + 1 < (cbL a b n).length → (cbL a b n).getD j 0 < (cbL a b n).getD (j + 1) 0 := by
  have e : cbL a b n = cbl a b n.toNat := by simp [cbL, h]
  simp only [cbB, decide_eq_true_eq] at h
  rw [e]
  exact (cbs_of a b h.2.1.1 n.toNat).ris
theorem cbl_one {a b n : Int} (h : cbB a b n = true) (hn : 0 < n) : 0 < (cbL a b n).length ∧ (cbL a b n).getD 0 0 = 1 := by
  have e : cbL a b n = cbl a b n.toNat := by simp [cbL, h]
  simp only [cbB, decide_eq_true_eq] at h
  rw [e]
  exact (cbs_of a b h.2.1.1 n.toNat).one (by omega)
/-- A number of an owned row, by its place. -/
theorem Own.num {w : World} {lo hi : Nat} {A : Option Addr} {xs : List Int} (h : Own w lo hi A (i64s xs)) {k : Nat} (hk : k < xs.length) : ∃ g o, A = some ⟨g, o, none⟩ ∧ w.cell? ⟨g, o + k, none⟩ = some (.int .i64 (xs.getD k 0)) := by
  obtain ⟨g, o, e, _, _, hc, _⟩ := h.at_ (k := k) (by simpa using hk)
  refine ⟨g, o, e, ?_⟩
  rw [hc]
  simp [List.getD, List.getElem?_eq_getElem hk]
end Go.Proofs.Ytppdjjdejggjaaa
