/- Sums of numbers of a rising sequence: in how many ways, by how few. No program in sight. -/
import Derived.Test.YtegbikakfckehaaDoorSeq
namespace Go.Proofs.YtegbikakfckehaaDoor

/-- In how many ways m is a sum of just i numbers of the sequence of places 1, .., k. -/
def gW (f : Int → Int) : Nat → Nat → Int → Nat
  | 0, i, m => if i = 0 ∧ m = 0 then 1 else 0
  | k + 1, 0, m => gW f k 0 m
  | k + 1, i + 1, m => gW f k (i + 1) m + gW f (k + 1) i (m - f ((k : Int) + 1))
termination_by k i => (k, i)

theorem gW_00 (f : Int → Int) (i : Nat) (m : Int) : gW f 0 i m = if i = 0 ∧ m = 0 then 1 else 0 := by rw [gW]
theorem gW_k0 (f : Int → Int) (k : Nat) (m : Int) : gW f k 0 m = if m = 0 then 1 else 0 := by
  induction k with
  | zero => rw [gW]; simp
  | succ k ih => rw [gW]; exact ih
theorem gW_kk (f : Int → Int) (k i : Nat) (m : Int) : gW f (k + 1) (i + 1) m = gW f k (i + 1) m + gW f (k + 1) i (m - f ((k : Int) + 1)) := by rw [gW]
theorem gW_neg (f : Int → Int) (hs : Sq f) (k : Nat) : ∀ (i : Nat) (m : Int), m < 0 → gW f k i m = 0 := by
  induction k with
  | zero => intro i m h; rw [gW_00, if_neg (by omega)]
  | succ k ih =>
    intro i
    induction i with
    | zero => intro m h; rw [gW_k0, if_neg (by omega)]
    | succ i ih2 =>
      intro m h
      have := hs.nn (k := (k : Int) + 1) (by omega)
      rw [gW_kk, ih _ _ h, ih2 _ (by omega)]
theorem gW_above (f : Int → Int) (hs : Sq f) (k i : Nat) (m : Int) (h : m < f ((k : Int) + 1)) : gW f (k + 1) i m = gW f k i m := by
  cases i with
  | zero => rw [gW_k0, gW_k0]
  | succ i => rw [gW_kk, gW_neg f hs (k + 1) i (m - f ((k : Int) + 1)) (by omega)]; omega
theorem gW_pl_add (f : Int → Int) (hs : Sq f) (i : Nat) (m : Int) (hm : 0 ≤ m) (d : Nat) : gW f ((lst f m).toNat + d) i m = gW f (lst f m).toNat i m := by
  induction d with
  | zero => rfl
  | succ d ih =>
    have h0 := lst_nn hs m hm
    have h1 := lst_iff hs m (((lst f m).toNat + d : Nat) + 1 : Int) hm (by omega)
    rw [← Nat.add_assoc, gW_above f hs, ih]
    rcases Int.lt_or_le m (f ((((lst f m).toNat + d : Nat) : Int) + 1)) with h | h
    · exact h
    · have := h1.1 h; omega
/-- Places beyond the last one that fits turn nothing. -/
theorem gW_pl (f : Int → Int) (hs : Sq f) (i : Nat) (m : Int) (hm : 0 ≤ m) (k : Nat) (hk : lst f m ≤ k) : gW f k i m = gW f (lst f m).toNat i m := by
  have h0 := lst_nn hs m hm
  have e : k = (lst f m).toNat + (k - (lst f m).toNat) := by omega
  rw [e]
  exact gW_pl_add f hs i m hm _
theorem gW_mono (f : Int → Int) (k d i : Nat) (m : Int) : gW f k i m ≤ gW f (k + d) i m := by
  induction d with
  | zero => exact Nat.le_refl _
  | succ d ih =>
    refine Nat.le_trans ih ?_
    rw [← Nat.add_assoc]
    cases i with
    | zero => rw [gW_k0, gW_k0]; exact Nat.le_refl _
    | succ i => rw [gW_kk]; omega
theorem gW_le (f : Int → Int) {k l : Nat} (i : Nat) (m : Int) (h : k ≤ l) : gW f k i m ≤ gW f l i m := by
  have := gW_mono f k (l - k) i m
  rwa [Nat.add_sub_cancel' h] at this

/-- One part more, of whichever place. -/
theorem gW_put (f : Int → Int) (l : Nat) (K : Nat) : ∀ (i : Nat) (m : Int), l + 1 ≤ K → 0 < gW f K i (m - f ((l : Int) + 1)) → 0 < gW f K (i + 1) m := by
  induction K with
  | zero => intro i m h; omega
  | succ K ih =>
    intro i
    induction i with
    | zero =>
      intro m h hp
      rw [gW_kk]
      by_cases e : l = K
      · subst e; omega
      · have := ih 0 m (by omega) (by rw [gW_k0] at hp ⊢; exact hp)
        omega
    | succ i ih2 =>
      intro m h hp
      rw [gW_kk]
      by_cases e : l = K
      · subst e; omega
      · rw [gW_kk] at hp
        by_cases h1 : 0 < gW f K (i + 1) (m - f ((l : Int) + 1))
        · have := ih (i + 1) m (by omega) h1
          omega
        · have h2 : 0 < gW f (K + 1) i (m - f ((K : Int) + 1) - f ((l : Int) + 1)) := by
            have e2 : m - f ((K : Int) + 1) - f ((l : Int) + 1) = m - f ((l : Int) + 1) - f ((K : Int) + 1) := by omega
            rw [e2]
            omega
          have := ih2 _ (by omega) h2
          omega
/-- The greatest part of a sum. -/
theorem gW_top (f : Int → Int) (K : Nat) (i : Nat) (m : Int) (h : 0 < gW f K (i + 1) m) : ∃ l : Nat, l + 1 ≤ K ∧ 0 < gW f (l + 1) i (m - f ((l : Int) + 1)) := by
  induction K with
  | zero => rw [gW_00] at h; simp at h
  | succ K ih =>
    rw [gW_kk] at h
    by_cases h1 : 0 < gW f K (i + 1) m
    · obtain ⟨l, a, b⟩ := ih h1
      exact ⟨l, by omega, b⟩
    · exact ⟨K, by omega, by omega⟩

/-! ### as few parts as there may be -/
/-- m is a sum of just c parts. -/
def gRep (f : Int → Int) (c : Nat) (m : Int) : Prop := ∃ k, 0 < gW f k c m
theorem gRep_zero (f : Int → Int) (m : Int) : gRep f 0 m ↔ m = 0 := by
  constructor
  · rintro ⟨k, h⟩
    rw [gW_k0] at h
    by_cases e : m = 0
    · exact e
    · rw [if_neg e] at h; omega
  · rintro rfl
    exact ⟨0, by rw [gW_k0]; simp⟩
theorem gRep_put (f : Int → Int) (c : Nat) (m : Int) (l : Nat) (h : gRep f c (m - f ((l : Int) + 1))) : gRep f (c + 1) m := by
  obtain ⟨k, hk⟩ := h
  refine ⟨k + (l + 1), gW_put f l _ c m (by omega) ?_⟩
  exact Nat.lt_of_lt_of_le hk (gW_le f c _ (by omega))
theorem gRep_top (f : Int → Int) (c : Nat) (m : Int) (h : gRep f (c + 1) m) : ∃ l : Nat, gRep f c (m - f ((l : Int) + 1)) := by
  obtain ⟨k, hk⟩ := h
  obtain ⟨l, _, h2⟩ := gW_top f k c m hk
  exact ⟨l, _, h2⟩
theorem gRep_nn (f : Int → Int) (hs : Sq f) (c : Nat) (m : Int) (h : gRep f c m) : 0 ≤ m := by
  rcases Int.lt_or_le m 0 with h1 | h1
  · obtain ⟨k, hk⟩ := h
    rw [gW_neg f hs k c m h1] at hk
    omega
  · exact h1
theorem gRep_pl (f : Int → Int) (hs : Sq f) (c : Nat) (m : Int) (hm : 0 ≤ m) (K : Nat) (hK : lst f m ≤ K) : gRep f c m ↔ 0 < gW f K c m := by
  constructor
  · rintro ⟨k, hk⟩
    have h1 := gW_le f c m (Nat.le_max_left k K)
    rw [gW_pl f hs c m hm (max k K) (by omega)] at h1
    rw [gW_pl f hs c m hm K hK]
    omega
  · exact fun h => ⟨K, h⟩
theorem gRep_ones (f : Int → Int) (hs : Sq f) (m : Nat) : gRep f m (m : Int) := by
  induction m with
  | zero => exact (gRep_zero f _).2 (by simp)
  | succ m ih =>
    refine gRep_put f m _ 0 ?_
    have e : ((m + 1 : Nat) : Int) - f (((0 : Nat) : Int) + 1) = (m : Int) := by simp [hs.one]
    rw [e]
    exact ih

theorem gLeast_ex {P : Nat → Prop} : ∀ n, P n → ∃ c, P c ∧ ∀ d, d < c → ¬ P d := by
  intro n
  induction n using Nat.strongRecOn with
  | ind n ih =>
    intro h
    by_cases h1 : ∃ d, d < n ∧ P d
    · obtain ⟨d, h2, h3⟩ := h1
      exact ih d h2 h3
    · exact ⟨n, h, fun d h2 h3 => h1 ⟨d, h2, h3⟩⟩
/-- The least number of parts. -/
noncomputable def gNeed (f : Int → Int) (m : Int) : Nat := Classical.epsilon fun c => gRep f c m ∧ ∀ d, d < c → ¬ gRep f d m
theorem gNeed_is (f : Int → Int) (hs : Sq f) (m : Int) (hm : 0 ≤ m) : gRep f (gNeed f m) m ∧ ∀ d, d < gNeed f m → ¬ gRep f d m := by
  obtain ⟨n, rfl⟩ := Int.eq_ofNat_of_zero_le hm
  exact Classical.epsilon_spec (gLeast_ex (P := fun c => gRep f c (n : Int)) n (gRep_ones f hs n))
theorem gNeed_le (f : Int → Int) (hs : Sq f) (m : Int) (hm : 0 ≤ m) (c : Nat) (h : gRep f c m) : gNeed f m ≤ c := by
  rcases Nat.lt_or_ge c (gNeed f m) with h1 | h1
  · exact absurd h ((gNeed_is f hs m hm).2 c h1)
  · exact h1
theorem gNeed_zero (f : Int → Int) (hs : Sq f) : gNeed f 0 = 0 := by
  have := gNeed_le f hs 0 (by omega) 0 ((gRep_zero f 0).2 rfl)
  omega
theorem gNeed_pos (f : Int → Int) (hs : Sq f) (m : Int) (hm : 0 < m) : 1 ≤ gNeed f m := by
  rcases Nat.lt_or_ge 0 (gNeed f m) with h | h
  · exact h
  · have e : gNeed f m = 0 := by omega
    have h1 := (gNeed_is f hs m (by omega)).1
    rw [e] at h1
    have := (gRep_zero f m).1 h1
    omega
/-- One part of place k less, one gNeed less at most. -/
theorem gNeed_put (f : Int → Int) (m k : Int) (hk : 1 ≤ k) (h : 0 ≤ m - f k) (hs : Sq f) : gNeed f m ≤ gNeed f (m - f k) + 1 := by
  have h1 := hs.nn (k := k) (by omega)
  refine gNeed_le f hs m (by omega) _ (gRep_put f _ m (k - 1).toNat ?_)
  have e : (((k - 1).toNat : Nat) : Int) + 1 = k := by omega
  rw [e]
  exact (gNeed_is f hs _ h).1
/-- Some part leaves one gNeed less. -/
theorem gNeed_top (f : Int → Int) (m : Int) (hs : Sq f) (hm : 0 < m) : ∃ k, 1 ≤ k ∧ f k ≤ m ∧ gNeed f m = gNeed f (m - f k) + 1 := by
  have h0 := gNeed_pos f hs m hm
  have h1 := (gNeed_is f hs m (by omega)).1
  have e : gNeed f m = gNeed f m - 1 + 1 := by omega
  rw [e] at h1
  obtain ⟨l, h2⟩ := gRep_top f _ m h1
  have h3 := gRep_nn f hs _ _ h2
  refine ⟨(l : Int) + 1, by omega, by omega, ?_⟩
  have h4 := gNeed_le f hs _ h3 _ h2
  have h5 := gNeed_put f m ((l : Int) + 1) (by omega) h3 hs
  omega

/-! ### no more parts than sides -/

/-! ### bits: what has no more than c parts -/
def gbitsOf (xs : List Nat) : Nat → Nat
  | 0 => 1
  | c + 1 => xs.foldl (fun b x => b ||| (gbitsOf xs c <<< x)) (gbitsOf xs c)
theorem gfoldl_bit (b0 : Nat) (xs : List Nat) : ∀ (b : Nat) (n : Nat), (xs.foldl (fun b x => b ||| (b0 <<< x)) b).testBit n = true → b.testBit n = true ∨ ∃ x ∈ xs, x ≤ n ∧ b0.testBit (n - x) = true := by
  induction xs with
  | nil => intro b n h; exact Or.inl h
  | cons x xs ih =>
    intro b n h
    rcases ih _ n h with h1 | ⟨y, h2, h3⟩
    · rw [Nat.testBit_or, Bool.or_eq_true, Nat.testBit_shiftLeft, Bool.and_eq_true, decide_eq_true_eq] at h1
      rcases h1 with h1 | ⟨h4, h5⟩
      · exact Or.inl h1
      · exact Or.inr ⟨x, by simp, h4, h5⟩
    · exact Or.inr ⟨y, by simp [h2], h3⟩
theorem gbits_need (f : Int → Int) (hs : Sq f) (xs : List Nat) (hx : ∀ x ∈ xs, ∃ j : Nat, (x : Int) = f ((j : Int) + 1)) (c : Nat) : ∀ n : Nat, (gbitsOf xs c).testBit n = true → gNeed f (n : Int) ≤ c := by
  induction c with
  | zero =>
    intro n h
    simp only [gbitsOf] at h
    have e : n = 0 := by
      rcases Nat.eq_zero_or_pos n with h1 | h1
      · exact h1
      · obtain ⟨j, rfl⟩ : ∃ j, n = j + 1 := ⟨n - 1, by omega⟩
        rw [Nat.testBit_succ] at h
        simp at h
    rw [e]
    simp [gNeed_zero f hs]
  | succ c ih =>
    intro n h
    rcases gfoldl_bit _ xs _ n h with h1 | ⟨x, h2, h3, h4⟩
    · have := ih n h1; omega
    · obtain ⟨j, hj⟩ := hx x h2
      have h5 := ih _ h4
      have e : ((n - x : Nat) : Int) = (n : Int) - f ((j : Int) + 1) := by omega
      rw [e] at h5
      have := gNeed_put f n ((j : Int) + 1) (by omega) (by omega) hs
      omega
def gfull (n : Nat) : Nat := 2 ^ n - 1
theorem gfull_bit (n m : Nat) (h : m < n) : (gfull n).testBit m = true := by
  unfold gfull
  rw [Nat.testBit_two_pow_sub_one, decide_eq_true h]
/-- The tetrahedra of 1, .., 19 layers. -/
def tets : List Nat := [1, 4, 10, 20, 35, 56, 84, 120, 165, 220, 286, 364, 455, 560, 680, 816, 969, 1140, 1330]
theorem tets_mem : ∀ x ∈ tets, ∃ j : Nat, (x : Int) = pyr 3 ((j : Int) + 1) := by
  have h : ∀ x ∈ tets, ∃ j ∈ List.range 19, (x : Int) = pyr 3 ((j : Int) + 1) := by decide +kernel
  intro x hx
  obtain ⟨j, _, hj⟩ := h x hx
  exact ⟨j, hj⟩
def tetOk : Bool := (gbitsOf tets 5 &&& gfull 1501) == gfull 1501
theorem tetOk_is : tetOk = true := by kernel_rfl
/-- No number up to 1500 needs more than five tetrahedra. -/
theorem need_tets (n : Int) (h3 : 0 ≤ n) (h4 : n ≤ 1500) : gNeed (pyr 3) n ≤ 5 := by
  obtain ⟨m, rfl⟩ := Int.eq_ofNat_of_zero_le h3
  have h := tetOk_is
  unfold tetOk at h
  have h5 := eq_of_beq h
  have h6 : (gbitsOf tets 5 &&& gfull 1501).testBit m = (gfull 1501).testBit m := by rw [h5]
  rw [Nat.testBit_and, gfull_bit 1501 m (by omega), Bool.and_true] at h6
  exact gbits_need _ (sq_pyr 3 (by omega)) tets tets_mem 5 m h6

/-- No count is too great. -/
theorem gW_bound (f : Int → Int) (k : Nat) : ∀ (i : Nat) (m : Int), gW f k i m ≤ (k + 1) ^ i := by
  induction k with
  | zero =>
    intro i m
    rw [gW_00]
    have := Nat.pow_pos (n := i) (show 0 < 0 + 1 by omega)
    split <;> omega
  | succ k ih =>
    intro i
    induction i with
    | zero => intro m; rw [gW_k0]; simp; split <;> omega
    | succ i ih2 =>
      intro m
      rw [gW_kk]
      have h1 := ih (i + 1) m
      have h2 := ih2 (m - f ((k : Int) + 1))
      have h3 : (k + 1) ^ i ≤ (k + 1 + 1) ^ i := Nat.pow_le_pow_left (by omega) i
      have h4 : (k + 1) ^ (i + 1) = (k + 1) ^ i * (k + 1) := Nat.pow_succ ..
      have h5 : (k + 1 + 1) ^ (i + 1) = (k + 1 + 1) ^ i * (k + 1 + 1) := Nat.pow_succ ..
      have h6 := Nat.mul_le_mul_right (k + 1) h3
      have h7 : (k + 1 + 1) ^ i * (k + 1 + 1) = (k + 1 + 1) ^ i * (k + 1) + (k + 1 + 1) ^ i := by rw [Nat.mul_add (_ ^ i) (k + 1) 1, Nat.mul_one]
      omega
theorem tet_lst (n : Int) (h : 0 ≤ n) (h1 : n ≤ 1500) : lst (pyr 3) n ≤ 19 := by
  have := lst_lt (sq_pyr 3 (by omega)) n 20 h (by omega) (by
    have := pyr_ge 3 20 (by omega) (by omega)
    omega)
  omega
end Go.Proofs.YtegbikakfckehaaDoor
