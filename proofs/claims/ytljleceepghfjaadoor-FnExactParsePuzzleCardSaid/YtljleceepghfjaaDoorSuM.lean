/- Plain arithmetic of sums of polygonal numbers: in how many ways, by how few. No program in sight. -/
import Derived.Test.YtljleceepghfjaaDoorMa
namespace Go.Proofs.YtljleceepghfjaaDoor

theorem pl_pos (s n : Int) (hs : 3 ≤ s) (hn : 0 < n) : 1 ≤ pl s n :=
  (fits_iff s n 1 hs (by omega) (by omega)).1 (by rw [num_one]; omega)
theorem num_pos (s k : Int) (hs : 3 ≤ s) (hk : 1 ≤ k) : 1 ≤ num s k := by
  have := num_mono_le s hs (a := 1) (b := k) (by omega) hk
  rw [num_one] at this
  exact this

/-- In how many ways m is a sum of just i polygonal numbers of places 1, .., k. -/
def W (s : Int) : Nat → Nat → Int → Nat
  | 0, i, m => if i = 0 ∧ m = 0 then 1 else 0
  | k + 1, 0, m => W s k 0 m
  | k + 1, i + 1, m => W s k (i + 1) m + W s (k + 1) i (m - num s ((k : Int) + 1))
termination_by k i => (k, i)

theorem W_00 (s : Int) (i : Nat) (m : Int) : W s 0 i m = if i = 0 ∧ m = 0 then 1 else 0 := by rw [W]
theorem W_k0 (s : Int) (k : Nat) (m : Int) : W s k 0 m = if m = 0 then 1 else 0 := by
  induction k with
  | zero => rw [W]; simp
  | succ k ih => rw [W]; exact ih
theorem W_kk (s : Int) (k i : Nat) (m : Int) : W s (k + 1) (i + 1) m = W s k (i + 1) m + W s (k + 1) i (m - num s ((k : Int) + 1)) := by rw [W]
theorem W_neg (s : Int) (hs : 3 ≤ s) (k : Nat) : ∀ (i : Nat) (m : Int), m < 0 → W s k i m = 0 := by
  induction k with
  | zero => intro i m h; rw [W_00, if_neg (by omega)]
  | succ k ih =>
    intro i
    induction i with
    | zero => intro m h; rw [W_k0, if_neg (by omega)]
    | succ i ih2 =>
      intro m h
      have := num_nn s ((k : Int) + 1) hs
      rw [W_kk, ih _ _ h, ih2 _ (by omega)]
theorem W_above (s : Int) (hs : 3 ≤ s) (k i : Nat) (m : Int) (h : m < num s ((k : Int) + 1)) : W s (k + 1) i m = W s k i m := by
  cases i with
  | zero => rw [W_k0, W_k0]
  | succ i => rw [W_kk, W_neg s hs (k + 1) i (m - num s ((k : Int) + 1)) (by omega)]; omega
theorem W_pl_add (s : Int) (hs : 3 ≤ s) (i : Nat) (m : Int) (hm : 0 ≤ m) (d : Nat) : W s ((pl s m).toNat + d) i m = W s (pl s m).toNat i m := by
  induction d with
  | zero => rfl
  | succ d ih =>
    have h0 := pl_nn s m hs hm
    have h1 := fits_iff s m (((pl s m).toNat + d : Nat) + 1 : Int) hs hm (by omega)
    rw [← Nat.add_assoc, W_above s hs, ih]
    rcases Int.lt_or_le m (num s ((((pl s m).toNat + d : Nat) : Int) + 1)) with h | h
    · exact h
    · have := h1.1 h; omega
/-- Places beyond the last one that fits turn nothing. -/
theorem W_pl (s : Int) (hs : 3 ≤ s) (i : Nat) (m : Int) (hm : 0 ≤ m) (k : Nat) (hk : pl s m ≤ k) : W s k i m = W s (pl s m).toNat i m := by
  have h0 := pl_nn s m hs hm
  have e : k = (pl s m).toNat + (k - (pl s m).toNat) := by omega
  rw [e]
  exact W_pl_add s hs i m hm _
theorem W_mono (s : Int) (k d i : Nat) (m : Int) : W s k i m ≤ W s (k + d) i m := by
  induction d with
  | zero => exact Nat.le_refl _
  | succ d ih =>
    refine Nat.le_trans ih ?_
    rw [← Nat.add_assoc]
    cases i with
    | zero => rw [W_k0, W_k0]; exact Nat.le_refl _
    | succ i => rw [W_kk]; omega
theorem W_le (s : Int) {k l : Nat} (i : Nat) (m : Int) (h : k ≤ l) : W s k i m ≤ W s l i m := by
  have := W_mono s k (l - k) i m
  rwa [Nat.add_sub_cancel' h] at this

/-- One part more, of whichever place. -/
theorem W_put (s : Int) (l : Nat) (K : Nat) : ∀ (i : Nat) (m : Int), l + 1 ≤ K → 0 < W s K i (m - num s ((l : Int) + 1)) → 0 < W s K (i + 1) m := by
  induction K with
  | zero => intro i m h; omega
  | succ K ih =>
    intro i
    induction i with
    | zero =>
      intro m h hp
      rw [W_kk]
      by_cases e : l = K
      · subst e; omega
      · have := ih 0 m (by omega) (by rw [W_k0] at hp ⊢; exact hp)
        omega
    | succ i ih2 =>
      intro m h hp
      rw [W_kk]
      by_cases e : l = K
      · subst e; omega
      · rw [W_kk] at hp
        by_cases h1 : 0 < W s K (i + 1) (m - num s ((l : Int) + 1))
        · have := ih (i + 1) m (by omega) h1
          omega
        · have h2 : 0 < W s (K + 1) i (m - num s ((K : Int) + 1) - num s ((l : Int) + 1)) := by
            have e2 : m - num s ((K : Int) + 1) - num s ((l : Int) + 1) = m - num s ((l : Int) + 1) - num s ((K : Int) + 1) := by omega
            rw [e2]
            omega
          have := ih2 _ (by omega) h2
          omega
/-- The greatest part of a sum. -/
theorem W_top (s : Int) (K : Nat) (i : Nat) (m : Int) (h : 0 < W s K (i + 1) m) : ∃ l : Nat, l + 1 ≤ K ∧ 0 < W s (l + 1) i (m - num s ((l : Int) + 1)) := by
  induction K with
  | zero => rw [W_00] at h; simp at h
  | succ K ih =>
    rw [W_kk] at h
    by_cases h1 : 0 < W s K (i + 1) m
    · obtain ⟨l, a, b⟩ := ih h1
      exact ⟨l, by omega, b⟩
    · exact ⟨K, by omega, by omega⟩

/-! ### as few parts as there may be -/
/-- m is a sum of just c parts. -/
def Rep (s : Int) (c : Nat) (m : Int) : Prop := ∃ k, 0 < W s k c m
theorem rep_zero (s : Int) (m : Int) : Rep s 0 m ↔ m = 0 := by
  constructor
  · rintro ⟨k, h⟩
    rw [W_k0] at h
    by_cases e : m = 0
    · exact e
    · rw [if_neg e] at h; omega
  · rintro rfl
    exact ⟨0, by rw [W_k0]; simp⟩
theorem rep_put (s : Int) (c : Nat) (m : Int) (l : Nat) (h : Rep s c (m - num s ((l : Int) + 1))) : Rep s (c + 1) m := by
  obtain ⟨k, hk⟩ := h
  refine ⟨k + (l + 1), W_put s l _ c m (by omega) ?_⟩
  exact Nat.lt_of_lt_of_le hk (W_le s c _ (by omega))
theorem rep_top (s : Int) (c : Nat) (m : Int) (h : Rep s (c + 1) m) : ∃ l : Nat, Rep s c (m - num s ((l : Int) + 1)) := by
  obtain ⟨k, hk⟩ := h
  obtain ⟨l, _, h2⟩ := W_top s k c m hk
  exact ⟨l, _, h2⟩
theorem rep_nn (s : Int) (hs : 3 ≤ s) (c : Nat) (m : Int) (h : Rep s c m) : 0 ≤ m := by
  rcases Int.lt_or_le m 0 with h1 | h1
  · obtain ⟨k, hk⟩ := h
    rw [W_neg s hs k c m h1] at hk
    omega
  · exact h1
theorem rep_pl (s : Int) (hs : 3 ≤ s) (c : Nat) (m : Int) (hm : 0 ≤ m) (K : Nat) (hK : pl s m ≤ K) : Rep s c m ↔ 0 < W s K c m := by
  constructor
  · rintro ⟨k, hk⟩
    have h1 := W_le s c m (Nat.le_max_left k K)
    rw [W_pl s hs c m hm (max k K) (by omega)] at h1
    rw [W_pl s hs c m hm K hK]
    omega
  · exact fun h => ⟨K, h⟩
theorem rep_ones (s : Int) (m : Nat) : Rep s m (m : Int) := by
  induction m with
  | zero => exact (rep_zero s _).2 (by simp)
  | succ m ih =>
    refine rep_put s m _ 0 ?_
    have e : ((m + 1 : Nat) : Int) - num s (((0 : Nat) : Int) + 1) = (m : Int) := by simp [num_one]
    rw [e]
    exact ih

theorem least_ex {P : Nat → Prop} : ∀ n, P n → ∃ c, P c ∧ ∀ d, d < c → ¬ P d := by
  intro n
  induction n using Nat.strongRecOn with
  | ind n ih =>
    intro h
    by_cases h1 : ∃ d, d < n ∧ P d
    · obtain ⟨d, h2, h3⟩ := h1
      exact ih d h2 h3
    · exact ⟨n, h, fun d h2 h3 => h1 ⟨d, h2, h3⟩⟩
/-- The least number of parts. -/
noncomputable def need (s m : Int) : Nat := Classical.epsilon fun c => Rep s c m ∧ ∀ d, d < c → ¬ Rep s d m
theorem need_is (s m : Int) (hm : 0 ≤ m) : Rep s (need s m) m ∧ ∀ d, d < need s m → ¬ Rep s d m := by
  obtain ⟨n, rfl⟩ := Int.eq_ofNat_of_zero_le hm
  exact Classical.epsilon_spec (least_ex (P := fun c => Rep s c (n : Int)) n (rep_ones s n))
theorem need_le (s m : Int) (hm : 0 ≤ m) (c : Nat) (h : Rep s c m) : need s m ≤ c := by
  rcases Nat.lt_or_ge c (need s m) with h1 | h1
  · exact absurd h ((need_is s m hm).2 c h1)
  · exact h1
theorem need_zero (s : Int) : need s 0 = 0 := by
  have := need_le s 0 (by omega) 0 ((rep_zero s 0).2 rfl)
  omega
theorem need_pos (s m : Int) (hm : 0 < m) : 1 ≤ need s m := by
  rcases Nat.lt_or_ge 0 (need s m) with h | h
  · exact h
  · have e : need s m = 0 := by omega
    have h1 := (need_is s m (by omega)).1
    rw [e] at h1
    have := (rep_zero s m).1 h1
    omega
/-- One part of place k less, one need less at most. -/
theorem need_put (s m k : Int) (hk : 1 ≤ k) (h : 0 ≤ m - num s k) (hs : 3 ≤ s) : need s m ≤ need s (m - num s k) + 1 := by
  have h1 := num_nn s k hs
  refine need_le s m (by omega) _ (rep_put s _ m (k - 1).toNat ?_)
  have e : (((k - 1).toNat : Nat) : Int) + 1 = k := by omega
  rw [e]
  exact (need_is s _ h).1
/-- Some part leaves one need less. -/
theorem need_top (s m : Int) (hs : 3 ≤ s) (hm : 0 < m) : ∃ k, 1 ≤ k ∧ num s k ≤ m ∧ need s m = need s (m - num s k) + 1 := by
  have h0 := need_pos s m hm
  have h1 := (need_is s m (by omega)).1
  have e : need s m = need s m - 1 + 1 := by omega
  rw [e] at h1
  obtain ⟨l, h2⟩ := rep_top s _ m h1
  have h3 := rep_nn s hs _ _ h2
  refine ⟨(l : Int) + 1, by omega, by omega, ?_⟩
  have h4 := need_le s _ h3 _ h2
  have h5 := need_put s m ((l : Int) + 1) (by omega) h3 hs
  omega

/-! ### no more parts than sides -/
/-- The polygonal numbers of the places 1, .., as plain numbers: a the one behind, g the gnomon to come. -/
def polys (s : Nat) : Nat → Nat → Nat → List Nat
  | 0, _, _ => []
  | f + 1, a, g => (a + g) :: polys s f (a + g) (g + (s - 2))
theorem polys_mem (s : Nat) (hs : 3 ≤ s) (f : Nat) : ∀ (k : Nat) (a g : Nat), (a : Int) = num s k → (g : Int) = (s - 2) * k + 1 → ∀ x ∈ polys s f a g, ∃ j : Nat, (x : Int) = num s ((j : Int) + 1) := by
  induction f with
  | zero => intro k a g _ _ x hx; simp [polys] at hx
  | succ f ih =>
    intro k a g ha hg x hx
    have h1 := num_succ s k
    rcases List.mem_cons.1 hx with rfl | hx
    · exact ⟨k, by push_cast; omega⟩
    · refine ih (k + 1) (a + g) (g + (s - 2)) (by push_cast; omega) ?_ x hx
      have e : ((g + (s - 2) : Nat) : Int) = g + (s - 2) := by omega
      rw [e, hg]
      push_cast
      grind
/-- The numbers that have no more than c parts out of a list, each a bit. -/
def bitsOf (xs : List Nat) : Nat → Nat
  | 0 => 1
  | c + 1 => xs.foldl (fun b x => b ||| (bitsOf xs c <<< x)) (bitsOf xs c)
theorem foldl_bit (b0 : Nat) (xs : List Nat) : ∀ (b : Nat) (n : Nat), (xs.foldl (fun b x => b ||| (b0 <<< x)) b).testBit n = true → b.testBit n = true ∨ ∃ x ∈ xs, x ≤ n ∧ b0.testBit (n - x) = true := by
  induction xs with
  | nil => intro b n h; exact Or.inl h
  | cons x xs ih =>
    intro b n h
    rcases ih _ n h with h1 | ⟨y, h2, h3⟩
    · rw [Nat.testBit_or, Bool.or_eq_true, Nat.testBit_shiftLeft, Bool.and_eq_true, decide_eq_true_eq] at h1
      rcases h1 with h1 | ⟨h4, h5⟩
      · exact Or.inl h1
      · exact Or.inr ⟨x, by simp, h4, h5⟩
    · exact Or.inr ⟨y, by simp [h2], h3⟩
theorem bits_need (s : Nat) (hs : 3 ≤ s) (xs : List Nat) (hx : ∀ x ∈ xs, ∃ j : Nat, (x : Int) = num s ((j : Int) + 1)) (c : Nat) : ∀ n : Nat, (bitsOf xs c).testBit n = true → need s (n : Int) ≤ c := by
  induction c with
  | zero =>
    intro n h
    simp only [bitsOf] at h
    have e : n = 0 := by
      rcases Nat.eq_zero_or_pos n with h1 | h1
      · exact h1
      · obtain ⟨j, rfl⟩ : ∃ j, n = j + 1 := ⟨n - 1, by omega⟩
        rw [Nat.testBit_succ] at h
        simp at h
    rw [e]
    simp [need_zero]
  | succ c ih =>
    intro n h
    rcases foldl_bit _ xs _ n h with h1 | ⟨x, h2, h3, h4⟩
    · have := ih n h1; omega
    · obtain ⟨j, hj⟩ := hx x h2
      have h5 := ih _ h4
      have e : ((n - x : Nat) : Int) = (n : Int) - num s ((j : Int) + 1) := by omega
      rw [e] at h5
      have := need_put s n ((j : Int) + 1) (by omega) (by omega) (by omega)
      omega
/-- n bits, all 1. -/
def full (n : Nat) : Nat := 2 ^ n - 1
theorem full_bit (n m : Nat) (h : m < n) : (full n).testBit m = true := by
  unfold full
  rw [Nat.testBit_two_pow_sub_one, decide_eq_true h]
def polyOk (s : Nat) : Bool := (bitsOf (polys s 77 0 1) s &&& full 3001) == full 3001
theorem polyOk_all : (polyOk 3 && polyOk 4 && polyOk 5 && polyOk 6 && polyOk 7 && polyOk 8 && polyOk 9 && polyOk 10 && polyOk 11 && polyOk 12 && polyOk 13 && polyOk 14 && polyOk 15 && polyOk 16 && polyOk 17 && polyOk 18 && polyOk 19 && polyOk 20 && polyOk 21 && polyOk 22 && polyOk 23 && polyOk 24) = true := by
  kernel_rfl
theorem polyOk_any (s : Nat) (h1 : 3 ≤ s) (h2 : s ≤ 24) : polyOk s = true := by
  have h := polyOk_all
  simp only [Bool.and_eq_true] at h
  have : s = 3 ∨ s = 4 ∨ s = 5 ∨ s = 6 ∨ s = 7 ∨ s = 8 ∨ s = 9 ∨ s = 10 ∨ s = 11 ∨ s = 12 ∨ s = 13 ∨ s = 14 ∨ s = 15 ∨ s = 16 ∨ s = 17 ∨ s = 18 ∨ s = 19 ∨ s = 20 ∨ s = 21 ∨ s = 22 ∨ s = 23 ∨ s = 24 := by omega
  rcases this with e | e | e | e | e | e | e | e | e | e | e | e | e | e | e | e | e | e | e | e | e | e <;> subst e <;> simp [h]
/-- No number up to 3000 needs more parts than there are sides. -/
theorem need_sides (s n : Int) (h1 : 3 ≤ s) (h2 : s ≤ 24) (h3 : 0 ≤ n) (h4 : n ≤ 3000) : (need s n : Int) ≤ s := by
  obtain ⟨t, rfl⟩ := Int.eq_ofNat_of_zero_le (show 0 ≤ s by omega)
  obtain ⟨m, rfl⟩ := Int.eq_ofNat_of_zero_le h3
  have h := polyOk_any t (by omega) (by omega)
  unfold polyOk at h
  have h5 := eq_of_beq h
  have h6 : (bitsOf (polys t 77 0 1) t &&& full 3001).testBit m = (full 3001).testBit m := by rw [h5]
  rw [Nat.testBit_and, full_bit 3001 m (by omega), Bool.and_true] at h6
  have := bits_need t (by omega) (polys t 77 0 1) (polys_mem t (by omega) 77 0 0 1 (by simp [num_zero]) (by simp)) t m h6
  omega

/-! ### no count is too great -/
/-- Bounds: q(k) = 2 * 2 ^ (k (k + 1) / 2 / 215). -/
def wq (k : Nat) : Nat := 2 * 2 ^ (k * (k + 1) / 2 / 215)
def wA : Nat → Nat
  | 0 => 2 ^ 80
  | k + 1 => wA k * wq (k + 1) / (wq (k + 1) - 1) + 1
theorem wA_step (k : Nat) : wA k * wq (k + 1) + wA (k + 1) ≤ wA (k + 1) * wq (k + 1) := by
  have h1 : 2 ≤ wq (k + 1) := by
    have := Nat.pow_pos (n := (k + 1) * (k + 1 + 1) / 2 / 215) (show 0 < 2 by omega)
    unfold wq
    omega
  obtain ⟨r, hr⟩ : ∃ r, wq (k + 1) = r + 1 := ⟨wq (k + 1) - 1, by omega⟩
  have h2 : wA (k + 1) = wA k * (r + 1) / r + 1 := by rw [wA, hr]; simp
  have h3 := Nat.lt_div_mul_add (a := wA k * (r + 1)) (b := r) (by omega)
  rw [hr, h2]
  generalize wA k * (r + 1) / r = z at *
  generalize wA k * (r + 1) = y at *
  have e : (z + 1) * (r + 1) = z * r + z + r + 1 := by grind
  omega
theorem wA_mono (k : Nat) : wA k ≤ wA (k + 1) := by
  have h1 : 0 < wq (k + 1) := by
    have := Nat.pow_pos (n := (k + 1) * (k + 1 + 1) / 2 / 215) (show 0 < 2 by omega)
    unfold wq
    omega
  have h2 := wA_step k
  exact Nat.le_of_mul_le_mul_right (Nat.le_trans (Nat.le_add_right _ _) h2) h1
/-- The weight of a sum. -/
def wf (m : Int) : Nat := 2 ^ (m.toNat / 215)
theorem wf_drop (m : Int) (p : Int) (k : Nat) (hp : ((k * (k + 1) / 2 : Nat) : Int) ≤ p) (h : p ≤ m) : wf (m - p) * 2 ^ (k * (k + 1) / 2 / 215) ≤ wf m := by
  unfold wf
  rw [← Nat.pow_add]
  refine Nat.pow_le_pow_right (by omega) ?_
  generalize k * (k + 1) / 2 = q at *
  have e : (m - p).toNat + q ≤ m.toNat := by omega
  omega
theorem W_bound (s : Int) (hs : 3 ≤ s) (k : Nat) : ∀ (i : Nat) (m : Int), 2 ^ 80 * W s k i m ≤ wA k * wf m * 2 ^ i := by
  induction k with
  | zero =>
    intro i m
    rw [W_00]
    by_cases h : i = 0 ∧ m = 0
    · rw [if_pos h, h.1, h.2]
      simp [wA, wf]
    · rw [if_neg h]; omega
  | succ k ih =>
    intro i
    induction i with
    | zero =>
      intro m
      have h1 := ih 0 m
      rw [W_k0] at h1 ⊢
      refine Nat.le_trans h1 ?_
      exact Nat.mul_le_mul_right _ (Nat.mul_le_mul_right _ (wA_mono k))
    | succ i ih2 =>
      intro m
      rw [W_kk]
      have h1 := ih (i + 1) m
      rcases Int.lt_or_le m (num s ((k : Int) + 1)) with hlt | hle
      · rw [W_neg s hs (k + 1) i (m - num s ((k : Int) + 1)) (by omega)]
        exact Nat.le_trans h1 (Nat.mul_le_mul_right _ (Nat.mul_le_mul_right _ (wA_mono k)))
      · have h2 := ih2 (m - num s ((k : Int) + 1))
        have h3 := wA_step k
        have h4 := wf_drop m (num s ((k : Int) + 1)) (k + 1) (by
          have h5 := num_ge s ((k : Int) + 1) hs
          have e : (((k + 1) * (k + 1 + 1) : Nat) : Int) = ((k : Int) + 1) * ((k : Int) + 1 + 1) := by push_cast; rfl
          omega) hle
        have hq : wq (k + 1) = 2 * 2 ^ ((k + 1) * (k + 1 + 1) / 2 / 215) := rfl
        have ht0 : 0 < 2 ^ ((k + 1) * (k + 1 + 1) / 2 / 215) := Nat.pow_pos (by omega)
        generalize 2 ^ ((k + 1) * (k + 1 + 1) / 2 / 215) = t at *
        generalize wf (m - num s ((k : Int) + 1)) = f' at *
        generalize wf m = f at *
        generalize W s (k + 1) i (m - num s ((k : Int) + 1)) = w2 at *
        generalize W s k (i + 1) m = w1 at *
        generalize wA k = a at *
        generalize wA (k + 1) = a' at *
        have e2 : 2 ^ (i + 1) = 2 * 2 ^ i := by rw [Nat.pow_succ]; omega
        rw [e2] at h1 ⊢
        generalize 2 ^ i = v at *
        generalize 2 ^ 80 = S at *
        rw [hq] at h3
        -- (S w1 + S w2) * 2t ≤ a f 2v 2t + a' f' v 2t ≤ a f 2v 2t + a' f 2v ≤ a' f 2v 2t
        have ht : 0 < 2 * t := by omega
        refine Nat.le_of_mul_le_mul_right ?_ ht
        have g1 : S * w1 * (2 * t) ≤ a * f * (2 * v) * (2 * t) := Nat.mul_le_mul_right _ h1
        have g2 : S * w2 * (2 * t) ≤ a' * f' * v * (2 * t) := Nat.mul_le_mul_right _ h2
        have g3 : a' * (f' * t) * (2 * v) ≤ a' * f * (2 * v) := Nat.mul_le_mul_right _ (Nat.mul_le_mul_left _ h4)
        have g4 : (a * (2 * t) + a') * (f * (2 * v)) ≤ a' * (2 * t) * (f * (2 * v)) := Nat.mul_le_mul_right _ h3
        have r1 : S * (w1 + w2) * (2 * t) = S * w1 * (2 * t) + S * w2 * (2 * t) := by grind
        have r2 : a' * f' * v * (2 * t) = a' * (f' * t) * (2 * v) := by grind
        have r3 : (a * (2 * t) + a') * (f * (2 * v)) = a * f * (2 * v) * (2 * t) + a' * f * (2 * v) := by grind
        have r4 : a' * (2 * t) * (f * (2 * v)) = a' * f * (2 * v) * (2 * t) := by grind
        omega
theorem wA_mono_add (k d : Nat) : wA k ≤ wA (k + d) := by
  induction d with
  | zero => exact Nat.le_refl _
  | succ d ih => exact Nat.le_trans ih (wA_mono (k + d))
theorem wA_end : wA 77 * 2 ^ 13 * 2 ^ 24 < 2 ^ 80 * 2 ^ 63 := of_decide_eq_true (by kernel_rfl)
/-- No count of the program wraps. -/
theorem W_small (s : Int) (hs : 3 ≤ s) (k i : Nat) (m : Int) (hk : k ≤ 77) (hi : i ≤ 24) (hm : m ≤ 3000) : (W s k i m : Int) ≤ 9223372036854775807 := by
  have h1 := W_bound s hs k i m
  have h2 : wA k ≤ wA 77 := by
    have := wA_mono_add k (77 - k)
    rwa [Nat.add_sub_cancel' hk] at this
  have h3 : wf m ≤ 2 ^ 13 := Nat.pow_le_pow_right (by omega) (by omega)
  have h4 : 2 ^ i ≤ 2 ^ 24 := Nat.pow_le_pow_right (by omega) hi
  have h5 := Nat.mul_le_mul (Nat.mul_le_mul h2 h3) h4
  have h6 := wA_end
  have h7 : 2 ^ 80 * W s k i m < 2 ^ 80 * 2 ^ 63 := Nat.lt_of_le_of_lt h1 (Nat.lt_of_le_of_lt h5 h6)
  have h8 := Nat.lt_of_mul_lt_mul_left h7
  omega
/-- The count of just few parts is small. -/
theorem W_few (s : Int) (hs : 3 ≤ s) (k i : Nat) (m : Int) (hk : k ≤ 77) (hi : i ≤ 3) (hm : m ≤ 3000) : (W s k i m : Int) ≤ 1000000000000000000 := by
  have h1 := W_bound s hs k i m
  have h2 : wA k ≤ wA 77 := by
    have := wA_mono_add k (77 - k)
    rwa [Nat.add_sub_cancel' hk] at this
  have h3 : wf m ≤ 2 ^ 13 := Nat.pow_le_pow_right (by omega) (by omega)
  have h4 : 2 ^ i ≤ 2 ^ 3 := Nat.pow_le_pow_right (by omega) hi
  have h5 := Nat.mul_le_mul (Nat.mul_le_mul h2 h3) h4
  have h6 := wA_end
  omega

/-! ### different places -/
/-- In how many ways m is a sum of polygonal numbers of different places 1, .., k. -/
def D (s : Int) : Nat → Int → Nat
  | 0, m => if m = 0 then 1 else 0
  | k + 1, m => D s k m + D s k (m - num s ((k : Int) + 1))
theorem D_neg (s : Int) (hs : 3 ≤ s) (k : Nat) : ∀ m : Int, m < 0 → D s k m = 0 := by
  induction k with
  | zero => intro m h; rw [D, if_neg (by omega)]
  | succ k ih =>
    intro m h
    have := num_nn s ((k : Int) + 1) hs
    rw [D, ih _ h, ih _ (by omega)]
theorem D_above (s : Int) (hs : 3 ≤ s) (k : Nat) (m : Int) (h : m < num s ((k : Int) + 1)) : D s (k + 1) m = D s k m := by
  rw [D, D_neg s hs k (m - num s ((k : Int) + 1)) (by omega)]
  omega
theorem D_pl (s : Int) (hs : 3 ≤ s) (m : Int) (hm : 0 ≤ m) (k : Nat) (hk : pl s m ≤ k) : D s k m = D s (pl s m).toNat m := by
  have h0 := pl_nn s m hs hm
  have e : k = (pl s m).toNat + (k - (pl s m).toNat) := by omega
  rw [e]
  clear e hk
  generalize k - (pl s m).toNat = d
  induction d with
  | zero => rfl
  | succ d ih =>
    have h1 := fits_iff s m (((pl s m).toNat + d : Nat) + 1 : Int) hs hm (by omega)
    rw [← Nat.add_assoc, D_above s hs, ih]
    · rcases Int.lt_or_le m (num s ((((pl s m).toNat + d : Nat) : Int) + 1)) with h | h
      · exact h
      · have := h1.1 h; omega
/-- Bounds for different places: 2 ^ (k (k + 1) / 2 / 215). -/
def dA : Nat → Nat
  | 0 => 2 ^ 40
  | k + 1 => dA k + dA k / 2 ^ ((k + 1) * (k + 1 + 1) / 2 / 215) + 1
theorem D_bound (s : Int) (hs : 3 ≤ s) (k : Nat) : ∀ m : Int, 2 ^ 40 * D s k m ≤ dA k * wf m := by
  induction k with
  | zero =>
    intro m
    rw [D]
    by_cases h : m = 0
    · rw [if_pos h, h]
      simp [dA, wf]
    · rw [if_neg h]; omega
  | succ k ih =>
    intro m
    have h1 := ih m
    rw [D, dA]
    rcases Int.lt_or_le m (num s ((k : Int) + 1)) with hlt | hle
    · rw [D_neg s hs k (m - num s ((k : Int) + 1)) (by omega)]
      refine Nat.le_trans h1 (Nat.mul_le_mul_right _ ?_)
      rw [Nat.add_assoc]
      exact Nat.le_add_right _ _
    · have h2 := ih (m - num s ((k : Int) + 1))
      have h4 := wf_drop m (num s ((k : Int) + 1)) (k + 1) (by
        have h5 := num_ge s ((k : Int) + 1) hs
        have e : (((k + 1) * (k + 1 + 1) : Nat) : Int) = ((k : Int) + 1) * ((k : Int) + 1 + 1) := by push_cast; rfl
        omega) hle
      have ht : 0 < 2 ^ ((k + 1) * (k + 1 + 1) / 2 / 215) := Nat.pow_pos (by omega)
      generalize 2 ^ ((k + 1) * (k + 1 + 1) / 2 / 215) = t at *
      have h3 := Nat.lt_div_mul_add (a := dA k) (b := t) ht
      generalize dA k / t = z at *
      generalize wf (m - num s ((k : Int) + 1)) = f' at *
      generalize wf m = f at *
      generalize D s k (m - num s ((k : Int) + 1)) = w2 at *
      generalize D s k m = w1 at *
      generalize dA k = a at *
      generalize 2 ^ 40 = S at *
      have g1 : a * f' ≤ (z * t + t) * f' := Nat.mul_le_mul_right _ (by omega)
      have g2 : (z + 1) * (f' * t) ≤ (z + 1) * f := Nat.mul_le_mul_left _ h4
      have r1 : (z * t + t) * f' = (z + 1) * (f' * t) := by grind
      have r2 : (a + z + 1) * f = a * f + (z + 1) * f := by grind
      have r3 : S * (w1 + w2) = S * w1 + S * w2 := by grind
      omega
theorem dA_mono_add (k d : Nat) : dA k ≤ dA (k + d) := by
  induction d with
  | zero => exact Nat.le_refl _
  | succ d ih => exact Nat.le_trans ih (by rw [← Nat.add_assoc, dA, Nat.add_assoc]; exact Nat.le_add_right _ _)
theorem dA_end : dA 77 * 2 ^ 13 < 2 ^ 40 * 2 ^ 60 := of_decide_eq_true (by kernel_rfl)
theorem D_small (s : Int) (hs : 3 ≤ s) (k : Nat) (m : Int) (hk : k ≤ 77) (hm : m ≤ 3000) : (D s k m : Int) ≤ 1152921504606846976 := by
  have h1 := D_bound s hs k m
  have h2 : dA k ≤ dA 77 := by
    have := dA_mono_add k (77 - k)
    rwa [Nat.add_sub_cancel' hk] at this
  have h3 : wf m ≤ 2 ^ 13 := Nat.pow_le_pow_right (by omega) (by omega)
  have h5 := Nat.mul_le_mul h2 h3
  have h6 := dA_end
  have h7 : 2 ^ 40 * D s k m < 2 ^ 40 * 2 ^ 60 := Nat.lt_of_le_of_lt h1 (Nat.lt_of_le_of_lt h5 h6)
  have h8 := Nat.lt_of_mul_lt_mul_left h7
  omega
theorem pl_77 (s n : Int) (hs : 3 ≤ s) (hn : 0 ≤ n) (h : n ≤ 3000) : pl s n ≤ 77 := by
  obtain ⟨h0, h1, h2⟩ := pl_is s n hs hn
  rcases Int.lt_or_le 77 (pl s n) with hlt | hle
  · have h3 := num_ge s (pl s n) hs
    have h4 := Int.mul_nonneg (a := pl s n - 78) (b := pl s n + 78) (by omega) (by omega)
    have h5 : pl s n * (pl s n + 1) = (pl s n - 78) * (pl s n + 78) + 78 * 78 + pl s n := by grind
    omega
  · exact hle
end Go.Proofs.YtljleceepghfjaaDoor
