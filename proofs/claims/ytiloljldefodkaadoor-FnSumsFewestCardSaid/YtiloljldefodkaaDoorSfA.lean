/- Sums of shapes: what holds of the lists and counts that the program and the specification hand back. No program in sight. -/
import Derived.Test.YtiloljldefodkaaDoorCoX
import Derived.Test.YtiloljldefodkaaDoorCoG
import Derived.Test.YtiloljldefodkaaDoorSuU
import Derived.Test.YtiloljldefodkaaDoorSuS
import Derived.Test.YtiloljldefodkaaDoorSuJ
import Derived.Test.YtiloljldefodkaaDoorSuH
namespace Go.Proofs.YtiloljldefodkaaDoor
open Go.ChangeShapes Go.WideShapes Go.ChangeAt Go.RowKit Go.Maps

/-- The sum of the first k places' numbers. -/
def psumN (s : Int) (xs : List Int) : Nat → Int
  | 0 => 0
  | k + 1 => psumN s xs k + num s (xs.getD k 0)
theorem psumN_cons (s : Int) (x : Int) (xs : List Int) (k : Nat) : psumN s (x :: xs) (k + 1) = num s x + psumN s xs k := by
  induction k with
  | zero => simp [psumN]
  | succ k ih =>
    rw [psumN, ih, psumN, List.getD_cons_succ]
    omega
theorem psumN_bds (s : Int) (hs : 3 ≤ s) (xs : List Int) (c : Nat) : ∀ k, k ≤ c → 0 ≤ psumN s xs k ∧ psumN s xs k ≤ psumN s xs c := by
  induction c with
  | zero => intro k hk; obtain rfl : k = 0 := by omega
            exact ⟨Int.le_refl _, Int.le_refl _⟩
  | succ c ih =>
    intro k hk
    have h := num_nn s (xs.getD c 0) hs
    have e : psumN s xs (c + 1) = psumN s xs c + num s (xs.getD c 0) := rfl
    rcases Nat.lt_or_ge c k with h1 | h1
    · obtain rfl : k = c + 1 := by omega
      have := (ih c (Nat.le_refl _)).1
      omega
    · have := ih k h1
      omega
theorem fp_fact (s : Int) (hs : 3 ≤ s) (c : Nat) : ∀ (m : Int) (K : Nat), 0 ≤ m → need s m ≤ c → (1 ≤ c → None s m (c - 1) K) →
    (∀ k, k < c → 0 ≤ (fp s c m K).getD k 0 ∧ (fp s c m K).getD k 0 ≤ (K : Int)) ∧ (∀ k, k + 1 < c → (fp s c m K).getD (k + 1) 0 ≤ (fp s c m K).getD k 0) ∧ psumN s (fp s c m K) c = m := by
  induction c with
  | zero =>
    intro m K hm hn _
    refine ⟨fun k hk => by omega, fun k hk => by omega, ?_⟩
    rcases Int.lt_or_le 0 m with h | h
    · have := need_pos s m h
      omega
    · obtain rfl : m = 0 := by omega
      rfl
  | succ c ih =>
    intro m K hm hn h0
    have h1 : None s m c K := by simpa using h0 (by omega)
    have hq := sc_is s m c K hs hm hn h1
    have hle := sc_le s m c K
    have hno : 1 ≤ c → None s (m - num s (sc s m c K : Int)) (c - 1) (sc s m c K) := fun h => by
      obtain ⟨d, rfl⟩ : ∃ d, c = d + 1 := ⟨c - 1, by omega⟩
      exact none_next s m d K hs h1
    obtain ⟨i1, i2, i3⟩ := ih _ _ (by have := hq.1; omega) hq.2 hno
    rw [fp]
    refine ⟨fun k hk => ?_, fun k hk => ?_, ?_⟩
    · cases k with
      | zero => rw [List.getD_cons_zero]; omega
      | succ k => rw [List.getD_cons_succ]; have := i1 k (by omega); omega
    · cases k with
      | zero => rw [List.getD_cons_succ, List.getD_cons_zero]; have := i1 0 (by omega); omega
      | succ k => rw [List.getD_cons_succ, List.getD_cons_succ]; exact i2 k (by omega)
    · rw [psumN_cons, i3]
      omega
/-! ### what needs most -/
theorem gn_ex (s : Int) (k : Nat) : GN s k = 0 ∨ ∃ j : Nat, j < k ∧ (need s j : Int) = GN s k := by
  induction k with
  | zero => exact .inl rfl
  | succ k ih =>
    rw [GN]
    rcases Int.le_total (GN s k) (need s k) with h | h
    · exact .inr ⟨k, by omega, by omega⟩
    · rcases ih with h1 | ⟨j, h1, h2⟩
      · exact .inl (by omega)
      · exact .inr ⟨j, by omega, by omega⟩
theorem mem_nl (s : Int) (k : Nat) (x : Int) : x ∈ nl s k ↔ ∃ j : Nat, 0 < j ∧ j < k ∧ (need s j : Int) = s ∧ x = (j : Int) := by
  induction k with
  | zero => simp [nl]
  | succ k ih =>
    by_cases h : 0 < k ∧ (need s k : Int) = s
    · rw [nl_hit s k h.1 h.2, List.mem_append, ih, List.mem_singleton]
      constructor
      · rintro (⟨j, h1, h2, h3, h4⟩ | h1)
        · exact ⟨j, h1, by omega, h3, h4⟩
        · exact ⟨k, h.1, by omega, h.2, h1⟩
      · rintro ⟨j, h1, h2, h3, h4⟩
        rcases Nat.lt_or_ge j k with h5 | h5
        · exact .inl ⟨j, h1, h5, h3, h4⟩
        · obtain rfl : j = k := by omega
          exact .inr h4
    · rw [nl_miss s k h, ih]
      constructor
      · rintro ⟨j, h1, h2, h3, h4⟩
        exact ⟨j, h1, by omega, h3, h4⟩
      · rintro ⟨j, h1, h2, h3, h4⟩
        rcases Nat.lt_or_ge j k with h5 | h5
        · exact ⟨j, h1, h5, h3, h4⟩
        · obtain rfl : j = k := by omega
          exact absurd ⟨h1, h3⟩ h
theorem nl_pw (s : Int) (k : Nat) : (nl s k).Pairwise (· < ·) := by
  induction k with
  | zero => exact List.Pairwise.nil
  | succ k ih =>
    by_cases h : 0 < k ∧ (need s k : Int) = s
    · rw [nl_hit s k h.1 h.2, List.pairwise_append]
      refine ⟨ih, List.pairwise_singleton _ _, fun x hx y hy => ?_⟩
      obtain ⟨j, h1, h2, h3, h4⟩ := (mem_nl s k x).1 hx
      rw [List.mem_singleton] at hy
      omega
    · rw [nl_miss s k h]; exact ih
theorem getD_at {xs : List Int} {k : Nat} (h : k < xs.length) : xs.getD k 0 = xs[k] := by simp [List.getD, List.getElem?_eq_getElem h]
theorem pw_get {xs : List Int} {R : Int → Int → Prop} (hx : xs.Pairwise R) {k : Nat} (hk : k + 1 < xs.length) : R (xs.getD k 0) (xs.getD (k + 1) 0) := by
  rw [getD_at hk, getD_at (show k < xs.length by omega)]
  exact List.pairwise_iff_getElem.1 hx k (k + 1) _ hk (by omega)
theorem at_mem {xs : List Int} {k : Nat} (h : k < xs.length) : xs.getD k 0 ∈ xs := by rw [getD_at h]; exact List.getElem_mem h
/-- What the law asks of those that need as many as there are sides. -/
structure Nmf (s N : Int) (xs : List Int) (g : Int) : Prop where
  el : ∀ k, k < xs.length → 0 ≤ xs.getD k 0 ∧ xs.getD k 0 ≤ N ∧ (need s (xs.getD k 0) : Int) = s
  up : ∀ k, k + 1 < xs.length → xs.getD k 0 < xs.getD (k + 1) 0
  le : g ≤ s
  eq : (g == s) = decide (0 < (xs.length : Int))
theorem nmf_of (s : Int) (N : Nat) (h1 : 3 ≤ s) (h2 : s ≤ 24) (hN : N ≤ 3000) : Nmf s N (nl s (N + 1)) (GN s (N + 1)) := by
  have hle : GN s (N + 1) ≤ s := gn_le s (N + 1) s (by omega) fun j hj => need_sides s j h1 h2 (by omega) (by omega)
  refine ⟨fun k hk => ?_, fun k hk => pw_get (nl_pw s (N + 1)) hk, hle, ?_⟩
  · obtain ⟨j, a, b, c, d⟩ := (mem_nl s (N + 1) _).1 (at_mem hk)
    rw [d]
    exact ⟨by omega, by omega, c⟩
  · rw [Bool.eq_iff_iff]
    simp only [beq_iff_eq, decide_eq_true_eq]
    constructor
    · intro e
      rcases gn_ex s (N + 1) with h | ⟨j, h3, h4⟩
      · omega
      · have hj : 0 < j := by
          rcases Nat.eq_zero_or_pos j with rfl | h
          · have := need_zero s
            simp only [show (((0 : Nat) : Int)) = 0 from rfl, this] at h4
            omega
          · exact h
        have hm : (j : Int) ∈ nl s (N + 1) := (mem_nl s (N + 1) _).2 ⟨j, hj, h3, by omega, rfl⟩
        have := List.length_pos_of_mem hm
        omega
    · intro h
      have hm := at_mem (xs := nl s (N + 1)) (k := 0) (by omega)
      obtain ⟨j, a, b, c, d⟩ := (mem_nl s (N + 1) _).1 hm
      have := gn_ge s (N + 1) j b
      omega
/-! ### different places -/
theorem mem_zl (f : Nat → Int) (n j : Nat) : (j : Int) ∈ zl f n ↔ j < n ∧ f j = 0 := by
  simp only [zl, List.mem_map, List.mem_filter, List.mem_range, beq_iff_eq]
  constructor
  · rintro ⟨a, h, e⟩
    obtain rfl : a = j := by omega
    exact h
  · exact fun h => ⟨j, h, rfl⟩
theorem fd_fact (s : Int) (hs : 3 ≤ s) (k : Nat) : ∀ m : Int, 0 < D s k m →
    (∀ j, j < (fd s k m).length → 1 ≤ (fd s k m).getD j 0 ∧ (fd s k m).getD j 0 ≤ (k : Int)) ∧ (∀ j, j + 1 < (fd s k m).length → (fd s k m).getD (j + 1) 0 < (fd s k m).getD j 0) ∧ psumN s (fd s k m) (fd s k m).length = m := by
  induction k with
  | zero =>
    intro m h
    refine ⟨fun j hj => by simp [fd] at hj, fun j hj => by simp [fd] at hj, ?_⟩
    rw [D] at h
    split at h
    · rename_i e; rw [e]; rfl
    · omega
  | succ k ih =>
    intro m h
    by_cases hd : 0 < D s k (m - num s ((k : Int) + 1))
    · obtain ⟨i1, i2, i3⟩ := ih _ hd
      rw [(fd_hit s k m hd).1]
      refine ⟨fun j hj => ?_, fun j hj => ?_, ?_⟩
      · cases j with
        | zero => rw [List.getD_cons_zero]; omega
        | succ j => rw [List.getD_cons_succ]; have := i1 j (by simpa using hj); omega
      · cases j with
        | zero => rw [List.getD_cons_succ, List.getD_cons_zero]; have := i1 0 (by simpa using hj); omega
        | succ j => rw [List.getD_cons_succ, List.getD_cons_succ]; exact i2 j (by simpa using hj)
      · rw [List.length_cons, psumN_cons, i3]
        omega
    · obtain ⟨e1, e2⟩ := fd_miss s k m hd
      rw [e1]
      rw [e2] at h
      obtain ⟨i1, i2, i3⟩ := ih _ h
      exact ⟨fun j hj => by have := i1 j hj; omega, i2, i3⟩
/-! ### pairs of two shapes -/
theorem pl_num (s k : Int) (hs : 3 ≤ s) (hk : 0 ≤ k) : pl s (num s k) = k := by
  have h0 := num_nn s k hs
  have h1 := (fits_iff s (num s k) k hs h0 hk).1 (Int.le_refl _)
  have h2 := pl_is s (num s k) hs h0
  rcases Int.lt_or_le k (pl s (num s k)) with h | h
  · have := num_mono_lt s hs hk h
    have := h2.2.1
    omega
  · omega
theorem qs_fact (a b : Int) (N K : Nat) (ha : 3 ≤ a) (hK : (K : Int) = pl a N) (hK2 : K ≤ 77) (i : Nat) : i ≤ K + 1 →
    (∀ x y, (x, y) ∈ qs a b N K i ↔ ∃ j : Nat, K < j + i ∧ j ≤ K ∧ x = (j : Int) ∧ y = pl b (N - num a j) ∧ num b y = N - num a j) ∧ (qs a b N K i).Pairwise (fun p q => q.1 < p.1) := by
  induction i with
  | zero =>
    intro _
    rw [qs_zero]
    refine ⟨fun x y => ?_, List.Pairwise.nil⟩
    constructor
    · intro h; cases h
    · rintro ⟨j, h1, h2, _⟩; omega
  | succ i ih =>
    intro hi
    obtain ⟨i1, i2⟩ := ih (by omega)
    obtain ⟨j, hj⟩ : ∃ j, K - i = j := ⟨_, rfl⟩
    have hjp : (j : Int) ≤ pl a N := by omega
    have hfit := (fits_iff a N (j : Int) ha (by omega) (by omega)).2 hjp
    have hcon : j ≤ 100 ∧ 0 ≤ num a j ∧ num a j ≤ (N : Int) := ⟨by omega, num_nn a j ha, hfit⟩
    by_cases hq : num b (pl b (N - num a j)) = N - num a j
    · rw [qs_hit a b N K i j (by omega) hcon hq]
      refine ⟨fun x y => ?_, ?_⟩
      · rw [List.mem_append, List.mem_singleton, i1]
        constructor
        · rintro (⟨t, h1, h2, h3, h4, h5⟩ | h)
          · exact ⟨t, by omega, h2, h3, h4, h5⟩
          · injection h with h3 h4
            exact ⟨j, by omega, by omega, h3, h4, by rw [h4]; exact hq⟩
        · rintro ⟨t, h1, h2, h3, h4, h5⟩
          rcases Nat.lt_or_ge K (t + i) with h6 | h6
          · exact .inl ⟨t, h6, h2, h3, h4, h5⟩
          · obtain rfl : t = j := by omega
            exact .inr (by rw [h3, h4])
      · rw [List.pairwise_append]
        refine ⟨i2, List.pairwise_singleton _ _, fun p hp q hq2 => ?_⟩
        obtain ⟨px, py⟩ := p
        obtain ⟨t, h1, h2, h3, _⟩ := (i1 px py).1 hp
        rw [List.mem_singleton] at hq2
        subst hq2
        simp only
        omega
    · rw [qs_miss a b N K i j (by omega) hcon hq]
      refine ⟨fun x y => ?_, i2⟩
      rw [i1]
      constructor
      · rintro ⟨t, h1, h2, h3, h4, h5⟩
        exact ⟨t, by omega, h2, h3, h4, h5⟩
      · rintro ⟨t, h1, h2, h3, h4, h5⟩
        rcases Nat.lt_or_ge K (t + i) with h6 | h6
        · exact ⟨t, h6, h2, h3, h4, h5⟩
        · obtain rfl : t = j := by omega
          exact absurd (by rw [← h4]; exact h5) hq
/-- The pairs of places whose numbers make N. -/
theorem mem_qs (a b : Int) (N K : Nat) (ha : 3 ≤ a) (hb : 3 ≤ b) (hK : (K : Int) = pl a N) (hK2 : K ≤ 77) (x y : Int) : (x, y) ∈ qs a b N K (K + 1) ↔ 0 ≤ x ∧ 0 ≤ y ∧ num a x + num b y = N := by
  rw [(qs_fact a b N K ha hK hK2 (K + 1) (Nat.le_refl _)).1]
  constructor
  · rintro ⟨j, h1, h2, h3, h4, h5⟩
    have hjp : (j : Int) ≤ pl a N := by omega
    have hfit := (fits_iff a N (j : Int) ha (by omega) (by omega)).2 hjp
    have := pl_nn b (N - num a j) hb (by omega)
    rw [h3]
    exact ⟨by omega, by omega, by omega⟩
  · rintro ⟨h1, h2, h3⟩
    obtain ⟨j, rfl⟩ := Int.eq_ofNat_of_zero_le h1
    have h4 := num_nn b y hb
    have h5 := (fits_iff a N (j : Int) ha (by omega) (by omega)).1 (by omega)
    have h6 := pl_num b y hb h2
    have h7 : (N : Int) - num a j = num b y := by omega
    exact ⟨j, by omega, by omega, rfl, by rw [h7, h6], by omega⟩
theorem qs_nodup (a b : Int) (N K : Nat) (ha : 3 ≤ a) (hK : (K : Int) = pl a N) (hK2 : K ≤ 77) : (qs a b N K (K + 1)).Nodup :=
  (qs_fact a b N K ha hK hK2 (K + 1) (Nat.le_refl _)).2.imp fun {p q} h e => by subst e; omega
theorem qs_turn (a b : Int) (N K K' : Nat) (ha : 3 ≤ a) (hb : 3 ≤ b) (hK : (K : Int) = pl a N) (hK2 : K ≤ 77) (hK' : (K' : Int) = pl b N) (hK2' : K' ≤ 77) : (qs b a N K' (K' + 1)).length = (qs a b N K (K + 1)).length := by
  have hinj : ((qs a b N K (K + 1)).map Prod.swap).Nodup := by
    refine List.Pairwise.map _ ?_ (qs_nodup a b N K ha hK hK2)
    rintro ⟨p1, p2⟩ ⟨q1, q2⟩ hne e
    simp only [Prod.swap, Prod.mk.injEq] at e
    exact hne (by rw [e.1, e.2])
  have hp : ((qs a b N K (K + 1)).map Prod.swap).Perm (qs b a N K' (K' + 1)) := by
    rw [List.perm_ext_iff_of_nodup hinj (qs_nodup b a N K' hb hK' hK2')]
    rintro ⟨x, y⟩
    rw [mem_qs b a N K' hb ha hK' hK2', List.mem_map]
    constructor
    · rintro ⟨⟨u, v⟩, h, e⟩
      rw [mem_qs a b N K ha hb hK hK2] at h
      simp only [Prod.swap, Prod.mk.injEq] at e
      obtain ⟨rfl, rfl⟩ := e
      omega
    · rintro ⟨h1, h2, h3⟩
      exact ⟨(y, x), (mem_qs a b N K ha hb hK hK2 y x).2 ⟨h2, h1, by omega⟩, rfl⟩
  have := hp.length_eq
  rw [List.length_map] at this
  omega
end Go.Proofs.YtiloljldefodkaaDoor
