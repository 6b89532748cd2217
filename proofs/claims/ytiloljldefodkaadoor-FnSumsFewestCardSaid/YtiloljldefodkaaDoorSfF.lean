/- Fewest sums: what holds of the lists of parts. No program in sight. -/
import Derived.Test.YtiloljldefodkaaDoorSfA
import Derived.Test.YtiloljldefodkaaDoorCoY
import Derived.Test.YtiloljldefodkaaDoorSuG
import Derived.Test.YtiloljldefodkaaDoorOwL
namespace Go.Proofs.YtiloljldefodkaaDoor
open Go.ChangeShapes Go.WideShapes Go.ChangeAt Go.RowKit Go.Maps

/-- A list of parts: so many places, falling, each one of 1 .. K, whose numbers make m. -/
structure Pts (s : Int) (K i : Nat) (m : Int) (xs : List Int) : Prop where
  len : xs.length = i
  el : ∀ k, k < i → 1 ≤ xs.getD k 0 ∧ xs.getD k 0 ≤ (K : Int)
  fall : ∀ k, k + 1 < i → xs.getD (k + 1) 0 ≤ xs.getD k 0
  sum : psumN s xs i = m
theorem Pts.cons {s : Int} {K i : Nat} {m : Int} {xs : List Int} (h : Pts s (K + 1) i (m - num s ((K : Int) + 1)) xs) : Pts s (K + 1) (i + 1) m (((K : Int) + 1) :: xs) := by
  refine ⟨by rw [List.length_cons, h.len], fun k hk => ?_, fun k hk => ?_, by rw [psumN_cons, h.sum]; omega⟩
  · cases k with
    | zero => rw [List.getD_cons_zero]; omega
    | succ k => rw [List.getD_cons_succ]; exact h.el k (by omega)
  · cases k with
    | zero => rw [List.getD_cons_succ, List.getD_cons_zero]; have := h.el 0 (by omega); omega
    | succ k => rw [List.getD_cons_succ, List.getD_cons_succ]; exact h.fall k (by omega)
theorem Pts.up {s : Int} {K i : Nat} {m : Int} {xs : List Int} (h : Pts s K i m xs) : Pts s (K + 1) i m xs := ⟨h.len, fun k hk => by have := h.el k hk; omega, h.fall, h.sum⟩
theorem Lw_pts (s : Int) (k : Nat) : ∀ (i : Nat) (m : Int), ∀ x ∈ Lw s k i m, Pts s k i m x := by
  induction k with
  | zero =>
    intro i m x hx
    rw [Lw] at hx
    split at hx
    · rename_i e
      simp only [List.mem_singleton] at hx
      rw [hx, e.1, e.2]
      exact ⟨rfl, fun k hk => by omega, fun k hk => by omega, rfl⟩
    · cases hx
  | succ k ih =>
    intro i
    induction i with
    | zero =>
      intro m x hx
      rw [Lw_k0] at hx
      split at hx
      · rename_i e
        simp only [List.mem_singleton] at hx
        rw [hx, e]
        exact ⟨rfl, fun k hk => by omega, fun k hk => by omega, rfl⟩
      · cases hx
    | succ i ih2 =>
      intro m x hx
      rw [Lw_kk, List.mem_append, List.mem_map] at hx
      rcases hx with ⟨y, hy, rfl⟩ | hx
      · exact (ih2 _ y hy).cons
      · exact (ih (i + 1) m x hx).up
/-- One list comes ahead of another: at the first place where they differ its part is the greater one. -/
def Ahd (i : Nat) (x y : List Int) : Prop := ∃ t, t < i ∧ (∀ j, j < t → x.getD j 0 = y.getD j 0) ∧ y.getD t 0 < x.getD t 0
theorem Lw_ahd (s : Int) (k : Nat) : ∀ (i : Nat) (m : Int), (Lw s k i m).Pairwise (Ahd i) := by
  induction k with
  | zero =>
    intro i m
    rw [Lw]
    split
    · exact List.pairwise_singleton _ _
    · exact List.Pairwise.nil
  | succ k ih =>
    intro i
    induction i with
    | zero =>
      intro m
      rw [Lw_k0]
      split
      · exact List.pairwise_singleton _ _
      · exact List.Pairwise.nil
    | succ i ih2 =>
      intro m
      rw [Lw_kk, List.pairwise_append]
      refine ⟨?_, ih (i + 1) m, fun x hx y hy => ?_⟩
      · rw [List.pairwise_map]
        refine (ih2 _).imp ?_
        rintro x y ⟨t, h1, h2, h3⟩
        refine ⟨t + 1, by omega, fun j hj => ?_, by rw [List.getD_cons_succ, List.getD_cons_succ]; exact h3⟩
        cases j with
        | zero => rfl
        | succ j => rw [List.getD_cons_succ, List.getD_cons_succ]; exact h2 j (by omega)
      · obtain ⟨z, hz, rfl⟩ := List.mem_map.1 hx
        have h := (Lw_pts s k (i + 1) m y hy).el 0 (by omega)
        exact ⟨0, by omega, fun j hj => by omega, by rw [List.getD_cons_zero]; omega⟩
theorem rows_mem {xss : List (List Int)} {i : Nat} (h : i < xss.length) : rowsOf xss i ∈ xss := by
  simp only [rowsOf, List.getD_eq_getElem?_getD]
  rw [List.getElem?_eq_getElem h]
  exact List.getElem_mem h
theorem rows_pw {xss : List (List Int)} {R : List Int → List Int → Prop} (hx : xss.Pairwise R) {k : Nat} (hk : k + 1 < xss.length) : R (rowsOf xss k) (rowsOf xss (k + 1)) := by
  simp only [rowsOf, List.getD_eq_getElem?_getD]
  rw [List.getElem?_eq_getElem hk, List.getElem?_eq_getElem (show k < xss.length by omega)]
  exact List.pairwise_iff_getElem.1 hx k (k + 1) _ hk (by omega)
/-- The first list of the fewest parts. -/
theorem first_pts (s n : Int) (h1 : 3 ≤ s) (h0 : 0 ≤ n) : Pts s (pl s n).toNat (need s n) n (fp s (need s n) n (pl s n).toNat) := by
  have p0 := pl_nn s n h1 h0
  have hno : 1 ≤ need s n → None s n (need s n - 1) (pl s n).toNat := fun _ => none_pl s n _ _ h1 h0 (by omega)
  have hw := none_rep h1 h0 (need s n) (Nat.le_refl _) (need_is s n h0).1 hno
  have e := hdw_fp s h1 (need s n) n (pl s n).toNat h0 rfl hno
  rw [← e]
  refine Lw_pts s _ _ _ _ ?_
  have hne := Lw_ne s (pl s n).toNat (need s n) n hw
  cases h : Lw s (pl s n).toNat (need s n) n with
  | nil => exact absurd h hne
  | cons x P => exact List.mem_cons_self
/-- Greedy parts. -/
theorem gre_fact (s : Int) (hs : 3 ≤ s) (f : Nat) : ∀ n : Int, 0 ≤ n → n ≤ f →
    (∀ k, k < (greedy s f n).length → 1 ≤ (greedy s f n).getD k 0 ∧ (greedy s f n).getD k 0 ≤ pl s n) ∧ (∀ k, k + 1 < (greedy s f n).length → (greedy s f n).getD (k + 1) 0 ≤ (greedy s f n).getD k 0) ∧ psumN s (greedy s f n) (greedy s f n).length = n ∧ need s n ≤ (greedy s f n).length := by
  induction f with
  | zero =>
    intro n h0 h1
    obtain rfl : n = 0 := by omega
    exact ⟨fun k hk => by simp [greedy] at hk, fun k hk => by simp [greedy] at hk, rfl, by rw [need_zero]; omega⟩
  | succ f ih =>
    intro n h0 h1
    by_cases hn : n ≤ 0
    · obtain rfl : n = 0 := by omega
      rw [greedy, if_pos (Int.le_refl 0)]
      exact ⟨fun k hk => by simp at hk, fun k hk => by simp at hk, rfl, by rw [need_zero]; omega⟩
    · rw [greedy, if_neg hn]
      have hp := pl_pos s n hs (by omega)
      have hnp := num_pos s _ hs hp
      have hle := (pl_is s n hs h0).2.1
      obtain ⟨i1, i2, i3, i4⟩ := ih (n - num s (pl s n)) (by omega) (by omega)
      have hmono : pl s (n - num s (pl s n)) ≤ pl s n := by
        have q1 := pl_is s (n - num s (pl s n)) hs (by omega)
        exact (fits_iff s n (pl s (n - num s (pl s n))) hs h0 q1.1).1 (by have := q1.2.1; omega)
      refine ⟨fun k hk => ?_, fun k hk => ?_, ?_, ?_⟩
      · cases k with
        | zero => rw [List.getD_cons_zero]; omega
        | succ k => rw [List.getD_cons_succ]; have := i1 k (by simpa using hk); omega
      · cases k with
        | zero => rw [List.getD_cons_succ, List.getD_cons_zero]; have := i1 0 (by simpa using hk); omega
        | succ k => rw [List.getD_cons_succ, List.getD_cons_succ]; exact i2 k (by simpa using hk)
      · rw [List.length_cons, psumN_cons, i3]
        omega
      · have := need_put s n (pl s n) hp (by omega) hs
        rw [List.length_cons]
        omega
end Go.Proofs.YtiloljldefodkaaDoor
