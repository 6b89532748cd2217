/- Chapter 4: shared numbers: the mathematics of going forward at both places, and the program's search. -/
import Derived.Test.YtcjfkbpkhlfbdaaSdG
import Derived.Test.YtcjfkbpkhlfbdaaImC
namespace Go.Proofs.Ytcjfkbpkhlfbdaa
open Go.ChangeShapes Go.WideShapes Go.ChangeAt Go.RowKit

theorem next_num (a x i : Int) (ha : 3 ≤ a) (hi : 0 ≤ i) (hx : isP a x = true) (hx0 : 0 ≤ x) (h : num a i < x) : num a (i + 1) ≤ x := by
  have hm : num a (pl a x) = x := by simpa [isP] using hx
  have p0 := pl_nn a x ha hx0
  rcases Int.lt_or_le i (pl a x) with h1 | h1
  · have := num_mono_le a ha (a := i + 1) (b := pl a x) (by omega) (by omega)
    omega
  · have := num_mono_le a ha p0 h1
    omega
/-- Nothing shared beyond n lies before the places i and j. -/
def Ahead (a b n i j : Int) : Prop := ∀ x, n < x → isP a x = true → isP b x = true → num a i ≤ x ∧ num b j ≤ x
theorem ahead_start (a b n : Int) (ha : 3 ≤ a) (hb : 3 ≤ b) (h0 : 0 ≤ n) : Ahead a b n (pl a n + 1) (pl b n + 1) := fun x hx h1 h2 => by
  have a1 := pl_is a n ha h0
  have b1 := pl_is b n hb h0
  exact ⟨next_num a x _ ha a1.1 h1 (by omega) (by have := a1.2.1; omega), next_num b x _ hb b1.1 h2 (by omega) (by have := b1.2.1; omega)⟩
theorem ahead_a {a b n i j : Int} (ha : 3 ≤ a) (h0 : 0 ≤ n) (hi : 0 ≤ i) (h : Ahead a b n i j) (hl : num a i < num b j) : Ahead a b n (i + 1) j := fun x hx h1 h2 => by
  obtain ⟨c1, c2⟩ := h x hx h1 h2
  exact ⟨next_num a x i ha hi h1 (by omega) (by omega), c2⟩
theorem ahead_b {a b n i j : Int} (hb : 3 ≤ b) (h0 : 0 ≤ n) (hj : 0 ≤ j) (h : Ahead a b n i j) (hl : num b j < num a i) : Ahead a b n i (j + 1) := fun x hx h1 h2 => by
  obtain ⟨c1, c2⟩ := h x hx h1 h2
  exact ⟨c1, next_num b x j hb hj h2 (by omega) (by omega)⟩
theorem ahead_top {top a b n i j : Int} (h : Ahead a b n i j) (ht : top < num a i ∨ top < num b j) : NoNext top a b n := fun x hx hm h1 h2 => by
  obtain ⟨c1, c2⟩ := h x hx h1 h2
  omega
theorem ahead_eq {top a b n i j : Int} (ha : 3 ≤ a) (hb : 3 ≤ b) (h0 : 0 ≤ n) (hi : pl a n < i) (hj : 0 ≤ j) (h : Ahead a b n i j) (he : num a i = num b j) (ht : num a i ≤ top) : NextIs top a b n (num a i) := by
  have hn := past_pl a n i ha h0 hi
  have hi0 := pl_nn a n ha h0
  exact ⟨hn, ht, isP_num a i ha (by omega), by rw [he]; exact isP_num b j hb hj, fun x hx h1 h2 => (h x hx h1 h2).1⟩
theorem next_uniq {top a b n m l : Int} (h1 : NextIs top a b n m) (h2 : NextIs top a b n l) : m = l := by
  have c1 := h1.2.2.2.2 l h2.1 h2.2.2.1 h2.2.2.2.1
  have c2 := h2.2.2.2.2 m h1.1 h1.2.2.1 h1.2.2.2.1
  omega
theorem next_not {top a b n m : Int} (h1 : NextIs top a b n m) (h2 : NoNext top a b n) : False := h2 m h1.1 h1.2.1 h1.2.2.1 h1.2.2.2.1
/-- What a search for the next shared number hands back. -/
def Nxt (top a b n r : Int) (ok : Bool) : Prop := (ok = true ∧ NextIs top a b n r) ∨ (ok = false ∧ r = 0 ∧ NoNext top a b n)
theorem nxt_ex (top a b n : Int) : ∃ r ok, Nxt top a b n r ok := by
  rcases next_or top a b n with ⟨m, h⟩ | h
  · exact ⟨m, true, .inl ⟨rfl, h⟩⟩
  · exact ⟨0, false, .inr ⟨rfl, rfl, h⟩⟩
theorem nxt_is {top a b n r m : Int} {ok : Bool} (h : Nxt top a b n r ok) (hm : NextIs top a b n m) : r = m ∧ ok = true := by
  rcases h with ⟨h1, h2⟩ | ⟨_, _, h2⟩
  · exact ⟨next_uniq h2 hm, h1⟩
  · exact (next_not hm h2).elim
theorem nxt_no {top a b n r : Int} {ok : Bool} (h : Nxt top a b n r ok) (hm : NoNext top a b n) : r = 0 ∧ ok = false := by
  rcases h with ⟨h1, h2⟩ | ⟨h1, h2, _⟩
  · exact (next_not h2 hm).elim
  · exact ⟨h2, h1⟩
/-! ### the list of the shared numbers -/
theorem shr_skip (a b : Int) (k : Nat) (d : Nat) (h : ∀ j : Nat, k ≤ j → j < k + d → isP b (num a (j : Int)) = false) : shr a [b] (k + d) = shr a [b] k := by
  induction d with
  | zero => rfl
  | succ d ih =>
    have hh := h (k + d) (by omega) (by omega)
    rw [← Nat.add_assoc, shr_no a [b] (k + d) (by simpa using hh)]
    exact ih fun j h1 h2 => h j h1 (by omega)
theorem shr_three (a b c : Int) (m : Nat) : shr a [b, c] m = (shr a [b] m).filter fun n => isP c n := by
  simp [shr, List.filter_filter, Bool.and_comm]
theorem isP_zero (s : Int) (hs : 3 ≤ s) : isP s 0 = true := by
  have := isP_num s 0 hs (by omega)
  rwa [num_zero] at this
theorem shr_one (a b : Int) (hb : 3 ≤ b) : shr a [b] 1 = [0] := by
  have := shr_yes a [b] 0 (by simp [num_zero, isP_zero b hb])
  simpa [shr, num_zero] using this
/-- The list behind the place of n goes on with the next shared number. -/
theorem shr_next {top a b n m : Int} (ha : 3 ≤ a) (hn : 0 ≤ n) (hp : num a (pl a n) = n) (h : NextIs top a b n m) : shr a [b] ((pl a m).toNat + 1) = shr a [b] ((pl a n).toNat + 1) ++ [m] ∧ num a (pl a m) = m ∧ pl a n < pl a m := by
  have hm : num a (pl a m) = m := by simpa [isP] using h.2.2.1
  have p0 := pl_nn a n ha hn
  have p1 := pl_nn a m ha (by have := h.1; omega)
  have hlt : pl a n < pl a m := by
    rcases Int.lt_or_le (pl a n) (pl a m) with h1 | h1
    · exact h1
    · have h2 := num_mono_le a ha p1 h1
      have := h.1
      omega
  refine ⟨?_, hm, hlt⟩
  have hs := shr_skip a b ((pl a n).toNat + 1) ((pl a m).toNat - ((pl a n).toNat + 1)) fun j h1 h2 => by
    cases hj : isP b (num a (j : Int)) with
    | false => rfl
    | true =>
      have c1 := num_mono_lt a ha (a := pl a n) (b := (j : Int)) p0 (by omega)
      have c2 := h.2.2.2.2 (num a (j : Int)) (by omega) (isP_num a j ha (by omega)) hj
      have c3 := num_mono_lt a ha (a := (j : Int)) (b := pl a m) (by omega) (by omega)
      omega
  have e : (pl a n).toNat + 1 + ((pl a m).toNat - ((pl a n).toNat + 1)) = (pl a m).toNat := by omega
  rw [e] at hs
  have e2 : (((pl a m).toNat : Nat) : Int) = pl a m := by omega
  rw [shr_yes a [b] (pl a m).toNat (by rw [e2, hm]; simp [h.2.2.2.1]), hs, e2, hm]
/-- And if there is none, it is whole. -/
theorem shr_last {top a b n : Int} (ha : 3 ≤ a) (hn : 0 ≤ n) (hnt : n ≤ top) (hp : num a (pl a n) = n) (h : NoNext top a b n) : shr a [b] ((pl a top).toNat + 1) = shr a [b] ((pl a n).toNat + 1) := by
  have p0 := pl_nn a n ha hn
  have p1 := pl_le_pl a n top ha hn hnt
  have e : (pl a n).toNat + 1 + ((pl a top).toNat - (pl a n).toNat) = (pl a top).toNat + 1 := by omega
  rw [← e]
  refine shr_skip a b _ _ fun j h1 h2 => ?_
  cases hj : isP b (num a (j : Int)) with
  | false => rfl
  | true =>
    have c1 := num_mono_lt a ha (a := pl a n) (b := (j : Int)) p0 (by omega)
    have c2 := (fits_iff a top (j : Int) ha (by omega) (by omega)).2 (by omega)
    exact (h (num a (j : Int)) (by omega) c2 (isP_num a j ha (by omega)) hj).elim
end Go.Proofs.Ytcjfkbpkhlfbdaa
