/- Chapter 5: the law MostSquareRectangle. -/
import Derived.Test.YtcfpdlkkniilpaaGreatDoorRuG
namespace Go.Proofs.YtcfpdlkkniilpaaGreatDoor
open Go.ChangeShapes Go.WideShapes Go.ChangeAt Go.RowKit

/-- The greatest factor up to the root. -/
structure LastF (n a : Int) : Prop where
  a1 : 1 ≤ a
  a2 : a ≤ rt n
  r : rt n ≤ 1415
  m : n % a = 0
  no : ∀ l, a < l → l ≤ rt n → ¬ n % l = 0
theorem lastF_ex (n : Int) (h0 : 1 ≤ n) (h1 : n ≤ 1000000) : ∃ a, LastF n a := by
  obtain ⟨r1, r2⟩ := rt_small n h0 (by omega)
  have key : ∀ k : Nat, 1 ≤ (k : Int) → (k : Int) ≤ rt n → (∀ l, (k : Int) < l → l ≤ rt n → ¬ n % l = 0) → ∃ a, LastF n a := by
    intro k
    induction k with
    | zero => intro h; omega
    | succ k ih =>
      intro h2 h3 h4
      by_cases hm : n % ((k + 1 : Nat) : Int) = 0
      · exact ⟨_, h2, h3, r2, hm, h4⟩
      · by_cases hk : k = 0
        · subst hk
          simp at hm
        · refine ih (by omega) (by omega) fun l h5 h6 => ?_
          by_cases e : l = ((k + 1 : Nat) : Int)
          · rw [e]; exact hm
          · exact h4 l (by omega) h6
  exact key (rt n).toNat (by omega) (by omega) fun l h2 h3 => by omega
theorem lastF_at (n a : Int) (h0 : 1 ≤ n) (h1 : n ≤ 1000000) (h : LastF n a) : ∃ M, (facs n).length = M + 1 ∧ (facs n)[M]? = some (a, n / a) ∧ M ≤ 1500 := by
  have e := facs_last n a h0 h.a1 h.a2 h.m h.no
  have hl := facs_len n h0 (by omega)
  rw [e] at hl ⊢
  refine ⟨_, by simp; rfl, by simp, ?_⟩
  simp at hl
  omega
end Go.Proofs.YtcfpdlkkniilpaaGreatDoor
