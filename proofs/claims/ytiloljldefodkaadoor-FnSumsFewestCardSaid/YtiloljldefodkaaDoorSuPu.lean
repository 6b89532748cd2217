/- The search in order, as numbers: what is still to come, and the measure. -/
import Derived.Test.YtiloljldefodkaaDoorSuTg
import Derived.Test.YtiloljldefodkaaDoorSuX
namespace Go.Proofs.YtiloljldefodkaaDoor
open Go.ChangeShapes Go.WideShapes Go.ChangeAt Go.RowKit

/-- What comes behind the search below the path (its last place first): P parts of n. -/
def Rst (s : Int) (P : Nat) (n : Int) : List Int → List (List Int)
  | [] => []
  | q :: p => (Lw s (q.toNat - 1) (P - p.length) (n - ps s p.reverse p.length)).map (p.reverse ++ ·) ++ Rst s P n p
/-- The lists below a path, which is told with its last place first. -/
def Und (s : Int) (P : Nat) (n : Int) (p : List Int) (k : Nat) : List (List Int) := (Lw s k (P - p.length) (n - ps s p.reverse p.length)).map (p.reverse ++ ·)
theorem und_none (s : Int) (P : Nat) (n : Int) (p : List Int) (k : Nat) (h : ¬ 0 < W s k (P - p.length) (n - ps s p.reverse p.length)) : Und s P n p k = [] := by
  rw [Und, Lw_nil _ _ _ _ h]; rfl
theorem rst_cons (s : Int) (P : Nat) (n : Int) (p : List Int) (k : Nat) : Rst s P n (((k : Int) + 1) :: p) = Und s P n p k ++ Rst s P n p := by
  rw [Rst, Und]
  congr 3
theorem ps_rev (s : Int) (p : List Int) (x : Int) : ps s (x :: p).reverse (x :: p).length = ps s p.reverse p.length + num s x := by
  have h := ps_snoc s p.reverse x
  simpa using h
/-- going down -/
theorem und_down (s : Int) (P : Nat) (n : Int) (p : List Int) (k : Nat) (h : p.length < P) :
    Und s P n p (k + 1) = Und s P n (((k : Int) + 1) :: p) (k + 1) ++ Und s P n p k := by
  obtain ⟨c, hc⟩ : ∃ c, P - p.length = c + 1 := ⟨P - p.length - 1, by omega⟩
  have e1 : P - (((k : Int) + 1) :: p).length = c := by simp; omega
  rw [Und, Und, Und, hc, e1, Lw_kk, ps_rev, List.map_append, List.map_map]
  congr 1
  rw [show n - (ps s p.reverse p.length + num s ((k : Int) + 1)) = n - ps s p.reverse p.length - num s ((k : Int) + 1) by omega]
  apply List.map_congr_left
  intro x _
  simp
theorem und_miss (s : Int) (P : Nat) (n : Int) (p : List Int) (k : Nat) (h : p.length < P) (h0 : ¬ 0 < W s (k + 1) (P - p.length - 1) (n - ps s p.reverse p.length - num s ((k : Int) + 1))) :
    Und s P n p (k + 1) = Und s P n p k := by
  obtain ⟨c, hc⟩ : ∃ c, P - p.length = c + 1 := ⟨P - p.length - 1, by omega⟩
  rw [hc, Nat.add_sub_cancel] at h0
  rw [Und, Und, hc, Lw_miss s k c _ h0]
theorem und_leaf (s : Int) (P : Nat) (n : Int) (p : List Int) (k : Nat) (h : P - p.length = 0) (h0 : 0 < W s k (P - p.length) (n - ps s p.reverse p.length)) : Und s P n p k = [p.reverse] := by
  rw [h, W_k0] at h0
  rw [Und, h, Lw_k0]
  split at h0
  · rename_i h1; rw [if_pos h1]; simp
  · omega
/-- The measure of a path: each place a digit, the first the greatest. -/
def mp (P : Nat) : List Int → Nat
  | [] => 0
  | q :: p => q.toNat * 100 ^ (P - p.length) + mp P p
/-- at the label search -/
def ms (P : Nat) (p : List Int) (k : Nat) : Nat := 2 * ((k + 1) * 100 ^ (P - p.length) + mp P p)
/-- at the label back -/
def mb (P : Nat) (p : List Int) : Nat := 2 * mp P p + 1
theorem ms_back (P : Nat) (p : List Int) (k : Nat) : mb P p < ms P p k := by
  have h : 0 < 100 ^ (P - p.length) := Nat.pow_pos (by omega)
  have h2 : 1 * 100 ^ (P - p.length) ≤ (k + 1) * 100 ^ (P - p.length) := Nat.mul_le_mul_right _ (by omega)
  rw [mb, ms]
  omega
theorem ms_less (P : Nat) (p : List Int) (k : Nat) : ms P p k < ms P p (k + 1) := by
  have h : 0 < 100 ^ (P - p.length) := Nat.pow_pos (by omega)
  rw [ms, ms, Nat.succ_mul (k + 1)]
  omega
theorem ms_down (P : Nat) (p : List Int) (k : Nat) (h : p.length < P) (hk : k ≤ 77) : ms P ((k : Int) :: p) k < ms P p k := by
  obtain ⟨c, hc⟩ : ∃ c, P - p.length = c + 1 := ⟨P - p.length - 1, by omega⟩
  have e1 : P - ((k : Int) :: p).length = c := by simp; omega
  have h0 : 0 < 100 ^ c := Nat.pow_pos (by omega)
  have h2 : (k + 1) * 100 ^ c ≤ 78 * 100 ^ c := Nat.mul_le_mul_right _ (by omega)
  rw [ms, ms, e1, hc, mp, hc, Nat.succ_mul k (100 ^ (c + 1)), show ((k : Int)).toNat = k by omega, Nat.pow_succ]
  have h3 : k * (100 ^ c * 100) = k * (100 ^ c * 100) := rfl
  omega
theorem mb_pop (P : Nat) (p : List Int) (k : Nat) : ms P p k < mb P (((k : Int) + 1) :: p) := by
  rw [ms, mb, mp, show ((k : Int) + 1).toNat = k + 1 by omega]
  omega
theorem row_pop {w : World} {base g n cap : Nat} {e : TypeId} {xs : List Value} {x : Value} (h : w.ownsRow base e 1 (.slice (some ⟨g, 0, none⟩) (n + 1) cap) (n + 1) (xs ++ [x])) : w.ownsRow base e 1 (.slice (some ⟨g, 0, none⟩) n cap) n xs := by
  have hl := h.1
  rcases h.2 with ⟨_, h0⟩ | ⟨g', cap', cur, hv, hg, hh, hnc, hcm, hcs, ht⟩
  · omega
  · injection hv with hA _ hcap
    injection hA with hA
    injection hA with hA _ _
    subst hA
    subst hcap
    simp at hl
    refine ⟨by simp; omega, .inr ⟨g, cap, cur, rfl, hg, hh, by omega, hcm, ?_, ?_⟩⟩
    · exact hcs
    · have h2 := congrArg (List.take n) ht
      have h3 : List.take n (xs ++ [x]) = xs := by rw [← hl]; simp
      rw [h3, List.take_take, show min n ((n + 1) * 1) = n by omega] at h2
      rw [show n * 1 = n by omega]
      exact h2
end Go.Proofs.YtiloljldefodkaaDoor
