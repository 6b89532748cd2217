/- The law FnExactGreatestNeed: the greatest of the needs, whichever way the map is ranged over. No condition. -/
import Derived.Test.YtiloljldefodkaaDoorMc
import Derived.Maps.RangeWalk
namespace Go.Proofs.YtiloljldefodkaaDoor
open Go.ChangeShapes Go.WideShapes Go.ChangeAt Go.RowKit Go.Maps

noncomputable def GN (s : Int) : Nat → Int
  | 0 => 0
  | k + 1 => max (GN s k) (need s k)
theorem gn_nn (s : Int) (k : Nat) : 0 ≤ GN s k := by
  induction k with
  | zero => simp [GN]
  | succ k ih => rw [GN]; omega
theorem gn_ge (s : Int) (k j : Nat) (h : j < k) : (need s j : Int) ≤ GN s k := by
  induction k with
  | zero => omega
  | succ k ih =>
    rw [GN]
    by_cases e : j = k
    · subst e; omega
    · have := ih (by omega); omega
theorem gn_le (s : Int) (k : Nat) (g : Int) (h0 : 0 ≤ g) (h : ∀ j : Nat, j < k → (need s j : Int) ≤ g) : GN s k ≤ g := by
  induction k with
  | zero => simpa [GN] using h0
  | succ k ih =>
    rw [GN]
    have := ih (fun j hj => h j (by omega))
    have := h k (by omega)
    omega
theorem gn_top (s : Int) (k : Nat) (h1 : 3 ≤ s) (h2 : s ≤ 24) (hk : k ≤ 3001) : GN s k ≤ 24 := gn_le s k 24 (by omega) fun j hj => by
  have := need_sides s j h1 h2 (by omega) (by omega)
  omega
theorem nd_out (s : Int) (k : Nat) (kl : Lit) (z : DataW Unit) (h : ∀ j : Nat, j < k → kl ≠ .int .i64 (j : Int)) : (ND s k).atKey kl z = z := by
  induction k with
  | zero => rfl
  | succ k ih =>
    rw [ND, atKey_put_other (h k (by omega))]
    exact ih fun j hj => h j (by omega)
theorem nd_in (s : Int) (k : Nat) (x c : Int) (h : ∀ zd : DataW Unit, (ND s k).atKey (.int .i64 x) zd = .lit (.int .i64 c)) : ∃ j : Nat, j < k ∧ x = j ∧ c = need s j := by
  by_cases hx : ∃ j : Nat, j < k ∧ x = j
  · obtain ⟨j, hj, rfl⟩ := hx
    have h1 := h (.lit (.int .i64 0))
    rw [nd_at s k j hj] at h1
    injection h1 with h1
    injection h1 with _ h1
    exact ⟨j, hj, rfl, h1.symm⟩
  · have h1 := h (.map [])
    rw [nd_out s k _ _ (fun j hj he => hx ⟨j, hj, by injection he⟩)] at h1
    cases h1
theorem nd_has (s : Int) (k j : Nat) (h : j < k) : Maps.has (ND s k) (.int .i64 (j : Int)) = true := has_true_of_atKey (fun z => nd_at s k j h z)
theorem same_int (x y : Int) (h : (!(Lit.int .i64 x).sameKey (.int .i64 y)) = false) : x = y := by
  simpa [Lit.sameKey] using h

theorem l1Most_any (a b : Int) (w : World) :
    Calls Tryd.prog 58 #[.int .i64 a, .int .i64 b] w fun e w' => e = .returned (.int .i64 (max a b)) ∧ w = w' := by
  by_cases h : a > b
  · have e : max a b = a := by omega
    have H := Lib.hid e
    clear e
    go_enter Tryd.func58, Tryd.ntmps58
    go_wp2
    go_ret
    exact ⟨by rw [H.out]; rfl, rfl⟩
  · have e : max a b = b := by omega
    have H := Lib.hid e
    clear e
    go_enter Tryd.func58, Tryd.ntmps58
    go_wp2
    go_ret
    exact ⟨by rw [H.out]; rfl, rfl⟩
end Go.Proofs.YtiloljldefodkaaDoor
