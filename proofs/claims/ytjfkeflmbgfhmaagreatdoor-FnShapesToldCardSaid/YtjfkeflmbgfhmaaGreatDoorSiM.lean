/- Plain arithmetic of chapter 6: rings, spots and numbers of the spiral and of the hexagon spiral. No program in sight. -/
import Derived.Test.YtjfkeflmbgfhmaaGreatDoorNuB
namespace Go.Proofs.YtjfkeflmbgfhmaaGreatDoor

/-- The number n lies on the ring r. -/
structure IsRing (n r : Int) : Prop where
  nn : 0 ≤ r
  lo : 1 ≤ r → (2 * r - 1) * (2 * r - 1) ≤ n
  hi : n < (2 * r + 1) * (2 * r + 1)
noncomputable def rg (n : Int) : Int := (rt n + 1) / 2
theorem rg_is (n : Int) (hn : 0 ≤ n) : IsRing n (rg n) := by
  obtain ⟨h0, h1, h2⟩ := rt_is n hn
  refine ⟨by unfold rg; omega, fun h => ?_, ?_⟩
  · have := sq_mono (a := 2 * rg n - 1) (b := rt n) (by omega) (by unfold rg; omega)
    omega
  · have := sq_mono (a := rt n + 1) (b := 2 * rg n + 1) (by omega) (by unfold rg; omega)
    omega
theorem ring_uniq {n r s : Int} (h : IsRing n r) (g : IsRing n s) : r = s := by
  rcases Int.lt_trichotomy r s with hl | he | hl
  · have h0 := h.nn
    have h1 := g.lo (by omega)
    have h2 := h.hi
    have := sq_mono (a := 2 * r + 1) (b := 2 * s - 1) (by omega) (by omega)
    omega
  · exact he
  · have h0 := g.nn
    have h1 := h.lo (by omega)
    have h2 := g.hi
    have := sq_mono (a := 2 * s + 1) (b := 2 * r - 1) (by omega) (by omega)
    omega
theorem rg_uniq (n r : Int) (hn : 0 ≤ n) (h : IsRing n r) : rg n = r := ring_uniq (rg_is n hn) h
theorem ring_le {n r b : Int} (h : IsRing n r) (hb : 0 ≤ b) (hn : n < (2 * b + 1) * (2 * b + 1)) : r ≤ b := by
  rcases Int.lt_or_le b r with hl | hl
  · have h1 := h.lo (by omega)
    have := sq_mono (a := 2 * b + 1) (b := 2 * r - 1) (by omega) (by omega)
    omega
  · exact hl
theorem rg_le (n : Int) (hn : 0 ≤ n) (h : n ≤ 2000000) : rg n ≤ 1000 := ring_le (rg_is n hn) (by omega) (by omega)
theorem rg_le5 (n : Int) (hn : 0 ≤ n) (h : n ≤ 1000001) : rg n ≤ 500 := ring_le (rg_is n hn) (by omega) (by omega)
theorem ring_zero {n r : Int} (h : IsRing n r) (hn : 0 ≤ n) : r = 0 ↔ n = 0 := by
  have h0 := h.nn
  constructor
  · rintro rfl
    have := h.hi
    omega
  · rintro rfl
    rcases Int.lt_or_le 0 r with h1 | h1
    · have := h.lo (by omega)
      have := sq_mono (a := 1) (b := 2 * r - 1) (by omega) (by omega)
      omega
    · omega

/-- The k-th spot of the ring r, k from 1 to 8 r. -/
def at_ (r k : Int) : Int × Int :=
  if k ≤ 2 * r then (r, k - r) else if k ≤ 4 * r then (3 * r - k, r) else if k ≤ 6 * r then (-r, 5 * r - k) else (k - 7 * r, -r)
/-- How many steps n lies behind the end of the ring before. -/
def off (n r : Int) : Int := n - (2 * r - 1) * (2 * r - 1) + 1
theorem sq_ring (r : Int) : (2 * r + 1) * (2 * r + 1) = (2 * r - 1) * (2 * r - 1) + 8 * r := by grind
theorem off_bds {n r : Int} (h : IsRing n r) (h1 : 1 ≤ r) : 1 ≤ off n r ∧ off n r ≤ 8 * r := by
  have a := h.lo h1
  have b := h.hi
  have c := sq_ring r
  unfold off
  omega
noncomputable def sp (n : Int) : Int × Int := if rg n = 0 then (0, 0) else at_ (rg n) (off n (rg n))
/-- The size of a number; the ring of a spot. -/
def ab (x : Int) : Int := max x (-x)
def sz (x y : Int) : Int := max (ab x) (ab y)
def onK (r x y : Int) : Int := if y = -r then x + 7 * r else if x = r then y + r else if y = r then 3 * r - x else 5 * r - y
def nu (x y : Int) : Int := if sz x y = 0 then 0 else (2 * sz x y - 1) * (2 * sz x y - 1) - 1 + onK (sz x y) x y
theorem ab_nn (x : Int) : 0 ≤ ab x := by unfold ab; omega
theorem sz_nn (x y : Int) : 0 ≤ sz x y := by unfold sz ab; omega
theorem at_one {r k : Int} (h : k ≤ 2 * r) : at_ r k = (r, k - r) := by unfold at_; rw [if_pos h]
theorem at_two {r k : Int} (h0 : 2 * r < k) (h : k ≤ 4 * r) : at_ r k = (3 * r - k, r) := by unfold at_; rw [if_neg (by omega), if_pos h]
theorem at_three {r k : Int} (_h1 : 1 ≤ r) (h0 : 4 * r < k) (h : k ≤ 6 * r) : at_ r k = (-r, 5 * r - k) := by unfold at_; rw [if_neg (by omega), if_neg (by omega), if_pos h]
theorem at_four {r k : Int} (h1 : 1 ≤ r) (h0 : 6 * r < k) : at_ r k = (k - 7 * r, -r) := by unfold at_; rw [if_neg (by omega), if_neg (by omega), if_neg (by omega)]
theorem at_cases {r k : Int} (h1 : 1 ≤ r) : (k ≤ 2 * r ∧ at_ r k = (r, k - r)) ∨ (2 * r < k ∧ k ≤ 4 * r ∧ at_ r k = (3 * r - k, r)) ∨ (4 * r < k ∧ k ≤ 6 * r ∧ at_ r k = (-r, 5 * r - k)) ∨ (6 * r < k ∧ at_ r k = (k - 7 * r, -r)) := by
  by_cases a : k ≤ 2 * r
  · exact .inl ⟨a, at_one a⟩
  · by_cases b : k ≤ 4 * r
    · exact .inr (.inl ⟨by omega, b, at_two (by omega) b⟩)
    · by_cases c : k ≤ 6 * r
      · exact .inr (.inr (.inl ⟨by omega, c, at_three h1 (by omega) c⟩))
      · exact .inr (.inr (.inr ⟨by omega, at_four h1 (by omega)⟩))
theorem at_sz {r k : Int} (h1 : 1 ≤ r) (h2 : 1 ≤ k) (h3 : k ≤ 8 * r) : sz (at_ r k).1 (at_ r k).2 = r := by
  unfold sz ab
  rcases at_cases (k := k) h1 with ⟨a, e⟩ | ⟨a, b, e⟩ | ⟨a, b, e⟩ | ⟨a, e⟩ <;> rw [e] <;> simp only <;> omega
theorem at_on {r k : Int} (h1 : 1 ≤ r) (h2 : 1 ≤ k) (h3 : k ≤ 8 * r) : onK r (at_ r k).1 (at_ r k).2 = k := by
  unfold onK
  rcases at_cases (k := k) h1 with ⟨a, e⟩ | ⟨a, b, e⟩ | ⟨a, b, e⟩ | ⟨a, e⟩ <;> rw [e] <;> dsimp only <;> split <;> (try split) <;> (try split) <;> omega
theorem on_bds {r x y : Int} (h : sz x y = r) (h1 : 1 ≤ r) : 1 ≤ onK r x y ∧ onK r x y ≤ 8 * r := by
  unfold sz ab at h
  unfold onK
  split <;> (try split) <;> (try split) <;> omega
theorem pair_eq {a b c d : Int} (h : a = c) (g : b = d) : (a, b) = (c, d) := by rw [h, g]
theorem on_at {r x y : Int} (h : sz x y = r) (h1 : 1 ≤ r) : at_ r (onK r x y) = (x, y) := by
  obtain ⟨k, hk⟩ : ∃ k, k = onK r x y := ⟨_, rfl⟩
  have b := on_bds h h1
  rw [← hk] at b ⊢
  unfold sz ab at h
  unfold onK at hk
  rcases at_cases (k := k) h1 with ⟨a, e⟩ | ⟨a, c, e⟩ | ⟨a, c, e⟩ | ⟨a, e⟩ <;> rw [e] <;> split at hk <;> (try split at hk) <;> (try split at hk) <;> apply pair_eq <;> omega
theorem nu_sp (n : Int) (hn : 0 ≤ n) : nu (sp n).1 (sp n).2 = n := by
  have h := rg_is n hn
  have z := ring_zero h hn
  unfold sp
  by_cases h0 : rg n = 0
  · rw [if_pos h0, z.1 h0]
    rfl
  · rw [if_neg h0]
    have h1 : 1 ≤ rg n := by have := h.nn; omega
    obtain ⟨b1, b2⟩ := off_bds h h1
    unfold nu
    rw [at_sz h1 b1 b2, at_on h1 b1 b2, if_neg h0]
    unfold off
    omega
theorem nu_ring (x y : Int) : IsRing (nu x y) (sz x y) := by
  have h0 := sz_nn x y
  unfold nu
  by_cases h : sz x y = 0
  · rw [if_pos h, h]
    exact ⟨by omega, fun h => by omega, by omega⟩
  · rw [if_neg h]
    obtain ⟨b1, b2⟩ := on_bds (x := x) (y := y) rfl (by omega)
    have c := sq_ring (sz x y)
    exact ⟨h0, fun _ => by omega, by omega⟩
theorem nu_nn (x y : Int) : 0 ≤ nu x y := by
  have h := nu_ring x y
  rcases Int.lt_or_le 0 (sz x y) with h1 | h1
  · have := h.lo (by omega)
    have := sq_mono (a := 1) (b := 2 * sz x y - 1) (by omega) (by omega)
    omega
  · have h2 : sz x y = 0 := by have := sz_nn x y; omega
    unfold nu
    rw [if_pos h2]
    omega
theorem sp_nu (x y : Int) : sp (nu x y) = (x, y) := by
  have h := nu_ring x y
  have e := rg_uniq _ _ (nu_nn x y) h
  unfold sp
  rw [e]
  by_cases h0 : sz x y = 0
  · rw [if_pos h0]
    unfold sz ab at h0
    rw [show x = 0 by omega, show y = 0 by omega]
  · rw [if_neg h0]
    have h1 : 1 ≤ sz x y := by have := sz_nn x y; omega
    have k : off (nu x y) (sz x y) = onK (sz x y) x y := by
      unfold off nu
      rw [if_neg h0]
      omega
    rw [k, on_at rfl h1]
theorem sp_size (n : Int) (hn : 0 ≤ n) : sz (sp n).1 (sp n).2 = rg n := by
  have h := nu_ring (sp n).1 (sp n).2
  rw [nu_sp n hn] at h
  exact ring_uniq h (rg_is n hn)
theorem sp_bds (n : Int) (hn : 0 ≤ n) : -(rg n) ≤ (sp n).1 ∧ (sp n).1 ≤ rg n ∧ -(rg n) ≤ (sp n).2 ∧ (sp n).2 ≤ rg n := by
  have h := sp_size n hn
  unfold sz ab at h
  omega
/-- The step that goes on from the k-th spot of the ring r (k from 0: the end of the ring before). -/
def stp (r k : Int) : Int × Int :=
  if k = 0 then (1, 0) else if k < 2 * r then (0, 1) else if k < 4 * r then (-1, 0) else if k < 6 * r then (0, -1) else (1, 0)
theorem at_step {r k : Int} (h1 : 1 ≤ r) (h2 : 1 ≤ k) (h3 : k < 8 * r) : at_ r (k + 1) = ((at_ r k).1 + (stp r k).1, (at_ r k).2 + (stp r k).2) := by
  unfold stp
  rcases at_cases (k := k) h1 with ⟨a, e⟩ | ⟨a, c, e⟩ | ⟨a, c, e⟩ | ⟨a, e⟩ <;> rw [e] <;>
    rcases at_cases (k := k + 1) h1 with ⟨a', e'⟩ | ⟨a', c', e'⟩ | ⟨a', c', e'⟩ | ⟨a', e'⟩ <;> rw [e'] <;> split <;> (try split) <;> (try split) <;> (try split) <;> first | (exfalso; omega) | (apply pair_eq <;> simp only <;> omega)
theorem nu_le {x y r : Int} (h : sz x y ≤ r) : nu x y < (2 * r + 1) * (2 * r + 1) := by
  have a := (nu_ring x y).hi
  have := sq_mono (a := 2 * sz x y + 1) (b := 2 * r + 1) (by have := sz_nn x y; omega) (by omega)
  omega
end Go.Proofs.YtjfkeflmbgfhmaaGreatDoor
