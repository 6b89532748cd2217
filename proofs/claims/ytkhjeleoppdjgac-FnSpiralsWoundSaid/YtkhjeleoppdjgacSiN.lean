/- Plain arithmetic of chapter 6, 2: the hexagon spiral. No program in sight. -/
import Derived.Test.YtkhjeleoppdjgacSiM
namespace Go.Proofs.Ytkhjeleoppdjgac

/-- The number n lies on the ring r of the hexagon spiral. -/
structure IsHex (n r : Int) : Prop where
  nn : 0 ≤ r
  lo : 1 ≤ r → 3 * r * (r - 1) < n
  hi : n ≤ 3 * r * (r + 1)
theorem hex_prod (r : Int) : 3 * r * (r + 1) = 3 * (r * r) + 3 * r ∧ 3 * r * (r - 1) = 3 * (r * r) - 3 * r := by
  constructor <;> grind
theorem hex_ex (n : Nat) : ∃ r, IsHex n r := by
  induction n with
  | zero => exact ⟨0, by omega, fun h => by omega, by omega⟩
  | succ n ih =>
    obtain ⟨r, h0, h1, h2⟩ := ih
    by_cases h : ((n + 1 : Nat) : Int) ≤ 3 * r * (r + 1)
    · exact ⟨r, h0, fun g => by have := h1 g; omega, h⟩
    · refine ⟨r + 1, by omega, fun _ => ?_, ?_⟩
      · have e : 3 * (r + 1) * (r + 1 - 1) = 3 * r * (r + 1) := by grind
        omega
      · have e : 3 * (r + 1) * (r + 1 + 1) = 3 * r * (r + 1) + 6 * r + 6 := by grind
        omega
noncomputable def hx (n : Int) : Int := Classical.epsilon (IsHex n)
theorem hx_is (n : Int) (hn : 0 ≤ n) : IsHex n (hx n) := by
  obtain ⟨m, rfl⟩ := Int.eq_ofNat_of_zero_le hn
  exact Classical.epsilon_spec (hex_ex m)
theorem hex_mono {a b : Int} (h0 : 0 ≤ a) (h : a ≤ b) : 3 * a * (a + 1) ≤ 3 * b * (b + 1) := by
  have := sq_mono h0 h
  have := (hex_prod a).1
  have := (hex_prod b).1
  omega
theorem hex_below (r : Int) : 3 * r * (r - 1) = 3 * (r - 1) * (r - 1 + 1) := by grind
theorem hex_uniq {n r s : Int} (h : IsHex n r) (g : IsHex n s) : r = s := by
  rcases Int.lt_trichotomy r s with hl | he | hl
  · have h0 := h.nn
    have h1 := g.lo (by omega)
    have h2 := h.hi
    have := hex_mono (a := r) (b := s - 1) h0 (by omega)
    have := hex_below s
    omega
  · exact he
  · have h0 := g.nn
    have h1 := h.lo (by omega)
    have h2 := g.hi
    have := hex_mono (a := s) (b := r - 1) h0 (by omega)
    have := hex_below r
    omega
theorem hx_uniq (n r : Int) (hn : 0 ≤ n) (h : IsHex n r) : hx n = r := hex_uniq (hx_is n hn) h
theorem hex_le {n r b : Int} (h : IsHex n r) (hb : 0 ≤ b) (hn : n ≤ 3 * b * (b + 1)) : r ≤ b := by
  rcases Int.lt_or_le b r with hl | hl
  · have h1 := h.lo (by omega)
    have := hex_mono (a := b) (b := r - 1) hb (by omega)
    have := hex_below r
    omega
  · exact hl
theorem hx_le (n : Int) (hn : 0 ≤ n) (h : n ≤ 1003000) : hx n ≤ 578 := hex_le (hx_is n hn) (by omega) (by omega)
theorem hex_zero {n r : Int} (h : IsHex n r) (hn : 0 ≤ n) : r = 0 ↔ n = 0 := by
  have h0 := h.nn
  constructor
  · rintro rfl
    have := h.hi
    omega
  · rintro rfl
    rcases Int.lt_or_le 0 r with h1 | h1
    · have := h.lo (by omega)
      have := (hex_prod r).2
      have := sq_mono (a := 1) (b := r) (by omega) (by omega)
      have := Int.mul_le_mul_of_nonneg_right (a := 1) (b := r) (c := r) (by omega) (by omega)
      omega
    · omega

/-- The k-th spot of the ring r, k from 0 (where it ends, too) to 6 r. -/
def hat (r k : Int) : Int × Int :=
  if k ≤ r then (r, k - r) else if k ≤ 2 * r then (2 * r - k, k - r) else if k ≤ 3 * r then (2 * r - k, r) else if k ≤ 4 * r then (-r, 4 * r - k) else if k ≤ 5 * r then (k - 5 * r, 4 * r - k) else (k - 5 * r, -r)
theorem hat_cases {r k : Int} (_h1 : 1 ≤ r) :
    (k ≤ r ∧ hat r k = (r, k - r)) ∨ (r < k ∧ k ≤ 2 * r ∧ hat r k = (2 * r - k, k - r)) ∨ (2 * r < k ∧ k ≤ 3 * r ∧ hat r k = (2 * r - k, r)) ∨
    (3 * r < k ∧ k ≤ 4 * r ∧ hat r k = (-r, 4 * r - k)) ∨ (4 * r < k ∧ k ≤ 5 * r ∧ hat r k = (k - 5 * r, 4 * r - k)) ∨ (5 * r < k ∧ hat r k = (k - 5 * r, -r)) := by
  unfold hat
  by_cases a : k ≤ r
  · exact .inl ⟨a, by rw [if_pos a]⟩
  · rw [if_neg a]
    by_cases b : k ≤ 2 * r
    · exact .inr (.inl ⟨by omega, b, by rw [if_pos b]⟩)
    · rw [if_neg b]
      by_cases c : k ≤ 3 * r
      · exact .inr (.inr (.inl ⟨by omega, c, by rw [if_pos c]⟩))
      · rw [if_neg c]
        by_cases d : k ≤ 4 * r
        · exact .inr (.inr (.inr (.inl ⟨by omega, d, by rw [if_pos d]⟩)))
        · rw [if_neg d]
          by_cases e : k ≤ 5 * r
          · exact .inr (.inr (.inr (.inr (.inl ⟨by omega, e, by rw [if_pos e]⟩))))
          · rw [if_neg e]
            exact .inr (.inr (.inr (.inr (.inr ⟨by omega, rfl⟩))))
/-- The fewest steps to a spot from 0, 0: its ring. -/
def hsz (x y : Int) : Int := max (max (ab x) (ab y)) (ab (x + y))
theorem hsz_nn (x y : Int) : 0 ≤ hsz x y := by unfold hsz ab; omega
theorem hat_sz {r k : Int} (h1 : 1 ≤ r) (h2 : 0 ≤ k) (h3 : k ≤ 6 * r) : hsz (hat r k).1 (hat r k).2 = r := by
  unfold hsz ab
  rcases hat_cases (k := k) h1 with ⟨a, e⟩ | ⟨a, b, e⟩ | ⟨a, b, e⟩ | ⟨a, b, e⟩ | ⟨a, b, e⟩ | ⟨a, e⟩ <;> rw [e] <;> dsimp only <;> omega
/-- Where on its ring a spot lies, from 1 to 6 r. -/
def hoK (r x y : Int) : Int :=
  if x = r ∧ -r < y then y + r else if x + y = r ∧ 0 < y then y + r else if y = r then 2 * r - x else if x = -r then 4 * r - y else if x + y = -r then 4 * r - y else 5 * r + x
theorem hoK_bds {r x y : Int} (h : hsz x y = r) (h1 : 1 ≤ r) : 1 ≤ hoK r x y ∧ hoK r x y ≤ 6 * r := by
  unfold hsz ab at h
  unfold hoK
  split <;> (try split) <;> (try split) <;> (try split) <;> (try split) <;> omega
theorem hat_on {r k : Int} (h1 : 1 ≤ r) (h2 : 1 ≤ k) (h3 : k ≤ 6 * r) : hoK r (hat r k).1 (hat r k).2 = k := by
  unfold hoK
  rcases hat_cases (k := k) h1 with ⟨a, e⟩ | ⟨a, b, e⟩ | ⟨a, b, e⟩ | ⟨a, b, e⟩ | ⟨a, b, e⟩ | ⟨a, e⟩ <;> rw [e] <;> dsimp only <;> split <;> (try split) <;> (try split) <;> (try split) <;> (try split) <;> omega
theorem hon_at {r x y : Int} (h : hsz x y = r) (h1 : 1 ≤ r) : hat r (hoK r x y) = (x, y) := by
  obtain ⟨k, hk⟩ : ∃ k, k = hoK r x y := ⟨_, rfl⟩
  have b := hoK_bds h h1
  rw [← hk] at b ⊢
  unfold hsz ab at h
  unfold hoK at hk
  rcases hat_cases (k := k) h1 with ⟨a, e⟩ | ⟨a, c, e⟩ | ⟨a, c, e⟩ | ⟨a, c, e⟩ | ⟨a, c, e⟩ | ⟨a, e⟩ <;> rw [e] <;> split at hk <;> (try split at hk) <;> (try split at hk) <;> (try split at hk) <;> (try split at hk) <;> apply pair_eq <;> omega
/-- The spot of a number, the number of a spot. -/
noncomputable def hp (n : Int) : Int × Int := if hx n = 0 then (0, 0) else hat (hx n) (n - 3 * hx n * (hx n - 1))
def hn (x y : Int) : Int := if hsz x y = 0 then 0 else 3 * hsz x y * (hsz x y - 1) + hoK (hsz x y) x y
theorem hof_bds {n r : Int} (h : IsHex n r) (h1 : 1 ≤ r) : 1 ≤ n - 3 * r * (r - 1) ∧ n - 3 * r * (r - 1) ≤ 6 * r := by
  have a := h.lo h1
  have b := h.hi
  obtain ⟨c, d⟩ := hex_prod r
  omega
theorem hn_hp (n : Int) (h0 : 0 ≤ n) : hn (hp n).1 (hp n).2 = n := by
  have h := hx_is n h0
  have z := hex_zero h h0
  unfold hp
  by_cases g : hx n = 0
  · rw [if_pos g, z.1 g]
    rfl
  · rw [if_neg g]
    have h1 : 1 ≤ hx n := by have := h.nn; omega
    obtain ⟨b1, b2⟩ := hof_bds h h1
    unfold hn
    rw [hat_sz h1 (by omega) b2, hat_on h1 b1 b2, if_neg g]
    omega
theorem hn_ring (x y : Int) : IsHex (hn x y) (hsz x y) := by
  have h0 := hsz_nn x y
  unfold hn
  by_cases h : hsz x y = 0
  · rw [if_pos h, h]
    exact ⟨by omega, fun h => by omega, by omega⟩
  · rw [if_neg h]
    obtain ⟨b1, b2⟩ := hoK_bds (x := x) (y := y) rfl (by omega)
    obtain ⟨c, d⟩ := hex_prod (hsz x y)
    exact ⟨h0, fun _ => by omega, by omega⟩
theorem hn_nn (x y : Int) : 0 ≤ hn x y := by
  have h := hn_ring x y
  rcases Int.lt_or_le 0 (hsz x y) with h1 | h1
  · have a := h.lo (by omega)
    rw [hex_below] at a
    have := hex_mono (a := 0) (b := hsz x y - 1) (by omega) (by omega)
    omega
  · have h2 : hsz x y = 0 := by have := hsz_nn x y; omega
    unfold hn
    rw [if_pos h2]
    omega
theorem hp_hn (x y : Int) : hp (hn x y) = (x, y) := by
  have h := hn_ring x y
  have e := hx_uniq _ _ (hn_nn x y) h
  unfold hp
  rw [e]
  by_cases h0 : hsz x y = 0
  · rw [if_pos h0]
    unfold hsz ab at h0
    rw [show x = 0 by omega, show y = 0 by omega]
  · rw [if_neg h0]
    have h1 : 1 ≤ hsz x y := by have := hsz_nn x y; omega
    have k : hn x y - 3 * hsz x y * (hsz x y - 1) = hoK (hsz x y) x y := by
      unfold hn
      rw [if_neg h0]
      omega
    rw [k, hon_at rfl h1]
theorem hp_size (n : Int) (h0 : 0 ≤ n) : hsz (hp n).1 (hp n).2 = hx n := by
  have h := hn_ring (hp n).1 (hp n).2
  rw [hn_hp n h0] at h
  exact hex_uniq h (hx_is n h0)
theorem hp_bds (n : Int) (h0 : 0 ≤ n) : -(hx n) ≤ (hp n).1 ∧ (hp n).1 ≤ hx n ∧ -(hx n) ≤ (hp n).2 ∧ (hp n).2 ≤ hx n := by
  have h := hp_size n h0
  unfold hsz ab at h
  omega
theorem hn_le {x y r : Int} (h : hsz x y ≤ r) : hn x y ≤ 3 * r * (r + 1) := by
  have a := (hn_ring x y).hi
  have := hex_mono (a := hsz x y) (b := r) (hsz_nn x y) h
  omega
end Go.Proofs.Ytkhjeleoppdjgac
