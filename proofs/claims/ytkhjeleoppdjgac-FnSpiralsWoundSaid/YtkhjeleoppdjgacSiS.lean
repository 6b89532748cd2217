/- Plain arithmetic of chapter 6, 3: spirals told by the sides of their rings. No program in sight. -/
import Derived.Test.YtkhjeleoppdjgacSiN
namespace Go.Proofs.Ytkhjeleoppdjgac

/-- A spiral: its steps, the length of a side of the ring 1. -/
structure Kd where
  ss : List (Int × Int)
  u : Int
def Kd.m (K : Kd) : Nat := K.ss.length
def Kd.st (K : Kd) (j : Nat) : Int × Int := K.ss.getD j (0, 0)
def sqK : Kd := ⟨[(1, 0), (0, 1), (-1, 0), (0, -1)], 2⟩
def hxK : Kd := ⟨[(1, 0), (0, 1), (-1, 1), (-1, 0), (0, -1), (1, -1)], 1⟩
structure Good (K : Kd) : Prop where
  kd : (K.m = 4 ∧ K.u = 2) ∨ (K.m = 6 ∧ K.u = 1)
  st : ∀ j, -1 ≤ (K.st j).1 ∧ (K.st j).1 ≤ 1 ∧ -1 ≤ (K.st j).2 ∧ (K.st j).2 ≤ 1
theorem Good.u0 {K : Kd} (h : Good K) : 1 ≤ K.u ∧ K.u ≤ 2 := by have := h.kd; omega
theorem Good.m0 {K : Kd} (h : Good K) : 4 ≤ K.m ∧ K.m ≤ 6 := by have := h.kd; omega
theorem getD_of {xs : List (Int × Int)} (h : ∀ p, p ∈ xs → -1 ≤ p.1 ∧ p.1 ≤ 1 ∧ -1 ≤ p.2 ∧ p.2 ≤ 1) (j : Nat) : -1 ≤ (xs.getD j (0, 0)).1 ∧ (xs.getD j (0, 0)).1 ≤ 1 ∧ -1 ≤ (xs.getD j (0, 0)).2 ∧ (xs.getD j (0, 0)).2 ≤ 1 := by
  rcases Nat.lt_or_ge j xs.length with hj | hj
  · have e : xs.getD j (0, 0) = xs[j] := by simp [List.getD, hj]
    rw [e]
    exact h _ (List.getElem_mem hj)
  · have e : xs.getD j (0, 0) = (0, 0) := by simp [List.getD, hj]
    rw [e]
    decide
theorem sq_good : Good sqK := ⟨.inl ⟨rfl, rfl⟩, getD_of (by simp [sqK])⟩
theorem hx_good : Good hxK := ⟨.inr ⟨rfl, rfl⟩, getD_of (by simp [hxK])⟩
/-- The step of the t-th side. -/
def sst (K : Kd) (t : Nat) : Int × Int := K.st ((t + 1) % K.m)
/-- The corner that the t-th side follows, l the length of a side. -/
def cor (K : Kd) (r l : Int) : Nat → Int × Int
  | 0 => (r, -r)
  | t + 1 => ((cor K r l t).1 + l * (sst K t).1, (cor K r l t).2 + l * (sst K t).2)
/-- A spot is the k-th one of the side. -/
def Lies (K : Kd) (r l : Int) (t : Nat) (x y k : Int) : Prop := (cor K r l t).1 + k * (sst K t).1 = x ∧ (cor K r l t).2 + k * (sst K t).2 = y
def kth (K : Kd) (r l : Int) (t : Nat) (x y : Int) : Int := sz (x - (cor K r l t).1) (y - (cor K r l t).2)
def onIt (K : Kd) (r l : Int) (t : Nat) (x y : Int) : Prop := 1 ≤ kth K r l t x y ∧ kth K r l t x y ≤ l ∧ Lies K r l t x y (kth K r l t x y)
/-- What the sides of the ring r tell of the spot x, y: its number is N, b the last one of the ring before. -/
structure Tell (K : Kd) (r b x y N : Int) : Prop where
  on : ∀ t, t < K.m → onIt K r (K.u * r) t x y → b + t * (K.u * r) + kth K r (K.u * r) t x y = N
  off : (∀ t, t < K.m → ¬ onIt K r (K.u * r) t x y) → N = 0
/-- What the sides of the ring r tell of the number n: its spot is x, y. -/
structure Told (K : Kd) (r b n x y : Int) : Prop where
  on : ∀ t, t < K.m → 1 ≤ n - (b + t * (K.u * r)) → n - (b + t * (K.u * r)) ≤ K.u * r → Lies K r (K.u * r) t x y (n - (b + t * (K.u * r)))
  off : (∀ t, t < K.m → ¬ (1 ≤ n - (b + t * (K.u * r)) ∧ n - (b + t * (K.u * r)) ≤ K.u * r)) → x = 0 ∧ y = 0

theorem sfour {t : Nat} (h : t < 4) : t = 0 ∨ t = 1 ∨ t = 2 ∨ t = 3 := by omega
theorem ssix {t : Nat} (h : t < 6) : t = 0 ∨ t = 1 ∨ t = 2 ∨ t = 3 ∨ t = 4 ∨ t = 5 := by omega
theorem sq_u : sqK.u = 2 := rfl
theorem sq_m : sqK.m = 4 := rfl
theorem hx_u : hxK.u = 1 := rfl
theorem hx_m : hxK.m = 6 := rfl
theorem sqt : sst sqK 0 = (0, 1) ∧ sst sqK 1 = (-1, 0) ∧ sst sqK 2 = (0, -1) ∧ sst sqK 3 = (1, 0) := by decide
theorem hxt : sst hxK 0 = (0, 1) ∧ sst hxK 1 = (-1, 1) ∧ sst hxK 2 = (-1, 0) ∧ sst hxK 3 = (0, -1) ∧ sst hxK 4 = (1, -1) ∧ sst hxK 5 = (1, 0) := by decide
theorem sqs (r : Int) : cor sqK r (2 * r) 0 = (r, -r) ∧ cor sqK r (2 * r) 1 = (r, r) ∧ cor sqK r (2 * r) 2 = (-r, r) ∧ cor sqK r (2 * r) 3 = (-r, -r) := by
  obtain ⟨t0, t1, t2, t3⟩ := sqt
  refine ⟨rfl, ?_, ?_, ?_⟩ <;> simp [cor, t0, t1, t2] <;> omega
theorem hxs (r : Int) : cor hxK r (1 * r) 0 = (r, -r) ∧ cor hxK r (1 * r) 1 = (r, 0) ∧ cor hxK r (1 * r) 2 = (0, r) ∧ cor hxK r (1 * r) 3 = (-r, r) ∧ cor hxK r (1 * r) 4 = (-r, 0) ∧ cor hxK r (1 * r) 5 = (0, -r) := by
  obtain ⟨t0, t1, t2, t3, t4, t5⟩ := hxt
  refine ⟨rfl, ?_, ?_, ?_, ?_, ?_⟩ <;> simp [cor, t0, t1, t2, t3, t4] <;> omega
theorem sq_tell (x y : Int) : Tell sqK (sz x y) ((2 * sz x y - 1) * (2 * sz x y - 1) - 1) x y (nu x y) := by
  have h0 := sz_nn x y
  have hn : nu x y = if sz x y = 0 then 0 else (2 * sz x y - 1) * (2 * sz x y - 1) - 1 + onK (sz x y) x y := rfl
  have hk : onK (sz x y) x y = if y = -(sz x y) then x + 7 * sz x y else if x = sz x y then y + sz x y else if y = sz x y then 3 * sz x y - x else 5 * sz x y - y := rfl
  have hs : sz x y = max (max x (-x)) (max y (-y)) := rfl
  generalize nu x y = N at *
  generalize onK (sz x y) x y = k at *
  generalize sz x y = r at *
  generalize (2 * r - 1) * (2 * r - 1) - 1 = b at *
  obtain ⟨s0, s1, s2, s3⟩ := sqs r
  obtain ⟨t0, t1, t2, t3⟩ := sqt
  constructor
  · intro t ht
    rcases sfour ht with rfl | rfl | rfl | rfl <;> simp only [onIt, kth, Lies, sq_u, s0, s1, s2, s3, t0, t1, t2, t3, sz, ab] <;> simp <;> intro a1 a2 a3 a4
    all_goals (split at hn; (first | (exfalso; omega) | skip); split at hk <;> (try split at hk) <;> (try split at hk) <;> omega)
  · intro h
    by_cases hr : r = 0
    · rw [hn, if_pos hr]
    · exfalso
      have c : (x = r ∧ -r < y) ∨ (y = r ∧ x < r) ∨ (x = -r ∧ y < r) ∨ (y = -r ∧ -r < x) := by omega
      clear hn hk
      rcases c with ⟨c, d⟩ | ⟨c, d⟩ | ⟨c, d⟩ | ⟨c, d⟩
      · refine h 0 (by simp [sq_m]) ?_
        simp only [onIt, kth, Lies, sq_u, s0, t0, sz, ab]
        omega
      · refine h 1 (by simp [sq_m]) ?_
        simp only [onIt, kth, Lies, sq_u, s1, t1, sz, ab]
        omega
      · refine h 2 (by simp [sq_m]) ?_
        simp only [onIt, kth, Lies, sq_u, s2, t2, sz, ab]
        omega
      · refine h 3 (by simp [sq_m]) ?_
        simp only [onIt, kth, Lies, sq_u, s3, t3, sz, ab]
        omega
theorem sq_told (n : Int) (hn : 0 ≤ n) : Told sqK (rg n) ((2 * rg n - 1) * (2 * rg n - 1) - 1) n (sp n).1 (sp n).2 := by
  have h := rg_is n hn
  have hz := ring_zero h hn
  have ho := fun h1 => off_bds h h1
  have hs : sp n = if rg n = 0 then (0, 0) else at_ (rg n) (off n (rg n)) := rfl
  have hof : off n (rg n) = n - (2 * rg n - 1) * (2 * rg n - 1) + 1 := rfl
  have h0 := h.nn
  clear h
  generalize sp n = s at *
  generalize off n (rg n) = k at *
  generalize rg n = r at *
  generalize (2 * r - 1) * (2 * r - 1) = b at *
  obtain ⟨s0, s1, s2, s3⟩ := sqs r
  obtain ⟨t0, t1, t2, t3⟩ := sqt
  by_cases hr : r = 0
  · rw [if_pos hr] at hs
    subst hs
    exact ⟨fun t _ a1 a2 => by rw [hr] at a1 a2; omega, fun _ => ⟨rfl, rfl⟩⟩
  · rw [if_neg hr] at hs
    subst hs
    obtain ⟨o1, o2⟩ := ho (by omega)
    have h1 : 1 ≤ r := by omega
    constructor
    · intro t ht
      rcases sfour ht with rfl | rfl | rfl | rfl <;> simp only [Lies, sq_u, s0, s1, s2, s3, t0, t1, t2, t3] <;> simp <;> intro a1 a2
      all_goals (rcases at_cases (k := k) h1 with ⟨a, e⟩ | ⟨a, c, e⟩ | ⟨a, c, e⟩ | ⟨a, e⟩ <;> rw [e] <;> (first | (exfalso; omega) | (constructor <;> simp only <;> omega)))
    · intro hh
      exfalso
      have q0 := hh 0 (by simp [sq_m])
      have q1 := hh 1 (by simp [sq_m])
      have q2 := hh 2 (by simp [sq_m])
      have q3 := hh 3 (by simp [sq_m])
      simp only [sq_u] at q0 q1 q2 q3
      omega
theorem hx_tell (x y : Int) : Tell hxK (hsz x y) (3 * hsz x y * (hsz x y - 1)) x y (hn x y) := by
  have h0 := hsz_nn x y
  have hn' : hn x y = if hsz x y = 0 then 0 else 3 * hsz x y * (hsz x y - 1) + hoK (hsz x y) x y := rfl
  have hk : hoK (hsz x y) x y = if x = hsz x y ∧ -(hsz x y) < y then y + hsz x y else if x + y = hsz x y ∧ 0 < y then y + hsz x y else if y = hsz x y then 2 * hsz x y - x else if x = -(hsz x y) then 4 * hsz x y - y else if x + y = -(hsz x y) then 4 * hsz x y - y else 5 * hsz x y + x := rfl
  have hs : hsz x y = max (max (max x (-x)) (max y (-y))) (max (x + y) (-(x + y))) := rfl
  generalize hn x y = N at *
  generalize hoK (hsz x y) x y = k at *
  generalize hsz x y = r at *
  generalize 3 * r * (r - 1) = b at *
  obtain ⟨s0, s1, s2, s3, s4, s5⟩ := hxs r
  obtain ⟨t0, t1, t2, t3, t4, t5⟩ := hxt
  constructor
  · clear hs
    intro t ht
    rcases ssix ht with rfl | rfl | rfl | rfl | rfl | rfl <;> simp only [onIt, Lies, hx_u, s0, s1, s2, s3, s4, s5, t0, t1, t2, t3, t4, t5] <;> generalize kth _ _ _ _ _ _ = q <;> simp <;> intro a1 a2 a3 a4
    all_goals (rw [if_neg (by omega)] at hn')
    · rw [if_pos (by omega)] at hk
      omega
    · rw [if_neg (by omega), if_pos (by omega)] at hk
      omega
    · rw [if_neg (by omega), if_neg (by omega), if_pos (by omega)] at hk
      omega
    · rw [if_neg (by omega), if_neg (by omega), if_neg (by omega), if_pos (by omega)] at hk
      omega
    · rw [if_neg (by omega), if_neg (by omega), if_neg (by omega), if_neg (by omega), if_pos (by omega)] at hk
      omega
    · rw [if_neg (by omega), if_neg (by omega), if_neg (by omega), if_neg (by omega), if_neg (by omega)] at hk
      omega
  · intro h
    by_cases hr : r = 0
    · rw [hn', if_pos hr]
    · exfalso
      clear hn' hk
      have d0 : x ≤ r ∧ -x ≤ r ∧ y ≤ r ∧ -y ≤ r ∧ x + y ≤ r ∧ -(x + y) ≤ r := by omega
      have d1 : x = r ∨ -x = r ∨ y = r ∨ -y = r ∨ x + y = r ∨ -(x + y) = r := by omega
      clear hs
      have c : (x = r ∧ -r < y ∧ y ≤ 0) ∨ (x + y = r ∧ 0 < y ∧ 0 ≤ x) ∨ (y = r ∧ x < 0 ∧ -r ≤ x) ∨ (x = -r ∧ y < r ∧ 0 ≤ y) ∨ (x + y = -r ∧ y < 0 ∧ x ≤ 0) ∨ (y = -r ∧ 0 < x ∧ x ≤ r) := by omega
      clear d0 d1
      rcases c with ⟨c, d, e⟩ | ⟨c, d, e⟩ | ⟨c, d, e⟩ | ⟨c, d, e⟩ | ⟨c, d, e⟩ | ⟨c, d, e⟩
      · refine h 0 (by simp [hx_m]) ?_
        simp only [onIt, kth, Lies, hx_u, s0, t0, sz, ab]
        omega
      · refine h 1 (by simp [hx_m]) ?_
        simp only [onIt, kth, Lies, hx_u, s1, t1, sz, ab]
        omega
      · refine h 2 (by simp [hx_m]) ?_
        simp only [onIt, kth, Lies, hx_u, s2, t2, sz, ab]
        omega
      · refine h 3 (by simp [hx_m]) ?_
        simp only [onIt, kth, Lies, hx_u, s3, t3, sz, ab]
        omega
      · refine h 4 (by simp [hx_m]) ?_
        simp only [onIt, kth, Lies, hx_u, s4, t4, sz, ab]
        omega
      · refine h 5 (by simp [hx_m]) ?_
        simp only [onIt, kth, Lies, hx_u, s5, t5, sz, ab]
        omega
theorem hx_told (n : Int) (h0 : 0 ≤ n) : Told hxK (hx n) (3 * hx n * (hx n - 1)) n (hp n).1 (hp n).2 := by
  have h := hx_is n h0
  have hz := hex_zero h h0
  have ho := fun h1 => hof_bds h h1
  have hs : hp n = if hx n = 0 then (0, 0) else hat (hx n) (n - 3 * hx n * (hx n - 1)) := rfl
  have h0 := h.nn
  clear h
  generalize hp n = s at *
  generalize hx n = r at *
  generalize 3 * r * (r - 1) = b at *
  obtain ⟨s0, s1, s2, s3, s4, s5⟩ := hxs r
  obtain ⟨t0, t1, t2, t3, t4, t5⟩ := hxt
  by_cases hr : r = 0
  · rw [if_pos hr] at hs
    subst hs
    exact ⟨fun t _ a1 a2 => by rw [hr] at a1 a2; omega, fun _ => ⟨rfl, rfl⟩⟩
  · rw [if_neg hr] at hs
    subst hs
    obtain ⟨o1, o2⟩ := ho (by omega)
    have h1 : 1 ≤ r := by omega
    obtain ⟨k, hk⟩ : ∃ k, k = n - b := ⟨_, rfl⟩
    rw [← hk] at o1 o2 ⊢
    constructor
    · intro t ht
      rcases ssix ht with rfl | rfl | rfl | rfl | rfl | rfl <;> simp only [Lies, hx_u, s0, s1, s2, s3, s4, s5, t0, t1, t2, t3, t4, t5] <;> simp <;> intro a1 a2
      all_goals (rcases hat_cases (k := k) h1 with ⟨a, e⟩ | ⟨a, c, e⟩ | ⟨a, c, e⟩ | ⟨a, c, e⟩ | ⟨a, c, e⟩ | ⟨a, e⟩ <;> rw [e] <;> (first | (exfalso; omega) | (constructor <;> simp only <;> omega)))
    · intro hh
      exfalso
      have q0 := hh 0 (by simp [hx_m])
      have q1 := hh 1 (by simp [hx_m])
      have q2 := hh 2 (by simp [hx_m])
      have q3 := hh 3 (by simp [hx_m])
      have q4 := hh 4 (by simp [hx_m])
      have q5 := hh 5 (by simp [hx_m])
      simp only [hx_u] at q0 q1 q2 q3 q4 q5
      omega
end Go.Proofs.Ytkhjeleoppdjgac
