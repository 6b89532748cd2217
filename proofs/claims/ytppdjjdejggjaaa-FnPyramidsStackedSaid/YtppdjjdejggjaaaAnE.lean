/- What the functions of chapter 3 that take numbers answer, as plain functions, and how they hang together. No program in sight. -/
import Derived.Test.YtppdjjdejggjaaaAnB
import Derived.Test.YtppdjjdejggjaaaSeq
import Derived.Test.YtppdjjdejggjaaaSx
namespace Go.Proofs.Ytppdjjdejggjaaa

def ksB (k : Int) : Bool := decide (0 ≤ k ∧ k ≤ 2000)
def kcB (k : Int) : Bool := decide (1 ≤ k ∧ k ≤ 2000)
def pyB (s k : Int) : Bool := decide ((3 ≤ s ∧ s ≤ 24) ∧ 0 ≤ k ∧ k ≤ 2000)
def pyV (s k : Int) : Int := bif pyB s k then pyr s k else 0
def ocV (k : Int) : Int := bif ksB k then k * (2 * k * k + 1) / 3 else 0
def cuW (k : Int) : Int := bif ksB k then k * k * k else 0
def srV (k : Int) : Int := bif ksB k then k * (2 * k * k - 1) else 0
def sqV (k : Int) : Int := bif ksB k then pyr 4 k else 0
def cbV (k : Int) : Int := bif ksB k then num 3 k * num 3 k else 0
def ccV (k : Int) : Int := bif kcB k then k * k * k + (k - 1) * (k - 1) * (k - 1) else 0
def smB (d k : Int) : Bool := decide ((1 ≤ d ∧ d ≤ 8) ∧ 0 ≤ k ∧ k ≤ 2000) && decide (sx k d.toNat ≤ 1000000000000)
def smV (d k : Int) : Int := bif smB d k then sx k d.toNat else 0
def dsB (d n : Int) : Bool := decide ((1 ≤ d ∧ d ≤ 8) ∧ 0 ≤ n ∧ n ≤ 1000000000000)
def spB (d n : Int) : Bool := dsB d n && decide (sx (sl (d.toNat - 1) n 2000 : Nat) d.toNat = n)
def spV (d n : Int) : Int := bif spB d n then (sl (d.toNat - 1) n 2000 : Nat) else 0

/-- Choices, told as Pascal does: of i out of k + i - 1. -/
def pas : Nat → Nat → Int
  | _, 0 => 1
  | 0, _ + 1 => 0
  | k + 1, i + 1 => pas k (i + 1) + pas (k + 1) i
theorem pas_b (k : Nat) (h : ∀ i : Nat, ((i : Int) + 1) * pas k (i + 1) = pas k i * ((k : Int) + i)) (i : Nat) : pas (k + 1) i * (k : Int) = pas k i * ((k : Int) + i) := by
  induction i with
  | zero => simp [pas]
  | succ i ih =>
    have a := h i
    have e : pas (k + 1) (i + 1) = pas k (i + 1) + pas (k + 1) i := by rw [pas]
    rw [e]
    push_cast
    generalize pas k (i + 1) = x at *
    generalize pas (k + 1) i = y at *
    generalize pas k i = z at *
    grind
theorem pas_a (k : Nat) : ∀ i : Nat, ((i : Int) + 1) * pas k (i + 1) = pas k i * ((k : Int) + i) := by
  induction k with
  | zero =>
    intro i
    cases i <;> simp [pas]
  | succ k ih =>
    intro i
    have b := pas_b k ih i
    have a := ih i
    have e : pas (k + 1) (i + 1) = pas k (i + 1) + pas (k + 1) i := by rw [pas]
    rw [e]
    push_cast
    generalize pas k (i + 1) = x at *
    generalize pas (k + 1) i = y at *
    generalize pas k i = z at *
    grind
theorem pas_nn (k i : Nat) : 0 ≤ pas k i := by
  induction k generalizing i with
  | zero => cases i <;> simp [pas]
  | succ k ih =>
    induction i with
    | zero => simp [pas]
    | succ i ihi => have := ih (i + 1); rw [pas]; omega

/-- A number of a simplex that is not cut off is the choice. -/
theorem sx_pas (k : Nat) (h1 : 1 ≤ k) (i : Nat) (h : sx (k : Int) i ≤ 1000000000000) : sx (k : Int) i = pas k i := by
  induction i with
  | zero => simp [sx, pas]
  | succ i ih =>
    have hi : sx (k : Int) i ≤ 1000000000000 := by
      rcases Int.lt_or_le 1000000000000 (sx (k : Int) i) with a | a
      · have b := sx_le (k : Int) i
        have c := sx_stay (k : Int) (by omega) i (by omega)
        omega
      · exact a
    have e := ih hi
    have p := pas_a k i
    have q : sx (k : Int) i * ((k : Int) + ((i : Int) + 1) - 1) / ((i : Int) + 1) = pas k (i + 1) := by
      rw [e, show (k : Int) + ((i : Int) + 1) - 1 = (k : Int) + i from by omega, ← p]
      exact Int.mul_ediv_cancel_left _ (by omega)
    rw [sx_succ, q] at h ⊢
    unfold cutOff at h ⊢
    split at h
    · rw [if_pos (by assumption)]
    · omega
theorem sx_pred {k : Nat} (h1 : 1 ≤ k) {i : Nat} (h : sx (k : Int) (i + 1) ≤ 1000000000000) : sx (k : Int) i ≤ 1000000000000 := by
  rcases Int.lt_or_le 1000000000000 (sx (k : Int) i) with a | a
  · have b := sx_le (k : Int) i
    have c := sx_stay (k : Int) (by omega) i (by omega)
    omega
  · exact a

/-- The first part: what is made of one k. -/
structure Sol (k : Int) : Prop where
  k0 : 0 ≤ k
  k1 : k ≤ 2000
  y : pyB 4 k = true
  ye : sqV k = pyV 4 k
  p : pnB 3 k = true
  pe : pnV 3 k * pnV 3 k = cbV k
  p0 : 0 ≤ pnV 3 k * pnV 3 k
  p1 : pnV 3 k * pnV 3 k ≤ 5000000000000
theorem ks_iff {k : Int} : ksB k = true ↔ 0 ≤ k ∧ k ≤ 2000 := by simp [ksB]
theorem sol_of {k : Int} (h : ksB k = true) : Sol k := by
  obtain ⟨h0, h1⟩ := ks_iff.1 h
  have y : pyB 4 k = true := by simp [pyB]; omega
  have p : pnB 3 k = true := by simp [pnB]; omega
  have e : pnV 3 k = num 3 k := by simp [pnV, p]
  have a := num_nn 3 k (by omega)
  have t := num_twice 3 k
  have b := sq_le k 2000 (by omega) h1
  have c : num 3 k ≤ 2001000 := by
    have : (3 - 2 : Int) * k * k = k * k := by grind
    have : (3 - 4 : Int) * k = -k := by grind
    omega
  have d := sq_le (num 3 k) 2001000 (by omega) c
  exact ⟨h0, h1, y, by simp [pyV, y, sqV, h], p, by simp [e, cbV, h], sq_nn _, by rw [e]; omega⟩
/-- .. and of the one before it. -/
structure Sod (k : Int) : Prop where
  c : kcB k = true
  y4 : pyB 4 (k - 1) = true
  y3 : pyB 3 (k - 1) = true
  b : ksB (k - 1) = true
  o : pyV 4 k + pyV 4 (k - 1) = ocV k
  s : ocV k + 8 * pyV 3 (k - 1) = srV k
  cc : cuW k + cuW (k - 1) = ccV k
  cb : cbV (k - 1) + cuW k = cbV k
  b1 : 0 ≤ pyV 4 k
  b2 : pyV 4 k ≤ 10000000000
  b3 : 0 ≤ pyV 4 (k - 1)
  b4 : pyV 4 (k - 1) ≤ 10000000000
  b5 : 0 ≤ pyV 3 (k - 1)
  b6 : pyV 3 (k - 1) ≤ 10000000000
  b7 : 0 ≤ cuW k
  b8 : cuW k ≤ 10000000000
  b9 : 0 ≤ cuW (k - 1)
  b10 : cuW (k - 1) ≤ 10000000000
  b11 : 0 ≤ cbV (k - 1)
  b12 : cbV (k - 1) ≤ 5000000000000
  b13 : 0 ≤ ocV k
  b14 : ocV k ≤ 20000000000
theorem cube_bds (k : Int) (h0 : 0 ≤ k) (h1 : k ≤ 2000) : 0 ≤ k * k * k ∧ k * k * k ≤ 8000000000 := by
  have a := sq_nn k
  have b := sq_le k 2000 (by omega) h1
  have c := Int.mul_nonneg (a := k * k) (b := k) a h0
  have d := Int.mul_nonneg (a := 4000000 - k * k) (b := k) (by omega) h0
  have e : (4000000 - k * k) * k = 4000000 * k - k * k * k := by grind
  omega
theorem pyr_low (s k : Int) (hs : 3 ≤ s) (hs2 : s ≤ 4) (h0 : 0 ≤ k) (h1 : k ≤ 2000) : 0 ≤ pyr s k ∧ pyr s k ≤ 9000000000 := by
  obtain ⟨c0, c1⟩ := cube_bds k h0 h1
  have t := pyr_six s k
  have q := sq_nn k
  have q1 := sq_le k 2000 (by omega) h1
  rcases (show s = 3 ∨ s = 4 by omega) with rfl | rfl
  · have e : k * (k + 1) * ((3 - 2) * k - (3 - 5)) = k * k * k + 3 * (k * k) + 2 * k := by grind
    omega
  · have e : k * (k + 1) * ((4 - 2) * k - (4 - 5)) = 2 * (k * k * k) + 3 * (k * k) + k := by grind
    omega
theorem sod_of {k : Int} (h : ksB k = true) (hk : 0 < k) : Sod k := by
  obtain ⟨h0, h1⟩ := ks_iff.1 h
  have c : kcB k = true := by simp [kcB]; omega
  have b : ksB (k - 1) = true := by simp [ksB]; omega
  have y4 : pyB 4 (k - 1) = true := by simp [pyB]; omega
  have y3 : pyB 3 (k - 1) = true := by simp [pyB]; omega
  have y : pyB 4 k = true := by simp [pyB]; omega
  have t4 := pyr_six 4 k
  have t4' := pyr_six 4 (k - 1)
  have t3' := pyr_six 3 (k - 1)
  have n1 := num_twice 3 k
  have n2 := num_twice 3 (k - 1)
  have c1 := cube_bds k h0 h1
  have c2 := cube_bds (k - 1) (by omega) (by omega)
  have a1 := pyr_low 4 k (by omega) (by omega) h0 h1
  have a2 := pyr_low 4 (k - 1) (by omega) (by omega) (by omega) (by omega)
  have a3 := pyr_low 3 (k - 1) (by omega) (by omega) (by omega) (by omega)
  have o3 : k * (2 * k * k + 1) = 3 * (pyr 4 k + pyr 4 (k - 1)) := by grind
  have eo : ocV k = pyr 4 k + pyr 4 (k - 1) := by
    simp only [ocV, h, cond_true]
    rw [o3]
    exact Int.mul_ediv_cancel_left _ (by omega)
  have ey : pyV 4 k = pyr 4 k := by simp [pyV, y]
  have ey4 : pyV 4 (k - 1) = pyr 4 (k - 1) := by simp [pyV, y4]
  have ey3 : pyV 3 (k - 1) = pyr 3 (k - 1) := by simp [pyV, y3]
  have ec : cuW k = k * k * k := by simp [cuW, h]
  have ec' : cuW (k - 1) = (k - 1) * (k - 1) * (k - 1) := by simp [cuW, b]
  have e1 : cbV k = num 3 k * num 3 k := by simp [cbV, h]
  have e2 : cbV (k - 1) = num 3 (k - 1) * num 3 (k - 1) := by simp [cbV, b]
  have e3 : srV k = k * (2 * k * k - 1) := by simp [srV, h]
  have e4 : ccV k = k * k * k + (k - 1) * (k - 1) * (k - 1) := by simp [ccV, c]
  have s0 := (sol_of b).p1
  have s1 := (sol_of b).pe
  have s2 := (sol_of b).p0
  have u := num_succ 3 (k - 1)
  rw [show k - 1 + 1 = k from by omega] at u
  have z : num 3 k - num 3 (k - 1) = k := by grind
  have z2 : num 3 k + num 3 (k - 1) = k * k := by grind
  refine ⟨c, y4, y3, b, by rw [ey, ey4, eo], ?_, by rw [ec, ec', e4], ?_, by omega, by omega, by omega, by omega, by omega, by omega, by omega, by omega, by omega, by omega, by omega, by omega, by omega, by omega⟩
  · rw [eo, ey3, e3]; grind
  · rw [e1, e2, ec]; grind

/-- The second part: a simplex and its place. -/
structure Smp (d m : Int) : Prop where
  e : smB d m = true
  b : spB d (smV d m) = true
  v : spV d (smV d m) = m
  d0 : 1 ≤ d
  d1 : d ≤ 8
  m0 : 0 ≤ m
  m1 : m ≤ 2000
  n0 : 0 ≤ smV d m
  n1 : smV d m ≤ 1000000000000
theorem sm_iff {d m : Int} : smB d m = true ↔ ((1 ≤ d ∧ d ≤ 8) ∧ 0 ≤ m ∧ m ≤ 2000) ∧ sx m d.toNat ≤ 1000000000000 := by simp [smB]
theorem smp_of {d m : Int} (h : smB d m = true) : Smp d m := by
  obtain ⟨⟨⟨d0, d1⟩, m0, m1⟩, hx⟩ := sm_iff.1 h
  have v : smV d m = sx m d.toNat := by simp [smV, h]
  have n0 := sx_nn m m0 d.toNat
  obtain ⟨i, rfl⟩ : ∃ i : Nat, d = ((i + 1 : Nat) : Int) := ⟨(d - 1).toNat, by omega⟩
  obtain ⟨k, rfl⟩ := Int.eq_ofNat_of_zero_le m0
  simp only [Int.toNat_natCast] at *
  have f := sl_first i (sx (k : Int) (i + 1)) n0 hx k (by omega) rfl
  have e : spB ((i + 1 : Nat) : Int) (smV ((i + 1 : Nat) : Int) (k : Int)) = true := by
    rw [v]
    simp only [spB, Int.toNat_natCast, Nat.add_sub_cancel]
    rw [← f]
    simp [dsB]
    omega
  refine ⟨h, e, ?_, d0, d1, m0, m1, by rw [v]; exact n0, by rw [v]; exact hx⟩
  simp only [spV, e, cond_true, Int.toNat_natCast, Nat.add_sub_cancel]
  rw [v, ← f]
theorem smp_one {d m : Int} (h : smB d m = true) (hd : d = 1) : smV d m = m := by
  obtain ⟨⟨⟨d0, d1⟩, m0, m1⟩, hx⟩ := sm_iff.1 h
  have v : smV d m = sx m d.toNat := by simp [smV, h]
  rw [v, hd]
  exact sx_one m m1
structure Smq (d m : Int) : Prop where
  a : smB d (m - 1) = true
  b : smB (d - 1) m = true
  s : smV d (m - 1) + smV (d - 1) m = smV d m
  n0 : 0 ≤ smV d (m - 1)
  n1 : smV d (m - 1) ≤ 1000000000000
  n2 : 0 ≤ smV (d - 1) m
  n3 : smV (d - 1) m ≤ 1000000000000
theorem smq_of {d m : Int} (h : smB d m = true) (hd : 1 < d) (hm : 0 < m) : Smq d m := by
  obtain ⟨⟨⟨d0, d1⟩, m0, m1⟩, hx⟩ := sm_iff.1 h
  have v : smV d m = sx m d.toNat := by simp [smV, h]
  obtain ⟨i, rfl⟩ : ∃ i : Nat, d = ((i + 2 : Nat) : Int) := ⟨(d - 2).toNat, by omega⟩
  obtain ⟨k, rfl⟩ : ∃ k : Nat, m = ((k + 1 : Nat) : Int) := ⟨(m - 1).toNat, by omega⟩
  have e1 : ((i + 2 : Nat) : Int) - 1 = ((i + 1 : Nat) : Int) := by omega
  have e2 : ((k + 1 : Nat) : Int) - 1 = (k : Int) := by omega
  simp only [Int.toNat_natCast] at *
  have l : sx (k : Int) (i + 2) ≤ sx ((k + 1 : Nat) : Int) (i + 2) := sx_le_of (k : Int) ((k + 1 : Nat) : Int) (by omega) (by omega) (by omega) (i + 1)
  have p := sx_pred (k := k + 1) (by omega) (i := i + 1) hx
  have a : smB ((i + 2 : Nat) : Int) (k : Int) = true := sm_iff.2 ⟨by omega, by simp only [Int.toNat_natCast]; omega⟩
  have b : smB ((i + 1 : Nat) : Int) ((k + 1 : Nat) : Int) = true := sm_iff.2 ⟨by omega, by simp only [Int.toNat_natCast]; exact p⟩
  have va : smV ((i + 2 : Nat) : Int) (k : Int) = sx (k : Int) (i + 2) := by simp only [smV, a, cond_true, Int.toNat_natCast]
  have vb : smV ((i + 1 : Nat) : Int) ((k + 1 : Nat) : Int) = sx ((k + 1 : Nat) : Int) (i + 1) := by simp only [smV, b, cond_true, Int.toNat_natCast]
  have x1 := sx_pas (k + 1) (by omega) (i + 2) hx
  have x2 := sx_pas (k + 1) (by omega) (i + 1) p
  have x3 : sx (k : Int) (i + 2) = pas k (i + 2) := by
    rcases Nat.eq_zero_or_pos k with rfl | hk
    · rw [show ((0 : Nat) : Int) = 0 from rfl, sx_zero (i + 1)]; simp [pas]
    · exact sx_pas k hk (i + 2) (by omega)
  have e : pas (k + 1) (i + 2) = pas k (i + 2) + pas (k + 1) (i + 1) := by rw [pas]
  constructor <;> (try rw [e1]) <;> (try rw [e2])
  · exact a
  · exact b
  · rw [va, vb, v, x1, x2, x3, e]
  · rw [va, x3]; exact pas_nn _ _
  · rw [va]; omega
  · rw [vb, x2]; exact pas_nn _ _
  · rw [vb]; omega
theorem smp_three {d m : Int} (h : smB d m = true) (hd : d = 3) : pyB 3 m = true ∧ pyV 3 m = smV d m := by
  obtain ⟨⟨⟨d0, d1⟩, m0, m1⟩, hx⟩ := sm_iff.1 h
  have v : smV d m = sx m d.toNat := by simp [smV, h]
  have y : pyB 3 m = true := by simp [pyB]; omega
  refine ⟨y, ?_⟩
  subst hd
  have w : pyV 3 m = pyr 3 m := by simp [pyV, y]
  rw [v, w, show Int.toNat 3 = 3 from rfl]
  rw [show Int.toNat 3 = 3 from rfl] at hx
  obtain ⟨k, rfl⟩ := Int.eq_ofNat_of_zero_le m0
  rcases Nat.eq_zero_or_pos k with rfl | hk
  · rw [show ((0 : Nat) : Int) = 0 from rfl, sx_zero 2, pyr_zero]
  · rw [sx_pas k hk 3 hx]
    have a1 := pas_a k 0
    have a2 := pas_a k 1
    have a3 := pas_a k 2
    have t := pyr_six 3 (k : Int)
    simp [pas] at a1 a2 a3 t
    generalize pas k 1 = x at *
    generalize pas k 2 = y at *
    generalize pas k 3 = z at *
    grind
/-- The third part: a place and its simplex. -/
theorem spl_of {e n : Int} (h : spB e n = true) : smB e (spV e n) = true ∧ smV e (spV e n) = n := by
  have h' := h
  simp only [spB, Bool.and_eq_true, dsB, decide_eq_true_eq] at h'
  obtain ⟨⟨⟨e0, e1⟩, n0, n1⟩, hx⟩ := h'
  have l := (sl_is (e.toNat - 1) n 2000 (by omega)).1
  have v : spV e n = (sl (e.toNat - 1) n 2000 : Nat) := by simp [spV, h]
  have b : smB e (spV e n) = true := sm_iff.2 ⟨⟨⟨e0, e1⟩, by rw [v]; omega, by rw [v]; omega⟩, by rw [v, hx]; exact n1⟩
  exact ⟨b, by simp only [smV, b, cond_true]; rw [v, hx]⟩
end Go.Proofs.Ytppdjjdejggjaaa
