/- Chapter 5: squares apart, odd runs, rectangles, odd sums of powers: what they answer as plain functions, and how they hang together. No program in sight. -/
import Derived.Test.YtcfpdlkkniilpaaGreatDoorRuN
import Derived.Test.YtcfpdlkkniilpaaGreatDoorRuH
import Derived.Test.YtcfpdlkkniilpaaGreatDoorRuI
namespace Go.Proofs.YtcfpdlkkniilpaaGreatDoor

def ruB (n : Int) : Bool := decide (1 ≤ n ∧ n ≤ 1000000)
noncomputable def apL (n : Int) : List (List Int) := bif ruB n then ((alikes n).map sqR).reverse else []
noncomputable def odL (n : Int) : List (Int × Int) := bif ruB n then (alikes n).map oddR else []
noncomputable def reL (n : Int) : List (List Int) := bif ruB n then (facs n).map abL else []
noncomputable def csV (n : Int) : Int := (apL n).length
noncomputable def msP (n : Int) : Int × Int := bif ruB n then (facs n).getLastD (0, 0) else (0, 0)
noncomputable def msA (n : Int) : Int := (msP n).1
noncomputable def msB (n : Int) : Int := (msP n).2
def qbB (k : Int) : Bool := decide (1 ≤ k ∧ k ≤ 1000)
def qbF (k : Int) : Int := bif qbB k then k ^ 2 - k + 1 else 0
def qbK (k : Int) : Int := bif qbB k then k else 0
def pwB (m e : Int) : Bool := decide ((1 ≤ m ∧ m ≤ 100) ∧ 2 ≤ e ∧ e ≤ 6)
def pwF (m e : Int) : Int := bif pwB m e then m ^ (e.toNat - 1) - m + 1 else 0
def pwK (m e : Int) : Int := bif pwB m e then m else 0
theorem ru_iff {n : Int} : ruB n = true ↔ 1 ≤ n ∧ n ≤ 1000000 := by simp [ruB]
theorem ru_no {n : Int} (h : ruB n = false) : n < 1 ∨ 1000000 < n := by simp [ruB] at h; omega

/-- Row i of the squares apart, and the odd run between them. -/
structure ApR (n : Int) (i : Nat) (x y : Int) : Prop where
  row : (apL n)[i]? = some [x, y]
  odd : (odL n)[(apL n).length - 1 - i]? = some (2 * y + 1, x - y)
  lt : y < x
  y0 : 0 ≤ y
  x1 : x ≤ 1000000
  sq : x * x - y * y = n
  xx : 0 ≤ x * x ∧ x * x ≤ 1000000000000
  yy : 0 ≤ y * y ∧ y * y ≤ 1000000000000
  before : ∀ j z t, i = j + 1 → (apL n)[j]? = some [z, t] → z < x
theorem apR_of {n : Int} (h : ruB n = true) (i : Nat) (hi : i < (apL n).length) : ∃ x y, ApR n i x y := by
  obtain ⟨h0, h1⟩ := ru_iff.1 h
  have ea : apL n = ((alikes n).map sqR).reverse := by rw [apL, h, cond_true]
  have eo : odL n = (alikes n).map oddR := by rw [odL, h, cond_true]
  have hl : (apL n).length = (alikes n).length := by rw [ea]; simp
  have hx : ∀ j, j < (alikes n).length → (apL n)[j]? = ((alikes n)[(alikes n).length - 1 - j]?).map sqR := fun j hj => by
    rw [ea, List.getElem?_reverse (by simpa using hj)]
    simp
  have hj : (alikes n).length - 1 - i < (alikes n).length := by omega
  have hm : (alikes n)[(alikes n).length - 1 - i] ∈ alikes n := List.getElem_mem hj
  obtain ⟨p, hp⟩ : ∃ p, p = (alikes n)[(alikes n).length - 1 - i] := ⟨_, rfl⟩
  rw [← hp] at hm
  obtain ⟨a, b⟩ := p
  obtain ⟨a1, ab, mul, par⟩ := (mem_alikes n h0 (a, b)).1 hm
  simp only at a1 ab mul par
  have b1 : b ≤ n := by
    have := Int.mul_le_mul_of_nonneg_right a1 (show 0 ≤ b by omega)
    omega
  have hr : (apL n)[i]? = some [(a + b) / 2, (b - a) / 2] := by
    rw [hx i (by omega), List.getElem?_eq_getElem hj, ← hp]
    rfl
  have ho : (odL n)[(apL n).length - 1 - i]? = some (b - a + 1, a) := by
    rw [eo, hl, List.getElem?_map, List.getElem?_eq_getElem hj, ← hp]
    rfl
  have e1 : 2 * ((b - a) / 2) = b - a := by omega
  have e2 : 2 * ((a + b) / 2) = a + b := by omega
  have lt : (b - a) / 2 < (a + b) / 2 := by omega
  refine ⟨(a + b) / 2, (b - a) / 2, hr, ?_, lt, by omega, by omega, ?_, ?_, ?_, ?_⟩
  · rw [ho, show 2 * ((b - a) / 2) + 1 = b - a + 1 from by omega, show (a + b) / 2 - (b - a) / 2 = a from by omega]
  · generalize (b - a) / 2 = y at *
    generalize (a + b) / 2 = x at *
    have ea : a = x - y := by omega
    have eb : b = x + y := by omega
    rw [ea, eb] at mul
    grind
  · have q0 : 0 ≤ (a + b) / 2 := by omega
    have q1 : (a + b) / 2 ≤ 1000000 := by omega
    exact ⟨Int.mul_nonneg q0 q0, by have := Int.mul_le_mul q1 q1 q0 (by omega); omega⟩
  · have q0 : 0 ≤ (b - a) / 2 := by omega
    have q1 : (b - a) / 2 ≤ 1000000 := by omega
    exact ⟨Int.mul_nonneg q0 q0, by have := Int.mul_le_mul q1 q1 q0 (by omega); omega⟩
  · rintro j z t rfl hz
    have hj2 : (alikes n).length - 1 - j < (alikes n).length := by omega
    rw [hx j (by omega), List.getElem?_eq_getElem hj2] at hz
    have hlt : (alikes n).length - 1 - (j + 1) < (alikes n).length - 1 - j := by omega
    have pw := List.pairwise_iff_getElem.1 (sq_falls n h0) _ _ hj hj2 hlt
    simp only [Option.map_some, Option.some.injEq, sqR, List.cons.injEq, and_true] at hz
    rw [← hp] at pw
    simp only at pw
    omega
theorem ap_len {n : Int} (h : ruB n = true) : (odL n).length = (apL n).length ∧ (apL n).length ≤ 1500 ∧ ((apL n).length = 0 ↔ n % 4 = 2) := by
  obtain ⟨h0, h1⟩ := ru_iff.1 h
  have ea : apL n = ((alikes n).map sqR).reverse := by rw [apL, h, cond_true]
  have eo : odL n = (alikes n).map oddR := by rw [odL, h, cond_true]
  have hl : (apL n).length = (alikes n).length := by rw [ea]; simp
  refine ⟨by rw [eo, hl]; simp, by rw [hl]; exact alikes_len n h0 h1, ?_⟩
  rw [hl]
  constructor
  · intro hz
    have hz : alikes n = [] := List.eq_nil_of_length_eq_zero hz
    rcases Int.emod_two_eq n with e | e
    · by_cases e4 : n % 4 = 0
      · have hm := (mem_alikes n h0 (2, n / 2)).2 ⟨by simp, by simp only; omega, by simp only; omega, by simp only; omega⟩
        rw [hz] at hm
        cases hm
      · omega
    · have hm := (mem_alikes n h0 (1, n)).2 ⟨by simp, by simp only; omega, by simp only; omega, by simp only; omega⟩
      rw [hz] at hm
      cases hm
  · intro h4
    rcases Nat.eq_zero_or_pos (alikes n).length with hz | hz
    · exact hz
    · obtain ⟨a1, ab, mul, par⟩ := (mem_alikes n h0 _).1 (List.getElem_mem hz)
      generalize (alikes n)[0] = p at *
      obtain ⟨a, b⟩ := p
      simp only at a1 ab mul par
      rcases Int.emod_two_eq a with e | e
      · obtain ⟨c, rfl⟩ : ∃ c, a = 2 * c := ⟨a / 2, by omega⟩
        obtain ⟨d, rfl⟩ : ∃ d, b = 2 * d := ⟨b / 2, by omega⟩
        have : 2 * c * (2 * d) = 4 * (c * d) := by grind
        omega
      · obtain ⟨c, rfl⟩ : ∃ c, a = 2 * c + 1 := ⟨a / 2, by omega⟩
        obtain ⟨d, rfl⟩ : ∃ d, b = 2 * d + 1 := ⟨b / 2, by omega⟩
        have : (2 * c + 1) * (2 * d + 1) = 2 * (2 * (c * d) + c + d) + 1 := by grind
        omega
/-- Row i of the rectangles. -/
structure ReR (n : Int) (i : Nat) (x y : Int) : Prop where
  row : (reL n)[i]? = some [x, y]
  le : x ≤ y
  x1 : 1 ≤ x
  y1 : y ≤ 1000000
  mul : x * y = n
  before : ∀ j z t, i = j + 1 → (reL n)[j]? = some [z, t] → z < x
theorem reR_of {n : Int} (h : ruB n = true) (i : Nat) (hi : i < (reL n).length) : ∃ x y, ReR n i x y := by
  obtain ⟨h0, h1⟩ := ru_iff.1 h
  have er : reL n = (facs n).map abL := by rw [reL, h, cond_true]
  have hl : (reL n).length = (facs n).length := by rw [er]; simp
  have hj : i < (facs n).length := by omega
  have hx : ∀ j, (reL n)[j]? = ((facs n)[j]?).map abL := fun j => by rw [er, List.getElem?_map]
  obtain ⟨p, hp⟩ : ∃ p, p = (facs n)[i] := ⟨_, rfl⟩
  have hm : (facs n)[i] ∈ facs n := List.getElem_mem hj
  rw [← hp] at hm
  obtain ⟨a, b⟩ := p
  obtain ⟨a1, ab, mul⟩ := (mem_facs n h0 (a, b)).1 hm
  simp only at a1 ab mul
  have b1 : b ≤ n := by
    have := Int.mul_le_mul_of_nonneg_right a1 (show 0 ≤ b by omega)
    omega
  refine ⟨a, b, ?_, ab, a1, by omega, mul, ?_⟩
  · rw [hx, List.getElem?_eq_getElem hj, ← hp]; rfl
  · rintro j z t rfl hz
    have hj2 : j < (facs n).length := by omega
    rw [hx j, List.getElem?_eq_getElem hj2] at hz
    have pw := (List.pairwise_iff_getElem.1 (facs_lt n h0) j (j + 1) hj2 hj (by omega)).1
    simp only [Option.map_some, Option.some.injEq, abL, List.cons.injEq, and_true] at hz
    rw [← hp] at pw
    simp only at pw
    omega
structure ReE (n : Int) : Prop where
  ne : 1 ≤ (reL n).length
  few : (reL n).length ≤ 1500
  last : (reL n)[(reL n).length - 1]? = some [msA n, msB n]
  first : ∃ y, (reL n)[0]? = some [1, y]
theorem reE_of {n : Int} (h : ruB n = true) : ReE n := by
  obtain ⟨h0, h1⟩ := ru_iff.1 h
  have er : reL n = (facs n).map abL := by rw [reL, h, cond_true]
  have hl : (reL n).length = (facs n).length := by rw [er]; simp
  have hm := (mem_facs n h0 (1, n)).2 ⟨by simp, by simp only; omega, by simp only; omega⟩
  have hp : 1 ≤ (facs n).length := List.length_pos_of_mem hm
  refine ⟨by omega, by rw [hl]; exact facs_len n h0 (by omega), ?_, ?_⟩
  · rw [hl, er, List.getElem?_map, List.getElem?_eq_getElem (show (facs n).length - 1 < (facs n).length by omega)]
    have : (facs n).getLastD (0, 0) = (facs n)[(facs n).length - 1] := by
      rw [List.getLastD_eq_getLast?, List.getLast?_eq_getElem?, List.getElem?_eq_getElem (by omega)]
      rfl
    rw [msA, msB, msP, h, cond_true, this]
    rfl
  · rw [er, List.getElem?_map, List.getElem?_eq_getElem (show 0 < (facs n).length by omega)]
    obtain ⟨j, hj, he⟩ := List.getElem_of_mem hm
    have hx : (facs n)[0] ∈ facs n := List.getElem_mem _
    obtain ⟨a1, _, _⟩ := (mem_facs n h0 _).1 hx
    rcases Nat.eq_zero_or_pos j with rfl | hj0
    · exact ⟨n, by rw [he]; rfl⟩
    · have pw := (List.pairwise_iff_getElem.1 (facs_lt n h0) 0 j (by omega) hj hj0).1
      rw [he] at pw
      simp only at pw
      omega
theorem ms_last {n a : Int} (h0 : 1 ≤ n) (h1 : n ≤ 1000000) (h : LastF n a) : msA n = a ∧ msB n = n / a := by
  obtain ⟨M, hl, hx, _⟩ := lastF_at n a h0 h1 h
  have hb : ruB n = true := ru_iff.2 ⟨h0, h1⟩
  have : (facs n).getLastD (0, 0) = (a, n / a) := by
    rw [List.getLastD_eq_getLast?, List.getLast?_eq_getElem?, hl, Nat.add_sub_cancel, hx]
    rfl
  rw [msA, msB, msP, hb, cond_true, this]
  exact ⟨rfl, rfl⟩
structure Qbs (k : Int) : Prop where
  k1 : 1 ≤ k
  k2 : k ≤ 1000
  kk : qbK k = k
  odd : qbF k % 2 = 1
  f : 1 ≤ qbF k ∧ qbF k ≤ 1000000
  kf : 0 ≤ k * qbF k ∧ k * qbF k ≤ 1000000000
  k3 : 0 ≤ k * (k - 1) ∧ k * (k - 1) ≤ 1000000
  kkk : 0 ≤ k * k ∧ k * k ≤ 1000000
  k4 : 0 ≤ k * k * k ∧ k * k * k ≤ 1000000000
  eq : k * qbF k + k * (k - 1) = k * k * k
theorem qbs_of {k : Int} (h : qbB k = true) : Qbs k := by
  have h0 : 1 ≤ k ∧ k ≤ 1000 := by simpa [qbB] using h
  obtain ⟨k1, k2⟩ := h0
  have e : qbF k = k * k - k + 1 := by rw [qbF, h, cond_true, show k ^ 2 = k * k from by rw [Int.pow_succ, Int.pow_succ, Int.pow_zero, Int.one_mul]]
  have ek : qbK k = k := by rw [qbK, h, cond_true]
  have q0 : 0 ≤ k * k := Int.mul_nonneg (by omega) (by omega)
  have q1 : k * k ≤ 1000 * 1000 := Int.mul_le_mul k2 k2 (by omega) (by omega)
  have q2 : k * 1 ≤ k * k := Int.mul_le_mul_of_nonneg_left k1 (by omega)
  have q3 : k * (k - 1) = k * k - k := by grind
  have par : (k * k - k) % 2 = 0 := by rw [← q3]; rcases Int.emod_two_eq k with h | h <;> simp [Int.mul_emod, Int.sub_emod, h]
  have q4 : 0 ≤ k * k * k := Int.mul_nonneg q0 (by omega)
  have q5 : k * k * k ≤ 1000 * 1000 * 1000 := Int.mul_le_mul q1 k2 (by omega) (by omega)
  have eq : k * qbF k + k * (k - 1) = k * k * k := by rw [e]; grind
  refine ⟨k1, k2, ek, by rw [e]; omega, by rw [e]; omega, ?_, by omega, by omega, by omega, eq⟩
  have := Int.mul_nonneg (a := k) (b := qbF k) (by omega) (by rw [e]; omega)
  omega
theorem pow_in (m : Int) (m1 : 1 ≤ m) (m2 : m ≤ 100) (j : Nat) : 1 ≤ m ^ j ∧ m ^ j ≤ 100 ^ j := by
  induction j with
  | zero => simp
  | succ j ih =>
    rw [Int.pow_succ, Int.pow_succ]
    have a := Int.mul_le_mul ih.2 m2 (by omega) (by omega)
    have b := Int.mul_le_mul ih.1 m1 (by omega) (by omega)
    omega
theorem pow_par (m : Int) (j : Nat) : (m ^ (j + 1) - m) % 2 = 0 := by
  induction j with
  | zero => simp [Int.pow_succ]
  | succ j ih =>
    rw [Int.pow_succ]
    rcases Int.emod_two_eq m with h | h
    · have : (m ^ (j + 1) * m) % 2 = 0 := by rw [Int.mul_emod, h]; simp
      omega
    · have : (m ^ (j + 1) * m) % 2 = 1 := by rw [Int.mul_emod, h, show m ^ (j + 1) % 2 = 1 from by omega]; rfl
      omega
structure Pws (m e : Int) : Prop where
  m1 : 1 ≤ m
  m2 : m ≤ 100
  e1 : 2 ≤ e
  e2 : e ≤ 6
  kk : pwK m e = m
  odd : pwF m e % 2 = 1
  f : 1 ≤ pwF m e ∧ pwF m e ≤ 10000000001
  mf : 0 ≤ m * pwF m e ∧ m * pwF m e ≤ 1000000000100
  m3 : 0 ≤ m * (m - 1) ∧ m * (m - 1) ≤ 10000
  eq : m * pwF m e + m * (m - 1) = m ^ e.toNat
theorem pws_of {m e : Int} (h : pwB m e = true) : Pws m e := by
  have h0 : (1 ≤ m ∧ m ≤ 100) ∧ 2 ≤ e ∧ e ≤ 6 := by simpa [pwB] using h
  obtain ⟨⟨m1, m2⟩, e1, e2⟩ := h0
  obtain ⟨j, hj⟩ : ∃ j : Nat, e.toNat = j + 2 := ⟨e.toNat - 2, by omega⟩
  have ev : pwF m e = m ^ (j + 1) - m + 1 := by rw [pwF, h, cond_true, hj]; rfl
  have ek : pwK m e = m := by rw [pwK, h, cond_true]
  obtain ⟨a1, a2⟩ := pow_in m m1 m2 (j + 1)
  have a3 : (100 : Int) ^ (j + 1) ≤ 10000000000 := (show ∀ n : Nat, n ≤ 4 → (100 : Int) ^ (n + 1) ≤ 10000000000 by decide) j (by omega)
  have par := pow_par m j
  have q := Int.mul_le_mul_of_nonneg_left (pow_in m m1 m2 j).1 (show 0 ≤ m by omega)
  have q' : m * m ^ j = m ^ (j + 1) := by rw [Int.pow_succ]; grind
  have f : 1 ≤ pwF m e ∧ pwF m e ≤ 10000000001 := by rw [ev]; omega
  have mf0 := Int.mul_nonneg (a := m) (b := pwF m e) (by omega) (by omega)
  have mf1 : m * pwF m e ≤ 100 * 10000000001 := Int.mul_le_mul m2 f.2 (by omega) (by omega)
  have g0 := Int.mul_nonneg (a := m) (b := m - 1) (by omega) (by omega)
  have g1 : m * (m - 1) ≤ 100 * 99 := Int.mul_le_mul m2 (by omega) (by omega) (by omega)
  refine ⟨m1, m2, e1, e2, ek, by rw [ev]; omega, f, by omega, by omega, ?_⟩
  rw [hj, ev, show j + 2 = (j + 1) + 1 from rfl, Int.pow_succ m (j + 1)]
  grind
end Go.Proofs.YtcfpdlkkniilpaaGreatDoor
