/- Plain facts behind the law FnPlacesFoundOfAll: places, gnomons, tests and roots told apart by cases. No program in sight but for the names of answers. -/
import Derived.Test.YtjfkeflmbgfhmaaGreatDoorAnD
namespace Go.Proofs.YtjfkeflmbgfhmaaGreatDoor

theorem rt_sq (x : Int) (h : 0 ≤ x) : rt (x * x) = x := by
  have h0 := sq_nn x
  have e : (x + 1) * (x + 1) = x * x + 2 * x + 1 := by grind
  exact (rt_uniq (x * x) x h0 h (Int.le_refl _) (by omega)).symm
theorem rt_sq' (x : Int) : rt (x * x) * rt (x * x) = x * x := by
  rcases Int.le_total 0 x with h | h
  · rw [rt_sq x h]
  · have e : x * x = (-x) * (-x) := by grind
    rw [e, rt_sq (-x) (by omega)]

/-- A number that a place has is polygonal. -/
theorem pl_of (s q n : Int) (hs : 3 ≤ s) (hq : 0 ≤ q) (h : num s q = n) : pl s n = q ∧ num s (pl s n) = n := by
  have hn : 0 ≤ n := by have := num_nn s q hs; omega
  obtain ⟨h0, h1, h2⟩ := pl_is s n hs hn
  have a := (fits_iff s n q hs hn hq).1 (by omega)
  have b : pl s n ≤ q := by
    rcases Int.lt_or_le q (pl s n) with hlt | hle
    · have := num_mono_lt s hs hq hlt
      omega
    · exact hle
  have c : pl s n = q := by omega
  exact ⟨c, by rw [c, h]⟩
theorem wl_of (s q n : Int) (hs : 3 ≤ s) (hq : 0 ≤ q) (h : num s (-q) = n) (hn : 0 ≤ n) : num s (-wl s n) = n := by
  obtain ⟨h0, h1, h2⟩ := wl_is s n hs hn
  have a := (wfits_iff s n q hs hn hq).1 (by omega)
  have := neg_mono s hs hq a
  omega

/-- The test of the number of a place of either sign is a square. -/
theorem test_sq (s q : Int) : 8 * (s - 2) * num s q + (s - 4) * (s - 4) = (2 * (s - 2) * q - (s - 4)) * (2 * (s - 2) * q - (s - 4)) := by
  have h := num_twice s q
  grind

/-- What is asked of the first five results where the sides and the number may be tested. -/
structure Tst (s n : Int) : Prop where
  t : tsB s n = true
  next : n < npV s n
  cu0 : 0 ≤ cuV s n
  cu1 : cuV s n ≤ 1414214
  root : rtB (stV s n) = true
  rt0 : 0 ≤ rtV (stV s n)
  rt1 : rtV (stV s n) ≤ 2000000000
  rr0 : 0 ≤ rtV (stV s n) * rtV (stV s n)
  rr1 : rtV (stV s n) * rtV (stV s n) ≤ 4000000000000000000
theorem ts_iff {s n : Int} : tsB s n = true ↔ (3 ≤ s ∧ s ≤ 24) ∧ 0 ≤ n ∧ n ≤ 1000000000000 := by simp [tsB]
theorem sm_bds (s n : Int) (h1 : 3 ≤ s) (h2 : s ≤ 24) (h3 : 0 ≤ n) (h4 : n ≤ 1000000000000) : 0 ≤ 8 * (s - 2) * n + (s - 4) * (s - 4) ∧ 8 * (s - 2) * n + (s - 4) * (s - 4) ≤ 176000000000400 := by
  have a := Int.mul_nonneg (a := 8 * (s - 2)) (b := n) (by omega) h3
  have b := Int.mul_nonneg (a := 24 - s) (b := n) (by omega) h3
  have c := sq_nn (s - 4)
  have d := sq_le (s - 4) 20 (by omega) (by omega)
  have e : (24 - s) * n = 22 * n - (s - 2) * n := by grind
  have f : 8 * (s - 2) * n = 8 * ((s - 2) * n) := by grind
  omega
theorem tst_of {s n : Int} (h : tsB s n = true) : Tst s n := by
  obtain ⟨⟨h1, h2⟩, h3, h4⟩ := ts_iff.1 h
  obtain ⟨p0, p1, p2⟩ := pl_is s n h1 h3
  have p3 := pl_le s n h1 h3 h4
  obtain ⟨b0, b1⟩ := sm_bds s n h1 h2 h3 h4
  have e : stV s n = 8 * (s - 2) * n + (s - 4) * (s - 4) := by simp [stV, h]
  have r : rtB (stV s n) = true := by rw [e]; simp [rtB]; omega
  have r' : rtV (stV s n) = rt (stV s n) := by simp [rtV, r]
  have r0 := rt_nn (stV s n) (by rw [e]; exact b0)
  have r1 := rt_le (stV s n) (by rw [e]; exact b0) (by rw [e]; omega)
  exact ⟨h, by simp [npV, h]; omega, by simp [cuV, h]; omega, by simp [cuV, h]; omega, r, by rw [r']; exact r0, by rw [r']; omega,
    sq_nn _, by rw [r']; have := sq_le (rt (stV s n)) 2000000000 (by omega) (by omega); omega⟩

/-- The numbers at the count and one behind it, where the count is a place. -/
structure Cnt (s n : Int) : Prop where
  a : pnB s (cuV s n) = true
  b : pnB s (cuV s n + 1) = true
  c : pnV s (cuV s n) ≤ n
  d : pnV s (cuV s n + 1) = npV s n
  e : poB s n = decide (pnV s (cuV s n) = n)
theorem cnt_of {s n : Int} (h : tsB s n = true) (hc : cuV s n < 100000) : Cnt s n := by
  obtain ⟨⟨h1, h2⟩, h3, h4⟩ := ts_iff.1 h
  obtain ⟨p0, p1, p2⟩ := pl_is s n h1 h3
  have e : cuV s n = pl s n := by simp [cuV, h]
  rw [e] at hc
  have a : pnB s (pl s n) = true := by simp [pnB]; omega
  have b : pnB s (pl s n + 1) = true := by simp [pnB]; omega
  constructor
  · rw [e, a]
  · rw [e, b]
  · rw [e]; simp [pnV, a]; exact p1
  · rw [e]; simp [pnV, b, npV, h]
  · rw [e]; simp [pnV, a, poB, h]

/-- A polygonal number. -/
structure Pol (s n : Int) : Prop where
  p : poB s n = true
  w : wdB s n = true
  rr : rtV (stV s n) * rtV (stV s n) = stV s n
  pc : poV s n = cuV s n
  wp : wdV s n = cuV s n
  num : num s (cuV s n) = n
theorem pol_of {s n : Int} (h : tsB s n = true) (hp : poB s n = true) : Pol s n := by
  have ht := tst_of h
  have e : num s (pl s n) = n := by simpa [poB, h] using hp
  refine ⟨hp, by simp [wdB, h, e], ?_, by simp [poV, hp, cuV, h], by simp [wdV, hp, cuV, h], by simp [cuV, h, e]⟩
  have k := test_sq s (pl s n)
  rw [e] at k
  have k2 : stV s n = (2 * (s - 2) * pl s n - (s - 4)) * (2 * (s - 2) * pl s n - (s - 4)) := by simp [stV, h, k]
  have r' : rtV (stV s n) = rt (stV s n) := by simp [rtV, ht.root]
  rw [r', k2]
  exact rt_sq' _

/-- A wide number that is not polygonal. -/
structure Wde (s n : Int) : Prop where
  p : poB s n = false
  w : wdB s n = true
  rr : rtV (stV s n) * rtV (stV s n) = stV s n
  num : num s (wdV s n) = n
  l : wdV s n ≤ 0
  g : -1500000 ≤ wdV s n
theorem wde_of {s n : Int} (h : tsB s n = true) (hp : poB s n = false) (hw : wdB s n = true) : Wde s n := by
  have ht := tst_of h
  obtain ⟨⟨h1, h2⟩, h3, h4⟩ := ts_iff.1 h
  have e : ¬ num s (pl s n) = n := by simpa [poB, h] using hp
  have e2 : num s (-wl s n) = n := by simpa [wdB, h, e] using hw
  have v : wdV s n = -wl s n := by simp [wdV, hp, hw]
  have w0 := wl_nn s n h1 h3
  have w1 := wl_le s n h1 h3 h4
  refine ⟨hp, hw, ?_, by rw [v, e2], by omega, by omega⟩
  have k := test_sq s (-wl s n)
  rw [e2] at k
  have k2 : stV s n = (2 * (s - 2) * -wl s n - (s - 4)) * (2 * (s - 2) * -wl s n - (s - 4)) := by simp only [stV, h, cond_true]; exact k
  have r' : rtV (stV s n) = rt (stV s n) := by simp [rtV, ht.root]
  rw [r', k2]
  exact rt_sq' _

/-- A number that is none: a square test has no root of a whole place. -/
theorem none_of {s n : Int} (h : tsB s n = true) (hp : poB s n = false) (hw : wdB s n = false) (hr : rtV (stV s n) * rtV (stV s n) = stV s n) :
    ¬ (rtV (stV s n) + s - 4).tmod (2 * (s - 2)) = 0 ∧ ¬ (rtV (stV s n) - s + 4).tmod (2 * (s - 2)) = 0 := by
  have ht := tst_of h
  obtain ⟨⟨h1, h2⟩, h3, h4⟩ := ts_iff.1 h
  have e : ¬ num s (pl s n) = n := by simpa [poB, h] using hp
  have e2 : ¬ num s (-wl s n) = n := by
    intro c
    simp [wdB, h, c] at hw
  have v : stV s n = 8 * (s - 2) * n + (s - 4) * (s - 4) := by simp [stV, h]
  have r0 := ht.rt0
  generalize rtV (stV s n) = r at *
  rw [v] at hr
  constructor
  · intro c
    obtain ⟨q, hq⟩ := Int.dvd_of_tmod_eq_zero c
    have q0 : 0 ≤ q := by
      rcases Int.lt_or_le q 0 with a | a
      · have := Int.mul_nonneg (a := 2 * (s - 2)) (b := -1 - q) (by omega) (by omega)
        have k : 2 * (s - 2) * (-1 - q) = -(2 * (s - 2)) - 2 * (s - 2) * q := by grind
        omega
      · exact a
    have k := num_twice s q
    have z : (s - 2) * (num s q - n) = 0 := by
      have : r = 2 * (s - 2) * q - (s - 4) := by omega
      subst this
      grind
    rcases Int.mul_eq_zero.1 z with z | z
    · omega
    · exact e (pl_of s q n h1 q0 (by omega)).2
  · intro c
    obtain ⟨q, hq⟩ := Int.dvd_of_tmod_eq_zero c
    have q0 : 0 ≤ q := by
      rcases Int.lt_or_le q 0 with a | a
      · have := Int.mul_nonneg (a := 2 * (s - 2)) (b := -1 - q) (by omega) (by omega)
        have k : 2 * (s - 2) * (-1 - q) = -(2 * (s - 2)) - 2 * (s - 2) * q := by grind
        omega
      · exact a
    have k := neg_twice s q
    have z : (s - 2) * (num s (-q) - n) = 0 := by
      have : r = 2 * (s - 2) * q + (s - 4) := by omega
      subst this
      grind
    rcases Int.mul_eq_zero.1 z with z | z
    · omega
    · exact e2 (wl_of s q n h1 q0 (by omega) h3)

/-- The gnomon of a place. -/
structure Gnm (s k : Int) : Prop where
  g : gnB s k = true
  a : pnB s k = true
  b : pnB s (k - 1) = true
  d : pnV s k - pnV s (k - 1) = gnV s k
  v : (s - 2) * (k - 1) + 1 = gnV s k
  m0 : 0 ≤ (s - 2) * (k - 1)
  m1 : (s - 2) * (k - 1) ≤ 2200000
  p : poB s (pnV s k) = true
  q : poV s (pnV s k) = k
  k0 : 1 ≤ k
  k1 : k ≤ 100000
  s0 : 3 ≤ s
  s1 : s ≤ 24
  n0 : 0 ≤ pnV s k
  n1 : pnV s k ≤ 1000000000000
  n2 : 0 ≤ pnV s (k - 1)
  n3 : pnV s (k - 1) ≤ 1000000000000
theorem num_small9 (s k : Int) (h1 : 3 ≤ s) (h2 : s ≤ 24) (h3 : 0 ≤ k) (h4 : k ≤ 100000) : num s k ≤ 200000000000 := by
  have e := num_twice s k
  have a := Int.mul_nonneg (a := s - 2) (b := 100000 - k) (by omega) (by omega)
  have a0 := Int.mul_nonneg (a := s - 2) (b := k) (by omega) (by omega)
  have b := Int.mul_nonneg (a := (s - 2) * k) (b := 100000 - k) a0 (by omega)
  have c := Int.mul_nonneg (a := s - 3) (b := k) (by omega) (by omega)
  have f : (s - 2) * (100000 - k) = 100000 * (s - 2) - (s - 2) * k := by grind
  have g : (s - 2) * k * (100000 - k) = 100000 * ((s - 2) * k) - (s - 2) * k * k := by grind
  have i : (s - 4) * k = (s - 3) * k - k := by grind
  omega
theorem gnm_of {s k : Int} (h : gnB s k = true) : Gnm s k := by
  obtain ⟨⟨h1, h2⟩, h3, h4⟩ : (3 ≤ s ∧ s ≤ 24) ∧ 1 ≤ k ∧ k ≤ 100000 := by simpa [gnB] using h
  have a : pnB s k = true := by simp [pnB]; omega
  have b : pnB s (k - 1) = true := by simp [pnB]; omega
  have v : gnV s k = (s - 2) * (k - 1) + 1 := by simp [gnV, h]
  have va : pnV s k = num s k := by simp [pnV, a]
  have vb : pnV s (k - 1) = num s (k - 1) := by simp [pnV, b]
  have n0 := num_nn s k h1
  have n1 := num_small9 s k h1 h2 (by omega) h4
  have n2 := num_nn s (k - 1) h1
  have n3 := num_small9 s (k - 1) h1 h2 (by omega) (by omega)
  have t : tsB s (num s k) = true := by simp [tsB]; omega
  obtain ⟨p, q⟩ := pl_of s k (num s k) h1 (by omega) rfl
  have m := Int.mul_nonneg (a := s - 2) (b := k - 1) (by omega) (by omega)
  have m1 := Int.mul_nonneg (a := 24 - s) (b := k - 1) (by omega) (by omega)
  have e : (24 - s) * (k - 1) = 22 * (k - 1) - (s - 2) * (k - 1) := by grind
  have u := num_succ s (k - 1)
  rw [show k - 1 + 1 = k from by omega] at u
  have pb : poB s (num s k) = true := by simp [poB, t, p]
  exact ⟨h, a, b, by rw [v, va, vb, u]; omega, v.symm, m, by omega, by rw [va]; exact pb, by rw [va]; simp [poV, pb, p], h3, h4, h1, h2, by omega, by omega, by omega, by omega⟩

/-- The root of a number. -/
structure Rtd (r : Int) : Prop where
  b : rtB r = true
  v0 : 0 ≤ rtV r
  v1 : rtV r ≤ 2000000000
  m0 : 0 ≤ rtV r * rtV r
  l : rtV r * rtV r ≤ r
  g : r < (rtV r + 1) * (rtV r + 1)
  u : (rtV r + 1) * (rtV r + 1) ≤ 4000000004000000001
  r1 : r ≤ 4000000000000000000
theorem rtd_of {r : Int} (h : rtB r = true) : Rtd r := by
  obtain ⟨h1, h2⟩ : 0 ≤ r ∧ r ≤ 4000000000000000000 := by simpa [rtB] using h
  obtain ⟨a, b, c⟩ := rt_is r h1
  have d := rt_le r h1 h2
  have v : rtV r = rt r := by simp [rtV, h]
  rw [← v] at a b c d
  have := sq_le (rtV r + 1) 2000000001 (by omega) (by omega)
  exact ⟨h, a, by omega, sq_nn _, b, c, by omega, h2⟩
end Go.Proofs.YtjfkeflmbgfhmaaGreatDoor
