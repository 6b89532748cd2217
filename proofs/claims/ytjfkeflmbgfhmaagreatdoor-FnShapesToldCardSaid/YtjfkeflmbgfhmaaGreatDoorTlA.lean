/- Chapter 1: shapes of a number, lists of polygonal numbers, wide and centred numbers, texts of shapes: what they answer as plain functions, and how they hang together. No program in sight. -/
import Derived.Test.YtjfkeflmbgfhmaaGreatDoorAnB
import Derived.Test.YtjfkeflmbgfhmaaGreatDoorLwF
import Derived.Test.YtjfkeflmbgfhmaaGreatDoorDoC
namespace Go.Proofs.YtjfkeflmbgfhmaaGreatDoor

def shB (n : Int) : Bool := decide (0 ≤ n ∧ n ≤ 1000000)
noncomputable def shL (n : Int) : List (Int × Int) := bif shB n then shps n 22 else []
def puB (s m : Int) : Bool := decide ((3 ≤ s ∧ s ≤ 24) ∧ 0 ≤ m ∧ m ≤ 100000)
noncomputable def puL (s m : Int) : List Int := bif puB s m then nums s (pl s m).toNat else []
def stT (s p : Int) : ByteArray := bif pnB s p then shTxt s p else ⟨#[]⟩
open Classical in
noncomputable def psB (y : ByteArray) : Bool := decide (∃ a b, Good y a b)
noncomputable def psX (y : ByteArray) : Int := bif psB y then (pfold y.data.toList).1 else 0
noncomputable def psY (y : ByteArray) : Int := bif psB y then (pfold y.data.toList).2 else 0
def abV (x : Int) : Int := if x < 0 then -x else x

/-- The shapes of a number: each has it; more sides, lower places. -/
theorem shps_mem (n : Int) (j : Nat) (x : Int × Int) (h : x ∈ shps n j) : (3 ≤ x.1 ∧ x.1 < (j : Int) + 3) ∧ 3 ≤ x.2 ∧ num x.1 x.2 = n := by
  induction j with
  | zero => simp [shps] at h
  | succ j ih =>
    by_cases hc : 3 ≤ pl ((j : Int) + 3) n ∧ num ((j : Int) + 3) (pl ((j : Int) + 3) n) = n
    · rw [shps_yes hc, List.mem_append] at h
      rcases h with h | h
      · have := ih h
        omega
      · simp at h
        subst h
        exact ⟨⟨by simp only; omega, by simp only; omega⟩, hc.1, hc.2⟩
    · rw [shps_no hc] at h
      have := ih h
      omega
theorem falls_of {s t p q n : Int} (hs : 3 ≤ s) (hst : s < t) (hp : 3 ≤ p) (h1 : num s p = n) (h2 : num t q = n) : q < p := by
  rcases Int.lt_or_le q p with h | h
  · exact h
  · exfalso
    have a := num_mono_le t (by omega) (show 0 ≤ p by omega) h
    have b := num_split s p
    have c := num_split t p
    have d : (s - 3) * (p * (p - 1)) + p * (p - 1) ≤ (t - 3) * (p * (p - 1)) := by
      have : (s - 3 + 1) * (p * (p - 1)) ≤ (t - 3) * (p * (p - 1)) := Int.mul_le_mul_of_nonneg_right (by omega) (pr_nn p)
      rw [Int.add_mul, Int.one_mul] at this
      exact this
    have e : 6 ≤ p * (p - 1) := by
      have := Int.mul_le_mul hp (show 2 ≤ p - 1 by omega) (by omega) (by omega)
      omega
    omega
theorem shps_falls (n : Int) (j : Nat) : (shps n j).Pairwise fun x y => x.1 < y.1 ∧ y.2 < x.2 := by
  induction j with
  | zero => simp [shps]
  | succ j ih =>
    by_cases hc : 3 ≤ pl ((j : Int) + 3) n ∧ num ((j : Int) + 3) (pl ((j : Int) + 3) n) = n
    · rw [shps_yes hc, List.pairwise_append]
      refine ⟨ih, List.pairwise_singleton _ _, ?_⟩
      intro x hx y hy
      simp at hy
      subst hy
      obtain ⟨⟨a1, a2⟩, a3, a4⟩ := shps_mem n j x hx
      exact ⟨a2, falls_of a1 a2 a3 a4 hc.2⟩
    · rw [shps_no hc]
      exact ih
theorem pn_iff {s p : Int} : pnB s p = true ↔ (3 ≤ s ∧ s ≤ 24) ∧ 0 ≤ p ∧ p ≤ 100000 := by simp [pnB]
theorem good_of {s p : Int} (h : pnB s p = true) : Good (shTxt s p) s p := by
  obtain ⟨⟨h1, h2⟩, h3, h4⟩ := pn_iff.1 h
  exact ⟨⟨h1, h2, h3, h4⟩, rfl⟩
theorem good_pfold {s : ByteArray} {a b : Int} (h : Good s a b) : pfold s.data.toList = (a, b) := by
  obtain ⟨⟨h1, h2, h3, h4⟩, rfl⟩ := h
  rw [show (shTxt a b).data.toList = Lib.decDigits a.toNat ++ (58 :: Lib.decDigits b.toNat) from by unfold shTxt; simp, pfold_txt]
  congr 1 <;> omega
/-- The text of a shape is read as that shape. -/
structure TxE (s p : Int) : Prop where
  t : stT s p = shTxt s p
  ok : psB (shTxt s p) = true
  x : psX (shTxt s p) = s
  y : psY (shTxt s p) = p
  len : (shTxt s p).size ≤ 1000
theorem shTxt_len (s p : Int) (h1 : s ≤ 1000000) (h2 : p ≤ 1000000) : (shTxt s p).size ≤ 1000 := by
  have la := dec_len s.toNat (by omega)
  have lb := dec_len p.toNat (by omega)
  have e : (shTxt s p).size = (shTxt s p).data.toList.length := by rw [Array.length_toList]; rfl
  rw [e, show (shTxt s p).data.toList = Lib.decDigits s.toNat ++ (58 :: Lib.decDigits p.toNat) from by unfold shTxt; simp]
  simp
  omega
theorem txE_of {s p : Int} (h : pnB s p = true) : TxE s p := by
  have g := good_of h
  have f := good_pfold g
  obtain ⟨⟨h1, h2⟩, h3, h4⟩ := pn_iff.1 h
  have hb : psB (shTxt s p) = true := by simp only [psB, decide_eq_true_eq]; exact ⟨s, p, g⟩
  exact ⟨by rw [stT, h, cond_true], hb, by rw [psX, hb, cond_true, f], by rw [psY, hb, cond_true, f], shTxt_len s p (by omega) (by omega)⟩
/-- A text that is read is that of the shape. -/
structure PsE (y : ByteArray) : Prop where
  ok : pnB (psX y) (psY y) = true
  t : stT (psX y) (psY y) = y
  g : Good y (psX y) (psY y)
theorem psE_of {y : ByteArray} (h : psB y = true) : PsE y := by
  have h0 : ∃ a b, Good y a b := by simpa only [psB, decide_eq_true_eq] using h
  obtain ⟨a, b, g⟩ := h0
  have f := good_pfold g
  have ex : psX y = a := by rw [psX, h, cond_true, f]
  have ey : psY y = b := by rw [psY, h, cond_true, f]
  obtain ⟨⟨h1, h2, h3, h4⟩, e⟩ := g
  have hp : pnB a b = true := pn_iff.2 ⟨⟨h1, h2⟩, h3, h4⟩
  rw [← ex, ← ey] at hp e
  refine ⟨hp, by rw [stT, hp, cond_true]; exact e, ?_⟩
  rw [ex, ey] at e ⊢
  exact ⟨⟨h1, h2, h3, h4⟩, e⟩

/-- Shape i of a number. -/
structure ShR (n : Int) (i : Nat) (s p : Int) : Prop where
  row : (shL n)[i]? = some (s, p)
  ok : pnB s p = true
  num : pnV s p = n
  p3 : 3 ≤ p
  s1 : 3 ≤ s
  s2 : s ≤ 24
  p2 : p ≤ 100000
  before : ∀ j z t, i = j + 1 → (shL n)[j]? = some (z, t) → z < s ∧ p < t
theorem shps_at (n : Int) (N : Nat) (hN : N ≤ 22) (hn0 : n ≤ 1000000) (i : Nat) (hi : i < (shps n N).length) : ∃ s p, (shps n N)[i]? = some (s, p) ∧ num s p = n ∧ 3 ≤ p ∧ 3 ≤ s ∧ s ≤ 24 ∧ p ≤ 100000 ∧ ∀ j z t, i = j + 1 → (shps n N)[j]? = some (z, t) → z < s ∧ p < t := by
  obtain ⟨p, hp⟩ : ∃ p, p = (shps n N)[i] := ⟨_, rfl⟩
  have hm : (shps n N)[i] ∈ shps n N := List.getElem_mem hi
  rw [← hp] at hm
  obtain ⟨s, p⟩ := p
  obtain ⟨⟨s1, s2⟩, p3, hn⟩ := shps_mem n N _ hm
  simp only at s1 s2 p3 hn
  have hpp := num_ge s p s1
  have hp2 : p ≤ 100000 := by
    rcases Int.lt_or_le 100000 p with hlt | hle
    · have := Int.mul_le_mul_of_nonneg_left (show 100001 ≤ p + 1 by omega) (show 0 ≤ p by omega)
      omega
    · exact hle
  refine ⟨s, p, by rw [List.getElem?_eq_getElem hi, ← hp], hn, p3, s1, by omega, hp2, ?_⟩
  rintro j z t rfl hz
  rw [List.getElem?_eq_getElem (by omega)] at hz
  have pw := List.pairwise_iff_getElem.1 (shps_falls n N) j (j + 1) (by omega) hi (by omega)
  injection hz with hz
  rw [hz, ← hp] at pw
  exact pw
theorem shR_of {n : Int} (h : shB n = true) (i : Nat) (hi : i < (shL n).length) : ∃ s p, ShR n i s p := by
  have h0 : 0 ≤ n ∧ n ≤ 1000000 := by simpa [shB] using h
  obtain ⟨N, hN⟩ : ∃ N, N = 22 := ⟨_, rfl⟩
  have er : shL n = shps n N := by rw [shL, h, cond_true, hN]
  rw [er] at hi
  obtain ⟨s, p, a, b, c, d, e, f, g⟩ := shps_at n N (by omega) h0.2 i hi
  have hb : pnB s p = true := pn_iff.2 ⟨⟨d, e⟩, by omega, f⟩
  exact ⟨s, p, by rw [er]; exact a, hb, by rw [pnV, hb, cond_true, b], c, d, e, f, by rw [er]; exact g⟩
theorem sh_len (n : Int) : (shL n).length ≤ 22 := by
  rcases Bool.eq_false_or_eq_true (shB n) with h | h
  · rw [shL, h, cond_true]; exact shps_le n 22
  · rw [shL, h, cond_false]; simp

/-- The list of polygonal numbers. -/
structure PuE (s m : Int) : Prop where
  t : tsB s m = true
  cnt : cuV s m = ((puL s m).length : Int)
  few : (puL s m).length ≤ 1000
theorem puE_of {s m : Int} (h : puB s m = true) : PuE s m := by
  have h0 : (3 ≤ s ∧ s ≤ 24) ∧ 0 ≤ m ∧ m ≤ 100000 := by simpa [puB] using h
  obtain ⟨⟨s1, s2⟩, m0, m1⟩ := h0
  have ht : tsB s m = true := ts_iff.2 ⟨⟨s1, s2⟩, m0, by omega⟩
  have p0 := pl_nn s m s1 m0
  have er : puL s m = nums s (pl s m).toNat := by rw [puL, h, cond_true]
  refine ⟨ht, by rw [er, nums_len, cuV, ht, cond_true]; omega, ?_⟩
  rw [er, nums_len]
  obtain ⟨_, hp, _⟩ := pl_is s m s1 m0
  have hg := num_ge s (pl s m) s1
  rcases Int.lt_or_le 1000 (pl s m) with hlt | hle
  · have := Int.mul_le_mul_of_nonneg_left (show 1001 ≤ pl s m + 1 by omega) (show 0 ≤ pl s m by omega)
    omega
  · omega
/-- Number i of it. -/
structure PuR (s m : Int) (i : Nat) (z : Int) : Prop where
  row : (puL s m)[i]? = some z
  ok : gnB s ((i : Int) + 1) = true
  z0 : 0 ≤ z
  z1 : z ≤ m
  m1 : m ≤ 100000
  first : i = 0 → gnV s ((i : Int) + 1) = z
  before : ∀ j t, i = j + 1 → (puL s m)[j]? = some t → gnV s ((i : Int) + 1) = z - t ∧ 0 ≤ t ∧ t ≤ 100000
theorem puR_of {s m : Int} (h : puB s m = true) (i : Nat) (hi : i < (puL s m).length) : ∃ z, PuR s m i z := by
  have h0 : (3 ≤ s ∧ s ≤ 24) ∧ 0 ≤ m ∧ m ≤ 100000 := by simpa [puB] using h
  obtain ⟨⟨s1, s2⟩, m0, m1⟩ := h0
  have hf := (puE_of h).few
  have er : puL s m = nums s (pl s m).toNat := by rw [puL, h, cond_true]
  have hat : ∀ j, j < (puL s m).length → (puL s m)[j]? = some (num s ((j : Int) + 1)) := fun j hj => by
    rw [er] at hj ⊢
    rw [nums_len] at hj
    simp [nums, hj]
  have hle : ∀ j, j < (puL s m).length → num s ((j : Int) + 1) ≤ m := fun j hj => by
    rw [er, nums_len] at hj
    exact (fits_iff s m ((j : Int) + 1) s1 m0 (by omega)).2 (by omega)
  have hg : gnB s ((i : Int) + 1) = true := by simp [gnB]; omega
  have gv : gnV s ((i : Int) + 1) = (s - 2) * i + 1 := by rw [gnV, hg, cond_true, show (i : Int) + 1 - 1 = i from by omega]
  refine ⟨num s ((i : Int) + 1), hat i hi, hg, num_nn s _ s1, hle i hi, m1, ?_, ?_⟩
  · rintro rfl
    rw [gv, num_succ, show num s ((0 : Nat) : Int) = 0 from num_zero s]
    omega
  · rintro j t rfl hz
    rw [hat j (by omega)] at hz
    injection hz with hz
    subst hz
    have q := num_succ s (((j + 1 : Nat)) : Int)
    have ej : (((j + 1 : Nat)) : Int) = (j : Int) + 1 := by omega
    refine ⟨?_, num_nn s _ s1, by have := hle j (by omega); omega⟩
    rw [gv]
    rw [q, ej]
    omega

/-! ### wide numbers -/
theorem neg_plain {s k : Int} (hs : 3 ≤ s) (hk : 1 ≤ k) {q : Int} (hq : 0 ≤ q) (h : num s q = num s (-k)) : q ≤ k := by
  rcases Int.lt_or_le k q with hlt | hle
  · exfalso
    have a := num_mono_le s hs (show 0 ≤ k + 1 by omega) (show k + 1 ≤ q by omega)
    have b := num_twice s (k + 1)
    have c := neg_twice s k
    have d : (s - 2) * (k + 1) * (k + 1) - (s - 4) * (k + 1) = (s - 2) * k * k + (s - 4) * k + 2 * k + 2 := by grind
    omega
  · exact hle
structure WiE (s k : Int) : Prop where
  ok : wdB s (wnV s k) = true
  ab : decide (abV k < abV (wdV s (wnV s k))) = false
  b0 : -2000000 ≤ wdV s (wnV s k)
  b1 : wdV s (wnV s k) ≤ 2000000
  k0 : -100000 ≤ k
  k1 : k ≤ 100000
theorem wiE_of {s k : Int} (h : wnB s k = true) : WiE s k := by
  have h0 : (3 ≤ s ∧ s ≤ 24) ∧ -100000 ≤ k ∧ k ≤ 100000 := by simpa [wnB] using h
  obtain ⟨⟨s1, s2⟩, k0, k1⟩ := h0
  have v : wnV s k = num s k := by rw [wnV, h, cond_true]
  have n0 := num_nn s k s1
  have hb : num s k ≤ 1000000000000 := by
    have t := num_twice s k
    have q := sq_le k 100000 k0 k1
    have q0 := sq_nn k
    have u : (s - 2) * (k * k) ≤ 22 * 10000000000 := Int.mul_le_mul (by omega) (by omega) q0 (by omega)
    have u2 : -((s - 4) * k) ≤ 20 * 100000 := by
      rcases Int.lt_or_le k 0 with hk | hk
      · have a : (s - 4) * (-k) ≤ 20 * 100000 := by
          rcases Int.lt_or_le s 4 with h4 | h4
          · have : s = 3 := by omega
            subst this
            omega
          · exact Int.mul_le_mul (by omega) (by omega) (by omega) (by omega)
        rw [Int.mul_neg] at a
        exact a
      · rcases Int.lt_or_le s 4 with h4 | h4
        · have : s = 3 := by omega
          subst this
          omega
        · have := Int.mul_nonneg (show 0 ≤ s - 4 by omega) hk
          omega
    have e : (s - 2) * k * k = (s - 2) * (k * k) := Int.mul_assoc _ _ _
    omega
  have ht : tsB s (num s k) = true := ts_iff.2 ⟨⟨s1, s2⟩, n0, hb⟩
  rw [← v] at ht hb n0
  obtain ⟨n, hn⟩ : ∃ n, n = wnV s k := ⟨_, rfl⟩
  have hv : n = num s k := hn.trans v
  rw [← hn] at ht hb n0
  clear v
  have key : wdB s n = true ∧ abV (wdV s n) ≤ abV k ∧ (-100000 ≤ wdV s n ∧ wdV s n ≤ 100000) := by
    rcases Int.lt_or_le k 0 with hk | hk
    · by_cases hp : num s (pl s n) = n
      · have q0 := pl_nn s n s1 n0
        have q1 : pl s n ≤ -k := neg_plain s1 (by omega) q0 (by rw [hp, hv, Int.neg_neg])
        have hpo : poB s n = true := by simp [poB, ht, hp]
        have hw : wdB s n = true := by simp [wdB, ht, hp]
        have e : wdV s n = pl s n := by rw [wdV, hpo, cond_true]
        refine ⟨hw, ?_, by omega, by omega⟩
        rw [e]
        unfold abV
        rw [if_neg (by omega), if_pos hk]
        exact q1
      · have hpo : poB s n = false := by simp [poB, ht, hp]
        have hw2 : num s (-wl s n) = n := wl_of s (-k) n s1 (by omega) (by rw [Int.neg_neg]; exact hv.symm) n0
        have hw : wdB s n = true := by simp [wdB, ht, hw2]
        have w0 := wl_nn s n s1 n0
        have w1 : wl s n ≤ -k := by
          rcases Int.lt_or_le (-k) (wl s n) with hlt | hle
          · exfalso
            have a := neg_mono s s1 (show 0 ≤ -k + 1 by omega) (show -k + 1 ≤ wl s n by omega)
            have b := neg_lt s s1 (-k) (by omega)
            rw [show num s (-(-k)) = n from by rw [Int.neg_neg]; exact hv.symm] at b
            omega
          · exact hle
        have e : wdV s n = -wl s n := by rw [wdV, hpo, cond_false, hw, cond_true]
        refine ⟨hw, ?_, by omega, by omega⟩
        rw [e]
        unfold abV
        rw [if_pos hk]
        split <;> omega
    · obtain ⟨e1, e2⟩ := pl_of s k n s1 hk hv.symm
      have hpo : poB s n = true := by simp [poB, ht, e2]
      have hw : wdB s n = true := by simp [wdB, ht, e2]
      have e : wdV s n = k := by rw [wdV, hpo, cond_true, e1]
      exact ⟨hw, by rw [e]; omega, by omega, by omega⟩
  subst hn
  obtain ⟨a, b, c, d⟩ := key
  exact ⟨a, decide_eq_false (by omega), by omega, by omega, k0, k1⟩
theorem wiP_of {s k : Int} (h : wnB s k = true) (hk : 0 ≤ k) : pnB s k = true ∧ pnV s k = wnV s k := by
  have h0 : (3 ≤ s ∧ s ≤ 24) ∧ -100000 ≤ k ∧ k ≤ 100000 := by simpa [wnB] using h
  have hp : pnB s k = true := pn_iff.2 ⟨h0.1, hk, h0.2.2⟩
  exact ⟨hp, by rw [pnV, wnV, hp, h, cond_true]⟩

/-! ### centred numbers -/
theorem cen_le (s k : Int) (hs : 3 ≤ s) {a b : Int} (ha : 1 ≤ a) (h : a < b) : cen s a < cen s b := by
  have := cen_lt s hs a ha (b - a - 1).toNat
  rw [show a + ((b - a - 1).toNat : Int) + 1 = b from by omega] at this
  exact this
structure CeE (t p : Int) : Prop where
  ok : cpB t (cnV t p) = true
  back : cpV t (cnV t p) = p
  tri : pnB 3 (p - 1) = true
  v0 : 0 ≤ pnV 3 (p - 1)
  v1 : pnV 3 (p - 1) ≤ 10000000000
  m0 : 0 ≤ t * pnV 3 (p - 1)
  m1 : t * pnV 3 (p - 1) ≤ 1000000000000
  eq : t * pnV 3 (p - 1) + 1 = cnV t p
  p1 : 1 ≤ p
  p2 : p ≤ 100000
theorem ceE_of {t p : Int} (h : gnB t p = true) : CeE t p := by
  have h0 : (3 ≤ t ∧ t ≤ 24) ∧ 1 ≤ p ∧ p ≤ 100000 := by simpa [gnB] using h
  obtain ⟨⟨t1, t2⟩, p1, p2⟩ := h0
  have v : cnV t p = cen t p := by rw [cnV, h, cond_true]
  have tri : pnB 3 (p - 1) = true := pn_iff.2 ⟨by omega, by omega, by omega⟩
  have e3 : pnV 3 (p - 1) = num 3 (p - 1) := by rw [pnV, tri, cond_true]
  have n2 := num_twice 3 (p - 1)
  have c2 := cen_twice t p
  have e4 : (3 - 2) * (p - 1) * (p - 1) - (3 - 4) * (p - 1) = p * (p - 1) := by grind
  have pp0 : 0 ≤ p * (p - 1) := pr_nn p
  have pp1 : p * (p - 1) ≤ 100000 * 100000 := Int.mul_le_mul (by omega) (by omega) (by omega) (by omega)
  have e5 : 2 * (t * num 3 (p - 1)) = t * (p * (p - 1)) := by rw [← e4, ← n2]; grind
  have m0 : 0 ≤ t * (p * (p - 1)) := Int.mul_nonneg (by omega) pp0
  have m1 : t * (p * (p - 1)) ≤ 24 * (100000 * 100000) := Int.mul_le_mul t2 pp1 pp0 (by omega)
  have hn1 : 1 ≤ cen t p := by omega
  have hts : tsB t (cen t p) = true := ts_iff.2 ⟨⟨t1, t2⟩, by omega, by omega⟩
  obtain ⟨q1, q2, q3⟩ := cpl_is t (cen t p) t1 hn1
  have a := (cfits_iff t (cen t p) p t1 (by omega) p1).1 (Int.le_refl _)
  have b : cpl t (cen t p) ≤ p := by
    rcases Int.lt_or_le p (cpl t (cen t p)) with hlt | hle
    · have := cen_le t p t1 p1 hlt
      omega
    · exact hle
  have e : cpl t (cen t p) = p := by omega
  have hc : cpB t (cen t p) = true := by simp [cpB, hts, e]
  refine ⟨by rw [v]; exact hc, by rw [v, cpV, hc, cond_true, e], tri, by rw [e3]; omega, by rw [e3]; omega, by rw [e3]; omega, by rw [e3]; omega, by rw [e3, v]; omega, p1, p2⟩
structure CpE (u m : Int) : Prop where
  ok : gnB u (cpV u m) = true
  back : cnV u (cpV u m) = m
theorem cpE_of {u m : Int} (h : cpB u m = true) (hp : cpV u m ≤ 100000) : CpE u m := by
  have h0 : tsB u m = true ∧ cen u (cpl u m) = m := by simpa [cpB] using h
  obtain ⟨ht, hc⟩ := h0
  obtain ⟨⟨u1, u2⟩, m0, m1⟩ := ts_iff.1 ht
  have e : cpV u m = cpl u m := by rw [cpV, h, cond_true]
  have hm : 1 ≤ m := by
    rcases Int.lt_or_le 0 m with hlt | hle
    · exact hlt
    · have : m = 0 := by omega
      subst this
      rw [cpl_zero] at hc
      simp [cen] at hc
  have q := (cpl_is u m u1 hm).1
  have hg : gnB u (cpl u m) = true := by simp [gnB]; omega
  exact ⟨by rw [e]; exact hg, by rw [e, cnV, hg, cond_true, hc]⟩
end Go.Proofs.YtjfkeflmbgfhmaaGreatDoor
