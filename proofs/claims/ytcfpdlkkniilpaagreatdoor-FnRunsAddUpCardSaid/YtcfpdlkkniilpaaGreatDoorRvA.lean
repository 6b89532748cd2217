/- Chapter 5: runs, signed runs, triangles apart, powers of 2, sums of runs: what they answer as plain functions, and how they hang together. No program in sight. -/
import Derived.Test.YtcfpdlkkniilpaaGreatDoorAnS
import Derived.Test.YtcfpdlkkniilpaaGreatDoorRuG
import Derived.Test.YtcfpdlkkniilpaaGreatDoorRuP
import Derived.Test.YtcfpdlkkniilpaaGreatDoorRuNo
namespace Go.Proofs.YtcfpdlkkniilpaaGreatDoor

noncomputable def ruL (n : Int) : List (Int × Int) := bif ruB n then runsL n else []
noncomputable def sgL (n : Int) : List (Int × Int) := bif ruB n then signedL n else []
noncomputable def trL (n : Int) : List (List Int) := bif ruB n then ((runsL n).map triR).reverse else []
noncomputable def ruC (n : Int) : Int := (ruL n).length
noncomputable def loP (n : Int) : Int × Int := bif ruB n then (runsL n).getLastD (0, 0) else (0, 0)
noncomputable def loF (n : Int) : Int := (loP n).1
noncomputable def loK (n : Int) : Int := (loP n).2
def noB (m : Int) : Bool := decide (0 ≤ m ∧ m ≤ 5000)
def noL (m : Int) : List Int := bif noB m then pows m.toNat else []
def rsB (f l : Int) : Bool := decide ((-1000000 ≤ f ∧ f ≤ 1000000) ∧ 0 ≤ l ∧ l ≤ 1000000)
def rsV (f l : Int) : Int := bif rsB f l then l * f + l * (l - 1) / 2 else 0
def qrB (f l : Int) : Bool := decide ((-1000 ≤ f ∧ f ≤ 1000) ∧ 0 ≤ l ∧ l ≤ 1000)
def qrV (f l : Int) : Int := bif qrB f l then sqSum f l.toNat else 0
def saB (l : Int) : Bool := decide (1 ≤ l ∧ l ≤ 1000)
def saA (l : Int) : Int := bif saB l then l * l else 0
def saK (l : Int) : Int := bif saB l then l + 1 else 0
def saD (l : Int) : Int := bif saB l then l * l + (l + 1) else 0
def saL (l : Int) : Int := bif saB l then l else 0

/-- The sum of a run whose pair of factors is told. -/
theorem run_sum {a b n : Int} (hm : a * b = 2 * n) (hp : (b - a) % 2 = 1) : a * ((b - a + 1) / 2) + a * (a - 1) / 2 = n := by
  have e1 : 2 * ((b - a + 1) / 2) = b - a + 1 := by omega
  have e2 : a * (a - 1) % 2 = 0 := by
    rcases Int.emod_two_eq a with h | h
    · rw [Int.mul_emod, h]; simp
    · rw [Int.mul_emod, show (a - 1) % 2 = 0 from by omega]; simp
  have e3 : 2 * (a * ((b - a + 1) / 2)) = a * (b - a + 1) := by rw [← e1]; grind
  have e4 : a * (b - a + 1) + a * (a - 1) = a * b := by grind
  omega

/-- Run i of a number, and the pair of places of the triangles that it parts. -/
structure RnR (n : Int) (i : Nat) (f k : Int) : Prop where
  row : (ruL n)[i]? = some (f, k)
  tri : (trL n)[(ruL n).length - 1 - i]? = some [f + k - 1, f - 1]
  f1 : 1 ≤ f
  f2 : f ≤ 1000000
  k1 : 1 ≤ k
  k2 : k ≤ 1000000
  ok : rsB f k = true
  sum : rsV f k = n
  before : ∀ j z t, i = j + 1 → (ruL n)[j]? = some (z, t) → t < k
theorem runs_at {n : Int} (h0 : 1 ≤ n) (h1 : n ≤ 1000000) {f k : Int} (hm : (f, k) ∈ runsL n) : (1 ≤ f ∧ f ≤ 1000000) ∧ (1 ≤ k ∧ k ≤ 1000000) ∧ rsB f k = true ∧ rsV f k = n := by
  obtain ⟨a, b, a1, ab, mul, par, e⟩ := (mem_runsL n h0 _).1 hm
  injection e with e1 e2
  subst e2
  have s := run_sum mul par
  rw [← e1] at s
  have b2 : b ≤ 2 * n := by
    have := Int.mul_le_mul_of_nonneg_right a1 (show 0 ≤ b by omega)
    omega
  have ka : k ≤ n := by
    rcases Int.lt_or_le n k with h | h
    · have q := Int.mul_le_mul_of_nonneg_left (show 2 ≤ b by omega) (show 0 ≤ k by omega)
      omega
    · exact h
  have f1 : 1 ≤ f := by omega
  have f2 : f ≤ 1000000 := by omega
  have hb : rsB f k = true := by simp [rsB]; omega
  exact ⟨⟨f1, f2⟩, ⟨a1, by omega⟩, hb, by rw [rsV, hb, cond_true]; exact s⟩
theorem rnR_of {n : Int} (h : ruB n = true) (i : Nat) (hi : i < (ruL n).length) : ∃ f k, RnR n i f k := by
  obtain ⟨h0, h1⟩ := ru_iff.1 h
  have er : ruL n = runsL n := by rw [ruL, h, cond_true]
  have et : trL n = ((runsL n).map triR).reverse := by rw [trL, h, cond_true]
  rw [er] at hi
  obtain ⟨p, hp⟩ : ∃ p, p = (runsL n)[i] := ⟨_, rfl⟩
  have hm : (runsL n)[i] ∈ runsL n := List.getElem_mem hi
  rw [← hp] at hm
  obtain ⟨f, k⟩ := p
  obtain ⟨⟨f1, f2⟩, ⟨k1, k2⟩, hb, hs⟩ := runs_at h0 h1 hm
  refine ⟨f, k, ?_, ?_, f1, f2, k1, k2, hb, hs, ?_⟩
  · rw [er, List.getElem?_eq_getElem hi, ← hp]
  · rw [et, er, List.getElem?_reverse (by simp; omega)]
    simp only [List.length_map, List.getElem?_map]
    rw [show (runsL n).length - 1 - ((runsL n).length - 1 - i) = i from by omega, List.getElem?_eq_getElem hi, ← hp]
    rfl
  · rintro j z t rfl hz
    rw [er, List.getElem?_eq_getElem (by omega)] at hz
    have pw := (List.pairwise_iff_getElem.1 (runs_lt n h0) j (j + 1) (by omega) hi (by omega)).1
    injection hz with hz
    rw [hz, ← hp] at pw
    exact pw

theorem runs_alone {n : Int} (h0 : 1 ≤ n) (h1 : n ≤ 1000000) : (runsL n)[0]? = some (n, 1) := by
  have hm : (n, (1 : Int)) ∈ runsL n := by
    rw [mem_runsL n h0]
    exact ⟨1, 2 * n, by omega, by omega, by omega, by omega, by simp⟩
  obtain ⟨i, hi, e⟩ := List.getElem_of_mem hm
  cases i with
  | zero => rw [List.getElem?_eq_getElem hi, e]
  | succ j =>
    exfalso
    have pw := (List.pairwise_iff_getElem.1 (runs_lt n h0) 0 (j + 1) (by omega) hi (by omega)).1
    rw [e] at pw
    have h2 := (runs_at h0 h1 (f := (runsL n)[0].1) (k := (runsL n)[0].2) (List.getElem_mem _)).2.1.1
    simp only at pw
    omega

/-- A number's runs as one list: how many, the first and the last one. -/
structure RuE (n : Int) : Prop where
  len : (sgL n).length = 2 * (ruL n).length
  tri : (trL n).length = (ruL n).length
  few : (ruL n).length ≤ 1500
  ne : 0 < (ruL n).length
  first : (ruL n)[0]? = some (n, 1)
  last : (ruL n)[(ruL n).length - 1]? = some (loF n, loK n)
theorem ruE_of {n : Int} (h : ruB n = true) : RuE n := by
  obtain ⟨h0, h1⟩ := ru_iff.1 h
  have er : ruL n = runsL n := by rw [ruL, h, cond_true]
  have et : trL n = ((runsL n).map triR).reverse := by rw [trL, h, cond_true]
  have es : sgL n = signedL n := by rw [sgL, h, cond_true]
  have hne : 0 < (runsL n).length := List.length_pos_iff.2 (runs_ne n h0)
  refine ⟨?_, by rw [et, er]; simp, by rw [er]; exact runs_len n h0 h1, by rw [er]; exact hne, by rw [er]; exact runs_alone h0 h1, ?_⟩
  · rw [es, er, ← (signed_perm n h0).length_eq, signedP_len]
  · rw [er, loF, loK, loP, h, cond_true, List.getElem?_eq_getElem (by omega)]
    rw [List.getLastD_eq_getLast?, List.getLast?_eq_getElem?, List.getElem?_eq_getElem (by omega)]
    rfl

/-- Signed run i of a number. -/
structure SgR (n : Int) (i : Nat) (f k : Int) : Prop where
  row : (sgL n)[i]? = some (f, k)
  f1 : -1000000 ≤ f
  f2 : f ≤ 1000000
  k1 : 1 ≤ k
  k2 : k ≤ 2000000
  ok : k ≤ 1000000 → rsB f k = true
  sum : k ≤ 1000000 → rsV f k = n
  before : ∀ j z t, i = j + 1 → (sgL n)[j]? = some (z, t) → t < k
theorem sgR_of {n : Int} (h : ruB n = true) (i : Nat) (hi : i < (sgL n).length) : ∃ f k, SgR n i f k := by
  obtain ⟨h0, h1⟩ := ru_iff.1 h
  have es : sgL n = signedL n := by rw [sgL, h, cond_true]
  rw [es] at hi
  obtain ⟨p, hp⟩ : ∃ p, p = (signedL n)[i] := ⟨_, rfl⟩
  have hm : (signedL n)[i] ∈ signedL n := List.getElem_mem hi
  rw [← hp] at hm
  obtain ⟨f, k⟩ := p
  obtain ⟨l, l1, l2, hl⟩ := (mem_sel _ _ _).1 hm
  unfold fS at hl
  split at hl
  · rename_i hc
    obtain ⟨c1, c2, _⟩ := hc
    injection hl with hl
    injection hl with e1 e2
    subst e2
    have mul := div_spec (2 * n) l l1 c1
    have q1 := div_pos' (2 * n) l (by omega) l1 c1
    generalize 2 * n / l = b at *
    have s := run_sum mul (by omega)
    rw [show (b - l + 1) / 2 = f from e1] at s
    have b2 : b ≤ 2 * n := by
      have := Int.mul_le_mul_of_nonneg_right l1 (show 0 ≤ b by omega)
      omega
    have hok : l ≤ 1000000 → rsB f l = true := fun hl => by simp [rsB]; omega
    refine ⟨f, l, by rw [es, List.getElem?_eq_getElem hi, ← hp], by omega, by omega, l1, by omega, hok, fun hl => by rw [rsV, hok hl, cond_true]; exact s, ?_⟩
    rintro j z t rfl hz
    rw [es, List.getElem?_eq_getElem (by omega)] at hz
    have pw := List.pairwise_iff_getElem.1 (signed_lt n) j (j + 1) (by omega) hi (by omega)
    injection hz with hz
    rw [hz, ← hp] at pw
    exact pw
  · cases hl

/-- Row i of the triangles apart. -/
structure TrR (n : Int) (i : Nat) (x y : Int) : Prop where
  row : (trL n)[i]? = some [x, y]
  y0 : 0 ≤ y
  before : ∀ j z t, i = j + 1 → (trL n)[j]? = some [z, t] → z < x
theorem trR_of {n : Int} (h : ruB n = true) (i : Nat) (hi : i < (trL n).length) : ∃ x y, TrR n i x y := by
  obtain ⟨h0, h1⟩ := ru_iff.1 h
  have et : trL n = ((runsL n).map triR).reverse := by rw [trL, h, cond_true]
  have hl : (trL n).length = (runsL n).length := by rw [et]; simp
  have hx : ∀ j, j < (runsL n).length → (trL n)[j]? = ((runsL n)[(runsL n).length - 1 - j]?).map triR := fun j hj => by
    rw [et, List.getElem?_reverse (by simpa using hj)]
    simp
  have hj : (runsL n).length - 1 - i < (runsL n).length := by omega
  have hm : (runsL n)[(runsL n).length - 1 - i] ∈ runsL n := List.getElem_mem hj
  obtain ⟨p, hp⟩ : ∃ p, p = (runsL n)[(runsL n).length - 1 - i] := ⟨_, rfl⟩
  rw [← hp] at hm
  obtain ⟨f, k⟩ := p
  obtain ⟨⟨f1, f2⟩, ⟨k1, k2⟩, _, _⟩ := runs_at h0 h1 hm
  refine ⟨f + k - 1, f - 1, ?_, by omega, ?_⟩
  · rw [hx i (by omega), List.getElem?_eq_getElem hj, ← hp]
    rfl
  · rintro j z t rfl hz
    have hj2 : (runsL n).length - 1 - j < (runsL n).length := by omega
    rw [hx j (by omega), List.getElem?_eq_getElem hj2] at hz
    have hlt : (runsL n).length - 1 - (j + 1) < (runsL n).length - 1 - j := by omega
    have pw := List.pairwise_iff_getElem.1 (tri_falls n h0) _ _ hj hj2 hlt
    simp only [Option.map_some, Option.some.injEq, triR, List.cons.injEq, and_true] at hz
    rw [← hp] at pw
    simp only at pw
    omega

/-! ### powers of 2 -/
def twos : List Int := [1, 2, 4, 8, 16, 32, 64, 128, 256, 512, 1024, 2048, 4096]
theorem pows_steps : ∀ j, j < 12 → pows (2 ^ (j + 1) - 1) = pows (2 ^ j) ∧ pows (2 ^ j) = twos.take (j + 1) := by decide +kernel
theorem pows_top : pows 5000 = twos ∧ pows 4096 = twos := by decide +kernel
theorem pows_mono {a b : Nat} (h : a ≤ b) : (pows a).length ≤ (pows b).length := by
  induction h with
  | refl => exact Nat.le_refl _
  | step h ih =>
    rename_i m
    by_cases hp : pcf 13 (m + 1) = 1
    · rw [pows_yes _ hp]; simp; omega
    · rw [pows_no _ hp]; exact ih
theorem pows_take {a b : Nat} (h : a ≤ b) : pows a = (pows b).take (pows a).length := by
  induction h with
  | refl => simp
  | step h ih =>
    rename_i m
    have hm := pows_mono h
    by_cases hp : pcf 13 (m + 1) = 1
    · rw [pows_yes _ hp, List.take_append_of_le_length hm]; exact ih
    · rw [pows_no _ hp]; exact ih
theorem twos_runs : twos.all (fun x => oddC x x.toNat == 1) = true := by decide +kernel
theorem noL_take (m : Int) : noL m = twos.take (noL m).length ∧ (noL m).length ≤ 13 := by
  unfold noL
  rcases Bool.eq_false_or_eq_true (noB m) with h | h
  · have h0 : 0 ≤ m ∧ m ≤ 5000 := by simpa [noB] using h
    rw [h, cond_true]
    have e := pows_take (a := m.toNat) (b := 5000) (by omega)
    have l := pows_mono (a := m.toNat) (b := 5000) (by omega)
    rw [pows_top.1] at e l
    exact ⟨e, l⟩
  · rw [h, cond_false]; simp
/-- Number i of those without a longer run. -/
structure NoR (m : Int) (i : Nat) (x : Int) : Prop where
  row : (noL m)[i]? = some x
  x1 : 1 ≤ x
  x2 : x ≤ 5000
  ok : ruB x = true
  one : ruC x = 1
  first : i = 0 → x = 1
  before : ∀ j z, i = j + 1 → (noL m)[j]? = some z → x = 2 * z
theorem twos_at (i : Nat) (hi : i < 13) : ∃ x, twos[i]? = some x ∧ 1 ≤ x ∧ x ≤ 5000 ∧ (i = 0 → x = 1) ∧ (∀ j z, i = j + 1 → twos[j]? = some z → x = 2 * z) := by
  have h : ∀ i, i < 13 → (1 : Int) ≤ twos.getD i 0 ∧ twos.getD i 0 ≤ 5000 ∧ (i = 0 → twos.getD i 0 = 1) ∧ (0 < i → twos.getD i 0 = 2 * twos.getD (i - 1) 0) := by decide
  obtain ⟨h1, h2, h3, h4⟩ := h i hi
  have e : twos[i]? = some (twos.getD i 0) := by
    rw [List.getD_eq_getElem?_getD, List.getElem?_eq_getElem (show i < twos.length from hi)]; rfl
  refine ⟨_, e, h1, h2, h3, ?_⟩
  rintro j z rfl hz
  have := h4 (by omega)
  rw [Nat.add_sub_cancel] at this
  rw [this, List.getD_eq_getElem?_getD, hz]; rfl
theorem noR_of (m : Int) (i : Nat) (hi : i < (noL m).length) : ∃ x, NoR m i x := by
  obtain ⟨e, l⟩ := noL_take m
  generalize hN : (noL m).length = N at *
  obtain ⟨x, hx, x1, x2, hf, hb⟩ := twos_at i (by omega)
  have hr : ruB x = true := ru_iff.2 ⟨x1, by omega⟩
  have ho := List.all_eq_true.1 twos_runs x (List.mem_of_getElem? hx)
  refine ⟨x, by rw [e, List.getElem?_take_of_lt hi, hx], x1, x2, hr, ?_, hf, ?_⟩
  · have hc := odd_count x x.toNat x1 (by omega)
    rw [ruC, ruL, hr, cond_true, ← hc]
    simp only [beq_iff_eq] at ho
    omega
  · rintro j z rfl hz
    rw [e, List.getElem?_take_of_lt (by omega)] at hz
    exact hb j z rfl hz

/-! ### squares of a run -/
structure SqE (f l : Int) : Prop where
  ok : qrB f (l - 1) = true
  f1 : -1000 ≤ f
  f2 : f ≤ 1000
  l1 : 1 ≤ l
  l2 : l ≤ 1000
  v0 : 0 ≤ qrV f l ∧ qrV f l ≤ 4000000000
  v1 : 0 ≤ qrV f (l - 1) ∧ qrV f (l - 1) ≤ 4000000000
  last : qrV f l - qrV f (l - 1) = (f + l - 1) * (f + l - 1)
theorem sqE_of {f l : Int} (h : qrB f l = true) (hl : 0 < l) : SqE f l := by
  have h0 : (-1000 ≤ f ∧ f ≤ 1000) ∧ 0 ≤ l ∧ l ≤ 1000 := by simpa [qrB] using h
  have hk : qrB f (l - 1) = true := by simp [qrB]; omega
  obtain ⟨k, rfl⟩ : ∃ k : Nat, l = (k : Int) + 1 := ⟨(l - 1).toNat, by omega⟩
  have e1 : qrV f ((k : Int) + 1) = sqSum f (k + 1) := by rw [qrV, h, cond_true, show ((k : Int) + 1).toNat = k + 1 from by omega]
  have e2 : qrV f ((k : Int) + 1 - 1) = sqSum f k := by rw [qrV, hk, cond_true, show ((k : Int) + 1 - 1).toNat = k from by omega]
  have b1 := sqSum_b f h0.1.1 h0.1.2 (k + 1) (by omega)
  have b2 := sqSum_b f h0.1.1 h0.1.2 k (by omega)
  refine ⟨hk, h0.1.1, h0.1.2, by omega, by omega, ?_, ?_, ?_⟩
  · rw [e1]; omega
  · rw [e2]; omega
  · rw [e1, e2, sqSum, show f + ((k : Int) + 1) - 1 = f + (k : Int) from by omega]; omega

/-! ### the same sums -/
structure SaE (l : Int) : Prop where
  l1 : 1 ≤ l
  l2 : l ≤ 1000
  q0 : 0 ≤ l * l
  q1 : l * l ≤ 1000000
  a : saA l = l * l
  k : saK l = l + 1
  d : saD l = l * l + (l + 1)
  b : saL l = l
  ok : rsB (l * l) (l + 1) = true
  two : rsB (l * l + (l + 1)) l = decide (l * l + (l + 1) ≤ 1000000)
  same : l * l + (l + 1) ≤ 1000000 → rsV (l * l + (l + 1)) l = rsV (l * l) (l + 1)
theorem saE_of {l : Int} (h : saB l = true) : SaE l := by
  have h0 : 1 ≤ l ∧ l ≤ 1000 := by simpa [saB] using h
  have s := same_b l h0.1 h0.2
  have p0 := s.p0
  have p1 := s.p1
  have hok : rsB (l * l) (l + 1) = true := by simp [rsB]; omega
  have htwo : rsB (l * l + (l + 1)) l = decide (l * l + (l + 1) ≤ 1000000) := by
    rw [rsB, Bool.eq_iff_iff]
    simp only [decide_eq_true_eq]
    omega
  refine ⟨h0.1, h0.2, p0, p1, by rw [saA, h, cond_true], by rw [saK, h, cond_true], by rw [saD, h, cond_true], by rw [saL, h, cond_true], hok, htwo, fun hle => ?_⟩
  have h2 : rsB (l * l + (l + 1)) l = true := by rw [htwo]; exact decide_eq_true hle
  rw [rsV, rsV, hok, h2, cond_true, cond_true]
  have e1 : (l + 1) * (l + 1 - 1) = l * (l - 1) + 2 * l := by grind
  have e2 : l * (l * l + (l + 1)) = (l + 1) * (l * l) + l := by grind
  rw [e1, e2]
  omega
end Go.Proofs.YtcfpdlkkniilpaaGreatDoor
