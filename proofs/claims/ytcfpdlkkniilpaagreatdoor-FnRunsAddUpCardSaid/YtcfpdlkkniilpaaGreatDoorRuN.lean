/- Plain arithmetic of chapter 5, 2: odd divisors counted, signed runs in order, differences of squares, one sorted list. No program in sight. -/
import Derived.Test.YtcfpdlkkniilpaaGreatDoorRuM
namespace Go.Proofs.YtcfpdlkkniilpaaGreatDoor

/-- A list in the order of a key, none equal, is the only one of its permutations in that order. -/
theorem sort_uniq {α : Type} (key : α → Int) {l s : List α} (hp : l.Perm s) (hs : s.Pairwise fun x y => key x < key y) (hl : l.Pairwise fun x y => ¬ key y < key x) : l = s := by
  have hinj : ∀ a ∈ s, ∀ b ∈ s, key a = key b → a = b := by
    intro a ha b hb he
    clear hp hl
    induction s with
    | nil => simp at ha
    | cons x s ih =>
      rw [List.pairwise_cons] at hs
      simp only [List.mem_cons] at ha hb
      rcases ha with rfl | ha
      · rcases hb with rfl | hb
        · rfl
        · have := hs.1 b hb; omega
      · rcases hb with rfl | hb
        · have := hs.1 a ha; omega
        · exact ih hs.2 ha hb
  refine List.Perm.eq_of_pairwise (le := fun x y => key x ≤ key y) (fun a b ha hb h1 h2 => hinj a (hp.subset ha) b hb (by omega)) (hl.imp fun h => by omega) (hs.imp fun h => by omega) hp

/-! ### odd divisors -/
/-- How many of 1, 3, .., 2 k - 1 divide n. -/
def oddC (n : Int) (k : Nat) : Nat := ((List.range k).filter fun (j : Nat) => decide (n % (2 * (j : Int) + 1) = 0)).length
theorem oddC_yes (n : Int) (k : Nat) (h : n % (2 * (k : Int) + 1) = 0) : oddC n (k + 1) = oddC n k + 1 := by simp [oddC, List.range_succ, List.filter_append, h]
theorem oddC_no (n : Int) (k : Nat) (h : ¬ n % (2 * (k : Int) + 1) = 0) : oddC n (k + 1) = oddC n k := by simp [oddC, List.range_succ, List.filter_append, h]
theorem oddC_le (n : Int) (k : Nat) : oddC n k ≤ k := by
  refine Nat.le_trans (List.length_filter_le _ _) ?_
  simp
/-- The odd factor of a run's pair. -/
def oddOf (r : Int × Int) : Int := if r.2 % 2 = 1 then r.2 else 2 * r.1 - 1 + r.2
theorem odd_half (a b n : Int) (h : a * b = 2 * n) (_ : a % 2 = 1) (hb : b % 2 = 0) : a * (b / 2) = n := by
  have e : b = 2 * (b / 2) := by omega
  have e2 : a * b = 2 * (a * (b / 2)) := by
    rw [show a * b = a * (2 * (b / 2)) by rw [← e]]
    grind
  omega
theorem mod_of_mul {a c n : Int} (h : a * c = n) : n % a = 0 := by rw [← h]; exact mul_mod0 a c
theorem odd_count (n : Int) (k : Nat) (hn : 1 ≤ n) (hk : n < 2 * (k : Int) + 1) : oddC n k = (runsL n).length := by
  have hp : (((List.range k).filter fun (j : Nat) => decide (n % (2 * (j : Int) + 1) = 0)).map fun (j : Nat) => 2 * (j : Int) + 1).Perm ((runsL n).map oddOf) := by
    rw [List.perm_ext_iff_of_nodup]
    · intro d
      simp only [List.mem_map, List.mem_filter, List.mem_range, decide_eq_true_eq]
      constructor
      · rintro ⟨j, ⟨hj, hm⟩, rfl⟩
        obtain ⟨d, hd⟩ : ∃ d : Int, d = 2 * (j : Int) + 1 := ⟨_, rfl⟩
        rw [← hd] at hm ⊢
        have e := div_spec n d (by omega) hm
        have p := div_pos' n d hn (by omega) hm
        generalize n / d = c at e p
        have e2 : d * (2 * c) = 2 * n := by rw [← e]; grind
        rcases Int.lt_or_le d (2 * c) with h | h
        · refine ⟨((2 * c - d + 1) / 2, d), (mem_runsL n hn _).2 ⟨d, 2 * c, by omega, h, e2, by omega, rfl⟩, ?_⟩
          rw [oddOf, if_pos (by simp; omega)]
        · refine ⟨((d - 2 * c + 1) / 2, 2 * c), (mem_runsL n hn _).2 ⟨2 * c, d, by omega, by omega, by rw [Int.mul_comm]; exact e2, by omega, rfl⟩, ?_⟩
          rw [oddOf, if_neg (by simp)]
          simp only
          omega
      · rintro ⟨r, hr, rfl⟩
        obtain ⟨a, b, h1, h2, h3, h4, rfl⟩ := (mem_runsL n hn r).1 hr
        unfold oddOf
        by_cases ha : a % 2 = 1
        · have hb : b % 2 = 0 := by omega
          have e := odd_half a b n h3 ha hb
          have hle : a ≤ n := by
            rw [← e]
            have := Int.mul_le_mul_of_nonneg_left (show 1 ≤ b / 2 by omega) (show 0 ≤ a by omega)
            omega
          simp only [ha, if_true]
          refine ⟨(a / 2).toNat, ⟨by omega, ?_⟩, by omega⟩
          rw [show 2 * (((a / 2).toNat : Nat) : Int) + 1 = a by omega]
          exact mod_of_mul e
        · have hb : b % 2 = 1 := by omega
          have e := odd_half b a n (by rw [Int.mul_comm]; exact h3) hb (by omega)
          have hle : b ≤ n := by
            rw [← e]
            have := Int.mul_le_mul_of_nonneg_left (show 1 ≤ a / 2 by omega) (show 0 ≤ b by omega)
            omega
          simp only [ha, if_false]
          refine ⟨(b / 2).toNat, ⟨by omega, ?_⟩, by omega⟩
          rw [show 2 * (((b / 2).toNat : Nat) : Int) + 1 = b by omega]
          exact mod_of_mul e
    · rw [List.nodup_iff_pairwise_ne, List.pairwise_map]
      refine List.Pairwise.imp ?_ ((List.nodup_iff_pairwise_ne.1 List.nodup_range).filter _)
      intro a b hab h
      omega
    · rw [List.nodup_iff_pairwise_ne, List.pairwise_map]
      refine List.Pairwise.imp_of_mem ?_ (runs_lt n hn)
      intro x y hx hy ⟨h1, h2, h3⟩
      obtain ⟨a, b, a1, a2, a3, a4, rfl⟩ := (mem_runsL n hn x).1 hx
      obtain ⟨c, d, c1, c2, c3, c4, rfl⟩ := (mem_runsL n hn y).1 hy
      simp only at h1 h2 h3
      unfold oddOf
      by_cases ha : a % 2 = 1 <;> by_cases hc : c % 2 = 1 <;> simp only [ha, hc, if_true, if_false] <;> omega
  have := hp.length_eq
  simpa [oddC] using this

/-! ### signed runs -/
/-- The run of the same sum that begins at 0 or below. -/
def lessR (r : Int × Int) : Int × Int := (1 - r.1, r.1 + r.2 - 1 + r.1)
/-- The signed runs as the program appends them. -/
def signedP (rs : List (Int × Int)) : List (Int × Int) := rs.flatMap fun r => [r, lessR r]
theorem signedP_app (rs : List (Int × Int)) (r : Int × Int) : signedP (rs ++ [r]) = signedP rs ++ [r, lessR r] := by simp [signedP]
theorem signedP_len (rs : List (Int × Int)) : (signedP rs).length = 2 * rs.length := by
  induction rs with
  | nil => rfl
  | cons r rs ih => simp [signedP] at ih ⊢; omega
noncomputable def signedL (n : Int) : List (Int × Int) := sel (fS n true) (2 * n).toNat
theorem signed_lt (n : Int) : (signedL n).Pairwise fun x y => x.2 < y.2 := by
  unfold signedL
  refine sel_pairwise _ _ _ fun a b x y h1 h2 h3 hx hy => ?_
  unfold fS at hx hy
  split at hx
  · split at hy
    · injection hx with hx
      injection hy with hy
      subst hx
      subst hy
      exact h2
    · cases hy
  · cases hx
theorem signed_perm (n : Int) (hn : 1 ≤ n) : (signedP (runsL n)).Perm (signedL n) := by
  rw [List.perm_ext_iff_of_nodup]
  · intro r
    unfold signedP signedL
    rw [List.mem_flatMap, mem_sel]
    constructor
    · rintro ⟨x, hx, hr⟩
      obtain ⟨a, b, a1, a2, a3, a4, rfl⟩ := (mem_runsL n hn x).1 hx
      have ea : 2 * n % a = 0 := mod_of_mul a3
      have eb : 2 * n % b = 0 := mod_of_mul (by rw [Int.mul_comm]; exact a3)
      have da : 2 * n / a = b := by rw [← a3]; exact mul_div0 a b a1
      have db : 2 * n / b = a := by rw [← a3, Int.mul_comm]; exact mul_div0 b a (by omega)
      have hb : b ≤ 2 * n := by
        have := Int.mul_le_mul_of_nonneg_right a1 (show 0 ≤ b by omega)
        omega
      simp only [List.mem_cons, List.not_mem_nil, or_false] at hr
      rcases hr with rfl | rfl
      · refine ⟨a, a1, by omega, ?_⟩
        rw [fS, da, if_pos ⟨ea, by omega, Or.inl rfl⟩]
      · refine ⟨b, by omega, by omega, ?_⟩
        rw [fS, db, if_pos ⟨eb, by omega, Or.inl rfl⟩]
        simp only [lessR, Option.some.injEq, Prod.mk.injEq]
        omega
    · rintro ⟨l, h1, h2, h3⟩
      unfold fS at h3
      split at h3
      · rename_i hc
        obtain ⟨hm, hp, _⟩ := hc
        injection h3 with h3
        subst h3
        have e := div_spec (2 * n) l h1 hm
        have p := div_pos' (2 * n) l (by omega) h1 hm
        generalize 2 * n / l = c at *
        rcases Int.lt_or_le l c with h | h
        · refine ⟨((c - l + 1) / 2, l), (mem_runsL n hn _).2 ⟨l, c, h1, h, e, by omega, rfl⟩, by simp⟩
        · refine ⟨((l - c + 1) / 2, c), (mem_runsL n hn _).2 ⟨c, l, by omega, by omega, by rw [Int.mul_comm]; exact e, by omega, rfl⟩, ?_⟩
          simp only [lessR, List.mem_cons, Prod.mk.injEq, List.not_mem_nil, or_false]
          right
          omega
      · cases h3
  · unfold signedP
    rw [List.nodup_iff_pairwise_ne, List.pairwise_flatMap]
    refine ⟨fun x hx => ?_, ?_⟩
    · obtain ⟨a, b, a1, a2, a3, a4, rfl⟩ := (mem_runsL n hn x).1 hx
      simp [lessR]
      omega
    · refine List.Pairwise.imp_of_mem ?_ (runs_lt n hn)
      intro x y hx hy ⟨h1, h2, h3⟩ u hu v hv
      obtain ⟨a, b, a1, a2, a3, a4, rfl⟩ := (mem_runsL n hn x).1 hx
      obtain ⟨c, d, c1, c2, c3, c4, rfl⟩ := (mem_runsL n hn y).1 hy
      simp only [List.mem_cons, List.not_mem_nil, or_false, lessR] at hu hv
      simp only at h1 h2 h3
      rcases hu with rfl | rfl <;> rcases hv with rfl | rfl <;> (intro h; injection h with h5 h6; omega)
  · rw [List.nodup_iff_pairwise_ne]
    exact (signed_lt n).imp fun h e => by rw [e] at h; omega
theorem signed_len (n : Int) (h0 : 1 ≤ n) (h1 : n ≤ 1000000) : (signedL n).length ≤ 3000 := by
  rw [← (signed_perm n h0).length_eq, signedP_len]
  have := runs_len n h0 h1
  omega

/-! ### alike pairs: odd runs and differences of squares -/
def alikeB (x : Int × Int) : Bool := decide ((x.2 - x.1) % 2 = 0)
noncomputable def alikes (n : Int) : List (Int × Int) := (facs n).filter alikeB
def sqR (x : Int × Int) : List Int := [(x.1 + x.2) / 2, (x.2 - x.1) / 2]
def oddR (x : Int × Int) : Int × Int := (x.2 - x.1 + 1, x.1)
/-- What the specification looks at, a length of an odd run. -/
def fO (n l : Int) : Option (Int × Int) := if n % l = 0 ∧ ¬ (n / l - l + 1) % 2 = 0 then some (n / l - l + 1, l) else none
theorem odd_eq (n : Int) : sel (fO n) (rt n).toNat = (alikes n).map oddR := by
  have e : (alikes n).map oddR = (facs n).filterMap fun x => if alikeB x then some (oddR x) else none := by
    unfold alikes
    induction facs n with
    | nil => rfl
    | cons x l ih => cases h : alikeB x <;> simp [h, ih]
  rw [e, facs, sel_bind]
  refine sel_congr fun l h1 h2 => ?_
  unfold fO fP
  by_cases hm : n % l = 0
  · simp only [hm, if_true, Option.bind_some, alikeB, oddR, decide_eq_true_eq, true_and]
    by_cases hp : (n / l - l) % 2 = 0
    · have : ¬ (n / l - l + 1) % 2 = 0 := by omega
      simp [hp, this]
    · have : (n / l - l + 1) % 2 = 0 := by omega
      simp [hp, this]
  · simp [hm]
theorem alikes_len (n : Int) (h0 : 1 ≤ n) (h1 : n ≤ 1000000) : (alikes n).length ≤ 1500 := Nat.le_trans (List.length_filter_le _ _) (facs_len n h0 (by omega))
theorem mem_alikes (n : Int) (hn : 1 ≤ n) (x : Int × Int) : x ∈ alikes n ↔ 1 ≤ x.1 ∧ x.1 ≤ x.2 ∧ x.1 * x.2 = n ∧ (x.2 - x.1) % 2 = 0 := by
  unfold alikes
  rw [List.mem_filter, mem_facs n hn]
  simp [alikeB, and_assoc]
/-- Closer factors, a lesser sum. -/
theorem alikes_lt (n : Int) (hn : 1 ≤ n) : (alikes n).Pairwise fun x y => x.1 < y.1 ∧ y.1 + y.2 < x.1 + x.2 := by
  unfold alikes
  refine List.Pairwise.imp_of_mem ?_ ((facs_lt n hn).filter _)
  intro x y hx hy ⟨h1, h2⟩
  obtain ⟨a1, a2, a3⟩ := (mem_facs n hn x).1 (List.mem_filter.1 hx).1
  obtain ⟨b1, b2, b3⟩ := (mem_facs n hn y).1 (List.mem_filter.1 hy).1
  refine ⟨h1, ?_⟩
  rcases Int.lt_or_le (y.1 + y.2) (x.1 + x.2) with h | h
  · exact h
  · have m1 := Int.mul_pos (a := y.1 - x.1) (b := x.2 - y.1) (by omega) (by omega)
    have m2 := Int.mul_nonneg (a := y.1) (b := y.1 + y.2 - (x.1 + x.2)) (by omega) (by omega)
    have e1 : (y.1 - x.1) * (x.2 - y.1) = y.1 * (x.1 + x.2) - y.1 * y.1 - x.1 * x.2 := by grind
    have e2 : y.1 * (y.1 + y.2 - (x.1 + x.2)) = y.1 * y.1 + y.1 * y.2 - y.1 * (x.1 + x.2) := by grind
    omega
/-- The first numbers of the lists of squares fall. -/
theorem sq_falls (n : Int) (hn : 1 ≤ n) : (alikes n).Pairwise fun x y => (y.1 + y.2) / 2 < (x.1 + x.2) / 2 := by
  refine List.Pairwise.imp_of_mem ?_ (alikes_lt n hn)
  intro x y hx hy ⟨_, h2⟩
  have h3 := ((mem_alikes n hn x).1 hx).2.2.2
  have h4 := ((mem_alikes n hn y).1 hy).2.2.2
  omega
/-- What the specification looks at, a difference of two numbers. -/
def fQ (n d : Int) : Option (List Int) := if n % d = 0 ∧ (n / d - d) % 2 = 0 then some [(n / d + d) / 2, (n / d - d) / 2] else none
theorem sq_eq (n : Int) : sel (fQ n) (rt n).toNat = (alikes n).map sqR := by
  have e : (alikes n).map sqR = (facs n).filterMap fun x => if alikeB x then some (sqR x) else none := by
    unfold alikes
    induction facs n with
    | nil => rfl
    | cons x l ih => cases h : alikeB x <;> simp [h, ih]
  rw [e, facs, sel_bind]
  refine sel_congr fun l h1 h2 => ?_
  unfold fQ fP
  by_cases hm : n % l = 0
  · simp only [hm, if_true, Option.bind_some, alikeB, sqR, decide_eq_true_eq, true_and]
    by_cases hp : (n / l - l) % 2 = 0
    · have : n / l + l = l + n / l := by omega
      simp [hp, this]
    · simp [hp]
  · simp [hm]
/-- What is picked of r, r - 1, .., d + 1. -/
def selDown {α : Type} (f : Int → Option α) (r d : Nat) : List α := ((upTo r).drop d).reverse.filterMap f
theorem selDown_top {α : Type} (f : Int → Option α) (r : Nat) : selDown f r r = [] := by
  unfold selDown
  rw [List.drop_eq_nil_of_le (by simp [upTo])]
  rfl
theorem selDown_end {α : Type} (f : Int → Option α) (r : Nat) : selDown f r 0 = (sel f r).reverse := by simp [selDown, sel, List.filterMap_reverse]
theorem upTo_drop (r d : Nat) (h : d < r) : (upTo r).drop d = ((d : Int) + 1) :: (upTo r).drop (d + 1) := by
  rw [List.drop_eq_getElem_cons (by simp [upTo]; exact h)]
  simp [upTo]
theorem selDown_some {α : Type} (f : Int → Option α) (r d : Nat) (h : d < r) {x : α} (hx : f ((d : Int) + 1) = some x) : selDown f r d = selDown f r (d + 1) ++ [x] := by
  unfold selDown
  rw [upTo_drop r d h]
  simp [List.filterMap_append, hx]
theorem selDown_none {α : Type} (f : Int → Option α) (r d : Nat) (h : d < r) (hx : f ((d : Int) + 1) = none) : selDown f r d = selDown f r (d + 1) := by
  unfold selDown
  rw [upTo_drop r d h]
  simp [List.filterMap_append, hx]
theorem selDown_len {α : Type} (f : Int → Option α) (r d : Nat) : (selDown f r d).length ≤ r := by
  unfold selDown
  refine Nat.le_trans (List.length_filterMap_le _ _) ?_
  simp [upTo]
theorem rt_small (n : Int) (h0 : 1 ≤ n) (h1 : n ≤ 2000000) : 1 ≤ rt n ∧ rt n ≤ 1415 := by
  constructor
  · exact (rfits_iff n 1 (by omega) (by omega)).1 (by omega)
  · rcases Int.lt_or_le 1415 (rt n) with h | h
    · have := (rfits_iff n 1416 (by omega) (by omega)).2 (by omega)
      omega
    · exact h
/-- The last pair of factors. -/
theorem facs_last (n a : Int) (hn : 1 ≤ n) (h1 : 1 ≤ a) (h2 : a ≤ rt n) (hm : n % a = 0) (h : ∀ l, a < l → l ≤ rt n → ¬ n % l = 0) : facs n = sel (fP n) (a - 1).toNat ++ [(a, n / a)] := by
  have r := rt_nn n (by omega)
  unfold facs
  rw [sel_cut (fP n) (k := (a - 1).toNat + 1) (by omega)]
  · exact sel_some _ _ (by rw [show (((a - 1).toNat : Nat) : Int) + 1 = a by omega]; simp [fP, hm])
  · intro l h3 h4
    have := h l (by omega) (by omega)
    simp [fP, this]
theorem runs_ne (n : Int) (hn : 1 ≤ n) : runsL n ≠ [] := fun h => by
  have := (mem_runsL n hn ((2 * n - 1 + 1) / 2, 1)).2 ⟨1, 2 * n, by omega, by omega, by omega, by omega, rfl⟩
  rw [h] at this
  cases this
/-! ### triangles -/
def triR (r : Int × Int) : List Int := [r.1 + r.2 - 1, r.1 - 1]
theorem tri_falls (n : Int) (hn : 1 ≤ n) : (runsL n).Pairwise fun x y => y.1 + y.2 - 1 < x.1 + x.2 - 1 := (runs_lt n hn).imp fun h => by omega
end Go.Proofs.YtcfpdlkkniilpaaGreatDoor
