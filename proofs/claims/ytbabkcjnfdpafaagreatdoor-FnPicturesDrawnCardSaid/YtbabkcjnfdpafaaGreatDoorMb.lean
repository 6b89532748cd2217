/- The texts XRuM XRuN XOwn XOwS XRuA XDtA XDtB XDtC XDtD XDtE XDtF XDtG joined. -/
import Derived.Test.YtbabkcjnfdpafaaGreatDoorMa
import Derived.Test.YtbabkcjnfdpafaaGreatDoorChecked
import Derived.WalkKit
import Derived.WalkSpells
import Derived.Lib.Hide
import Derived.Deep.QuietTactic
import Derived.BigQuiet
import Derived.Deep.RegionHeld3
import Derived.Deep.DeepCutAuto
import Derived.Lib.OthersKept
import Derived.WalkSmall
/- Plain arithmetic of chapter 5: pairs of factors, runs, odd divisors, differences of squares: lists of the specification and of the program, and why they are the same. No program in sight. -/
namespace Go.Proofs.YtbabkcjnfdpafaaGreatDoor

/-- The numbers 1, 2, .., k. -/
def upTo (k : Nat) : List Int := (List.range k).map fun (j : Nat) => (j : Int) + 1
theorem upTo_succ (k : Nat) : upTo (k + 1) = upTo k ++ [(k : Int) + 1] := by simp [upTo, List.range_succ]
theorem mem_upTo (k : Nat) (x : Int) : x ∈ upTo k ↔ 1 ≤ x ∧ x ≤ k := by
  simp only [upTo, List.mem_map, List.mem_range]
  constructor
  · rintro ⟨j, hj, rfl⟩
    omega
  · rintro ⟨h1, h2⟩
    exact ⟨(x - 1).toNat, by omega, by omega⟩
theorem upTo_lt (k : Nat) : (upTo k).Pairwise (· < ·) := by
  induction k with
  | zero => simp [upTo]
  | succ k ih =>
    rw [upTo_succ, List.pairwise_append]
    refine ⟨ih, by simp, fun a ha b hb => ?_⟩
    rw [mem_upTo] at ha
    simp at hb
    omega
/-- What f picks of 1, 2, .., k. -/
def sel {α : Type} (f : Int → Option α) (k : Nat) : List α := (upTo k).filterMap f
section
variable {α β : Type}
theorem sel_zero (f : Int → Option α) : sel f 0 = [] := by simp [sel, upTo]
theorem sel_some (f : Int → Option α) (k : Nat) {x : α} (h : f ((k : Int) + 1) = some x) : sel f (k + 1) = sel f k ++ [x] := by simp [sel, upTo_succ, List.filterMap_append, h]
theorem sel_none (f : Int → Option α) (k : Nat) (h : f ((k : Int) + 1) = none) : sel f (k + 1) = sel f k := by simp [sel, upTo_succ, List.filterMap_append, h]
theorem sel_len (f : Int → Option α) (k : Nat) : (sel f k).length ≤ k := by
  refine Nat.le_trans (List.length_filterMap_le _ _) ?_
  simp [upTo]
theorem sel_cut (f : Int → Option α) {k m : Nat} (hkm : k ≤ m) (h : ∀ l : Int, k < l → l ≤ m → f l = none) : sel f m = sel f k := by
  induction m with
  | zero => have : k = 0 := by omega
            rw [this]
  | succ m ih =>
    by_cases e : k = m + 1
    · rw [e]
    · rw [sel_none f m (h _ (by omega) (by omega))]
      exact ih (by omega) fun l h1 h2 => h l h1 (by omega)
theorem sel_congr {f g : Int → Option α} {k : Nat} (h : ∀ l : Int, 1 ≤ l → l ≤ k → f l = g l) : sel f k = sel g k := by
  induction k with
  | zero => simp [sel, upTo]
  | succ k ih =>
    have e := h ((k : Int) + 1) (by omega) (by omega)
    have i := ih fun l h1 h2 => h l h1 (by omega)
    unfold sel at *
    rw [upTo_succ, List.filterMap_append, List.filterMap_append, i]
    simp only [List.filterMap_cons, e, List.filterMap_nil]
theorem sel_bind (f : Int → Option α) (g : α → Option β) (k : Nat) : (sel f k).filterMap g = sel (fun l => (f l).bind g) k := by
  simp [sel, List.filterMap_filterMap]
theorem mem_sel (f : Int → Option α) (k : Nat) (x : α) : x ∈ sel f k ↔ ∃ l : Int, 1 ≤ l ∧ l ≤ k ∧ f l = some x := by
  simp only [sel, List.mem_filterMap, mem_upTo]
  constructor
  · rintro ⟨l, ⟨h1, h2⟩, h3⟩; exact ⟨l, h1, h2, h3⟩
  · rintro ⟨l, h1, h2, h3⟩; exact ⟨l, ⟨h1, h2⟩, h3⟩
/-- What is picked stands in the order of what it is picked by. -/
theorem sel_pairwise (f : Int → Option α) (R : α → α → Prop) (k : Nat) (h : ∀ (a b : Int) x y, 1 ≤ a → a < b → b ≤ k → f a = some x → f b = some y → R x y) : (sel f k).Pairwise R := by
  induction k with
  | zero => simp [sel, upTo]
  | succ k ih =>
    have i := ih fun a b x y h1 h2 h3 => h a b x y h1 h2 (by omega)
    cases e : f ((k : Int) + 1) with
    | none => rw [sel_none f k e]; exact i
    | some y =>
      rw [sel_some f k e, List.pairwise_append]
      refine ⟨i, by simp, fun x hx y' hy => ?_⟩
      simp at hy
      subst hy
      obtain ⟨l, h1, h2, h3⟩ := (mem_sel f k x).1 hx
      exact h l _ x y' h1 (by omega) (by omega) h3 e
end

/-! ### a product and its halves -/
theorem div_spec (n d : Int) (_ : 1 ≤ d) (hm : n % d = 0) : d * (n / d) = n := Int.mul_ediv_cancel' (Int.dvd_of_emod_eq_zero hm)
theorem div_pos' (n d : Int) (hn : 1 ≤ n) (hd : 1 ≤ d) (hm : n % d = 0) : 1 ≤ n / d := by
  have h := div_spec n d hd hm
  rcases Int.lt_or_le (n / d) 1 with h1 | h1
  · have := Int.mul_nonneg (a := d) (b := -(n / d)) (by omega) (by omega)
    have e : d * -(n / d) = -(d * (n / d)) := by grind
    omega
  · exact h1
theorem mul_mod0 (a b : Int) : (a * b) % a = 0 := Int.mul_emod_right a b
theorem mul_div0 (a b : Int) (ha : 1 ≤ a) : a * b / a = b := Int.mul_ediv_cancel_left b (by omega)
theorem le_of_sq {a b n : Int} (ha : 0 ≤ a) (_ : 0 ≤ b) (h1 : a * a ≤ n) (h2 : a * b = n) (ha1 : 1 ≤ a) : a ≤ b := by
  rcases Int.lt_or_le b a with h | h
  · have := Int.mul_le_mul_of_nonneg_left (show b + 1 ≤ a by omega) (show 0 ≤ a by omega)
    have e : a * (b + 1) = a * b + a := by grind
    omega
  · exact h
theorem tmod2 (x : Int) : x.tmod 2 = 0 ↔ x % 2 = 0 := by
  constructor
  · intro h
    have := Int.dvd_of_tmod_eq_zero h
    omega
  · intro h
    exact Int.tmod_eq_zero_of_dvd (by omega)
theorem tdiv2 (x : Int) (h : x % 2 = 0) : x.tdiv 2 = x / 2 := Int.tdiv_eq_ediv_of_dvd (by omega)

/-! ### pairs of factors -/
/-- The pair of factors whose lesser one is d. -/
def fP (n d : Int) : Option (Int × Int) := if n % d = 0 then some (d, n / d) else none
/-- All pairs of factors, the lesser factor first. -/
noncomputable def facs (n : Int) : List (Int × Int) := sel (fP n) (rt n).toNat
theorem mem_facs (n : Int) (hn : 1 ≤ n) (x : Int × Int) : x ∈ facs n ↔ 1 ≤ x.1 ∧ x.1 ≤ x.2 ∧ x.1 * x.2 = n := by
  rw [facs, mem_sel]
  have r0 := rt_nn n (by omega)
  constructor
  · rintro ⟨l, h1, h2, h3⟩
    unfold fP at h3
    split at h3
    · rename_i hm
      injection h3 with h3
      subst h3
      have e := div_spec n l h1 hm
      have p := div_pos' n l hn h1 hm
      have q := (rfits_iff n l (by omega) (by omega)).2 (by omega)
      exact ⟨h1, le_of_sq (by omega) (by omega) q e h1, e⟩
    · cases h3
  · rintro ⟨h1, h2, h3⟩
    have hm : n % x.1 = 0 := by rw [← h3]; exact mul_mod0 _ _
    have q : x.1 * x.1 ≤ n := by
      rw [← h3]
      exact Int.mul_le_mul_of_nonneg_left h2 (by omega)
    have q2 := (rfits_iff n x.1 (by omega) (by omega)).1 q
    refine ⟨x.1, h1, by omega, ?_⟩
    rw [fP, if_pos hm]
    have : n / x.1 = x.2 := by rw [← h3]; exact mul_div0 _ _ h1
    rw [this]
/-- Later pairs are closer together. -/
theorem facs_lt (n : Int) (hn : 1 ≤ n) : (facs n).Pairwise fun x y => x.1 < y.1 ∧ y.2 < x.2 := by
  unfold facs
  refine sel_pairwise _ _ _ fun a b x y h1 h2 h3 hx hy => ?_
  unfold fP at hx hy
  split at hx
  · rename_i ha
    split at hy
    · rename_i hb
      injection hx with hx
      injection hy with hy
      subst hx
      subst hy
      have e1 := div_spec n a h1 ha
      have e2 := div_spec n b (by omega) hb
      refine ⟨h2, ?_⟩
      show n / b < n / a
      rcases Int.lt_or_le (n / b) (n / a) with h | h
      · exact h
      · have p := div_pos' n a hn h1 ha
        have m1 := Int.mul_le_mul_of_nonneg_left h (show 0 ≤ a by omega)
        have m2 := Int.mul_le_mul_of_nonneg_right (show a + 1 ≤ b by omega) (show 0 ≤ n / b by omega)
        have e3 : (a + 1) * (n / b) = a * (n / b) + n / b := by grind
        omega
    · cases hy
  · cases hx
theorem facs_len (n : Int) (h0 : 1 ≤ n) (h1 : n ≤ 2000000) : (facs n).length ≤ 1500 := by
  have := sel_len (fP n) (rt n).toNat
  have h2 : rt n ≤ 1415 := by
    rcases Int.lt_or_le 1415 (rt n) with h | h
    · have := (rfits_iff n 1416 (by omega) (by omega)).2 (by omega)
      omega
    · exact h
  unfold facs
  omega

/-! ### runs -/
/-- The run of numbers of at least 1 that a pair of factors of twice the sum tells. -/
def gR (x : Int × Int) : Option (Int × Int) := if (x.2 - x.1) % 2 = 0 then none else some ((x.2 - x.1 + 1) / 2, x.1)
noncomputable def runsL (n : Int) : List (Int × Int) := (facs (2 * n)).filterMap gR
/-- What the specification looks at: a length. -/
def fS (n : Int) (signed : Bool) (l : Int) : Option (Int × Int) :=
  if 2 * n % l = 0 ∧ (2 * n / l - l + 1) % 2 = 0 ∧ (signed = true ∨ 1 ≤ (2 * n / l - l + 1) / 2) then some ((2 * n / l - l + 1) / 2, l) else none
theorem runs_eq (n : Int) (hn : 1 ≤ n) : sel (fS n false) (2 * n).toNat = runsL n := by
  have r0 := rt_nn (2 * n) (by omega)
  have hr : (rt (2 * n)).toNat ≤ (2 * n).toNat := by
    obtain ⟨a, b, c⟩ := rt_is (2 * n) (by omega)
    rcases Int.lt_or_le (2 * n) (rt (2 * n)) with h | h
    · have := Int.mul_le_mul_of_nonneg_left (show 1 ≤ rt (2 * n) by omega) (show 0 ≤ rt (2 * n) by omega)
      omega
    · omega
  unfold runsL facs
  rw [sel_bind, sel_cut (fS n false) hr]
  · refine sel_congr fun l h1 h2 => ?_
    have q := (rfits_iff (2 * n) l (by omega) (by omega)).2 (by omega)
    unfold fS fP
    by_cases hm : 2 * n % l = 0
    · have e := div_spec (2 * n) l h1 hm
      have p := div_pos' (2 * n) l (by omega) h1 hm
      have le := le_of_sq (by omega) (by omega) q e h1
      generalize 2 * n / l = b at *
      simp only [hm, if_true, Option.bind_some, gR]
      by_cases hp : (b - l) % 2 = 0
      · have : ¬ ((b - l + 1) % 2 = 0) := by omega
        simp [hp, this]
      · have h3 : (b - l + 1) % 2 = 0 := by omega
        have h4 : 1 ≤ (b - l + 1) / 2 := by omega
        simp [hp, h3, h4]
    · simp [hm]
  · intro l h1 h2
    unfold fS
    have h3 : ¬ (l * l ≤ 2 * n) := fun h => by
      have := (rfits_iff (2 * n) l (by omega) (by omega)).1 h
      omega
    by_cases hm : 2 * n % l = 0
    · have e := div_spec (2 * n) l (by omega) hm
      have h4 : 2 * n / l < l := by
        rcases Int.lt_or_le (2 * n / l) l with h | h
        · exact h
        · have := Int.mul_le_mul_of_nonneg_left h (show 0 ≤ l by omega)
          omega
      have : ¬ (1 ≤ (2 * n / l - l + 1) / 2) := by omega
      simp [this]
    · simp [hm]
theorem mem_runsL (n : Int) (hn : 1 ≤ n) (r : Int × Int) : r ∈ runsL n ↔ ∃ a b, 1 ≤ a ∧ a < b ∧ a * b = 2 * n ∧ (b - a) % 2 = 1 ∧ r = ((b - a + 1) / 2, a) := by
  unfold runsL
  rw [List.mem_filterMap]
  constructor
  · rintro ⟨x, hx, h⟩
    obtain ⟨h1, h2, h3⟩ := (mem_facs (2 * n) (by omega) x).1 hx
    unfold gR at h
    split at h
    · cases h
    · rename_i hp
      injection h with h
      exact ⟨x.1, x.2, h1, by omega, h3, by omega, h.symm⟩
  · rintro ⟨a, b, h1, h2, h3, h4, rfl⟩
    refine ⟨(a, b), (mem_facs (2 * n) (by omega) (a, b)).2 ⟨h1, by simp; omega, h3⟩, ?_⟩
    rw [gR, if_neg (by simp; omega)]
theorem runs_len (n : Int) (h0 : 1 ≤ n) (h1 : n ≤ 1000000) : (runsL n).length ≤ 1500 := Nat.le_trans (List.length_filterMap_le _ _) (facs_len (2 * n) (by omega) (by omega))
theorem pw_filterMap {α β : Type} (g : α → Option β) (R : α → α → Prop) (S : β → β → Prop) : ∀ {l : List α}, l.Pairwise R → (∀ x ∈ l, ∀ y ∈ l, ∀ a b, R x y → g x = some a → g y = some b → S a b) → (l.filterMap g).Pairwise S
  | [], _, _ => by simp
  | x :: l, h, hg => by
    rw [List.pairwise_cons] at h
    have ih := pw_filterMap g R S h.2 fun x hx y hy => hg x (by simp [hx]) y (by simp [hy])
    cases e : g x with
    | none => simpa [e] using ih
    | some a =>
      simp only [List.filterMap_cons, e, List.pairwise_cons]
      refine ⟨fun b hb => ?_, ih⟩
      obtain ⟨y, hy, e2⟩ := List.mem_filterMap.1 hb
      exact hg x (by simp) y (by simp [hy]) a b (h.1 y hy) e e2
/-- Longer runs begin at lesser numbers and end before. -/
theorem runs_lt (n : Int) (hn : 1 ≤ n) : (runsL n).Pairwise fun x y => x.2 < y.2 ∧ y.1 + y.2 < x.1 + x.2 ∧ y.1 < x.1 := by
  unfold runsL
  refine pw_filterMap gR _ _ (facs_lt (2 * n) (by omega)) fun x hx y hy a b hxy ha hb => ?_
  obtain ⟨h1, h2, h3⟩ := (mem_facs (2 * n) (by omega) x).1 hx
  obtain ⟨k1, k2, k3⟩ := (mem_facs (2 * n) (by omega) y).1 hy
  unfold gR at ha hb
  split at ha
  · cases ha
  · split at hb
    · cases hb
    · injection ha with ha
      injection hb with hb
      subst ha
      subst hb
      -- x.1 < y.1 <= y.2 < x.2, one product: the sums fall
      have hs : y.1 + y.2 < x.1 + x.2 := by
        rcases Int.lt_or_le (y.1 + y.2) (x.1 + x.2) with h | h
        · exact h
        · have m1 := Int.mul_pos (a := y.1 - x.1) (b := x.2 - y.1) (by omega) (by omega)
          have m2 := Int.mul_nonneg (a := y.1) (b := y.1 + y.2 - (x.1 + x.2)) (by omega) (by omega)
          have e1 : (y.1 - x.1) * (x.2 - y.1) = y.1 * (x.1 + x.2) - y.1 * y.1 - x.1 * x.2 := by grind
          have e2 : y.1 * (y.1 + y.2 - (x.1 + x.2)) = y.1 * y.1 + y.1 * y.2 - y.1 * (x.1 + x.2) := by grind
          omega
      refine ⟨hxy.1, ?_, ?_⟩ <;> simp only <;> omega
end Go.Proofs.YtbabkcjnfdpafaaGreatDoor

/- Plain arithmetic of chapter 5, 2: odd divisors counted, signed runs in order, differences of squares, one sorted list. No program in sight. -/
namespace Go.Proofs.YtbabkcjnfdpafaaGreatDoor

/-- A list in the order of a key, none equal, is the only one of its permutations in that order. -/
theorem sort_uniq {α : Type} (key : α → Int) {l s : List α} (hp : l.Perm s) (hs : s.Pairwise fun x y => key x < key y) (hl : l.Pairwise fun x y => ¬ key y < key x) : l = s := by
  have hinj : ∀ a ∈ s, ∀ b ∈ s, key a = key b → a = b := by
    intro a ha b hb he
    clear hp hl
    induction s with
    | nil => simp at ha
    | cons x s ih =>
      rw [List.pairwise_cons] at hs
      simp only [List.mem_cons] at ha hb
      rcases ha with rfl | ha
      · rcases hb with rfl | hb
        · rfl
        · have := hs.1 b hb; omega
      · rcases hb with rfl | hb
        · have := hs.1 a ha; omega
        · exact ih hs.2 ha hb
  refine List.Perm.eq_of_pairwise (le := fun x y => key x ≤ key y) (fun a b ha hb h1 h2 => hinj a (hp.subset ha) b hb (by omega)) (hl.imp fun h => by omega) (hs.imp fun h => by omega) hp

/-! ### odd divisors -/
/-- How many of 1, 3, .., 2 k - 1 divide n. -/
def oddC (n : Int) (k : Nat) : Nat := ((List.range k).filter fun (j : Nat) => decide (n % (2 * (j : Int) + 1) = 0)).length
theorem oddC_yes (n : Int) (k : Nat) (h : n % (2 * (k : Int) + 1) = 0) : oddC n (k + 1) = oddC n k + 1 := by simp [oddC, List.range_succ, List.filter_append, h]
theorem oddC_no (n : Int) (k : Nat) (h : ¬ n % (2 * (k : Int) + 1) = 0) : oddC n (k + 1) = oddC n k := by simp [oddC, List.range_succ, List.filter_append, h]
theorem oddC_le (n : Int) (k : Nat) : oddC n k ≤ k := by
  refine Nat.le_trans (List.length_filter_le _ _) ?_
  simp
/-- The odd factor of a run's pair. -/
def oddOf (r : Int × Int) : Int := if r.2 % 2 = 1 then r.2 else 2 * r.1 - 1 + r.2
theorem odd_half (a b n : Int) (h : a * b = 2 * n) (_ : a % 2 = 1) (hb : b % 2 = 0) : a * (b / 2) = n := by
  have e : b = 2 * (b / 2) := by omega
  have e2 : a * b = 2 * (a * (b / 2)) := by
    rw [show a * b = a * (2 * (b / 2)) by rw [← e]]
    grind
  omega
theorem mod_of_mul {a c n : Int} (h : a * c = n) : n % a = 0 := by rw [← h]; exact mul_mod0 a c
theorem odd_count (n : Int) (k : Nat) (hn : 1 ≤ n) (hk : n < 2 * (k : Int) + 1) : oddC n k = (runsL n).length := by
  have hp : (((List.range k).filter fun (j : Nat) => decide (n % (2 * (j : Int) + 1) = 0)).map fun (j : Nat) => 2 * (j : Int) + 1).Perm ((runsL n).map oddOf) := by
    rw [List.perm_ext_iff_of_nodup]
    · intro d
      simp only [List.mem_map, List.mem_filter, List.mem_range, decide_eq_true_eq]
      constructor
      · rintro ⟨j, ⟨hj, hm⟩, rfl⟩
        obtain ⟨d, hd⟩ : ∃ d : Int, d = 2 * (j : Int) + 1 := ⟨_, rfl⟩
        rw [← hd] at hm ⊢
        have e := div_spec n d (by omega) hm
        have p := div_pos' n d hn (by omega) hm
        generalize n / d = c at e p
        have e2 : d * (2 * c) = 2 * n := by rw [← e]; grind
        rcases Int.lt_or_le d (2 * c) with h | h
        · refine ⟨((2 * c - d + 1) / 2, d), (mem_runsL n hn _).2 ⟨d, 2 * c, by omega, h, e2, by omega, rfl⟩, ?_⟩
          rw [oddOf, if_pos (by simp; omega)]
        · refine ⟨((d - 2 * c + 1) / 2, 2 * c), (mem_runsL n hn _).2 ⟨2 * c, d, by omega, by omega, by rw [Int.mul_comm]; exact e2, by omega, rfl⟩, ?_⟩
          rw [oddOf, if_neg (by simp)]
          simp only
          omega
      · rintro ⟨r, hr, rfl⟩
        obtain ⟨a, b, h1, h2, h3, h4, rfl⟩ := (mem_runsL n hn r).1 hr
        unfold oddOf
        by_cases ha : a % 2 = 1
        · have hb : b % 2 = 0 := by omega
          have e := odd_half a b n h3 ha hb
          have hle : a ≤ n := by
            rw [← e]
            have := Int.mul_le_mul_of_nonneg_left (show 1 ≤ b / 2 by omega) (show 0 ≤ a by omega)
            omega
          simp only [ha, if_true]
          refine ⟨(a / 2).toNat, ⟨by omega, ?_⟩, by omega⟩
          rw [show 2 * (((a / 2).toNat : Nat) : Int) + 1 = a by omega]
          exact mod_of_mul e
        · have hb : b % 2 = 1 := by omega
          have e := odd_half b a n (by rw [Int.mul_comm]; exact h3) hb (by omega)
          have hle : b ≤ n := by
            rw [← e]
            have := Int.mul_le_mul_of_nonneg_left (show 1 ≤ a / 2 by omega) (show 0 ≤ b by omega)
            omega
          simp only [ha, if_false]
          refine ⟨(b / 2).toNat, ⟨by omega, ?_⟩, by omega⟩
          rw [show 2 * (((b / 2).toNat : Nat) : Int) + 1 = b by omega]
          exact mod_of_mul e
    · rw [List.nodup_iff_pairwise_ne, List.pairwise_map]
      refine List.Pairwise.imp ?_ ((List.nodup_iff_pairwise_ne.1 List.nodup_range).filter _)
      intro a b hab h
      omega
    · rw [List.nodup_iff_pairwise_ne, List.pairwise_map]
      refine List.Pairwise.imp_of_mem ?_ (runs_lt n hn)
      intro x y hx hy ⟨h1, h2, h3⟩
      obtain ⟨a, b, a1, a2, a3, a4, rfl⟩ := (mem_runsL n hn x).1 hx
      obtain ⟨c, d, c1, c2, c3, c4, rfl⟩ := (mem_runsL n hn y).1 hy
      simp only at h1 h2 h3
      unfold oddOf
      by_cases ha : a % 2 = 1 <;> by_cases hc : c % 2 = 1 <;> simp only [ha, hc, if_true, if_false] <;> omega
  have := hp.length_eq
  simpa [oddC] using this

/-! ### signed runs -/
/-- The run of the same sum that begins at 0 or below. -/
def lessR (r : Int × Int) : Int × Int := (1 - r.1, r.1 + r.2 - 1 + r.1)
/-- The signed runs as the program appends them. -/
def signedP (rs : List (Int × Int)) : List (Int × Int) := rs.flatMap fun r => [r, lessR r]
theorem signedP_app (rs : List (Int × Int)) (r : Int × Int) : signedP (rs ++ [r]) = signedP rs ++ [r, lessR r] := by simp [signedP]
theorem signedP_len (rs : List (Int × Int)) : (signedP rs).length = 2 * rs.length := by
  induction rs with
  | nil => rfl
  | cons r rs ih => simp [signedP] at ih ⊢; omega
noncomputable def signedL (n : Int) : List (Int × Int) := sel (fS n true) (2 * n).toNat
theorem signed_lt (n : Int) : (signedL n).Pairwise fun x y => x.2 < y.2 := by
  unfold signedL
  refine sel_pairwise _ _ _ fun a b x y h1 h2 h3 hx hy => ?_
  unfold fS at hx hy
  split at hx
  · split at hy
    · injection hx with hx
      injection hy with hy
      subst hx
      subst hy
      exact h2
    · cases hy
  · cases hx
theorem signed_perm (n : Int) (hn : 1 ≤ n) : (signedP (runsL n)).Perm (signedL n) := by
  rw [List.perm_ext_iff_of_nodup]
  · intro r
    unfold signedP signedL
    rw [List.mem_flatMap, mem_sel]
    constructor
    · rintro ⟨x, hx, hr⟩
      obtain ⟨a, b, a1, a2, a3, a4, rfl⟩ := (mem_runsL n hn x).1 hx
      have ea : 2 * n % a = 0 := mod_of_mul a3
      have eb : 2 * n % b = 0 := mod_of_mul (by rw [Int.mul_comm]; exact a3)
      have da : 2 * n / a = b := by rw [← a3]; exact mul_div0 a b a1
      have db : 2 * n / b = a := by rw [← a3, Int.mul_comm]; exact mul_div0 b a (by omega)
      have hb : b ≤ 2 * n := by
        have := Int.mul_le_mul_of_nonneg_right a1 (show 0 ≤ b by omega)
        omega
      simp only [List.mem_cons, List.not_mem_nil, or_false] at hr
      rcases hr with rfl | rfl
      · refine ⟨a, a1, by omega, ?_⟩
        rw [fS, da, if_pos ⟨ea, by omega, Or.inl rfl⟩]
      · refine ⟨b, by omega, by omega, ?_⟩
        rw [fS, db, if_pos ⟨eb, by omega, Or.inl rfl⟩]
        simp only [lessR, Option.some.injEq, Prod.mk.injEq]
        omega
    · rintro ⟨l, h1, h2, h3⟩
      unfold fS at h3
      split at h3
      · rename_i hc
        obtain ⟨hm, hp, _⟩ := hc
        injection h3 with h3
        subst h3
        have e := div_spec (2 * n) l h1 hm
        have p := div_pos' (2 * n) l (by omega) h1 hm
        generalize 2 * n / l = c at *
        rcases Int.lt_or_le l c with h | h
        · refine ⟨((c - l + 1) / 2, l), (mem_runsL n hn _).2 ⟨l, c, h1, h, e, by omega, rfl⟩, by simp⟩
        · refine ⟨((l - c + 1) / 2, c), (mem_runsL n hn _).2 ⟨c, l, by omega, by omega, by rw [Int.mul_comm]; exact e, by omega, rfl⟩, ?_⟩
          simp only [lessR, List.mem_cons, Prod.mk.injEq, List.not_mem_nil, or_false]
          right
          omega
      · cases h3
  · unfold signedP
    rw [List.nodup_iff_pairwise_ne, List.pairwise_flatMap]
    refine ⟨fun x hx => ?_, ?_⟩
    · obtain ⟨a, b, a1, a2, a3, a4, rfl⟩ := (mem_runsL n hn x).1 hx
      simp [lessR]
      omega
    · refine List.Pairwise.imp_of_mem ?_ (runs_lt n hn)
      intro x y hx hy ⟨h1, h2, h3⟩ u hu v hv
      obtain ⟨a, b, a1, a2, a3, a4, rfl⟩ := (mem_runsL n hn x).1 hx
      obtain ⟨c, d, c1, c2, c3, c4, rfl⟩ := (mem_runsL n hn y).1 hy
      simp only [List.mem_cons, List.not_mem_nil, or_false, lessR] at hu hv
      simp only at h1 h2 h3
      rcases hu with rfl | rfl <;> rcases hv with rfl | rfl <;> (intro h; injection h with h5 h6; omega)
  · rw [List.nodup_iff_pairwise_ne]
    exact (signed_lt n).imp fun h e => by rw [e] at h; omega
theorem signed_len (n : Int) (h0 : 1 ≤ n) (h1 : n ≤ 1000000) : (signedL n).length ≤ 3000 := by
  rw [← (signed_perm n h0).length_eq, signedP_len]
  have := runs_len n h0 h1
  omega

/-! ### alike pairs: odd runs and differences of squares -/
def alikeB (x : Int × Int) : Bool := decide ((x.2 - x.1) % 2 = 0)
noncomputable def alikes (n : Int) : List (Int × Int) := (facs n).filter alikeB
def sqR (x : Int × Int) : List Int := [(x.1 + x.2) / 2, (x.2 - x.1) / 2]
def oddR (x : Int × Int) : Int × Int := (x.2 - x.1 + 1, x.1)
/-- What the specification looks at, a length of an odd run. -/
def fO (n l : Int) : Option (Int × Int) := if n % l = 0 ∧ ¬ (n / l - l + 1) % 2 = 0 then some (n / l - l + 1, l) else none
theorem odd_eq (n : Int) : sel (fO n) (rt n).toNat = (alikes n).map oddR := by
  have e : (alikes n).map oddR = (facs n).filterMap fun x => if alikeB x then some (oddR x) else none := by
    unfold alikes
    induction facs n with
    | nil => rfl
    | cons x l ih => cases h : alikeB x <;> simp [h, ih]
  rw [e, facs, sel_bind]
  refine sel_congr fun l h1 h2 => ?_
  unfold fO fP
  by_cases hm : n % l = 0
  · simp only [hm, if_true, Option.bind_some, alikeB, oddR, decide_eq_true_eq, true_and]
    by_cases hp : (n / l - l) % 2 = 0
    · have : ¬ (n / l - l + 1) % 2 = 0 := by omega
      simp [hp, this]
    · have : (n / l - l + 1) % 2 = 0 := by omega
      simp [hp, this]
  · simp [hm]
theorem alikes_len (n : Int) (h0 : 1 ≤ n) (h1 : n ≤ 1000000) : (alikes n).length ≤ 1500 := Nat.le_trans (List.length_filter_le _ _) (facs_len n h0 (by omega))
theorem mem_alikes (n : Int) (hn : 1 ≤ n) (x : Int × Int) : x ∈ alikes n ↔ 1 ≤ x.1 ∧ x.1 ≤ x.2 ∧ x.1 * x.2 = n ∧ (x.2 - x.1) % 2 = 0 := by
  unfold alikes
  rw [List.mem_filter, mem_facs n hn]
  simp [alikeB, and_assoc]
/-- Closer factors, a lesser sum. -/
theorem alikes_lt (n : Int) (hn : 1 ≤ n) : (alikes n).Pairwise fun x y => x.1 < y.1 ∧ y.1 + y.2 < x.1 + x.2 := by
  unfold alikes
  refine List.Pairwise.imp_of_mem ?_ ((facs_lt n hn).filter _)
  intro x y hx hy ⟨h1, h2⟩
  obtain ⟨a1, a2, a3⟩ := (mem_facs n hn x).1 (List.mem_filter.1 hx).1
  obtain ⟨b1, b2, b3⟩ := (mem_facs n hn y).1 (List.mem_filter.1 hy).1
  refine ⟨h1, ?_⟩
  rcases Int.lt_or_le (y.1 + y.2) (x.1 + x.2) with h | h
  · exact h
  · have m1 := Int.mul_pos (a := y.1 - x.1) (b := x.2 - y.1) (by omega) (by omega)
    have m2 := Int.mul_nonneg (a := y.1) (b := y.1 + y.2 - (x.1 + x.2)) (by omega) (by omega)
    have e1 : (y.1 - x.1) * (x.2 - y.1) = y.1 * (x.1 + x.2) - y.1 * y.1 - x.1 * x.2 := by grind
    have e2 : y.1 * (y.1 + y.2 - (x.1 + x.2)) = y.1 * y.1 + y.1 * y.2 - y.1 * (x.1 + x.2) := by grind
    omega
/-- The first numbers of the lists of squares fall. -/
theorem sq_falls (n : Int) (hn : 1 ≤ n) : (alikes n).Pairwise fun x y => (y.1 + y.2) / 2 < (x.1 + x.2) / 2 := by
  refine List.Pairwise.imp_of_mem ?_ (alikes_lt n hn)
  intro x y hx hy ⟨_, h2⟩
  have h3 := ((mem_alikes n hn x).1 hx).2.2.2
  have h4 := ((mem_alikes n hn y).1 hy).2.2.2
  omega
/-- What the specification looks at, a difference of two numbers. -/
def fQ (n d : Int) : Option (List Int) := if n % d = 0 ∧ (n / d - d) % 2 = 0 then some [(n / d + d) / 2, (n / d - d) / 2] else none
theorem sq_eq (n : Int) : sel (fQ n) (rt n).toNat = (alikes n).map sqR := by
  have e : (alikes n).map sqR = (facs n).filterMap fun x => if alikeB x then some (sqR x) else none := by
    unfold alikes
    induction facs n with
    | nil => rfl
    | cons x l ih => cases h : alikeB x <;> simp [h, ih]
  rw [e, facs, sel_bind]
  refine sel_congr fun l h1 h2 => ?_
  unfold fQ fP
  by_cases hm : n % l = 0
  · simp only [hm, if_true, Option.bind_some, alikeB, sqR, decide_eq_true_eq, true_and]
    by_cases hp : (n / l - l) % 2 = 0
    · have : n / l + l = l + n / l := by omega
      simp [hp, this]
    · simp [hp]
  · simp [hm]
/-- What is picked of r, r - 1, .., d + 1. -/
def selDown {α : Type} (f : Int → Option α) (r d : Nat) : List α := ((upTo r).drop d).reverse.filterMap f
theorem selDown_top {α : Type} (f : Int → Option α) (r : Nat) : selDown f r r = [] := by
  unfold selDown
  rw [List.drop_eq_nil_of_le (by simp [upTo])]
  rfl
theorem selDown_end {α : Type} (f : Int → Option α) (r : Nat) : selDown f r 0 = (sel f r).reverse := by simp [selDown, sel, List.filterMap_reverse]
theorem upTo_drop (r d : Nat) (h : d < r) : (upTo r).drop d = ((d : Int) + 1) :: (upTo r).drop (d + 1) := by
  rw [List.drop_eq_getElem_cons (by simp [upTo]; exact h)]
  simp [upTo]
theorem selDown_some {α : Type} (f : Int → Option α) (r d : Nat) (h : d < r) {x : α} (hx : f ((d : Int) + 1) = some x) : selDown f r d = selDown f r (d + 1) ++ [x] := by
  unfold selDown
  rw [upTo_drop r d h]
  simp [List.filterMap_append, hx]
theorem selDown_none {α : Type} (f : Int → Option α) (r d : Nat) (h : d < r) (hx : f ((d : Int) + 1) = none) : selDown f r d = selDown f r (d + 1) := by
  unfold selDown
  rw [upTo_drop r d h]
  simp [List.filterMap_append, hx]
theorem selDown_len {α : Type} (f : Int → Option α) (r d : Nat) : (selDown f r d).length ≤ r := by
  unfold selDown
  refine Nat.le_trans (List.length_filterMap_le _ _) ?_
  simp [upTo]
theorem rt_small (n : Int) (h0 : 1 ≤ n) (h1 : n ≤ 2000000) : 1 ≤ rt n ∧ rt n ≤ 1415 := by
  constructor
  · exact (rfits_iff n 1 (by omega) (by omega)).1 (by omega)
  · rcases Int.lt_or_le 1415 (rt n) with h | h
    · have := (rfits_iff n 1416 (by omega) (by omega)).2 (by omega)
      omega
    · exact h
/-- The last pair of factors. -/
theorem facs_last (n a : Int) (hn : 1 ≤ n) (h1 : 1 ≤ a) (h2 : a ≤ rt n) (hm : n % a = 0) (h : ∀ l, a < l → l ≤ rt n → ¬ n % l = 0) : facs n = sel (fP n) (a - 1).toNat ++ [(a, n / a)] := by
  have r := rt_nn n (by omega)
  unfold facs
  rw [sel_cut (fP n) (k := (a - 1).toNat + 1) (by omega)]
  · exact sel_some _ _ (by rw [show (((a - 1).toNat : Nat) : Int) + 1 = a by omega]; simp [fP, hm])
  · intro l h3 h4
    have := h l (by omega) (by omega)
    simp [fP, this]
theorem runs_ne (n : Int) (hn : 1 ≤ n) : runsL n ≠ [] := fun h => by
  have := (mem_runsL n hn ((2 * n - 1 + 1) / 2, 1)).2 ⟨1, 2 * n, by omega, by omega, by omega, by omega, rfl⟩
  rw [h] at this
  cases this
/-! ### triangles -/
def triR (r : Int × Int) : List Int := [r.1 + r.2 - 1, r.1 - 1]
theorem tri_falls (n : Int) (hn : 1 ≤ n) : (runsL n).Pairwise fun x y => y.1 + y.2 - 1 < x.1 + x.2 - 1 := (runs_lt n hn).imp fun h => by omega
end Go.Proofs.YtbabkcjnfdpafaaGreatDoor

/- A slice whose cells are known; what the laws' helpers do with slices of numbers: compare, mark, look again. -/
namespace Go.Proofs.YtbabkcjnfdpafaaGreatDoor
open Go.RowKit

/-- A slice at the address A has the cells cs, in a block from lo up to below hi, none of them frozen. -/
def Own (w : World) (lo hi : Nat) (A : Option Addr) (cs : List Value) : Prop :=
  0 < cs.length → ∃ g o, A = some ⟨g, o, none⟩ ∧ lo ≤ g ∧ g < hi ∧ ∀ j u, cs[j]? = some u → w.cell? ⟨g, o + j, none⟩ = some u ∧ w.frozen? ⟨g, o + j, none⟩ = false

section
variable {w w' : World} {lo hi : Nat} {A : Option Addr} {cs : List Value}
theorem Own.none_ : Own w lo hi none [] := fun h => absurd h (by simp)
theorem Own.nil_ : Own w lo hi A [] := fun h => absurd h (by simp)
theorem Own.below {B : Nat} (h : Own w lo hi A cs) (hb : Below B w w') (hB : hi ≤ B) : Own w' lo hi A cs := fun hn => by
  obtain ⟨g, o, e, h1, h2, hc⟩ := h hn
  refine ⟨g, o, e, h1, h2, fun j u hu => ?_⟩
  rw [hb.cell (p := ⟨g, o + j, none⟩) (Nat.lt_of_lt_of_le h2 hB), hb.frozen (p := ⟨g, o + j, none⟩) (Nat.lt_of_lt_of_le h2 hB)]
  exact hc j u hu
theorem Own.drewN (h : Own w lo hi A cs) (k : Nat) : Own (w.drewN k) lo hi A cs := h
theorem Own.wide (h : Own w lo hi A cs) {lo' hi' : Nat} (h1 : lo' ≤ lo) (h2 : hi ≤ hi') : Own w lo' hi' A cs := fun hn => by
  obtain ⟨g, o, e, h3, h4, hc⟩ := h hn
  exact ⟨g, o, e, by omega, by omega, hc⟩
theorem Own.at_ (h : Own w lo hi A cs) {k : Nat} (hk : k < cs.length) : ∃ g o, A = some ⟨g, o, none⟩ ∧ lo ≤ g ∧ g < hi ∧ w.cell? ⟨g, o + k, none⟩ = some cs[k] ∧ w.frozen? ⟨g, o + k, none⟩ = false := by
  obtain ⟨g, o, e, h1, h2, hc⟩ := h (by omega)
  obtain ⟨h3, h4⟩ := hc k _ (List.getElem?_eq_getElem hk)
  exact ⟨g, o, e, h1, h2, h3, h4⟩
/-- out of the library's word for a row of the call's own -/
theorem own_of_row {base : Nat} {e : TypeId} {size n c : Nat} (h : w.ownsRow base e size (.slice A n c) n cs) : Own w base w.heap.size A cs := fun hn => by
  obtain ⟨hl, h2⟩ := h
  rcases h2 with ⟨hv, h0⟩ | ⟨g, cap, cur, hv, hg, hh, hnc, hcm, hcs, ht⟩
  · subst h0
    simp at hl
    subst hl
    simp at hn
  · injection hv with hA _ _
    subst hA
    have hown : w.ownsRow base e size (.slice (some ⟨g, 0, none⟩) n cap) n cs := ⟨hl, .inr ⟨g, cap, cur, rfl, hg, hh, hnc, hcm, hcs, ht⟩⟩
    have hlt : g < w.heap.size := by
      rcases Nat.lt_or_ge g w.heap.size with h | h
      · exact h
      · rw [Array.getElem?_eq_none h] at hh; cases hh
    refine ⟨g, 0, rfl, hg, hlt, fun j u hu => ?_⟩
    have hj : j < n * size := by
      rw [← hl]
      exact (List.getElem?_eq_some_iff.1 hu).1
    rw [Nat.zero_add]
    exact ⟨(hown.cellAt j hj).trans hu, hown.frozenAt j⟩
theorem row_form {base : Nat} {e : TypeId} {size n : Nat} {v : Value} (h : w.ownsRow base e size v n cs) : ∃ A c, v = .slice A n c := by
  rcases h.2 with ⟨rfl, rfl⟩ | ⟨g, cap, cur, rfl, _⟩
  · exact ⟨_, _, rfl⟩
  · exact ⟨_, _, rfl⟩
end

theorem row_below {w w' : World} {base B : Nat} {e : TypeId} {size n : Nat} {v : Value} {cs : List Value} (h : w.ownsRow base e size v n cs) (hb : Below B w w') (hB : w.heap.size ≤ B) : w'.ownsRow base e size v n cs :=
  h.kept (row := none) ⟨hb.os, hb.tape, hb.output, hb.size, fun i hi _ => hb.block i (by omega)⟩ (by cases hv : v.ownBlock <;> simp)

/-- Numbers as cells. -/
abbrev i64s (xs : List Int) : List Value := xs.map (Value.int .i64)

/-- What a function with a slice of numbers and a bool hands back: the numbers xs, in memory of its own. -/
def ResI (ok : Bool) (xs : List Int) (w : World) (e : Ending) (w' : World) : Prop :=
  ∃ A c, e = .returned (.tuple #[.slice A xs.length c, .bool ok]) ∧ Own w' w.heap.size w'.heap.size A (i64s xs) ∧ Below w.heap.size w w'
theorem resI_nil {ok : Bool} {w w' : World} (hb : Below w.heap.size w w') : ResI ok [] w (.returned (.tuple #[.slice none 0 0, .bool ok])) w' := ⟨none, 0, rfl, Own.none_, hb⟩
theorem below_drewN {B : Nat} {a w : World} (h : Below B a w) (n : Nat) : Below B a (w.drewN n) := ⟨h.os, h.tape, h.output, h.size, h.block⟩


/-- The numbers m, m + 1, .., n of them. -/
def marks (m : Int) (n : Nat) : List Int := (List.range n).map fun (j : Nat) => m + (j : Int)
theorem marks_len (m : Int) (n : Nat) : (marks m n).length = n := by simp [marks]
theorem marks_get (m : Int) (n k : Nat) (h : k < n) : (marks m n)[k]? = some (m + k) := by simp [marks, h]
theorem marks_set (m : Int) (cs : List Value) (k : Nat) (h : k < cs.length) : (i64s (marks m k) ++ cs.drop k).set k (.int .i64 (m + k)) = i64s (marks m (k + 1)) ++ cs.drop (k + 1) := by
  rw [List.set_append_right _ _ (by simp [marks_len])]
  simp only [List.length_map, marks_len, Nat.sub_self]
  rw [List.drop_eq_getElem_cons h, List.set_cons_zero]
  simp [marks, List.range_succ]
theorem Own.set_ {w : World} {lo hi g o : Nat} {cs : List Value} (h : Own w lo hi (some ⟨g, o, none⟩) cs) (k : Nat) (hk : k < cs.length) (u : Value) : Own (w.setCell ⟨g, o + k, none⟩ u) lo hi (some ⟨g, o, none⟩) (cs.set k u) := fun hn => by
  obtain ⟨g', o', e, h1, h2, hc⟩ := h (by omega)
  injection e with e
  injection e with e1 e2 _
  subst e1
  subst e2
  refine ⟨g, o, rfl, h1, h2, fun j v hv => ?_⟩
  rw [World.frozen?_setCell]
  by_cases hj : j = k
  · subst hj
    rw [List.getElem?_set_self hk] at hv
    injection hv with hv
    subst hv
    obtain ⟨h3, h4⟩ := hc j _ (List.getElem?_eq_getElem hk)
    exact ⟨World.cell?_setCell_same w _ _ h3, h4⟩
  · rw [List.getElem?_set_ne (fun e => hj e.symm)] at hv
    obtain ⟨h3, h4⟩ := hc j v hv
    refine ⟨(World.cell?_setCell_other w _ _ _ (fun e => ?_)).trans h3, h4⟩
    injection e with _ e _
    omega


end Go.Proofs.YtbabkcjnfdpafaaGreatDoor

/- Slices of structs of two numbers: what the laws' helpers do with them. -/
namespace Go.Proofs.YtbabkcjnfdpafaaGreatDoor
open Go.RowKit

/-- Pairs of numbers as cells. -/
def prs (xs : List (Int × Int)) : List Value := xs.flatMap fun x => [.int .i64 x.1, .int .i64 x.2]
theorem prs_len (xs : List (Int × Int)) : (prs xs).length = 2 * xs.length := by
  induction xs with
  | nil => rfl
  | cons x xs ih => simp [prs] at ih ⊢; omega
theorem prs_get (xs : List (Int × Int)) (k : Nat) (h : k < xs.length) : (prs xs)[2 * k]? = some (.int .i64 xs[k].1) ∧ (prs xs)[2 * k + 1]? = some (.int .i64 xs[k].2) := by
  induction xs generalizing k with
  | nil => simp at h
  | cons x xs ih =>
    cases k with
    | zero => simp [prs]
    | succ k =>
      have := ih k (by simpa using h)
      have e1 : 2 * (k + 1) = 2 * k + 1 + 1 := by omega
      have e2 : 2 * (k + 1) + 1 = 2 * k + 1 + 1 + 1 := by omega
      rw [e2, e1]
      simpa [prs] using this
theorem prs_app (xs : List (Int × Int)) (a b : Int) : prs xs ++ [.int .i64 a, .int .i64 b] = prs (xs ++ [(a, b)]) := by simp [prs]
theorem Own.pair_ {w : World} {lo hi : Nat} {A : Option Addr} {xs : List (Int × Int)} (h : Own w lo hi A (prs xs)) {k : Nat} (hk : k < xs.length) :
    ∃ g o, A = some ⟨g, o, none⟩ ∧ lo ≤ g ∧ g < hi ∧ w.cell? ⟨g, o + k * 2, none⟩ = some (.int .i64 xs[k].1) ∧ w.cell? ⟨g, o + k * 2 + 1, none⟩ = some (.int .i64 xs[k].2) := by
  obtain ⟨g, o, e, h1, h2, hc⟩ := h (by rw [prs_len]; omega)
  obtain ⟨p1, p2⟩ := prs_get xs k hk
  refine ⟨g, o, e, h1, h2, ?_, ?_⟩
  · rw [Nat.mul_comm k 2]; exact (hc _ _ p1).1
  · rw [Nat.mul_comm k 2, Nat.add_assoc]; exact (hc _ _ p2).1
theorem mark2_step {w : World} {lo hi n k : Nat} {A : Option Addr} {cs : List Value} {m : Int} (h : Own w lo hi A (i64s (marks m (2 * k)) ++ cs.drop (2 * k))) (hn : cs.length = 2 * n) (hk : k < n) :
    ∃ g o z z', A = some ⟨g, o, none⟩ ∧ lo ≤ g ∧ w.cell? ⟨g, o + k * 2, none⟩ = some z ∧ w.frozen? ⟨g, o + k * 2, none⟩ = false ∧ w.cell? ⟨g, o + k * 2 + 1, none⟩ = some z' ∧ w.frozen? ⟨g, o + k * 2 + 1, none⟩ = false ∧
      Own ((w.setCell ⟨g, o + k * 2, none⟩ (.int .i64 (m + 2 * k))).setCell ⟨g, o + k * 2 + 1, none⟩ (.int .i64 (m + 2 * k + 1))) lo hi (some ⟨g, o, none⟩) (i64s (marks m (2 * (k + 1))) ++ cs.drop (2 * (k + 1))) := by
  have hl0 : 2 * k < cs.length := by omega
  have hl1 : 2 * k + 1 < cs.length := by omega
  have hlen : 2 * k < (i64s (marks m (2 * k)) ++ cs.drop (2 * k)).length := by simp [marks_len]; omega
  have hlen1 : 2 * k + 1 < (i64s (marks m (2 * k)) ++ cs.drop (2 * k)).length := by simp [marks_len]; omega
  obtain ⟨g, o, rfl, hg1, hg2, hc⟩ := h (by omega)
  obtain ⟨c0, f0⟩ := hc _ _ (List.getElem?_eq_getElem hlen)
  obtain ⟨c1, f1⟩ := hc _ _ (List.getElem?_eq_getElem hlen1)
  have o1 := h.set_ (2 * k) hlen (.int .i64 (m + (2 * k : Nat)))
  rw [marks_set m cs (2 * k) hl0] at o1
  have o2 := o1.set_ (2 * k + 1) (by simp [marks_len]; omega) (.int .i64 (m + (2 * k + 1 : Nat)))
  rw [marks_set m cs (2 * k + 1) hl1] at o2
  have a0 : o + 2 * k = o + k * 2 := by omega
  have a1 : o + (2 * k + 1) = o + k * 2 + 1 := by omega
  have a2 : m + ((2 * k : Nat) : Int) = m + 2 * k := by omega
  have a3 : m + ((2 * k + 1 : Nat) : Int) = m + 2 * k + 1 := by omega
  have a4 : 2 * k + 1 + 1 = 2 * (k + 1) := by omega
  rw [a0, a1, a2, a3, a4] at o2
  refine ⟨g, o, _, _, rfl, hg1, by rw [← a0]; exact c0, by rw [← a0]; exact f0, by rw [← a1]; exact c1, by rw [← a1]; exact f1, o2⟩
/-- What a function with a slice of pairs and a bool hands back. -/
def ResP (ok : Bool) (xs : List (Int × Int)) (w : World) (e : Ending) (w' : World) : Prop :=
  ∃ A c, e = .returned (.tuple #[.slice A xs.length c, .bool ok]) ∧ Own w' w.heap.size w'.heap.size A (prs xs) ∧ Below w.heap.size w w'
theorem resP_nil {ok : Bool} {w w' : World} (hb : Below w.heap.size w w') : ResP ok [] w (.returned (.tuple #[.slice none 0 0, .bool ok])) w' := ⟨none, 0, rfl, Own.none_, hb⟩










end Go.Proofs.YtbabkcjnfdpafaaGreatDoor

/- Chapter 5: bounds, a run's last number, the sums of runs. -/
namespace Go.Proofs.YtbabkcjnfdpafaaGreatDoor
open Go.ChangeShapes Go.WideShapes Go.ChangeAt Go.RowKit

def betr (x lo hi : Int) : Bool := decide (lo ≤ x ∧ x ≤ hi)
theorem betr_yes {x lo hi : Int} (h1 : lo ≤ x) (h2 : x ≤ hi) : betr x lo hi = true := decide_eq_true ⟨h1, h2⟩
theorem betr_no {x lo hi : Int} (h : x < lo ∨ hi < x) : betr x lo hi = false := decide_eq_false (by omega)
theorem rin_any (x lo hi : Int) (w : World) : Calls Tryz.prog 42 #[.int .i64 x, .int .i64 lo, .int .i64 hi] w fun e w' => e = .returned (.bool (betr x lo hi)) ∧ w = w' := by
  by_cases h : x < lo ∨ hi < x
  · rw [betr_no h]; exact in_no _ _ _ _ h
  · rw [betr_yes (x := x) (lo := lo) (hi := hi) (by omega) (by omega)]; exact in_yes _ _ _ _ (by omega) (by omega)
theorem rwithin_any (x lo hi : Int) (w : World) : Calls Tryz.prog 79 #[.int .i64 x, .int .i64 lo, .int .i64 hi] w fun e w' => e = .returned (.bool (betr x lo hi)) ∧ w = w' := by
  by_cases h : x < lo ∨ hi < x
  · rw [betr_no h]; exact within_no _ _ _ _ h
  · rw [betr_yes (x := x) (lo := lo) (hi := hi) (by omega) (by omega)]; exact within_yes _ _ _ _ (by omega) (by omega)
theorem ret_bool {a b : Bool} (h : a = b) : Ending.returned (.bool a) = .returned (.bool b) := by rw [h]
/-! ### sums of runs -/
/-- What the walks over a run's sum ask. -/
structure SumBds (f l : Int) : Prop where
  f0 : -1000000 ≤ f
  f1 : f ≤ 1000000
  l0 : 0 ≤ l
  l1 : l ≤ 1000000
  p0 : -3000000000000 ≤ l * f
  p1 : l * f ≤ 3000000000000
  q0 : 0 ≤ l * (l - 1)
  q1 : l * (l - 1) ≤ 3000000000000
  r0 : -6000000000000 ≤ l * (f + (f + l - 1))
  r1 : l * (f + (f + l - 1)) ≤ 6000000000000
  s : (l * (f + (f + l - 1))).tdiv 2 = l * f + l * (l - 1) / 2
theorem sum_bds' (f l : Int) (f0 : -1000000 ≤ f) (f1 : f ≤ 1000000) (l0 : 0 ≤ l) (l1 : l ≤ 1000000) : SumBds f l := by
  have a1 := Int.mul_nonneg (a := l) (b := 1000000 - f) l0 (by omega)
  have a2 := Int.mul_nonneg (a := l) (b := 1000000 + f) l0 (by omega)
  have e1 : l * (1000000 - f) = 1000000 * l - l * f := by grind
  have e2 : l * (1000000 + f) = 1000000 * l + l * f := by grind
  have b1 := pr_nn l
  have b2 := Int.mul_nonneg (a := l) (b := 1000000 - l) l0 (by omega)
  have e3 : l * (1000000 - l) = 1000000 * l - l * (l - 1) - l := by grind
  have e4 : l * (f + (f + l - 1)) = 2 * (l * f) + l * (l - 1) := by grind
  have ev := even_pr l
  have e5 : (l * (f + (f + l - 1))).tdiv 2 = (l * (f + (f + l - 1))) / 2 := tdiv2 _ (by omega)
  refine ⟨f0, f1, l0, l1, by omega, by omega, by omega, by omega, by omega, by omega, ?_⟩
  rw [e5]
  omega
end Go.Proofs.YtbabkcjnfdpafaaGreatDoor

/- Chapter 7: the specification's parts of a text. -/
namespace Go.Proofs.YtbabkcjnfdpafaaGreatDoor
open Go.ChangeShapes Go.WideShapes Go.ChangeAt Go.RowKit

theorem infoStr : (Tryz.prog.info? 9).map (fun i => (i.zero, i.size, i.bytes)) = some (some (.string ⟨#[]⟩), 1, 16) := by kernel_rfl
/-- Texts as cells. -/
def strs (xs : List (List UInt8)) : List Value := xs.map fun x => .string (bt x)
theorem strs_app (xs : List (List UInt8)) (x : List UInt8) : strs xs ++ [.string (bt x)] = strs (xs ++ [x]) := by simp [strs]
theorem strs_len (xs : List (List UInt8)) : (strs xs).length = xs.length := by simp [strs]
theorem ba_get (s : ByteArray) (k : Nat) (h : k < s.size) : s.data.toList[k]? = some s[k] := by
  have : k < s.data.toList.length := by simpa using h
  rw [List.getElem?_eq_getElem this]
  simp [ByteArray.getElem_eq_getElem_data]
theorem ba_cut (s : ByteArray) (i j : Nat) : s.extract i j = bt ((s.data.toList.take j).drop i) := by
  have h := bt_cut s.data.toList i j
  rw [← bt_of] at h
  exact h
set_option maxRecDepth 4000 in
set_option maxHeartbeats 1600000 in
theorem l1Split_any (s : ByteArray) (w : World) (hs : s.size ≤ 1000000) :
    Calls Tryz.prog 95 #[.string s, .int .u8 47] w fun e w' => (∃ A c, e = .returned (.slice A (parts s.data.toList 47).length c) ∧ w'.ownsRow w.heap.size 9 1 (.slice A (parts s.data.toList 47).length c) (parts s.data.toList 47).length (strs (parts s.data.toList 47))) ∧ Below w.heap.size w w' := by
  obtain ⟨i0, hi0, hz0, hz1, hz2⟩ := info_parts infoStr
  have HP : Hid (parts s.data.toList 47 = (upP s.data.toList 47 s.size).1 ++ [(s.data.toList.take s.size).drop (upP s.data.toList 47 s.size).2]) := Lib.hid (by rw [List.take_of_length_le (by simp)]; simp [parts])
  have HU := Lib.hid fun k => upP_le s.data.toList 47 k
  have HL := Lib.hid fun k => upP_len s.data.toList 47 k
  have HSU := Lib.hid fun k => (show upP s.data.toList 47 (k + 1) = if s.data.toList[k]? = some 47 then ((upP s.data.toList 47 k).1 ++ [(s.data.toList.take k).drop (upP s.data.toList 47 k).2], k + 1) else upP s.data.toList 47 k from rfl)
  have HC := Lib.hid fun i j => ba_cut s i j
  go_enter Tryz.func95, Tryz.ntmps95
  go_wp2
  go_loopw [5, 6, 7] (fun v f i wr => ∃ k : Nat, k ≤ s.size ∧ i = .int .i64 (k : Int) ∧ f = .int .i64 ((upP s.data.toList 47 k).2 : Int) ∧ Hid (wr.ownsRow w.heap.size 9 1 v (upP s.data.toList 47 k).1.length (strs (upP s.data.toList 47 k).1)) ∧ Hid (Below w.heap.size w wr)) (fun _ _ i _ => s.size - (intOf i).toNat)
  case atStart => exact ⟨0, by omega, by simp, by simp [upP], Lib.hid (World.ownsRow_nil _ _ _ _), Lib.hid (Below.refl _ _)⟩
  case round =>
    obtain ⟨k, hk, rfl, rfl, hown, hb⟩ := hrel
    by_cases hlt : k < s.size
    · have hlt2 : (k : Int) < (s.size : Int) := by omega
      have hg := ba_get s k hlt
      have hsu := HSU.out k
      have hu := HU.out k
      have hl := HL.out k
      have hcut := HC.out (upP s.data.toList 47 k).2 k
      generalize upP s.data.toList 47 k = st at *
      obtain ⟨P, f⟩ := st
      simp only at hu hl hcut hown hsu ⊢
      by_cases hc : s[k] = 47
      · have hB : ((s[k].toNat : Int) == 47) = true := by rw [hc]; rfl
        rw [hg, hc, if_pos rfl] at hsu
        have HSK := Lib.hid hsu
        have HCUT := Lib.hid hcut
        have hf0 : (0 : Int) ≤ (f : Int) := by omega
        have hf1 : (f : Int) ≤ (k : Int) := by omega
        clear hsu hg hc hcut
        go_wp2_with (at_builtin; refine wpList_append_own _ rfl _ _ 36 rfl w.heap.size 9 i0 (.string ⟨#[]⟩) 1 16 Tryz.underlying36 hi0 hz0 hz1 hz2 rfl (by decide) _ _ _ rfl (hown.out.alloc _) ⟨wr.heap.size, 0, none⟩ 1 1 [.string (s.extract f k)] rfl rfl ?c1 ?c2 ?c3 ?c4 ?c5 ?_)
        case c1 =>
          intro j u hj
          match j, hj with
          | 0, hj => simp at hj; subst hj; simp [Addr.add]
        case c2 => intro u hu; simp at hu; subst hu; rfl
        case c3 => unfold maxLen; omega
        case c4 => omega
        case c5 => have := hb.out.size; simp; omega
        · intro v' w4 hown' hgrow _
          have HO4 := Lib.hid hown'
          have HB4 := Lib.hid ((hb.out.alloc hb.out.size _).grown hgrow (by have := hb.out.size; simp; omega) fun g hg => (hown.out.lt g hg).1)
          clear hown' hgrow hown hb
          go_wp2
          go_roundw
          case rel =>
            refine ⟨k + 1, by omega, by go_num, by rw [HSK.out]; go_num, Lib.hid ?_, HB4⟩
            rw [HSK.out]
            simp only [List.length_append, List.length_singleton]
            rw [← strs_app, ← HCUT.out]
            exact HO4.out
          case measure => simp [intOf]; omega
      · have hB : ((s[k].toNat : Int) == 47) = false := by
          have : ¬ s[k].toNat = 47 := fun e => hc (UInt8.toNat_inj.1 e)
          simp
          omega
        have hne : ¬ (s.data.toList[k]? = some 47) := by rw [hg]; exact fun e => hc (Option.some.inj e)
        rw [if_neg hne] at hsu
        have HSK := Lib.hid hsu
        clear hsu hg hc hcut hne
        go_wp2
        go_roundw
        case rel => exact ⟨k + 1, by omega, by go_num, by rw [HSK.out], by rw [HSK.out]; exact hown, hb⟩
        case measure => simp [intOf]; omega
    · obtain rfl : k = s.size := by omega
      have hu := HU.out s.size
      have hl := HL.out s.size
      have hcut := HC.out (upP s.data.toList 47 s.size).2 s.size
      have hpp := HP.out
      generalize upP s.data.toList 47 s.size = st at *
      obtain ⟨P, f⟩ := st
      simp only at hu hl hcut hown hpp ⊢
      have HPP := Lib.hid hpp
      have HCUT := Lib.hid hcut
      have HE : Hid ((parts s.data.toList 47).length = P.length + 1) := Lib.hid (by rw [hpp]; simp)
      have hf0 : (0 : Int) ≤ (f : Int) := by omega
      have hf1 : (f : Int) ≤ (s.size : Int) := by omega
      clear hpp hcut
      go_wp2_with (at_builtin; refine wpList_append_own _ rfl _ _ 36 rfl w.heap.size 9 i0 (.string ⟨#[]⟩) 1 16 Tryz.underlying36 hi0 hz0 hz1 hz2 rfl (by decide) _ _ _ rfl (hown.out.alloc _) ⟨wr.heap.size, 0, none⟩ 1 1 [.string (s.extract f s.size)] rfl rfl ?c1 ?c2 ?c3 ?c4 ?c5 ?_)
      case c2 => rfl
      case c3 => unfold maxLen; omega
      case c4 => omega
      case c5 => have := hb.out.size; simp; omega
      · intro v' w4 hown' hgrow _
        obtain ⟨A, c, rfl⟩ := row_form hown'
        have HO4 := Lib.hid hown'
        have HB4 := Lib.hid ((hb.out.alloc hb.out.size _).grown hgrow (by have := hb.out.size; simp; omega) fun g hg => (hown.out.lt g hg).1)
        clear hown' hgrow hown hb
        go_wp2
        go_ret
        refine ⟨⟨A, c, by rw [HE.out]; rfl, ?_⟩, HB4.out⟩
        rw [HE.out, HPP.out, ← strs_app, ← HCUT.out]
        exact HO4.out
end Go.Proofs.YtbabkcjnfdpafaaGreatDoor

/- Chapter 7: the specification's rows of a picture. -/
namespace Go.Proofs.YtbabkcjnfdpafaaGreatDoor
open Go.ChangeShapes Go.WideShapes Go.ChangeAt Go.RowKit

/-- A row as it must be. -/
def okRow (W : Nat) (r : List UInt8) : Bool := decide (r.length = W) && r.all isSgn
theorem rowsOk_iff (R : List (List UInt8)) : rowsOk R = true ↔ R.length ≤ 24 ∧ 1 ≤ (R.headD []).length ∧ (R.headD []).length ≤ 24 ∧ ∀ j (h : j < R.length), okRow (R.headD []).length R[j] = true := by
  unfold rowsOk
  simp only [Bool.and_eq_true, decide_eq_true_eq]
  constructor
  · rintro ⟨⟨⟨a, b⟩, c⟩, d⟩
    refine ⟨a, b, c, fun j h => ?_⟩
    have := (List.all_eq_true.1 d) _ (List.getElem_mem h)
    simpa [okRow] using this
  · rintro ⟨a, b, c, d⟩
    refine ⟨⟨⟨a, b⟩, c⟩, List.all_eq_true.2 fun r hr => ?_⟩
    obtain ⟨j, hj, rfl⟩ := List.getElem_of_mem hr
    have := d j hj
    simpa [okRow] using this
/-- What doRows answers, R the parts of the text. -/
def DoQ (R : List (List UInt8)) (w : World) (e : Ending) (w' : World) : Prop :=
  ((rowsOk R = true ∧ ∃ A c, e = .returned (.tuple #[.slice A R.length c, .bool true]) ∧ w'.ownsRow w.heap.size 9 1 (.slice A R.length c) R.length (strs R)) ∨
    (rowsOk R = false ∧ e = .returned (.tuple #[.slice none 0 0, .bool false]))) ∧ Below w.heap.size w w'
theorem sg_of (c : UInt8) : isSgn c = true ↔ ¬ ((c.toNat : Int) ≠ 111 ∧ (c.toNat : Int) ≠ 46) := by
  unfold isSgn
  simp only [Bool.or_eq_true, beq_iff_eq, ← UInt8.toNat_inj]
  have e1 : (111 : UInt8).toNat = 111 := rfl
  have e2 : (46 : UInt8).toNat = 46 := rfl
  rw [e1, e2]
  omega
set_option maxRecDepth 4000 in
set_option maxHeartbeats 1600000 in
theorem doRows_of (s : ByteArray) (R : List (List UInt8)) (w : World) (h62 : (s.size : Int) ≤ 600) (hn0 : 1 ≤ R.length) (hn1 : R.length ≤ 601)
    (hS : ∀ W : World, Calls Tryz.prog 95 #[.string s, .int .u8 47] W fun e w' => (∃ A c, e = .returned (.slice A R.length c) ∧ w'.ownsRow W.heap.size 9 1 (.slice A R.length c) R.length (strs R)) ∧ Below W.heap.size W w') :
    Calls Tryz.prog 64 #[.string s] w (DoQ R w) := by
  have HS := Lib.hid hS
  have HOK := Lib.hid (rowsOk_iff R)
  obtain ⟨n, hn⟩ : ∃ n, n = R.length := ⟨_, rfl⟩
  have HN := Lib.hid hn
  have hQ : Hid (∀ e w', DoQ R w e w' = (((rowsOk R = true ∧ ∃ A c, e = .returned (.tuple #[.slice A n c, .bool true]) ∧ w'.ownsRow w.heap.size 9 1 (.slice A n c) n (strs R)) ∨ (rowsOk R = false ∧ e = .returned (.tuple #[.slice none 0 0, .bool false]))) ∧ Below w.heap.size w w')) := Lib.hid fun e w' => by rw [hn]; rfl
  rw [← hn] at hn0 hn1 HS
  clear hS hn
  go_enter Tryz.func64, Tryz.ntmps64
  go_upto_region 4 with (go_at_call 95; refine (HS.out _).mono ?_; rintro e w1 ⟨⟨A, c, rfl, hrow⟩, hb1⟩; have HR := Lib.hid hrow; have HB := Lib.hid hb1; clear hrow hb1)
  obtain ⟨g, o, hA, hg1, hg2⟩ : ∃ g o, A = some ⟨g, o, none⟩ ∧ w.heap.size ≤ g ∧ g < w1.heap.size := by
    obtain ⟨g, o, a, b, c, _⟩ := (own_of_row HR.out).at_ (k := 0) (by rw [strs_len, ← HN.out]; omega)
    exact ⟨g, o, a, b, c⟩
  subst hA
  have HC : Hid (∀ j : Nat, j < n → w1.cell? ⟨g, o + j, none⟩ = some (.string (bt (R.getD j [])))) := Lib.hid fun j hj => by
    have hjl : j < R.length := by rw [← HN.out]; exact hj
    obtain ⟨g', o', hA, _, _, q, _⟩ := (own_of_row HR.out).at_ (k := j) (by rw [strs_len]; exact hjl)
    obtain ⟨rfl, rfl⟩ : g = g' ∧ o = o' := by simpa using hA
    rw [q]
    simp [strs, List.getD, hjl]
  have c0 : w1.cell? ⟨g, o, none⟩ = some (.string (bt (R.getD 0 []))) := HC.out 0 (by omega)
  have hW0 : (bt (R.getD 0 [])).size = (R.headD []).length := by
    rw [bt_size]
    cases R with
    | nil => rfl
    | cons r rs => rfl
  generalize bt (R.getD 0 []) = t0 at *
  obtain ⟨W, hW⟩ : ∃ W, W = t0.size := ⟨_, rfl⟩
  rw [← hW] at hW0
  rw [← hW0] at HOK
  have HWZ := Lib.hid hW
  clear HS hW0 hW
  by_cases hbig : 24 < n
  · have hno : rowsOk R = false := by
      cases hr : rowsOk R
      · rfl
      · have := (HOK.out.1 hr).1
        rw [← HN.out] at this
        omega
    have HNO := Lib.hid hno
    have hb2 : (24 : Int) < (n : Int) := by omega
    clear hno hbig
    go_wp2
    go_ret2
    rw [hQ.out]
    exact ⟨.inr ⟨HNO.out, rfl⟩, HB.out⟩
  · have hb2 : (n : Int) ≤ 24 := by omega
    by_cases hw : (t0.size : Int) < 1 ∨ 24 < (t0.size : Int)
    · have HI := Lib.hid (betr_no hw)
      have hno : rowsOk R = false := by
        cases hr : rowsOk R
        · rfl
        · have := HOK.out.1 hr
          have := HWZ.out
          omega
      have HNO := Lib.hid hno
      clear hno hw
      go_wp2_with (go_at_call 42; refine (rin_any _ _ _ _).mono ?_; rw [HI.out]; rintro e w' ⟨rfl, rfl⟩)
      go_ret2
      rw [hQ.out]
      exact ⟨.inr ⟨HNO.out, rfl⟩, HB.out⟩
    · have HI := Lib.hid (betr_yes (x := (t0.size : Int)) (lo := 1) (hi := 24) (by omega) (by omega))
      have ht0 : (1 : Int) ≤ (t0.size : Int) := by omega
      have ht1 : (t0.size : Int) ≤ 24 := by omega
      clear hw
      go_wp2_with (go_at_call 42; refine (rin_any _ _ _ _).mono ?_; rw [HI.out]; rintro e w' ⟨rfl, rfl⟩)
      have HBAD : Hid (∀ j, j < n → okRow W (R.getD j []) = false → rowsOk R = false) := Lib.hid fun j hj hb => by
        cases hr : rowsOk R
        · rfl
        · have hjl : j < R.length := by rw [← HN.out]; exact hj
          have := (HOK.out.1 hr).2.2.2 j hjl
          have e : R.getD j [] = R[j] := by simp [List.getD, hjl]
          rw [e, this] at hb
          exact hb
      have HALL : Hid ((∀ j, j < n → okRow W (R.getD j []) = true) → rowsOk R = true) := Lib.hid fun ha => by
        refine HOK.out.2 ⟨by rw [← HN.out]; omega, by have := HWZ.out; omega, by have := HWZ.out; omega, fun j hj => ?_⟩
        have := ha j (by rw [HN.out]; exact hj)
        have e : R.getD j [] = R[j] := by simp [List.getD, hj]
        rwa [e] at this
      clear HOK
      go_loopw [26] (fun i wr => wr = w1 ∧ ∃ j : Nat, j ≤ n ∧ i = .int .i64 (j : Int) ∧ Hid (∀ k, k < j → okRow W (R.getD k []) = true)) (fun i _ => n - (intOf i).toNat)
      case atStart => exact ⟨rfl, 0, by omega, by simp, Lib.hid fun k hk => by omega⟩
      case round =>
        obtain ⟨rfl, j, hj, rfl, hok⟩ := hrel
        by_cases hlt : j < n
        · have hlt2 : (j : Int) < (n : Int) := by omega
          have cj := HC.out j hlt
          have hts : (bt (R.getD j [])).size = (R.getD j []).length := bt_size _
          have htg : ∀ (x : Nat) (h : x < (bt (R.getD j [])).size), (R.getD j [])[x]? = some (bt (R.getD j []))[x] := fun x h => by have := ba_get (bt (R.getD j [])) x h; rwa [bt_list] at this
          have hbad := HBAD.out j hlt
          generalize hr : R.getD j [] = r at *
          generalize bt r = t at *
          have HTS := Lib.hid hts
          have HTG := Lib.hid htg
          have HBJ := Lib.hid hbad
          have HRJ := Lib.hid hr
          clear hts htg hbad hr
          by_cases hsz : t.size = t0.size
          · have hB : ((t.size : Int) != (t0.size : Int)) = false := by simp [hsz]
            have HSZ := Lib.hid hsz
            have ht24 : (t.size : Int) ≤ 24 := by omega
            clear hsz
            go_wp2
            go_loopw [7] (fun i w2 => w2 = wr ∧ ∃ x : Nat, x ≤ t.size ∧ i = .int .i64 (x : Int) ∧ Hid (∀ (k : Nat) (h : k < t.size), k < x → isSgn t[k] = true)) (fun i _ => t.size - (intOf i).toNat)
            case atStart => exact ⟨rfl, 0, by omega, by simp, Lib.hid fun k h hk => by omega⟩
            case round =>
              obtain ⟨rfl, x, hx, rfl, hsg⟩ := hrel
              by_cases hxl : x < t.size
              · have hxl2 : (x : Int) < (t.size : Int) := by omega
                have hnext : isSgn t[x] = true → Hid (∀ (k : Nat) (h : k < t.size), k < x + 1 → isSgn t[k] = true) := fun hc => Lib.hid fun k h hk => by
                  rcases Nat.lt_or_ge k x with h1 | h1
                  · exact hsg.out k h h1
                  · obtain rfl : k = x := by omega
                    exact hc
                have HNX := Lib.hid hnext
                clear hnext
                by_cases e1 : (t[x].toNat : Int) = 111
                · have hB1 : ((t[x].toNat : Int) != 111) = false := by simpa using e1
                  have HS2 := Lib.hid (HNX.out ((sg_of t[x]).2 (fun h => h.1 e1)))
                  clear e1
                  go_wp2
                  go_roundw
                  case rel => exact ⟨trivial, x + 1, by omega, by go_num, HS2.out⟩
                  case measure => simp [intOf]; omega
                · have hB1 : ((t[x].toNat : Int) != 111) = true := by simpa using e1
                  by_cases e2 : (t[x].toNat : Int) = 46
                  · have hB2 : ((t[x].toNat : Int) != 46) = false := by simpa using e2
                    have HS2 := Lib.hid (HNX.out ((sg_of t[x]).2 (fun h => h.2 e2)))
                    clear e1 e2
                    go_wp2
                    go_roundw
                    case rel => exact ⟨trivial, x + 1, by omega, by go_num, HS2.out⟩
                    case measure => simp [intOf]; omega
                  · have hB2 : ((t[x].toNat : Int) != 46) = true := by simpa using e2
                    have hns : isSgn t[x] = false := by
                      cases hs : isSgn t[x]
                      · rfl
                      · exact absurd ⟨e1, e2⟩ ((sg_of t[x]).1 hs)
                    have hno : rowsOk R = false := HBJ.out (by
                      have hg := HTG.out x hxl
                      unfold okRow
                      have hall : r.all isSgn = false := by
                        rw [List.all_eq_false]
                        have hlx : x < r.length := by have := HTS.out; omega
                        rw [List.getElem?_eq_getElem hlx] at hg
                        exact ⟨t[x], by rw [← Option.some.inj hg]; exact List.getElem_mem hlx, by rw [hns]; simp⟩
                      rw [hall, Bool.and_false])
                    have HNO := Lib.hid hno
                    clear e1 e2 hns hno
                    go_wp2_with fail
                    go_ret2
                    rw [hQ.out]
                    exact ⟨.inr ⟨HNO.out, rfl⟩, HB.out⟩
              · obtain rfl : x = t.size := by omega
                have hok2 : Hid (∀ k, k < j + 1 → okRow W (R.getD k []) = true) := Lib.hid fun k hk => by
                  rcases Nat.lt_or_ge k j with h1 | h1
                  · exact hok.out k h1
                  · obtain rfl : k = j := by omega
                    rw [HRJ.out]
                    unfold okRow
                    have hl : r.length = W := by
                      have := HTS.out
                      have := HSZ.out
                      have := HWZ.out
                      omega
                    rw [hl]
                    simp only [decide_true, Bool.true_and, List.all_eq_true]
                    intro c hc
                    obtain ⟨y, hy, rfl⟩ := List.getElem_of_mem hc
                    have hyt : y < t.size := by have := HTS.out; omega
                    have hg := HTG.out y hyt
                    rw [List.getElem?_eq_getElem hy] at hg
                    rw [Option.some.inj hg]
                    exact hsg.out y hyt hyt
                go_wp2
                go_roundw
                case rel => exact ⟨trivial, j + 1, by omega, by go_num, hok2⟩
                case measure => simp [intOf]; omega
          · have hB : ((t.size : Int) != (t0.size : Int)) = true := by
              have : ¬ (t.size : Int) = (t0.size : Int) := by omega
              simpa using this
            have hno : rowsOk R = false := HBJ.out (by
              unfold okRow
              have : ¬ r.length = W := by
                have := HTS.out
                have := HWZ.out
                omega
              simp [this])
            have HNO := Lib.hid hno
            clear hsz hno
            go_wp2_with fail
            go_ret2
            rw [hQ.out]
            exact ⟨.inr ⟨HNO.out, rfl⟩, HB.out⟩
        · obtain rfl : j = n := by omega
          have HYES := Lib.hid (HALL.out hok.out)
          go_wp2
          go_ret2
          rw [hQ.out]
          exact ⟨.inl ⟨HYES.out, _, c, rfl, HR.out⟩, HB.out⟩
theorem doRows_any (s : ByteArray) (w : World) (hs : s.size ≤ 10000000) :
    Calls Tryz.prog 64 #[.string s] w (DoQ (parts s.data.toList 47) w) := by
  by_cases h6 : 600 < s.size
  · have hno : rowsOk (parts s.data.toList 47) = false := by
      cases hp : rowsOk (parts s.data.toList 47)
      · rfl
      · have := pic_600 (l := s.data.toList) hp
        simp at this
        omega
    have HN := Lib.hid hno
    have h62 : (600 : Int) < (s.size : Int) := by omega
    clear hno h6
    go_enter Tryz.func64, Tryz.ntmps64
    go_wp2
    go_ret2
    exact ⟨.inr ⟨HN.out, rfl⟩, Below.refl _ _⟩
  · have hPb := parts_len s.data.toList 47
    exact doRows_of s _ w (by omega) hPb.1 (by have := hPb.2; simp at this; omega) fun W => l1Split_any s W (by omega)
end Go.Proofs.YtbabkcjnfdpafaaGreatDoor

/- Chapter 7: the specification's texts of rows, dots counted; the laws IsPicture, CountDots, SizeOfPicture. -/
namespace Go.Proofs.YtbabkcjnfdpafaaGreatDoor
open Go.ChangeShapes Go.WideShapes Go.ChangeAt Go.RowKit

theorem cat7 (x y : ByteArray) (h : x.size + y.size ≤ 1000000) (W : World) : (Op.stringOp .add x y).run Tryz.prog W = .ok (.string (x ++ y)) W := run_string_add_sum W x y (by omega)
theorem slash_app (a r : List UInt8) : bt a ++ (⟨#[47]⟩ ++ bt r) = bt (a ++ (47 :: r)) := by
  rw [show (⟨#[47]⟩ : ByteArray) = bt [47] from rfl, bt_app, bt_app]
  rfl
theorem joinP_take (R : List (List UInt8)) (j : Nat) (h1 : 1 ≤ j) (h : j < R.length) : joinP 47 (R.take (j + 1)) = joinP 47 (R.take j) ++ (47 :: R.getD j []) := by
  have hne : R.take j ≠ [] := by
    intro e
    have := congrArg List.length e
    rw [List.length_take] at this
    simp only [List.length_nil] at this
    omega
  rw [List.take_succ_eq_append_getElem h, joinP_snoc _ _ _ hne]
  simp [List.getD, h]
theorem joinP_le (R : List (List UInt8)) (hr : ∀ r ∈ R, r.length ≤ 100) (j : Nat) : (joinP 47 (R.take j)).length ≤ j * 101 := by
  induction j with
  | zero => simp [joinP]
  | succ j ih =>
    rcases Nat.lt_or_ge j R.length with h | h
    · rcases Nat.eq_zero_or_pos j with rfl | hj
      · cases R with
        | nil => simp at h
        | cons r rs =>
          have := hr r (by simp)
          simp [joinP]
          omega
      · rw [joinP_take R j hj h]
        have : (R.getD j []).length ≤ 100 := by
          have e : R.getD j [] = R[j] := by simp [List.getD, h]
          rw [e]
          exact hr _ (List.getElem_mem h)
        rw [List.length_append, List.length_cons]
        omega
    · rw [List.take_of_length_le (by omega)]
      rw [List.take_of_length_le (by omega)] at ih
      omega
set_option maxRecDepth 4000 in
set_option maxHeartbeats 800000 in
theorem doText_any (g o n c : Nat) (R : List (List UInt8)) (w : World) (hn : n = R.length) (h1 : 1 ≤ n) (h2 : n ≤ 1000) (hnc : n ≤ c) (hr : ∀ r ∈ R, r.length ≤ 100)
    (hC : ∀ j : Nat, j < n → w.cell? ⟨g, o + j, none⟩ = some (.string (bt (R.getD j [])))) :
    Calls Tryz.prog 96 #[.slice (some ⟨g, o, none⟩) n c] w fun e w' => e = .returned (.string (bt (joinP 47 R))) ∧ w = w' := by
  have HC := Lib.hid hC
  have c0 : w.cell? ⟨g, o, none⟩ = some (.string (bt (R.getD 0 []))) := hC 0 (by omega)
  have HJ := Lib.hid fun j (a : 1 ≤ j) (b : j < n) => joinP_take R j a (by omega)
  have HL := Lib.hid fun j => joinP_le R hr j
  have HF : Hid (joinP 47 (R.take n) = joinP 47 R) := Lib.hid (by rw [List.take_of_length_le (by omega)])
  have H1 : Hid (R.getD 0 [] = joinP 47 (R.take 1)) := Lib.hid (by
    cases R with
    | nil => simp [joinP]
    | cons r rs => simp [joinP])
  have HRL : Hid (∀ j, j < n → (R.getD j []).length ≤ 100) := Lib.hid fun j hj => by
    have hjl : j < R.length := by omega
    have e : R.getD j [] = R[j] := by simp [List.getD, hjl]
    rw [e]
    exact hr _ (List.getElem_mem hjl)
  rw [H1.out] at c0
  clear hC hr hn H1
  have h10 : (1 : Int) ≤ (n : Int) := by omega
  have h11 : (0 : Int) < (n : Int) := by omega
  by_cases hn1 : n = 1
  · subst hn1
    rw [HF.out] at c0
    go_enter Tryz.func96, Tryz.ntmps96
    go_wp2_with fail
    all_goals
      go_loopw [12, 3] (fun i v wr => wr = w ∧ i = .int .i64 0 ∧ v = .string (bt (joinP 47 R))) (fun _ _ _ => 0)
      case atStart => exact ⟨rfl, by simp, rfl⟩
      case round =>
        obtain ⟨rfl, rfl, rfl⟩ := hrel
        go_wp2
        go_ret
        exact ⟨rfl, rfl⟩
  · have hc1 : ¬ c = 1 := by omega
    have hl : IntKind.i64.wrap ((n : Int) - 1) = (n : Int) - 1 := IntWalk.i64_in _ (by omega)
    go_enter Tryz.func96, Tryz.ntmps96
    go_wp2_with fail
    go_loopw [12, 3] (fun i v wr => wr = w ∧ ∃ j : Nat, j ≤ n - 1 ∧ i = .int .i64 (j : Int) ∧ v = .string (bt (joinP 47 (R.take (j + 1))))) (fun i _ _ => n - (intOf i).toNat)
    case atStart => exact ⟨rfl, 0, by omega, by simp, by simp⟩
    case round =>
      obtain ⟨rfl, j, hj, rfl, rfl⟩ := hrel
      by_cases hlt : j < n - 1
      · have hlt2 : (j : Int) < ((n - 1 : Nat) : Int) := by omega
        have cj := HC.out (j + 1) (by omega)
        have e1 := HJ.out (j + 1) (by omega) (by omega)
        have l1 := HL.out (j + 1)
        have l2 := HRL.out (j + 1) (by omega)
        generalize joinP 47 (R.take (j + 1)) = acc at *
        generalize R.getD (j + 1) [] = r at *
        have k1 := cat7 ⟨#[47]⟩ (bt r) (by simp [bt, ByteArray.size]; omega)
        have k2 := cat7 (bt acc) (⟨#[47]⟩ ++ bt r) (by simp [bt, ByteArray.size]; omega)
        rw [slash_app, ← e1] at k2
        have HE := Lib.hid e1
        clear e1 l1 l2
        have cj2 : wr.cell? ⟨g, o + 1 + j, none⟩ = some (.string (bt r)) := by rw [show o + 1 + j = o + (j + 1) by omega]; exact cj
        go_wp2
        go_roundw
        case rel => exact ⟨trivial, j + 1, by omega, by go_num, rfl⟩
        case measure => simp [intOf]; omega
      · obtain rfl : j = n - 1 := by omega
        have e : R.take (n - 1 + 1) = R.take n := by rw [show n - 1 + 1 = n by omega]
        rw [e, HF.out]
        go_wp2
        go_ret
        exact ⟨rfl, rfl⟩
theorem doDots_any (s : ByteArray) (w : World) (hs : s.size ≤ 1000000) :
    Calls Tryz.prog 77 #[.string s] w fun e w' => e = .returned (.int .i64 (cntB s.data.toList : Int)) ∧ w = w' := by
  have HS := Lib.hid fun k (h : k < s.data.toList.length) => cntB_succ s.data.toList k h
  have HG := Lib.hid fun k (h : k < s.size) => ba_get s k h
  have HL : Hid (∀ k, k ≤ s.size → cntB (s.data.toList.take k) ≤ 1000000) := Lib.hid fun k hk => by
    have := cntB_le (s.data.toList.take k)
    rw [List.length_take] at this
    omega
  have HF : Hid (s.data.toList.take s.size = s.data.toList) := Lib.hid (List.take_of_length_le (by simp))
  go_enter Tryz.func77, Tryz.ntmps77
  go_wp2
  go_loopw [3, 4] (fun v i wr => wr = w ∧ ∃ k : Nat, k ≤ s.size ∧ i = .int .i64 (k : Int) ∧ v = .int .i64 (cntB (s.data.toList.take k) : Int)) (fun _ i _ => s.size - (intOf i).toNat)
  case atStart => exact ⟨rfl, 0, by omega, by simp, by simp [cntB]⟩
  case round =>
    obtain ⟨rfl, k, hk, rfl, rfl⟩ := hrel
    by_cases hlt : k < s.size
    · have hlt2 : (k : Int) < (s.size : Int) := by omega
      have hkl : k < s.data.toList.length := by simpa using hlt
      have h1 := HS.out k hkl
      have hg := HG.out k hlt
      rw [List.getElem?_eq_getElem hkl] at hg
      rw [Option.some.inj hg] at h1
      have hl := HL.out k hk
      have hl2 := HL.out (k + 1) hlt
      generalize cntB (s.data.toList.take k) = a at *
      generalize hb2 : cntB (s.data.toList.take (k + 1)) = b at *
      have HB2 := Lib.hid hb2
      clear hb2
      by_cases hc : s[k] = 111
      · have hB : ((s[k].toNat : Int) == 111) = true := by rw [hc]; rfl
        have hb : b = a + 1 := by rw [h1, hc]; rfl
        have HB := Lib.hid hb
        clear h1 hg hc hb
        go_wp2
        go_roundw
        case rel => exact ⟨trivial, k + 1, by omega, by go_num, by rw [HB2.out, HB.out]; go_num⟩
        case measure => simp [intOf]; omega
      · have hB : ((s[k].toNat : Int) == 111) = false := by
          have : ¬ s[k].toNat = 111 := fun e => hc (UInt8.toNat_inj.1 e)
          simp
          omega
        have hb : b = a := by
          rw [h1]
          have : (s[k] == 111) = false := by simpa using hc
          rw [this]
          rfl
        have HB := Lib.hid hb
        clear h1 hg hc hb
        go_wp2
        go_roundw
        case rel => exact ⟨trivial, k + 1, by omega, by go_num, by rw [HB2.out, HB.out]⟩
        case measure => simp [intOf]; omega
    · obtain rfl : k = s.size := by omega
      rw [HF.out]
      go_wp2
      go_ret
      exact ⟨rfl, rfl⟩
/-- IsPicture, CountDots, SizeOfPicture, by the specification. -/
theorem spec_IsPicture (s : ByteArray) (w : World) (hs : s.size ≤ 10000000) :
    Calls Tryz.prog 36 #[.string s] w fun e w' => e = .returned (.bool (isPic s.data.toList)) ∧ Below w.heap.size w w' := by
  have HR := Lib.hid fun W => doRows_any s W hs
  have HP : Hid (isPic s.data.toList = rowsOk (parts s.data.toList 47)) := Lib.hid rfl
  rw [HP.out]
  clear HP
  generalize parts s.data.toList 47 = R at *
  cases hr : rowsOk R
  · have HO := Lib.hid hr
    clear hr
    go_enter Tryz.func36, Tryz.ntmps36
    go_wp2_with (go_at_call 64; refine (HR.out _).mono ?_; rintro e w1 ⟨h1, hb1⟩; obtain ⟨h2, _⟩ | ⟨_, rfl⟩ := h1; (rw [HO.out] at h2; cases h2))
    go_ret
    exact ⟨rfl, hb1⟩
  · have HO := Lib.hid hr
    clear hr
    go_enter Tryz.func36, Tryz.ntmps36
    go_wp2_with (go_at_call 64; refine (HR.out _).mono ?_; rintro e w1 ⟨h1, hb1⟩; obtain ⟨_, A, c, rfl, hrow⟩ | ⟨h2, _⟩ := h1; rotate_left; (rw [HO.out] at h2; cases h2))
    go_ret
    exact ⟨rfl, hb1⟩
end Go.Proofs.YtbabkcjnfdpafaaGreatDoor

/- Chapter 7: rows of a picture in memory; CountDots, SizeOfPicture, by the specification. -/
namespace Go.Proofs.YtbabkcjnfdpafaaGreatDoor
open Go.ChangeShapes Go.WideShapes Go.ChangeAt Go.RowKit

/-- Texts that lie in a block of their own. -/
structure RowsAt (w : World) (lo g n : Nat) (R : List (List UInt8)) : Prop where
  cell : ∀ j, j < n → w.cell? ⟨g, j, none⟩ = some (.string (bt (R.getD j [])))
  lo : lo ≤ g
  hi : g < w.heap.size
  n : n = R.length
theorem RowsAt.under {w W : World} {lo g n k : Nat} {R : List (List UInt8)} (h : RowsAt w lo g n R) (hb : Below k w W) (hk : g < k) : RowsAt W lo g n R :=
  ⟨fun j hj => (hb.cell (p := ⟨g, j, none⟩) hk).trans (h.cell j hj), h.lo, Nat.lt_of_lt_of_le h.hi hb.size, h.n⟩
theorem RowsAt.below {w W : World} {lo g n : Nat} {R : List (List UInt8)} (h : RowsAt w lo g n R) (hb : Below w.heap.size w W) : RowsAt W lo g n R := h.under hb h.hi
theorem rows_of_row {w : World} {lo : Nat} {V : Value} {R : List (List UInt8)} (h : w.ownsRow lo 9 1 V R.length (strs R)) (h1 : 1 ≤ R.length) :
    ∃ g c, V = .slice (some ⟨g, 0, none⟩) R.length c ∧ R.length ≤ c ∧ RowsAt w lo g R.length R := by
  have hh := h
  rcases h.2 with ⟨_, h0⟩ | ⟨g, c, cur, rfl, hlo, hcell, hc, hmax, hsz, htk⟩
  · omega
  · refine ⟨g, c, rfl, hc, fun j hj => ?_, hlo, (hh.lt g rfl).2, rfl⟩
    obtain ⟨g', o', hA, _, _, q, _⟩ := (own_of_row hh).at_ (k := j) (by rw [strs_len]; exact hj)
    obtain ⟨rfl, rfl⟩ : g = g' ∧ 0 = o' := by simpa using hA
    rw [Nat.zero_add] at q
    rw [q]
    simp [strs, List.getD, hj]
theorem doRows_yes (s : ByteArray) (w : World) (hs : s.size ≤ 10000000) (h : isPic s.data.toList = true) :
    Calls Tryz.prog 64 #[.string s] w fun e w' => ∃ g c, e = .returned (.tuple #[.slice (some ⟨g, 0, none⟩) (pH s.data.toList) c, .bool true]) ∧ pH s.data.toList ≤ c ∧ RowsAt w' w.heap.size g (pH s.data.toList) (parts s.data.toList 47) ∧ Below w.heap.size w w' := by
  refine (doRows_any s w hs).mono ?_
  rintro e w' ⟨⟨_, A, c, rfl, hrow⟩ | ⟨h2, _⟩, hb⟩
  · obtain ⟨g, c', hV, hc, hr⟩ := rows_of_row hrow (pic_b h).h0
    rw [hV]
    exact ⟨g, c', rfl, hc, hr, hb⟩
  · have : isPic s.data.toList = false := h2
    rw [h] at this
    cases this
theorem doRows_no (s : ByteArray) (w : World) (hs : s.size ≤ 10000000) (h : isPic s.data.toList = false) :
    Calls Tryz.prog 64 #[.string s] w fun e w' => e = .returned (.tuple #[.slice none 0 0, .bool false]) ∧ Below w.heap.size w w' := by
  refine (doRows_any s w hs).mono ?_
  rintro e w' ⟨⟨h2, _⟩ | ⟨_, rfl⟩, hb⟩
  · have : isPic s.data.toList = true := h2
    rw [h] at this
    cases this
  · exact ⟨rfl, hb⟩
theorem spec_CountDots_no (s : ByteArray) (w : World) (hs : s.size ≤ 10000000) (h : isPic s.data.toList = false) :
    Calls Tryz.prog 32 #[.string s] w fun e w' => e = .returned (.tuple #[.int .i64 0, .bool false]) ∧ Below w.heap.size w w' := by
  have HR := Lib.hid fun W => spec_IsPicture s W (by omega)
  rw [h] at HR
  clear h
  go_enter Tryz.func32, Tryz.ntmps32
  go_wp2_with (go_at_call 36; refine (HR.out _).mono ?_; rintro e w1 ⟨rfl, hb1⟩)
  go_ret2
  exact ⟨rfl, hb1⟩
theorem spec_CountDots_yes (s : ByteArray) (w : World) (hs : s.size ≤ 10000000) (h : isPic s.data.toList = true) :
    Calls Tryz.prog 32 #[.string s] w fun e w' => e = .returned (.tuple #[.int .i64 (cntB s.data.toList : Int), .bool true]) ∧ Below w.heap.size w w' := by
  have HR := Lib.hid fun W => spec_IsPicture s W (by omega)
  rw [h] at HR
  have hsz : s.size ≤ 600 := by
    have h6 := pic_600 h
    rw [show s.data.toList.length = s.size by simp] at h6
    exact h6
  have HD := Lib.hid fun W => doDots_any s W (by omega)
  clear h
  generalize cntB s.data.toList = k at *
  go_enter Tryz.func32, Tryz.ntmps32
  go_wp2_with (first
    | (go_at_call 36; refine (HR.out _).mono ?_; rintro e w1 ⟨rfl, hb1⟩)
    | (go_at_call 77; refine (HD.out _).mono ?_; rintro e w2 ⟨rfl, rfl⟩))
  go_ret2
  exact ⟨rfl, hb1⟩
end Go.Proofs.YtbabkcjnfdpafaaGreatDoor

/- Chapter 7: the specification's pictures of marked places. -/
namespace Go.Proofs.YtbabkcjnfdpafaaGreatDoor
open Go.ChangeShapes Go.WideShapes Go.ChangeAt Go.RowKit

/-- The first x signs of a row. -/
def rowK (W : Nat) (d : Nat → Bool) (y x : Nat) : List UInt8 := (List.range x).map fun x => sgn (d (y * W + x))
theorem rowK_succ (W : Nat) (d : Nat → Bool) (y x : Nat) : rowK W d y (x + 1) = rowK W d y x ++ [sgn (d (y * W + x))] := by simp [rowK, List.range_succ]
theorem rowK_all (W : Nat) (d : Nat → Bool) (y : Nat) : rowK W d y W = gRow W d y := rfl
theorem rowK_len (W : Nat) (d : Nat → Bool) (y x : Nat) : (rowK W d y x).length = x := by simp [rowK]
theorem gRows_succ (W y : Nat) (d : Nat → Bool) : gRows W (y + 1) d = gRows W y d ++ [gRow W d y] := by simp [gRows, List.range_succ]
theorem sgn_app (a : List UInt8) (b : Bool) : bt a ++ bt [sgn b] = bt (a ++ [sgn b]) := bt_app _ _
set_option maxRecDepth 4000 in
set_option maxHeartbeats 1600000 in
theorem doMake_any (W H n c g : Nat) (d : Nat → Bool) (w : World) (hn : n = W * H) (w0 : 1 ≤ W) (w1 : W ≤ 50) (h0 : 1 ≤ H) (h1 : H ≤ 50) (hg : g < w.heap.size)
    (hC : ∀ i, i < n → w.cell? ⟨g, i, none⟩ = some (.bool (d i))) :
    Calls Tryz.prog 68 #[.int .i64 (W : Int), .int .i64 (H : Int), .slice (some ⟨g, 0, none⟩) n c] w fun e w' => e = .returned (.string (bt (gText W H d))) ∧ Below w.heap.size w w' := by
  obtain ⟨i0, hi0, hz0, hz1, hz2⟩ := info_parts infoStr
  have HC := Lib.hid hC
  have HN := Lib.hid hn
  have HT : Hid (∀ (g2 c2 : Nat) (W2 : World), H ≤ c2 → RowsAt W2 w.heap.size g2 H (gRows W H d) → Calls Tryz.prog 96 #[.slice (some ⟨g2, 0, none⟩) H c2] W2 fun e w' => e = .returned (.string (bt (gText W H d))) ∧ W2 = w') := Lib.hid fun g2 c2 W2 hc hr =>
    doText_any g2 0 H c2 (gRows W H d) W2 (gRows_len W H d).symm h0 (by omega) hc (fun r hr => by obtain ⟨y, _, rfl⟩ := List.mem_map.1 hr; rw [gRow_len]; omega) (fun j hj => by rw [Nat.zero_add]; exact hr.cell j hj)
  have HGL : Hid (∀ y, (gRows W y d).length = y) := Lib.hid fun y => gRows_len W y d
  clear hC hn
  have hW0 : (0 : Int) ≤ (W : Int) := by omega
  go_enter Tryz.func68, Tryz.ntmps68
  go_wp2
  go_loopw [7, 8] (fun v i wr => ∃ y : Nat, y ≤ H ∧ i = .int .i64 (y : Int) ∧ Hid (wr.ownsRow w.heap.size 9 1 v (gRows W y d).length (strs (gRows W y d))) ∧ Hid (Below w.heap.size w wr)) (fun _ i _ => H - (intOf i).toNat)
  case atStart => exact ⟨0, by omega, by simp, Lib.hid (World.ownsRow_nil _ _ _ _), Lib.hid (Below.refl _ _)⟩
  case round =>
    obtain ⟨y, hy, rfl, hown, hb⟩ := hrel
    by_cases hlt : y < H
    · have hlt2 : (y : Int) < (H : Int) := by omega
      have hm1 : y * W + W ≤ n := by
        rw [HN.out, Nat.mul_comm W H, ← Nat.succ_mul]
        exact Nat.mul_le_mul_right _ hlt
      have hm2 : n ≤ 2500 := by
        rw [HN.out]
        exact Nat.mul_le_mul (n₁ := W) (n₂ := 50) (m₁ := H) (m₂ := 50) w1 h1
      have hmw : IntKind.i64.wrap ((y : Int) * (W : Int)) = ((y * W : Nat) : Int) := by
        rw [IntWalk.i64_in]
        · push_cast; rfl
        · have : ((y * W : Nat) : Int) = (y : Int) * (W : Int) := by push_cast; rfl
          omega
      have HK := Lib.hid fun x => rowK_succ W d y x
      have HKL := Lib.hid fun x => rowK_len W d y x
      have HKA := Lib.hid (rowK_all W d y)
      have HSU := Lib.hid (gRows_succ W y d)
      have HCy : Hid (∀ x, x < W → wr.cell? ⟨g, y * W + x, none⟩ = some (.bool (d (y * W + x)))) := Lib.hid fun x hx => (hb.out.cell (p := ⟨g, y * W + x, none⟩) hg).trans (HC.out _ (by omega))
      generalize hM : y * W = M at *
      have HMM := Lib.hid hM
      clear hM
      go_wp2
      go_loopw [9, 10] (fun v i w2 => w2 = wr ∧ ∃ x : Nat, x ≤ W ∧ i = .int .i64 (x : Int) ∧ v = .string (bt (rowK W d y x))) (fun _ i _ => W - (intOf i).toNat)
      case atStart => exact ⟨rfl, 0, by omega, by simp, by simp [rowK, bt]⟩
      case round =>
        obtain ⟨rfl, x, hx, rfl, rfl⟩ := hrel
        by_cases hxl : x < W
        · have hxl2 : (x : Int) < (W : Int) := by omega
          have hc0 := HCy.out x hxl
          have hk := HK.out x
          have hkl := HKL.out x
          have i1 : (0 : Int) ≤ (M : Int) + (x : Int) := by omega
          have i2 : (M : Int) + (x : Int) < (n : Int) := by omega
          have i3 : ((M : Int) + (x : Int)).toNat = M + x := by omega
          generalize rowK W d y x = a at *
          cases hd : d (M + x)
          · rw [hd] at hc0 hk
            have kc := cat7 (bt a) ⟨#[46]⟩ (by simp [bt, ByteArray.size]; omega)
            rw [show (bt a ++ ⟨#[46]⟩ : ByteArray) = bt (rowK W d y (x + 1)) by rw [hk]; exact sgn_app a false] at kc
            clear hd hk hkl
            go_wp2
            go_roundw
            case rel => exact ⟨trivial, x + 1, by omega, by go_num, rfl⟩
            case measure => simp [intOf]; omega
          · rw [hd] at hc0 hk
            have kc := cat7 (bt a) ⟨#[111]⟩ (by simp [bt, ByteArray.size]; omega)
            rw [show (bt a ++ ⟨#[111]⟩ : ByteArray) = bt (rowK W d y (x + 1)) by rw [hk]; exact sgn_app a true] at kc
            clear hd hk hkl
            go_wp2
            go_roundw
            case rel => exact ⟨trivial, x + 1, by omega, by go_num, rfl⟩
            case measure => simp [intOf]; omega
        · obtain rfl : x = W := by omega
          rw [HKA.out]
          go_wp2_with (at_builtin; refine wpList_append_own _ rfl _ _ 36 rfl w.heap.size 9 i0 (.string ⟨#[]⟩) 1 16 Tryz.underlying36 hi0 hz0 hz1 hz2 rfl (by decide) _ _ _ rfl (hown.out.alloc _) ⟨wr.heap.size, 0, none⟩ 1 1 [.string (bt (gRow x d y))] rfl rfl ?c1 ?c2 ?c3 ?c4 ?c5 ?_)
          case c1 =>
            intro j u hj
            match j, hj with
            | 0, hj => simp at hj; subst hj; simp [Addr.add]
          case c2 => intro u hu; simp at hu; subst hu; rfl
          case c3 => rw [gRows_len]; unfold maxLen; omega
          case c4 => rw [gRows_len]; omega
          case c5 => have := hb.out.size; simp; omega
          · intro v' w4 hown' hgrow _
            have HO4 : Hid (w4.ownsRow w.heap.size 9 1 v' (gRows x (y + 1) d).length (strs (gRows x (y + 1) d))) := Lib.hid (by
              rw [HSU.out, ← strs_app, List.length_append]
              exact hown')
            have HB4 := Lib.hid ((hb.out.alloc hb.out.size _).grown hgrow (by have := hb.out.size; simp; omega) fun g hg => (hown.out.lt g hg).1)
            clear hown' hgrow hown hb
            go_wp2
            go_roundw
            case rel => exact ⟨y + 1, by omega, by go_num, HO4, HB4⟩
            case measure => simp [intOf]; omega
    · obtain rfl : y = H := by omega
      obtain ⟨g2, c2, rfl, hc2, hr⟩ := rows_of_row hown.out (by rw [gRows_len]; exact h0)
      have hr2 : RowsAt wr w.heap.size g2 y (gRows W y d) := by have := hr; rwa [gRows_len] at this
      rw [gRows_len] at hc2
      have HTT := Lib.hid (HT.out g2 c2 wr hc2 hr2)
      rw [HGL.out]
      go_wp2_with (go_at_call 96; refine HTT.out.mono ?_; rintro e w' ⟨rfl, rfl⟩)
      go_ret
      exact ⟨rfl, hb.out⟩
end Go.Proofs.YtbabkcjnfdpafaaGreatDoor

/- Chapter 7: the specification's rows mirrored. -/
namespace Go.Proofs.YtbabkcjnfdpafaaGreatDoor
open Go.ChangeShapes Go.WideShapes Go.ChangeAt Go.RowKit

theorem bt_cut1 (r : List UInt8) (x : Nat) (hx : x < r.length) : (bt r).extract x (x + 1) = bt [r.getD x 0] := by
  rw [show (bt r).extract x (x + 1) = bt ((r.take (x + 1)).drop x) from by rw [ba_cut]; rfl, List.take_succ_eq_append_getElem hx, List.drop_append]
  simp [List.getD, hx, List.drop_of_length_le, Nat.min_eq_left (Nat.le_of_lt hx)]
theorem rev_succ (r : List UInt8) (t : Nat) (h : t < r.length) : r.reverse.take (t + 1) = r.reverse.take t ++ [r.getD (r.length - 1 - t) 0] := by
  rw [List.take_succ_eq_append_getElem (by rw [List.length_reverse]; exact h), List.getElem_reverse]
  simp [List.getD, show r.length - 1 - t < r.length by omega]
theorem map_succ (R : List (List UInt8)) (f : List UInt8 → List UInt8) (j : Nat) (h : j < R.length) : (R.take (j + 1)).map f = (R.take j).map f ++ [f (R.getD j [])] := by
  rw [List.take_succ_eq_append_getElem h, List.map_append]
  simp [List.getD, h]
end Go.Proofs.YtbabkcjnfdpafaaGreatDoor

/- Chapter 7: the specification's rows turned by a quarter. -/
namespace Go.Proofs.YtbabkcjnfdpafaaGreatDoor
open Go.ChangeShapes Go.WideShapes Go.ChangeAt Go.RowKit

/-- The first t signs of column x from below. -/
def clm (W H : Nat) (d : Nat → Bool) (x t : Nat) : List UInt8 := (List.range t).map fun j => sgn (d ((H - 1 - j) * W + x))
theorem clm_succ (W H : Nat) (d : Nat → Bool) (x t : Nat) : clm W H d x (t + 1) = clm W H d x t ++ [sgn (d ((H - 1 - t) * W + x))] := by simp [clm, List.range_succ]
theorem clm_len (W H : Nat) (d : Nat → Bool) (x t : Nat) : (clm W H d x t).length = t := by simp [clm]
theorem clm_all (W H : Nat) (d : Nat → Bool) (x : Nat) : clm W H d x H = gRow H (tD W H d) x := by
  unfold clm gRow
  refine List.map_congr_left fun j hj => ?_
  have hj2 : j < H := List.mem_range.1 hj
  have h0 : 0 < H := by omega
  unfold tD
  rw [Nat.mul_comm x H, Nat.mul_add_mod, Nat.mod_eq_of_lt hj2, Nat.mul_add_div h0, Nat.div_eq_of_lt hj2, Nat.add_zero]
theorem gRow_at (W : Nat) (d : Nat → Bool) (y x : Nat) (h : x < W) : (gRow W d y).getD x 0 = sgn (d (y * W + x)) := by simp [gRow, List.getD, h]
theorem gRows_at (W H : Nat) (d : Nat → Bool) (y : Nat) (h : y < H) : (gRows W H d).getD y [] = gRow W d y := by simp [gRows, List.getD, h]
theorem sgn_128 (b : Bool) : (sgn b).toNat < 128 := by cases b <;> decide
theorem bt_at (r : List UInt8) (x : Nat) (h : x < (bt r).size) : (bt r)[x]'h = r.getD x 0 := by
  have h2 : x < r.length := by rw [← bt_size r]; exact h
  simp only [List.getD, List.getElem?_eq_getElem h2]
  rfl
theorem gRow_128 (W : Nat) (d : Nat → Bool) (y x : Nat) (h : x < (bt (gRow W d y)).size) : ((bt (gRow W d y))[x]'h).toNat < 128 := by
  rw [bt_at, gRow_at _ _ _ _ (by rw [bt_size, gRow_len] at h; exact h)]
  exact sgn_128 _
end Go.Proofs.YtbabkcjnfdpafaaGreatDoor
