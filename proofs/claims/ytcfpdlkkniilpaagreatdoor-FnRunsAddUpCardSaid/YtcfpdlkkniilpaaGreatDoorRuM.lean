/- Plain arithmetic of chapter 5: pairs of factors, runs, odd divisors, differences of squares: lists of the specification and of the program, and why they are the same. No program in sight. -/
import Derived.Test.YtcfpdlkkniilpaaGreatDoorNuB
namespace Go.Proofs.YtcfpdlkkniilpaaGreatDoor

/-- The numbers 1, 2, .., k. -/
def upTo (k : Nat) : List Int := (List.range k).map fun (j : Nat) => (j : Int) + 1
theorem upTo_succ (k : Nat) : upTo (k + 1) = upTo k ++ [(k : Int) + 1] := by simp [upTo, List.range_succ]
theorem mem_upTo (k : Nat) (x : Int) : x ∈ upTo k ↔ 1 ≤ x ∧ x ≤ k := by
  simp only [upTo, List.mem_map, List.mem_range]
  constructor
  · rintro ⟨j, hj, rfl⟩
    omega
  · rintro ⟨h1, h2⟩
    exact ⟨(x - 1).toNat, by omega, by omega⟩
theorem upTo_lt (k : Nat) : (upTo k).Pairwise (· < ·) := by
  induction k with
  | zero => simp [upTo]
  | succ k ih =>
    rw [upTo_succ, List.pairwise_append]
    refine ⟨ih, by simp, fun a ha b hb => ?_⟩
    rw [mem_upTo] at ha
    simp at hb
    omega
/-- What f picks of 1, 2, .., k. -/
def sel {α : Type} (f : Int → Option α) (k : Nat) : List α := (upTo k).filterMap f
section
variable {α β : Type}
theorem sel_zero (f : Int → Option α) : sel f 0 = [] := by simp [sel, upTo]
theorem sel_some (f : Int → Option α) (k : Nat) {x : α} (h : f ((k : Int) + 1) = some x) : sel f (k + 1) = sel f k ++ [x] := by simp [sel, upTo_succ, List.filterMap_append, h]
theorem sel_none (f : Int → Option α) (k : Nat) (h : f ((k : Int) + 1) = none) : sel f (k + 1) = sel f k := by simp [sel, upTo_succ, List.filterMap_append, h]
theorem sel_len (f : Int → Option α) (k : Nat) : (sel f k).length ≤ k := by
  refine Nat.le_trans (List.length_filterMap_le _ _) ?_
  simp [upTo]
theorem sel_cut (f : Int → Option α) {k m : Nat} (hkm : k ≤ m) (h : ∀ l : Int, k < l → l ≤ m → f l = none) : sel f m = sel f k := by
  induction m with
  | zero => have : k = 0 := by omega
            rw [this]
  | succ m ih =>
    by_cases e : k = m + 1
    · rw [e]
    · rw [sel_none f m (h _ (by omega) (by omega))]
      exact ih (by omega) fun l h1 h2 => h l h1 (by omega)
theorem sel_congr {f g : Int → Option α} {k : Nat} (h : ∀ l : Int, 1 ≤ l → l ≤ k → f l = g l) : sel f k = sel g k := by
  induction k with
  | zero => simp [sel, upTo]
  | succ k ih =>
    have e := h ((k : Int) + 1) (by omega) (by omega)
    have i := ih fun l h1 h2 => h l h1 (by omega)
    unfold sel at *
    rw [upTo_succ, List.filterMap_append, List.filterMap_append, i]
    simp only [List.filterMap_cons, e, List.filterMap_nil]
theorem sel_bind (f : Int → Option α) (g : α → Option β) (k : Nat) : (sel f k).filterMap g = sel (fun l => (f l).bind g) k := by
  simp [sel, List.filterMap_filterMap]
theorem mem_sel (f : Int → Option α) (k : Nat) (x : α) : x ∈ sel f k ↔ ∃ l : Int, 1 ≤ l ∧ l ≤ k ∧ f l = some x := by
  simp only [sel, List.mem_filterMap, mem_upTo]
  constructor
  · rintro ⟨l, ⟨h1, h2⟩, h3⟩; exact ⟨l, h1, h2, h3⟩
  · rintro ⟨l, h1, h2, h3⟩; exact ⟨l, ⟨h1, h2⟩, h3⟩
/-- What is picked stands in the order of what it is picked by. -/
theorem sel_pairwise (f : Int → Option α) (R : α → α → Prop) (k : Nat) (h : ∀ (a b : Int) x y, 1 ≤ a → a < b → b ≤ k → f a = some x → f b = some y → R x y) : (sel f k).Pairwise R := by
  induction k with
  | zero => simp [sel, upTo]
  | succ k ih =>
    have i := ih fun a b x y h1 h2 h3 => h a b x y h1 h2 (by omega)
    cases e : f ((k : Int) + 1) with
    | none => rw [sel_none f k e]; exact i
    | some y =>
      rw [sel_some f k e, List.pairwise_append]
      refine ⟨i, by simp, fun x hx y' hy => ?_⟩
      simp at hy
      subst hy
      obtain ⟨l, h1, h2, h3⟩ := (mem_sel f k x).1 hx
      exact h l _ x y' h1 (by omega) (by omega) h3 e
end

/-! ### a product and its halves -/
theorem div_spec (n d : Int) (_ : 1 ≤ d) (hm : n % d = 0) : d * (n / d) = n := Int.mul_ediv_cancel' (Int.dvd_of_emod_eq_zero hm)
theorem div_pos' (n d : Int) (hn : 1 ≤ n) (hd : 1 ≤ d) (hm : n % d = 0) : 1 ≤ n / d := by
  have h := div_spec n d hd hm
  rcases Int.lt_or_le (n / d) 1 with h1 | h1
  · have := Int.mul_nonneg (a := d) (b := -(n / d)) (by omega) (by omega)
    have e : d * -(n / d) = -(d * (n / d)) := by grind
    omega
  · exact h1
theorem mul_mod0 (a b : Int) : (a * b) % a = 0 := Int.mul_emod_right a b
theorem mul_div0 (a b : Int) (ha : 1 ≤ a) : a * b / a = b := Int.mul_ediv_cancel_left b (by omega)
theorem le_of_sq {a b n : Int} (ha : 0 ≤ a) (_ : 0 ≤ b) (h1 : a * a ≤ n) (h2 : a * b = n) (ha1 : 1 ≤ a) : a ≤ b := by
  rcases Int.lt_or_le b a with h | h
  · have := Int.mul_le_mul_of_nonneg_left (show b + 1 ≤ a by omega) (show 0 ≤ a by omega)
    have e : a * (b + 1) = a * b + a := by grind
    omega
  · exact h
theorem tmod2 (x : Int) : x.tmod 2 = 0 ↔ x % 2 = 0 := by
  constructor
  · intro h
    have := Int.dvd_of_tmod_eq_zero h
    omega
  · intro h
    exact Int.tmod_eq_zero_of_dvd (by omega)
theorem tdiv2 (x : Int) (h : x % 2 = 0) : x.tdiv 2 = x / 2 := Int.tdiv_eq_ediv_of_dvd (by omega)

/-! ### pairs of factors -/
/-- The pair of factors whose lesser one is d. -/
def fP (n d : Int) : Option (Int × Int) := if n % d = 0 then some (d, n / d) else none
/-- All pairs of factors, the lesser factor first. -/
noncomputable def facs (n : Int) : List (Int × Int) := sel (fP n) (rt n).toNat
theorem mem_facs (n : Int) (hn : 1 ≤ n) (x : Int × Int) : x ∈ facs n ↔ 1 ≤ x.1 ∧ x.1 ≤ x.2 ∧ x.1 * x.2 = n := by
  rw [facs, mem_sel]
  have r0 := rt_nn n (by omega)
  constructor
  · rintro ⟨l, h1, h2, h3⟩
    unfold fP at h3
    split at h3
    · rename_i hm
      injection h3 with h3
      subst h3
      have e := div_spec n l h1 hm
      have p := div_pos' n l hn h1 hm
      have q := (rfits_iff n l (by omega) (by omega)).2 (by omega)
      exact ⟨h1, le_of_sq (by omega) (by omega) q e h1, e⟩
    · cases h3
  · rintro ⟨h1, h2, h3⟩
    have hm : n % x.1 = 0 := by rw [← h3]; exact mul_mod0 _ _
    have q : x.1 * x.1 ≤ n := by
      rw [← h3]
      exact Int.mul_le_mul_of_nonneg_left h2 (by omega)
    have q2 := (rfits_iff n x.1 (by omega) (by omega)).1 q
    refine ⟨x.1, h1, by omega, ?_⟩
    rw [fP, if_pos hm]
    have : n / x.1 = x.2 := by rw [← h3]; exact mul_div0 _ _ h1
    rw [this]
/-- Later pairs are closer together. -/
theorem facs_lt (n : Int) (hn : 1 ≤ n) : (facs n).Pairwise fun x y => x.1 < y.1 ∧ y.2 < x.2 := by
  unfold facs
  refine sel_pairwise _ _ _ fun a b x y h1 h2 h3 hx hy => ?_
  unfold fP at hx hy
  split at hx
  · rename_i ha
    split at hy
    · rename_i hb
      injection hx with hx
      injection hy with hy
      subst hx
      subst hy
      have e1 := div_spec n a h1 ha
      have e2 := div_spec n b (by omega) hb
      refine ⟨h2, ?_⟩
      show n / b < n / a
      rcases Int.lt_or_le (n / b) (n / a) with h | h
      · exact h
      · have p := div_pos' n a hn h1 ha
        have m1 := Int.mul_le_mul_of_nonneg_left h (show 0 ≤ a by omega)
        have m2 := Int.mul_le_mul_of_nonneg_right (show a + 1 ≤ b by omega) (show 0 ≤ n / b by omega)
        have e3 : (a + 1) * (n / b) = a * (n / b) + n / b := by grind
        omega
    · cases hy
  · cases hx
theorem facs_len (n : Int) (h0 : 1 ≤ n) (h1 : n ≤ 2000000) : (facs n).length ≤ 1500 := by
  have := sel_len (fP n) (rt n).toNat
  have h2 : rt n ≤ 1415 := by
    rcases Int.lt_or_le 1415 (rt n) with h | h
    · have := (rfits_iff n 1416 (by omega) (by omega)).2 (by omega)
      omega
    · exact h
  unfold facs
  omega

/-! ### runs -/
/-- The run of numbers of at least 1 that a pair of factors of twice the sum tells. -/
def gR (x : Int × Int) : Option (Int × Int) := if (x.2 - x.1) % 2 = 0 then none else some ((x.2 - x.1 + 1) / 2, x.1)
noncomputable def runsL (n : Int) : List (Int × Int) := (facs (2 * n)).filterMap gR
/-- What the specification looks at: a length. -/
def fS (n : Int) (signed : Bool) (l : Int) : Option (Int × Int) :=
  if 2 * n % l = 0 ∧ (2 * n / l - l + 1) % 2 = 0 ∧ (signed = true ∨ 1 ≤ (2 * n / l - l + 1) / 2) then some ((2 * n / l - l + 1) / 2, l) else none
theorem runs_eq (n : Int) (hn : 1 ≤ n) : sel (fS n false) (2 * n).toNat = runsL n := by
  have r0 := rt_nn (2 * n) (by omega)
  have hr : (rt (2 * n)).toNat ≤ (2 * n).toNat := by
    obtain ⟨a, b, c⟩ := rt_is (2 * n) (by omega)
    rcases Int.lt_or_le (2 * n) (rt (2 * n)) with h | h
    · have := Int.mul_le_mul_of_nonneg_left (show 1 ≤ rt (2 * n) by omega) (show 0 ≤ rt (2 * n) by omega)
      omega
    · omega
  unfold runsL facs
  rw [sel_bind, sel_cut (fS n false) hr]
  · refine sel_congr fun l h1 h2 => ?_
    have q := (rfits_iff (2 * n) l (by omega) (by omega)).2 (by omega)
    unfold fS fP
    by_cases hm : 2 * n % l = 0
    · have e := div_spec (2 * n) l h1 hm
      have p := div_pos' (2 * n) l (by omega) h1 hm
      have le := le_of_sq (by omega) (by omega) q e h1
      generalize 2 * n / l = b at *
      simp only [hm, if_true, Option.bind_some, gR]
      by_cases hp : (b - l) % 2 = 0
      · have : ¬ ((b - l + 1) % 2 = 0) := by omega
        simp [hp, this]
      · have h3 : (b - l + 1) % 2 = 0 := by omega
        have h4 : 1 ≤ (b - l + 1) / 2 := by omega
        simp [hp, h3, h4]
    · simp [hm]
  · intro l h1 h2
    unfold fS
    have h3 : ¬ (l * l ≤ 2 * n) := fun h => by
      have := (rfits_iff (2 * n) l (by omega) (by omega)).1 h
      omega
    by_cases hm : 2 * n % l = 0
    · have e := div_spec (2 * n) l (by omega) hm
      have h4 : 2 * n / l < l := by
        rcases Int.lt_or_le (2 * n / l) l with h | h
        · exact h
        · have := Int.mul_le_mul_of_nonneg_left h (show 0 ≤ l by omega)
          omega
      have : ¬ (1 ≤ (2 * n / l - l + 1) / 2) := by omega
      simp [this]
    · simp [hm]
theorem mem_runsL (n : Int) (hn : 1 ≤ n) (r : Int × Int) : r ∈ runsL n ↔ ∃ a b, 1 ≤ a ∧ a < b ∧ a * b = 2 * n ∧ (b - a) % 2 = 1 ∧ r = ((b - a + 1) / 2, a) := by
  unfold runsL
  rw [List.mem_filterMap]
  constructor
  · rintro ⟨x, hx, h⟩
    obtain ⟨h1, h2, h3⟩ := (mem_facs (2 * n) (by omega) x).1 hx
    unfold gR at h
    split at h
    · cases h
    · rename_i hp
      injection h with h
      exact ⟨x.1, x.2, h1, by omega, h3, by omega, h.symm⟩
  · rintro ⟨a, b, h1, h2, h3, h4, rfl⟩
    refine ⟨(a, b), (mem_facs (2 * n) (by omega) (a, b)).2 ⟨h1, by simp; omega, h3⟩, ?_⟩
    rw [gR, if_neg (by simp; omega)]
theorem runs_len (n : Int) (h0 : 1 ≤ n) (h1 : n ≤ 1000000) : (runsL n).length ≤ 1500 := Nat.le_trans (List.length_filterMap_le _ _) (facs_len (2 * n) (by omega) (by omega))
theorem pw_filterMap {α β : Type} (g : α → Option β) (R : α → α → Prop) (S : β → β → Prop) : ∀ {l : List α}, l.Pairwise R → (∀ x ∈ l, ∀ y ∈ l, ∀ a b, R x y → g x = some a → g y = some b → S a b) → (l.filterMap g).Pairwise S
  | [], _, _ => by simp
  | x :: l, h, hg => by
    rw [List.pairwise_cons] at h
    have ih := pw_filterMap g R S h.2 fun x hx y hy => hg x (by simp [hx]) y (by simp [hy])
    cases e : g x with
    | none => simpa [e] using ih
    | some a =>
      simp only [List.filterMap_cons, e, List.pairwise_cons]
      refine ⟨fun b hb => ?_, ih⟩
      obtain ⟨y, hy, e2⟩ := List.mem_filterMap.1 hb
      exact hg x (by simp) y (by simp [hy]) a b (h.1 y hy) e e2
/-- Longer runs begin at lesser numbers and end before. -/
theorem runs_lt (n : Int) (hn : 1 ≤ n) : (runsL n).Pairwise fun x y => x.2 < y.2 ∧ y.1 + y.2 < x.1 + x.2 ∧ y.1 < x.1 := by
  unfold runsL
  refine pw_filterMap gR _ _ (facs_lt (2 * n) (by omega)) fun x hx y hy a b hxy ha hb => ?_
  obtain ⟨h1, h2, h3⟩ := (mem_facs (2 * n) (by omega) x).1 hx
  obtain ⟨k1, k2, k3⟩ := (mem_facs (2 * n) (by omega) y).1 hy
  unfold gR at ha hb
  split at ha
  · cases ha
  · split at hb
    · cases hb
    · injection ha with ha
      injection hb with hb
      subst ha
      subst hb
      -- x.1 < y.1 <= y.2 < x.2, one product: the sums fall
      have hs : y.1 + y.2 < x.1 + x.2 := by
        rcases Int.lt_or_le (y.1 + y.2) (x.1 + x.2) with h | h
        · exact h
        · have m1 := Int.mul_pos (a := y.1 - x.1) (b := x.2 - y.1) (by omega) (by omega)
          have m2 := Int.mul_nonneg (a := y.1) (b := y.1 + y.2 - (x.1 + x.2)) (by omega) (by omega)
          have e1 : (y.1 - x.1) * (x.2 - y.1) = y.1 * (x.1 + x.2) - y.1 * y.1 - x.1 * x.2 := by grind
          have e2 : y.1 * (y.1 + y.2 - (x.1 + x.2)) = y.1 * y.1 + y.1 * y.2 - y.1 * (x.1 + x.2) := by grind
          omega
      refine ⟨hxy.1, ?_, ?_⟩ <;> simp only <;> omega
end Go.Proofs.YtcfpdlkkniilpaaGreatDoor
