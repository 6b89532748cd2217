/- The recurrence of a list and lists that go on by one: each function with one contract, and what holds of what they answer. No condition. -/
import Derived.Test.YtmpeembnjpgcgaaAnQ
import Derived.Test.YtmpeembnjpgcgaaAnD
import Derived.Test.YtmpeembnjpgcgaaSdX
import Derived.Test.YtmpeembnjpgcgaaSdY
namespace Go.Proofs.Ytmpeembnjpgcgaa
open Go.ChangeShapes Go.WideShapes Go.ChangeAt Go.RowKit

def rcB (xs : List Int) : Bool := decide (4 ≤ xs.length ∧ xs.length ≤ 20) && (allIn xs (-1000000000000000) 1000000000000000 && decide ((recT xs 2001).2.2 = 1))
def rcF (xs : List Int) : Int := bif rcB xs then (recT xs 2001).1 else 0
def rcA (xs : List Int) : Int := bif rcB xs then (recT xs 2001).2.1 else 0
theorem rc_no {xs : List Int} (h : (xs.length < 4 ∨ 20 < xs.length) ∨ allIn xs (-1000000000000000) 1000000000000000 = false) : rcB xs = false ∧ rcF xs = 0 ∧ rcA xs = 0 := by
  have e : rcB xs = false := by
    rcases h with h | h
    · rw [rcB, decide_eq_false (by omega), Bool.false_and]
    · rw [rcB, h, Bool.false_and, Bool.and_false]
  exact ⟨e, by rw [rcF, e, cond_false], by rw [rcA, e, cond_false]⟩
theorem rc_two {xs : List Int} (h1 : 4 ≤ xs.length) (h2 : xs.length ≤ 20) (h3 : allIn xs (-1000000000000000) 1000000000000000 = true) :
    ((recT xs 2001).2.2 = 1 → rcF xs = (recT xs 2001).1 ∧ rcA xs = (recT xs 2001).2.1 ∧ rcB xs = true) ∧ ((recT xs 2001).2.2 ≠ 1 → rcF xs = 0 ∧ rcA xs = 0 ∧ rcB xs = false) := by
  have e : rcB xs = decide ((recT xs 2001).2.2 = 1) := by rw [rcB, h3, decide_eq_true ⟨h1, h2⟩, Bool.true_and, Bool.true_and]
  constructor
  · intro h4
    have e2 : rcB xs = true := by rw [e]; exact decide_eq_true h4
    exact ⟨by rw [rcF, e2, cond_true], by rw [rcA, e2, cond_true], e2⟩
  · intro h4
    have e2 : rcB xs = false := by rw [e]; exact decide_eq_false h4
    exact ⟨by rw [rcF, e2, cond_false], by rw [rcA, e2, cond_false], e2⟩
theorem spec_RecurrenceOf_all (A : Option Addr) (n c : Nat) (xs : List Int) (w : World) (hn : xs.length = n) (hm : n ≤ 1048576) (ha : Rd w w.heap.size A (i64s xs)) :
    Calls Try.prog 17 #[.slice A n c] w fun e w' => e = .returned (.tuple #[.int .i64 (rcF xs), .int .i64 (rcA xs), .bool (rcB xs)]) ∧ Below w.heap.size w w' := by
  by_cases h : (n < 4 ∨ 20 < n) ∨ allIn xs (-1000000000000000) 1000000000000000 = false
  · obtain ⟨e1, e2, e3⟩ := rc_no (xs := xs) (by rw [hn]; exact h)
    rw [e1, e2, e3]
    exact spec_RecurrenceOf_no A n c xs w hn hm ha h
  · have h3 : allIn xs (-1000000000000000) 1000000000000000 = true := by
      cases hx : allIn xs (-1000000000000000) 1000000000000000 with
      | true => rfl
      | false => exact absurd (.inr hx) h
    have h1 : 4 ≤ n := by omega
    have h2 : n ≤ 20 := by omega
    obtain ⟨y, z⟩ := rc_two (xs := xs) (by omega) (by omega) h3
    exact spec_RecurrenceOf_any A n c xs w hn h1 h2 ha h3 _ _ _ y z
theorem impl_RecurrenceOf_all (A : Option Addr) (n c : Nat) (xs : List Int) (w : World) (hn : xs.length = n) (hm : n ≤ 1048576) (ha : Rd w w.heap.size A (i64s xs)) :
    Calls Try.prog 16 #[.slice A n c] w fun e w' => e = .returned (.tuple #[.int .i64 (rcF xs), .int .i64 (rcA xs), .bool (rcB xs)]) ∧ Below w.heap.size w w' := by
  by_cases h : (n < 4 ∨ 20 < n) ∨ allIn xs (-1000000000000000) 1000000000000000 = false
  · obtain ⟨e1, e2, e3⟩ := rc_no (xs := xs) (by rw [hn]; exact h)
    rw [e1, e2, e3]
    exact impl_RecurrenceOf_no A n c xs w hn hm ha h
  · have h3 : allIn xs (-1000000000000000) 1000000000000000 = true := by
      cases hx : allIn xs (-1000000000000000) 1000000000000000 with
      | true => rfl
      | false => exact absurd (.inr hx) h
    have h1 : 4 ≤ n := by omega
    have h2 : n ≤ 20 := by omega
    obtain ⟨y, z⟩ := rc_two (xs := xs) (by omega) (by omega) h3
    exact impl_RecurrenceOf_any A n c xs w hn h1 h2 ha h3 _ _ _ y z

theorem recT_hit (xs : List Int) (k : Nat) (h : (recT xs k).2.2 ≠ 0) :
    hitF xs (recT xs k).1 = true ∧ (recT xs k).2.1 = cOf xs (recT xs k).1 ∧ -1000 ≤ (recT xs k).1 ∧ (recT xs k).1 < -1000 + k := by
  induction k with
  | zero => exact absurd rfl h
  | succ k ih =>
    rw [recT] at h ⊢
    by_cases hh : hitF xs (-1000 + (k : Int)) = true
    · rw [if_pos hh]
      exact ⟨hh, rfl, by simp only; omega, by simp only; omega⟩
    · rw [if_neg hh] at h ⊢
      obtain ⟨a, b, c, d⟩ := ih h
      exact ⟨a, b, c, by omega⟩
theorem keepsTo_get (xs : List Int) (f c : Int) (m : Nat) (h : keepsTo xs f c m = true) (i : Nat) (hi : i < m) : xs.getD (i + 2) 0 = f * xs.getD (i + 1) 0 - xs.getD i 0 + c := by
  induction m with
  | zero => omega
  | succ m ih =>
    rw [keepsTo, Bool.and_eq_true] at h
    rcases Nat.lt_or_eq_of_le (Nat.le_of_lt_succ hi) with h1 | h1
    · exact ih h.1 h1
    · subst h1
      simpa using h.2
theorem keepsTo_of (xs : List Int) (f c : Int) (m : Nat) (h : ∀ i, i < m → xs.getD (i + 2) 0 = f * xs.getD (i + 1) 0 - xs.getD i 0 + c) : keepsTo xs f c m = true := by
  induction m with
  | zero => rfl
  | succ m ih =>
    rw [keepsTo, Bool.and_eq_true]
    exact ⟨ih fun i hi => h i (by omega), by simpa using h m (by omega)⟩
theorem recT_one (xs : List Int) (f : Int) (hf : hitF xs f = true) (j : Nat) (hj : f = -1000 + (j : Int)) (k : Nat) (hk : j < k) :
    1 ≤ (recT xs k).2.2 ∧ ((recT xs k).2.2 = 1 → (recT xs k).1 = f ∧ (recT xs k).2.1 = cOf xs f) := by
  induction k with
  | zero => omega
  | succ k ih =>
    have hb := recT_bd xs k
    rw [recT]
    by_cases hh : hitF xs (-1000 + (k : Int)) = true
    · rw [if_pos hh]
      rcases Nat.lt_or_eq_of_le (Nat.le_of_lt_succ hk) with h1 | h1
      · obtain ⟨a, _⟩ := ih h1
        exact ⟨by simp only; omega, fun h => by simp only at h; omega⟩
      · subst h1
        rw [hj]
        exact ⟨by simp only; omega, fun _ => ⟨rfl, rfl⟩⟩
    · rw [if_neg hh]
      rcases Nat.lt_or_eq_of_le (Nat.le_of_lt_succ hk) with h1 | h1
      · exact ih h1
      · subst h1
        rw [← hj] at hh
        exact absurd hf hh
structure Rcf (xs : List Int) : Prop where
  n0 : 4 ≤ xs.length
  n1 : xs.length ≤ 20
  f : -1000 ≤ rcF xs ∧ rcF xs ≤ 1000
  a : -1000 ≤ rcA xs ∧ rcA xs ≤ 1000
  keep : ∀ i, i + 2 < xs.length → xs.getD (i + 2) 0 = rcF xs * xs.getD (i + 1) 0 - xs.getD i 0 + rcA xs
  bd : ∀ i, -1000000000000000 ≤ xs.getD i 0 ∧ xs.getD i 0 ≤ 1000000000000000
theorem rcf_of {xs : List Int} (h : rcB xs = true) : Rcf xs := by
  have e1 : rcF xs = (recT xs 2001).1 := by rw [rcF, h, cond_true]
  have e2 : rcA xs = (recT xs 2001).2.1 := by rw [rcA, h, cond_true]
  rw [rcB, Bool.and_eq_true, Bool.and_eq_true, decide_eq_true_eq, decide_eq_true_eq] at h
  obtain ⟨⟨h1, h2⟩, h3, h4⟩ := h
  obtain ⟨a, b, c, d⟩ := recT_hit xs 2001 (by omega)
  rw [← e1] at a b c d
  rw [← e2] at b
  rw [hitF, Bool.and_eq_true, ← b] at a
  have hc : -1000 ≤ rcA xs ∧ rcA xs ≤ 1000 := by
    have := a.1
    simpa [betw] using this
  exact ⟨h1, h2, ⟨c, by omega⟩, hc, fun i hi => keepsTo_get xs _ _ _ a.2 i (by omega), allIn_bd xs _ _ (by omega) (by omega) h3⟩

instance (a b f c m : Int) : Decidable (GoOk a b f c m) := by unfold GoOk; infer_instance
def goB (a b f c m : Int) : Bool := decide (GoOk a b f c m)
def goL (a b f c m : Int) : List Int := bif goB a b f c m then tab (gOn a b f c) m.toNat else []
theorem go_len {a b f c m : Int} (h : goB a b f c m = true) : ((goL a b f c m).length : Int) = m ∧ 0 ≤ m ∧ m ≤ 12 := by
  have hk : GoOk a b f c m := of_decide_eq_true h
  rw [goL, h, cond_true, tab_len]
  obtain ⟨_, _, h1, h2⟩ := hk
  omega
theorem go_small (a b f c m : Int) : (goL a b f c m).length ≤ 12 := by
  cases h : goB a b f c m with
  | true => have := go_len h; omega
  | false => rw [goL, h]; exact Nat.zero_le _
theorem spec_GoOnBy_any (a b f c m : Int) (w : World) : Calls Try.prog 19 #[.int .i64 a, .int .i64 b, .int .i64 f, .int .i64 c, .int .i64 m] w (ResI (goB a b f c m) (goL a b f c m) w) := by
  by_cases h : GoOk a b f c m
  · have e : goB a b f c m = true := decide_eq_true h
    rw [goL, e, cond_true]
    obtain ⟨N, rfl⟩ := Int.eq_ofNat_of_zero_le (show 0 ≤ m from h.2.2.1)
    exact spec_GoOnBy_yes a b f c N w h
  · have e : goB a b f c m = false := decide_eq_false h
    rw [goL, e, cond_false]
    exact spec_GoOnBy_no a b f c m w h
theorem impl_GoOnBy_any (a b f c m : Int) (w : World) : Calls Try.prog 18 #[.int .i64 a, .int .i64 b, .int .i64 f, .int .i64 c, .int .i64 m] w (ResI (goB a b f c m) (goL a b f c m) w) := by
  by_cases h : GoOk a b f c m
  · have e : goB a b f c m = true := decide_eq_true h
    rw [goL, e, cond_true]
    obtain ⟨N, rfl⟩ := Int.eq_ofNat_of_zero_le (show 0 ≤ m from h.2.2.1)
    exact impl_GoOnBy_yes a b f c N w h
  · have e : goB a b f c m = false := decide_eq_false h
    rw [goL, e, cond_false]
    exact impl_GoOnBy_no a b f c m w h
/-- A list that goes on by a rule has that rule, if it has one alone. -/
theorem go_rule {a b f c m : Int} (h : goB a b f c m = true) (hm : 4 ≤ m) (hr : rcB (goL a b f c m) = true) : rcF (goL a b f c m) = f ∧ rcA (goL a b f c m) = c := by
  have hk : GoOk a b f c m := of_decide_eq_true h
  have hl := go_len h
  have e1 : rcF (goL a b f c m) = (recT (goL a b f c m) 2001).1 := by rw [rcF, hr, cond_true]
  have e2 : rcA (goL a b f c m) = (recT (goL a b f c m) 2001).2.1 := by rw [rcA, hr, cond_true]
  have hx : ∀ i, i < m.toNat → (goL a b f c m).getD i 0 = gOn a b f c i := fun i hi => by
    rw [goL, h, cond_true, List.getD_eq_getElem?_getD, tab_get _ _ _ hi]
    rfl
  rw [rcB, Bool.and_eq_true, Bool.and_eq_true, decide_eq_true_eq, decide_eq_true_eq] at hr
  obtain ⟨⟨h1, h2⟩, h3, h4⟩ := hr
  obtain ⟨⟨_, _, _, _, c1, c2⟩, ⟨f1, f2⟩, _, _⟩ := hk
  have hc : cOf (goL a b f c m) f = c := by
    rw [cOf, hx 0 (by omega), hx 1 (by omega), hx 2 (by omega)]
    have h2 : gOn a b f c 2 = f * gOn a b f c 1 - gOn a b f c 0 + c := gOn_two a b f c 0
    omega
  have hh : hitF (goL a b f c m) f = true := by
    rw [hitF, hc, Bool.and_eq_true]
    refine ⟨betw_yes (by omega) (by omega), keepsTo_of _ _ _ _ fun i hi => ?_⟩
    rw [hx i (by omega), hx (i + 1) (by omega), hx (i + 2) (by omega)]
    exact gOn_two a b f c i
  obtain ⟨_, r⟩ := recT_one _ f hh (f + 1000).toNat (by omega) 2001 (by omega)
  obtain ⟨r1, r2⟩ := r h4
  rw [e1, e2, r1, r2, hc]
  exact ⟨rfl, rfl⟩
/-- A hexagon is the triangle with one place less than twice as many. -/
theorem hex_tri {p : Int} (h : hxB p = true) : hxV p = 2 * p - 1 ∧ 1 ≤ p ∧ p ≤ 50000 ∧ pnB 3 (hxV p) = true ∧ pnB 6 p = true ∧ pnV 3 (hxV p) = pnV 6 p := by
  have h0 : 1 ≤ p ∧ p ≤ 50000 := by simpa [hxB] using h
  have e : hxV p = 2 * p - 1 := by rw [hxV, h, cond_true]
  have b1 : pnB 3 (hxV p) = true := by rw [e, pnB]; simp; omega
  have b2 : pnB 6 p = true := by rw [pnB]; simp; omega
  refine ⟨e, h0.1, h0.2, b1, b2, ?_⟩
  rw [pnV, pnV, b1, b2, cond_true, cond_true, e]
  have t1 := num_twice 3 (2 * p - 1)
  have t2 := num_twice 6 p
  grind
theorem odd_sq {k : Int} (h : odB k = true) : odW k = k ∧ 0 ≤ k ∧ k ≤ 100000 ∧ pnB 3 (odW k) = true ∧ 8 * pnV 3 (odW k) + 1 = odV k ∧ (0 ≤ pnV 3 (odW k) ∧ pnV 3 (odW k) ≤ 6000000000) := by
  have h0 : 0 ≤ k ∧ k ≤ 100000 := by simpa [odB] using h
  have e : odW k = k := by rw [odW, h, cond_true]
  have b1 : pnB 3 (odW k) = true := by rw [e, pnB]; simp; omega
  have ev : odV k = (2 * k + 1) * (2 * k + 1) := by rw [odV, h, cond_true]
  have q := mul_in (a := k) (b := k) h0.1 h0.2 h0.1 h0.2
  have t1 := num_twice 3 k
  have t2 : num 3 k * 2 = k * k + k := by grind
  refine ⟨e, h0.1, h0.2, b1, ?_, ?_⟩
  · rw [ev, pnV, b1, cond_true, e]; grind
  · rw [pnV, b1, cond_true, e]; omega
end Go.Proofs.Ytmpeembnjpgcgaa
