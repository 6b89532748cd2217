/- Chapter 7: what a border and the dots beside others hold while they are gathered; plain facts. -/
import Derived.Test.YtmcdmacpgjkelaaDoorDuC
namespace Go.Proofs.YtmcdmacpgjkelaaDoor

def tlS (T L : Int → Int → Bool) (x y : Int) : Bool := T x y && !L x y
/-- The border, as far as dots have come, and of the dot at hand the first places. -/
def brF (S L : Int → Int → Bool) (x y : Int) (l : List (Int × Int)) (u v : Int) : Bool := (bS S u v && !L u v) || ((decide (u = x) && decide (v = y)) && l.any fun p => !S p.1 p.2)
theorem bsd_any (x y : Int) (f : Int × Int → Bool) : (bsd x y).any f = (f (x + 1, y) || f (x, y + 1) || f (x - 1, y) || f (x, y - 1)) := by
  simp only [bsd, stp, List.map, List.any_cons, List.any_nil, Bool.or_false, Int.add_zero, Int.add_neg_eq_sub, Bool.or_assoc]
theorem br_start {S : Int → Int → Bool} (u v : Int) : false = (bS S u v && !S u v) := by
  unfold bS
  cases S u v <;> simp
theorem br_in (S L : Int → Int → Bool) (x y u v : Int) : (bS S u v && !L u v) = brF S L x y [] u v := by simp [brF]
theorem br_yes {S L : Int → Int → Bool} {x y : Int} {l : List (Int × Int)} {p : Int × Int} (h : S p.1 p.2 = false) (u v : Int) : aS (brF S L x y l) x y u v = brF S L x y (l ++ [p]) u v := by
  unfold aS brF
  simp only [List.any_append, List.any_cons, List.any_nil, h]
  cases (decide (u = x) && decide (v = y)) <;> simp
theorem br_no {S L : Int → Int → Bool} {x y : Int} {l : List (Int × Int)} {p : Int × Int} (h : S p.1 p.2 = true) (u v : Int) : brF S L x y l u v = brF S L x y (l ++ [p]) u v := by
  unfold brF
  simp only [List.any_append, List.any_cons, List.any_nil, h]
  simp
theorem br_out {S L : Int → Int → Bool} {x y : Int} (hS : S x y = true) (u v : Int) : brF S L x y (bsd x y) u v = (bS S u v && !rS L x y u v) := by
  unfold brF rS
  by_cases e : u = x ∧ v = y
  · obtain ⟨rfl, rfl⟩ := e
    rw [bsd_any]
    unfold bS
    rw [hS]
    simp only [decide_true, Bool.true_and, Bool.and_self, Bool.not_true, Bool.and_false, Bool.not_false, Bool.and_true]
    cases S (u - 1) v <;> cases S (u + 1) v <;> cases S u (v - 1) <;> cases S u (v + 1) <;> simp
  · rw [pick_at e]
    simp
theorem br_end {S L : Int → Int → Bool} (h : ∀ x y, L x y = false) (u v : Int) : (bS S u v && !L u v) = bS S u v := by rw [h]; simp
/-- The dots beside others, as far as those have come, and of the one at hand the first places. -/
def nbF (S T L : Int → Int → Bool) (l : List (Int × Int)) (u v : Int) : Bool := nbS S (tlS T L) u v || (S u v && l.any fun p => decide (u = p.1) && decide (v = p.2))
theorem nb_start {S T : Int → Int → Bool} (u v : Int) : false = nbS S (tlS T T) u v := by
  have h : ∀ a b, tlS T T a b = false := fun a b => by unfold tlS; cases T a b <;> rfl
  unfold nbS nS
  simp [h]
theorem nb_in (S T L : Int → Int → Bool) (u v : Int) : nbS S (tlS T L) u v = nbF S T L [] u v := by simp [nbF]
theorem nb_yes {S T L : Int → Int → Bool} {l : List (Int × Int)} {p : Int × Int} (h : S p.1 p.2 = true) (u v : Int) : aS (nbF S T L l) p.1 p.2 u v = nbF S T L (l ++ [p]) u v := by
  unfold aS nbF
  simp only [List.any_append, List.any_cons, List.any_nil, Bool.or_false]
  by_cases e : u = p.1 ∧ v = p.2
  · rw [e.1, e.2, h]
    simp
  · rw [pick_at e]
    simp
theorem nb_no {S T L : Int → Int → Bool} {l : List (Int × Int)} {p : Int × Int} (h : S p.1 p.2 = false) (u v : Int) : nbF S T L l u v = nbF S T L (l ++ [p]) u v := by
  unfold nbF
  simp only [List.any_append, List.any_cons, List.any_nil, Bool.or_false]
  by_cases e : u = p.1 ∧ v = p.2
  · rw [e.1, e.2, h]
    simp
  · rw [pick_at e]
    simp
theorem nb_out {S T L : Int → Int → Bool} {x y : Int} (hT : T x y = true) (u v : Int) : nbF S T L (bsd x y) u v = nbS S (tlS T (rS L x y)) u v := by
  have h : ∀ a b, tlS T (rS L x y) a b = (tlS T L a b || (decide (a = x) && decide (b = y))) := fun a b => by
    unfold tlS rS
    by_cases e : a = x ∧ b = y
    · obtain ⟨rfl, rfl⟩ := e
      simp [hT]
    · rw [pick_at e]
      simp
  unfold nbF nbS nS
  rw [bsd_any, h, h, h, h]
  have e1 : (decide (u = x + 1) && decide (v = y)) = (decide (u - 1 = x) && decide (v = y)) := by
    rw [show decide (u = x + 1) = decide (u - 1 = x) from decide_eq_decide.2 (by omega)]
  have e2 : (decide (u = x) && decide (v = y + 1)) = (decide (u = x) && decide (v - 1 = y)) := by
    rw [show decide (v = y + 1) = decide (v - 1 = y) from decide_eq_decide.2 (by omega)]
  have e3 : (decide (u = x - 1) && decide (v = y)) = (decide (u + 1 = x) && decide (v = y)) := by
    rw [show decide (u = x - 1) = decide (u + 1 = x) from decide_eq_decide.2 (by omega)]
  have e4 : (decide (u = x) && decide (v = y - 1)) = (decide (u = x) && decide (v + 1 = y)) := by
    rw [show decide (v = y - 1) = decide (v + 1 = y) from decide_eq_decide.2 (by omega)]
  simp only [e1, e2, e3, e4]
  generalize (decide (u - 1 = x) && decide (v = y)) = a1
  generalize (decide (u = x) && decide (v - 1 = y)) = a2
  generalize (decide (u + 1 = x) && decide (v = y)) = a3
  generalize (decide (u = x) && decide (v + 1 = y)) = a4
  cases S u v <;> cases tlS T L (u - 1) v <;> cases tlS T L (u + 1) v <;> cases tlS T L u (v - 1) <;> cases tlS T L u (v + 1) <;> cases a1 <;> cases a2 <;> cases a3 <;> cases a4 <;> rfl
theorem nb_end {S T L : Int → Int → Bool} (h : ∀ x y, L x y = false) (u v : Int) : nbS S (tlS T L) u v = nbS S T u v := by
  have h2 : ∀ a b, tlS T L a b = T a b := fun a b => by unfold tlS; rw [h]; simp
  unfold nbS nS
  rw [h2, h2, h2, h2]
theorem bsd_at (x y : Int) (j : Nat) (h : j < 4) : (bsd x y).take (j + 1) = (bsd x y).take j ++ [((bsd x y)[j]'(by rw [bsd_len]; exact h))] := List.take_succ_eq_append_getElem (by rw [bsd_len]; exact h)
theorem bsd_bds (x y : Int) (j : Nat) (h : j < 4) : x - 1 ≤ ((bsd x y)[j]'(by rw [bsd_len]; exact h)).1 ∧ ((bsd x y)[j]'(by rw [bsd_len]; exact h)).1 ≤ x + 1 ∧ y - 1 ≤ ((bsd x y)[j]'(by rw [bsd_len]; exact h)).2 ∧ ((bsd x y)[j]'(by rw [bsd_len]; exact h)).2 ≤ y + 1 := by
  match j, h with
  | 0, _ => simp [bsd, stp]; omega
  | 1, _ => simp [bsd, stp]; omega
  | 2, _ => simp [bsd, stp]; omega
  | 3, _ => simp [bsd, stp]; omega
end Go.Proofs.YtmcdmacpgjkelaaDoor
