/- Chapter 5: the alike pairs of factors: a search and a deletion by a predicate, over pairs of numbers. -/
import Derived.Test.YtcfpdlkkniilpaaGreatDoorRuD
import Derived.Lib.SliceRun
namespace Go.Proofs.YtcfpdlkkniilpaaGreatDoor
open Go.ChangeShapes Go.WideShapes Go.ChangeAt Go.RowKit

/-- The alike pairs among the first k. -/
def fil (xs : List (Int × Int)) (k : Nat) : List (Int × Int) := (xs.take k).filter alikeB
theorem fil_yes (xs : List (Int × Int)) (k : Nat) (h : k < xs.length) (ha : alikeB xs[k] = true) : fil xs (k + 1) = fil xs k ++ [xs[k]] := by
  unfold fil
  rw [List.take_succ_eq_append_getElem h, List.filter_append]
  simp [ha]
theorem fil_no (xs : List (Int × Int)) (k : Nat) (h : k < xs.length) (ha : alikeB xs[k] = false) : fil xs (k + 1) = fil xs k := by
  unfold fil
  rw [List.take_succ_eq_append_getElem h, List.filter_append]
  simp [ha]
theorem fil_len (xs : List (Int × Int)) (k : Nat) : (fil xs k).length ≤ k := by
  refine Nat.le_trans (List.length_filter_le _ _) ?_
  simp
  omega

/-! ### the deletion -/
theorem run_clear_two {P : Program} (w : World) (t e ty : TypeId) (ht : P.underlying t = some (.slice e)) (hv : ∀ w, (zeroValue e).run P w = .ok (.agg #[.int .i64 0, .int .i64 0]) w) (b o n c : Nat) (hn : 0 < n)
    (hc : ∀ j, j < 2 * n → (w.cell? ⟨b, o + j, none⟩).isSome = true) (hf : ∀ j, j < 2 * n → w.frozen? ⟨b, o + j, none⟩ = false) :
    (Builtin.clear_ #[t] ty #[.slice (some ⟨b, o, none⟩) n c]).run P w = .ok (.tuple #[]) (w.setCells b o (List.replicate (2 * n) (.int .i64 0))) := by
  have hzc : (Builtin.zeroCells (Value.agg #[.int .i64 0, .int .i64 0]).cells n).toList = List.replicate (2 * n) (.int .i64 0) := by
    apply List.ext_getElem
    · simp [Builtin.zeroCells, Value.cells]; omega
    · intro i h1 h2
      simp only [Builtin.zeroCells, Value.cells, List.getElem_replicate]
      have h3 : i % 2 = 0 ∨ i % 2 = 1 := by omega
      rcases h3 with h3 | h3 <;> simp [h3]
  have hst := run_storeCells_cells (P := P) b o (List.replicate (2 * n) (Value.int .i64 0)) 0 w (by simpa using hc) (by simpa using hf) (by intro v hv'; rw [List.eq_of_mem_replicate hv']; rfl)
  simp only [Nat.add_zero] at hst
  obtain ⟨m, rfl⟩ : ∃ m, n = m + 1 := ⟨n - 1, by omega⟩
  simp [Builtin.clear_, run_underlying ht, hv, hzc, hst]
theorem take_set2 (cs : List Value) (k : Nat) (a b : Value) (h : k + 1 < cs.length) : ((cs.set k a).set (k + 1) b).take (k + 2) = cs.take k ++ [a, b] := by
  apply List.ext_getElem?
  intro m
  rcases Nat.lt_or_ge m k with h1 | h1
  · rw [List.getElem?_take_of_lt (by omega), List.getElem?_set_ne (by omega), List.getElem?_set_ne (by omega), List.getElem?_append_left (by simp; omega), List.getElem?_take_of_lt h1]
  · rw [List.getElem?_append_right (by simp; omega)]
    have hl : (cs.take k).length = k := by simp; omega
    rw [hl]
    rcases Nat.lt_or_ge m (k + 2) with h2 | h2
    · rw [List.getElem?_take_of_lt h2]
      by_cases e : m = k
      · subst e
        rw [List.getElem?_set_ne (by omega), List.getElem?_set_self (by omega)]
        simp
      · have e2 : m = k + 1 := by omega
        subst e2
        rw [List.getElem?_set_self (by simp; omega)]
        simp
    · rw [List.getElem?_eq_none (by simp; omega), List.getElem?_eq_none (by simp; omega)]
theorem drop_set2 (cs : List Value) (k m : Nat) (a b : Value) (h : k + 2 ≤ m) : ((cs.set k a).set (k + 1) b).drop m = cs.drop m := by
  rw [List.drop_set_of_lt (by omega), List.drop_set_of_lt (by omega)]
/-- What the deletion's loop keeps: the alike ones of the first j ahead, the others from j on as they were. -/
structure Kept (xs : List (Int × Int)) (N i j : Nat) (cs : List Value) : Prop where
  len : cs.length = 2 * N
  il : (fil xs j).length = i
  ij : i < j
  jN : j ≤ N
  front : cs.take (2 * i) = prs (fil xs j)
  back : cs.drop (2 * j) = prs (xs.drop j)
theorem prs_take (xs : List (Int × Int)) (k : Nat) : (prs xs).take (2 * k) = prs (xs.take k) := by
  induction xs generalizing k with
  | nil => simp [prs]
  | cons x xs ih =>
    cases k with
    | zero => simp [prs]
    | succ k =>
      have e : 2 * (k + 1) = 2 * k + 1 + 1 := by omega
      rw [e]
      simp only [prs, List.flatMap_cons, List.cons_append, List.nil_append, List.take_succ_cons] at ih ⊢
      rw [ih k]
theorem prs_drop (xs : List (Int × Int)) (k : Nat) : (prs xs).drop (2 * k) = prs (xs.drop k) := by
  induction xs generalizing k with
  | nil => simp [prs]
  | cons x xs ih =>
    cases k with
    | zero => simp
    | succ k =>
      have e : 2 * (k + 1) = 2 * k + 1 + 1 := by omega
      rw [e]
      simp only [prs, List.flatMap_cons, List.cons_append, List.nil_append, List.drop_succ_cons] at ih ⊢
      rw [ih k]
theorem Kept.start {xs : List (Int × Int)} {N i : Nat} (hN : xs.length = N) (hi : i < N) (hf : fil xs i = xs.take i) (hx : ∀ x, xs[i]? = some x → alikeB x = false) : Kept xs N i (i + 1) (prs xs) := by
  have h1 := fil_no xs i (by omega) (hx _ (List.getElem?_eq_getElem (by omega)))
  refine ⟨by rw [prs_len, hN], by rw [h1, hf]; simp; omega, by omega, by omega, by rw [prs_take, h1, hf], prs_drop xs _⟩
theorem Kept.at_ {xs : List (Int × Int)} {N i j : Nat} {cs : List Value} (h : Kept xs N i j cs) (hN : xs.length = N) (hj : j < N) : cs[2 * j]? = some (.int .i64 (xs[j]'(by omega)).1) ∧ cs[2 * j + 1]? = some (.int .i64 (xs[j]'(by omega)).2) := by
  have e : ∀ m, cs[2 * j + m]? = (prs (xs.drop j))[m]? := fun m => by rw [← h.back, List.getElem?_drop]
  have h2 : xs.drop j = xs[j]'(by omega) :: xs.drop (j + 1) := List.drop_eq_getElem_cons (by omega)
  have e0 := e 0
  have e1 := e 1
  rw [h2] at e0 e1
  simp only [Nat.add_zero] at e0
  rw [e0, e1]
  exact ⟨rfl, rfl⟩
theorem Kept.skip {xs : List (Int × Int)} {N i j : Nat} {cs : List Value} (h : Kept xs N i j cs) (hN : xs.length = N) (hj : j < N) (ha : alikeB (xs[j]'(by omega)) = false) : Kept xs N i (j + 1) cs := by
  have e := fil_no xs j (by omega) ha
  refine ⟨h.len, by rw [e]; exact h.il, by have := h.ij; omega, by omega, by rw [e]; exact h.front, ?_⟩
  have := congrArg (List.drop 2) h.back
  rw [List.drop_drop] at this
  rw [show 2 * (j + 1) = 2 * j + 2 by omega, this, show (2 : Nat) = 2 * 1 by rfl, prs_drop, List.drop_drop]
theorem Kept.put {xs : List (Int × Int)} {N i j : Nat} {cs : List Value} (h : Kept xs N i j cs) (hN : xs.length = N) (hj : j < N) (ha : alikeB (xs[j]'(by omega)) = true) : Kept xs N (i + 1) (j + 1) ((cs.set (2 * i) (.int .i64 (xs[j]'(by omega)).1)).set (2 * i + 1) (.int .i64 (xs[j]'(by omega)).2)) := by
  have e := fil_yes xs j (by omega) ha
  have hij := h.ij
  have hl := h.len
  refine ⟨by simp [hl], by rw [e]; simp [h.il], by omega, by omega, ?_, ?_⟩
  · rw [show 2 * (i + 1) = 2 * i + 2 by omega, take_set2 _ _ _ _ (by omega), h.front, e, ← prs_app]
  · rw [drop_set2 _ _ _ _ _ (by omega)]
    have := congrArg (List.drop 2) h.back
    rw [List.drop_drop] at this
    rw [show 2 * (j + 1) = 2 * j + 2 by omega, this, show (2 : Nat) = 2 * 1 by rfl, prs_drop, List.drop_drop]
theorem put_two {w : World} {lo hi g o i : Nat} {cs : List Value} (h : Own w lo hi (some ⟨g, o, none⟩) cs) (hi' : 2 * i + 1 < cs.length) (a b : Value) :
    ∃ u v, w.cell? ⟨g, o + i * 2, none⟩ = some u ∧ w.frozen? ⟨g, o + i * 2, none⟩ = false ∧ w.cell? ⟨g, o + i * 2 + 1, none⟩ = some v ∧ w.frozen? ⟨g, o + i * 2 + 1, none⟩ = false ∧
      Own ((w.setCell ⟨g, o + i * 2, none⟩ a).setCell ⟨g, o + i * 2 + 1, none⟩ b) lo hi (some ⟨g, o, none⟩) ((cs.set (2 * i) a).set (2 * i + 1) b) := by
  have e0 : o + i * 2 = o + 2 * i := by omega
  have e1 : o + i * 2 + 1 = o + (2 * i + 1) := by omega
  rw [e1, e0]
  obtain ⟨g', o', e, h1, h2, hc⟩ := h (by omega)
  injection e with e
  injection e with e2 e3 _
  subst e2
  subst e3
  obtain ⟨c0, f0⟩ := hc _ _ (List.getElem?_eq_getElem (show 2 * i < cs.length by omega))
  obtain ⟨c1, f1⟩ := hc _ _ (List.getElem?_eq_getElem hi')
  exact ⟨_, _, c0, f0, c1, f1, (h.set_ (2 * i) (by omega) a).set_ (2 * i + 1) (by simp; exact hi') b⟩
theorem below_setCells {B : Nat} {a : World} (b : Nat) (hb : B ≤ b) : ∀ (vs : List Value) (o : Nat) {w : World}, Below B a w → Below B a (w.setCells b o vs)
  | [], _, _, h => h
  | _ :: r, o, _, h => below_setCells b hb r (o + 1) (h.setCell hb _)
/-- The first cells stay where later ones are written. -/
theorem own_front {w : World} {lo hi g o k : Nat} {cs vs : List Value} (h : Own w lo hi (some ⟨g, o, none⟩) cs) (hk : k ≤ cs.length) : Own (w.setCells g (o + k) vs) lo hi (some ⟨g, o, none⟩) (cs.take k) := fun hn => by
  obtain ⟨g', o', e, h1, h2, hc⟩ := h (by simp at hn; omega)
  injection e with e
  injection e with e2 e3 _
  subst e2
  subst e3
  refine ⟨g, o, rfl, h1, h2, fun j u hu => ?_⟩
  have hj : j < k := by
    have := (List.getElem?_eq_some_iff.1 hu).1
    simp at this
    omega
  rw [List.getElem?_take_of_lt hj] at hu
  rw [World.cell?_setCells_out g vs (o + k) w ⟨g, o + j, none⟩ (fun _ _ => Or.inl (by simp; omega)), World.frozen?_setCells]
  exact hc j u hu
theorem own_cells {w : World} {lo hi g o : Nat} {cs : List Value} (h : Own w lo hi (some ⟨g, o, none⟩) cs) : ∀ j u, cs[j]? = some u → w.cell? ⟨g, o + j, none⟩ = some u ∧ w.frozen? ⟨g, o + j, none⟩ = false := fun j u hu => by
  obtain ⟨g', o', e, _, _, hc⟩ := h (by have := (List.getElem?_eq_some_iff.1 hu).1; omega)
  injection e with e
  injection e with e2 e3 _
  subst e2
  subst e3
  exact hc j u hu
theorem clear_own {P : Program} {w : World} {lo hi g o i N c : Nat} {cs : List Value} (h : Own w lo hi (some ⟨g, o, none⟩) cs) (hl : cs.length = 2 * N) (hi' : i < N) {t e : TypeId} (ht : P.underlying t = some (.slice e)) (hv : ∀ w, (zeroValue e).run P w = .ok (.agg #[.int .i64 0, .int .i64 0]) w) (ty : TypeId) :
    (Builtin.clear_ #[t] ty #[.slice (some ⟨g, o + i * 2, none⟩) (N - i) (c - i)]).run P w = .ok (.tuple #[]) (w.setCells g (o + i * 2) (List.replicate (2 * (N - i)) (.int .i64 0))) := by
  have hcell := own_cells h
  refine run_clear_two w _ _ ty ht hv g (o + i * 2) _ _ (by omega) (fun t ht => ?_) (fun t ht => ?_)
  · have h2 := (hcell (2 * i + t) _ (List.getElem?_eq_getElem (by omega))).1
    rw [show o + i * 2 + t = o + (2 * i + t) by omega, h2]
    rfl
  · have h2 := (hcell (2 * i + t) _ (List.getElem?_eq_getElem (by omega))).2
    rw [show o + i * 2 + t = o + (2 * i + t) by omega, h2]
theorem Tryz.zeroPair : ∀ w, (zeroValue 69).run Tryz.prog w = .ok (.agg #[.int .i64 0, .int .i64 0]) w := fun w => by kernel_rfl
end Go.Proofs.YtcfpdlkkniilpaaGreatDoor
