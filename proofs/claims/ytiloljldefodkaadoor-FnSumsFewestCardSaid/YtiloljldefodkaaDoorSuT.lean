/- Two shapes: the iterator slices.Backward, and the program's pairs. -/
import Derived.RangeFuncBox
import Derived.RangeFuncCalls
import Derived.RangeFuncLeaves
import Derived.RangeFuncWrites
import Derived.Shelf.Abstract
import Derived.OwnWalkIn
import Derived.TacticsInMore
import Derived.LoopNIn
import Derived.LoopIn
import Derived.Maps.AppendAt
import Derived.Test.YtiloljldefodkaaDoorMb
namespace Go.Proofs.YtiloljldefodkaaDoor
open Go.RowKit Go.Shelf
attribute [local go_sem] Oper.semAt_some

/-- What has come when k rounds are over: f 0, .., f (k - 1). -/
def upto {α : Type} (f : Nat → α) (k : Nat) : List α := (List.range k).map f
theorem upto_succ {α : Type} (f : Nat → α) (k : Nat) : upto f (k + 1) = upto f k ++ [f k] := by simp [upto, List.range_succ]
theorem upto_length {α : Type} (f : Nat → α) (k : Nat) : (upto f k).length = k := by simp [upto]

/-- Two blocks lie as they lay. -/
def Two (a b : Nat) (W W' : World) : Prop := W'.heap[a]? = W.heap[a]? ∧ W'.heap[b]? = W.heap[b]?
theorem Two.refl (a b : Nat) (W : World) : Two a b W W := ⟨rfl, rfl⟩
theorem two_t {a b : Nat} {A B C : World} (h1 : Two a b A B) (h2 : Two a b B C) : Two a b A C := ⟨h2.1.trans h1.1, h2.2.trans h1.2⟩
theorem Two.cell1 {a b o : Nat} {A B : World} (h : Two a b A B) : B.cell? ⟨a, o, none⟩ = A.cell? ⟨a, o, none⟩ := World.cell?_of_block (a := ⟨a, o, none⟩) h.1
theorem Two.cell2 {a b o : Nat} {A B : World} (h : Two a b A B) : B.cell? ⟨b, o, none⟩ = A.cell? ⟨b, o, none⟩ := World.cell?_of_block (a := ⟨b, o, none⟩) h.2

/-- A place and its number, within bounds. -/
abbrev PX (N : Nat) := { x : Nat × Int // x.1 ≤ 100 ∧ 0 ≤ x.2 ∧ x.2 ≤ N }
/-- The pair of a place: with that place of b sides that makes up n, if there is one. -/
noncomputable def cand (b : Int) (N : Nat) (x : PX N) : List (Int × Int) := if num b (pl b (N - x.1.2)) = N - x.1.2 then [((x.1.1 : Int), pl b (N - x.1.2))] else []
noncomputable def pairs (b : Int) (N : Nat) (xs : List (PX N)) : List (Int × Int) := xs.flatMap (cand b N)
theorem pairs_hit (b : Int) (N : Nat) (xs : List (PX N)) (x : PX N) (h : num b (pl b (N - x.1.2)) = N - x.1.2) : pairs b N (xs ++ [x]) = pairs b N xs ++ [((x.1.1 : Int), pl b (N - x.1.2))] := by simp [pairs, cand, h]
theorem pairs_miss (b : Int) (N : Nat) (xs : List (PX N)) (x : PX N) (h : ¬ num b (pl b (N - x.1.2)) = N - x.1.2) : pairs b N (xs ++ [x]) = pairs b N xs := by
  unfold pairs
  rw [List.flatMap_append]
  simp only [List.flatMap_cons, List.flatMap_nil, List.append_nil, cand]
  rw [if_neg h, List.append_nil]
theorem pairs_len (b : Int) (N : Nat) (xs : List (PX N)) : (pairs b N xs).length ≤ xs.length := by
  induction xs with
  | nil => simp [pairs]
  | cons x xs ih =>
    have e : pairs b N (x :: xs) = cand b N x ++ pairs b N xs := by simp [pairs]
    rw [e, List.length_append, List.length_cons]
    have : (cand b N x).length ≤ 1 := by unfold cand; split <;> simp
    omega
/-- The places of a sides with their numbers. -/
noncomputable def item (a : Int) (N : Nat) (j : Nat) : PX N := if h : j ≤ 100 ∧ 0 ≤ num a j ∧ num a j ≤ N then ⟨(j, num a j), h⟩ else ⟨(0, 0), by omega⟩
theorem item_at (a : Int) (N j : Nat) (h : j ≤ 100 ∧ 0 ≤ num a j ∧ num a j ≤ N) : (item a N j).1 = (j, num a j) := by
  unfold item
  rw [dif_pos h]
/-- What came: all places down from k. -/
noncomputable def came (a : Int) (N k : Nat) : List (PX N) := upto (fun i => item a N (k + 1 - 1 - i)) (k + 1)
theorem below_keeps {B : Nat} {W W' : World} (h : Below W.heap.size W W') : KeepsFrom B W W' := ⟨h.size, fun k o _ hk _ => (h.block k (Array.getElem?_eq_some_iff.1 hk).1).trans hk⟩
theorem cell_two_new (w : World) (x y : Value) (e : TypeId) : ∀ (k : Nat) (u : Value), [x, y][k]? = some u → (w.alloc (.cells #[x, y] e)).cell? ((⟨w.heap.size, 0, none⟩ : Addr).add k) = some u := by
  intro k u h
  rw [addr_none]
  have := World.alloc_heap_new w (.cells #[x, y] e)
  match k, h with
  | 0, h => simp at h; subst h; unfold World.cell?; rw [this]; rfl
  | 1, h => simp at h; subst h; unfold World.cell?; rw [this]; rfl
theorem not_row' {W : World} {k : Nat} {t e : TypeId} {cur : Array Value} (h : W.heap[k]? = some (.cells cur t (0, 0))) (hte : t ≠ e) {base size n : Nat} {v : Value} {xs : List Value} (hr : W.ownsRow base e size v n xs) : some k ≠ v.ownBlock := by
  rcases hr.2 with ⟨rfl, _⟩ | ⟨g, cap, cur', rfl, _, hgb, _⟩
  · simp [Value.ownBlock]
  · intro e'
    obtain rfl : k = g := by simpa [Value.ownBlock] using e'
    rw [h] at hgb
    injection hgb with hgb
    injection hgb with _ h3 _
    exact hte h3
theorem blk_after {w5 w6 : World} {k P : Nat} {t e : TypeId} {cur : Array Value} {tmp : Obj} {base size n : Nat} {v v' : Value} {xs : List Value} (h : w5.heap[k]? = some (.cells cur t (0, 0))) (hte : t ≠ e) (hr : w5.ownsRow base e size v n xs)
    (hg : (w5.alloc tmp).grownBy w6 v.ownBlock) (hP : k ≠ P) : (w6.setCell ⟨P, 0, none⟩ v').heap[k]? = some (.cells cur t (0, 0)) := by
  have hk := (Array.getElem?_eq_some_iff.1 h).1
  rw [Below.heap_setCell _ _ _ k (fun e => hP e), hg.block k (by simp; omega) (not_row' h hte hr)]
  exact (((Below.refl w5.heap.size w5).alloc (Nat.le_refl _) tmp).block k hk).trans h
theorem block_own {β : Type} (k : Nat) (o : Obj) (hc : o.isCells = true) : _root_.Go.Own (fun (_ : β) W => W.heap[k]? = some o) := by
  rintro s X Y row h hg hrow
  refine (hg.block _ (Array.getElem?_eq_some_iff.1 h).1 (fun e => ?_)).trans h
  obtain ⟨o', ho, hc'⟩ := hrow _ e.symm
  rw [h] at ho
  cases ho
  rw [hc] at hc'
  cases hc'
/-- Pairs as cells. -/
def prc (ps : List (Int × Int)) : List Value := ps.flatMap fun p => [.int .i64 p.1, .int .i64 p.2]
theorem prc_len (ps : List (Int × Int)) : (prc ps).length = ps.length * 2 := by
  induction ps with
  | nil => rfl
  | cons p ps ih => simp [prc, List.flatMap_cons] at ih ⊢; omega
theorem prc_app (ps : List (Int × Int)) (x y : Int) : prc (ps ++ [(x, y)]) = prc ps ++ [.int .i64 x, .int .i64 y] := by simp [prc]
end Go.Proofs.YtiloljldefodkaaDoor
