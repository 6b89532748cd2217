/- A slice whose cells are known; what the laws' helpers do with slices of numbers: compare, mark, look again. -/
import Derived.Test.YtjfkeflmbgfhmaaGreatDoorChecked
import Derived.WalkKit
import Derived.WalkSpells
import Derived.Lib.Hide
import Derived.Deep.QuietTactic
import Derived.BigQuiet
namespace Go.Proofs.YtjfkeflmbgfhmaaGreatDoor
open Go.RowKit

/-- A slice at the address A has the cells cs, in a block from lo up to below hi, none of them frozen. -/
def Own (w : World) (lo hi : Nat) (A : Option Addr) (cs : List Value) : Prop :=
  0 < cs.length → ∃ g o, A = some ⟨g, o, none⟩ ∧ lo ≤ g ∧ g < hi ∧ ∀ j u, cs[j]? = some u → w.cell? ⟨g, o + j, none⟩ = some u ∧ w.frozen? ⟨g, o + j, none⟩ = false

section
variable {w w' : World} {lo hi : Nat} {A : Option Addr} {cs : List Value}
theorem Own.none_ : Own w lo hi none [] := fun h => absurd h (by simp)
theorem Own.nil_ : Own w lo hi A [] := fun h => absurd h (by simp)
theorem Own.below {B : Nat} (h : Own w lo hi A cs) (hb : Below B w w') (hB : hi ≤ B) : Own w' lo hi A cs := fun hn => by
  obtain ⟨g, o, e, h1, h2, hc⟩ := h hn
  refine ⟨g, o, e, h1, h2, fun j u hu => ?_⟩
  rw [hb.cell (p := ⟨g, o + j, none⟩) (Nat.lt_of_lt_of_le h2 hB), hb.frozen (p := ⟨g, o + j, none⟩) (Nat.lt_of_lt_of_le h2 hB)]
  exact hc j u hu
theorem Own.drewN (h : Own w lo hi A cs) (k : Nat) : Own (w.drewN k) lo hi A cs := h
theorem Own.wide (h : Own w lo hi A cs) {lo' hi' : Nat} (h1 : lo' ≤ lo) (h2 : hi ≤ hi') : Own w lo' hi' A cs := fun hn => by
  obtain ⟨g, o, e, h3, h4, hc⟩ := h hn
  exact ⟨g, o, e, by omega, by omega, hc⟩
theorem Own.at_ (h : Own w lo hi A cs) {k : Nat} (hk : k < cs.length) : ∃ g o, A = some ⟨g, o, none⟩ ∧ lo ≤ g ∧ g < hi ∧ w.cell? ⟨g, o + k, none⟩ = some cs[k] ∧ w.frozen? ⟨g, o + k, none⟩ = false := by
  obtain ⟨g, o, e, h1, h2, hc⟩ := h (by omega)
  obtain ⟨h3, h4⟩ := hc k _ (List.getElem?_eq_getElem hk)
  exact ⟨g, o, e, h1, h2, h3, h4⟩
/-- out of the library's word for a row of the call's own -/
theorem own_of_row {base : Nat} {e : TypeId} {size n c : Nat} (h : w.ownsRow base e size (.slice A n c) n cs) : Own w base w.heap.size A cs := fun hn => by
  obtain ⟨hl, h2⟩ := h
  rcases h2 with ⟨hv, h0⟩ | ⟨g, cap, cur, hv, hg, hh, hnc, hcm, hcs, ht⟩
  · subst h0
    simp at hl
    subst hl
    simp at hn
  · injection hv with hA _ _
    subst hA
    have hown : w.ownsRow base e size (.slice (some ⟨g, 0, none⟩) n cap) n cs := ⟨hl, .inr ⟨g, cap, cur, rfl, hg, hh, hnc, hcm, hcs, ht⟩⟩
    have hlt : g < w.heap.size := by
      rcases Nat.lt_or_ge g w.heap.size with h | h
      · exact h
      · rw [Array.getElem?_eq_none h] at hh; cases hh
    refine ⟨g, 0, rfl, hg, hlt, fun j u hu => ?_⟩
    have hj : j < n * size := by
      rw [← hl]
      exact (List.getElem?_eq_some_iff.1 hu).1
    rw [Nat.zero_add]
    exact ⟨(hown.cellAt j hj).trans hu, hown.frozenAt j⟩
theorem row_form {base : Nat} {e : TypeId} {size n : Nat} {v : Value} (h : w.ownsRow base e size v n cs) : ∃ A c, v = .slice A n c := by
  rcases h.2 with ⟨rfl, rfl⟩ | ⟨g, cap, cur, rfl, _⟩
  · exact ⟨_, _, rfl⟩
  · exact ⟨_, _, rfl⟩
end

theorem row_below {w w' : World} {base B : Nat} {e : TypeId} {size n : Nat} {v : Value} {cs : List Value} (h : w.ownsRow base e size v n cs) (hb : Below B w w') (hB : w.heap.size ≤ B) : w'.ownsRow base e size v n cs :=
  h.kept (row := none) ⟨hb.os, hb.tape, hb.output, hb.size, fun i hi _ => hb.block i (by omega)⟩ (by cases hv : v.ownBlock <;> simp)

/-- Numbers as cells. -/
abbrev i64s (xs : List Int) : List Value := xs.map (Value.int .i64)

/-- What a function with a slice of numbers and a bool hands back: the numbers xs, in memory of its own. -/
def ResI (ok : Bool) (xs : List Int) (w : World) (e : Ending) (w' : World) : Prop :=
  ∃ A c, e = .returned (.tuple #[.slice A xs.length c, .bool ok]) ∧ Own w' w.heap.size w'.heap.size A (i64s xs) ∧ Below w.heap.size w w'
theorem resI_nil {ok : Bool} {w w' : World} (hb : Below w.heap.size w w') : ResI ok [] w (.returned (.tuple #[.slice none 0 0, .bool ok])) w' := ⟨none, 0, rfl, Own.none_, hb⟩
theorem below_drewN {B : Nat} {a w : World} (h : Below B a w) (n : Nat) : Below B a (w.drewN n) := ⟨h.os, h.tape, h.output, h.size, h.block⟩


/-- The numbers m, m + 1, .., n of them. -/
def marks (m : Int) (n : Nat) : List Int := (List.range n).map fun (j : Nat) => m + (j : Int)
theorem marks_len (m : Int) (n : Nat) : (marks m n).length = n := by simp [marks]
theorem marks_get (m : Int) (n k : Nat) (h : k < n) : (marks m n)[k]? = some (m + k) := by simp [marks, h]
theorem marks_set (m : Int) (cs : List Value) (k : Nat) (h : k < cs.length) : (i64s (marks m k) ++ cs.drop k).set k (.int .i64 (m + k)) = i64s (marks m (k + 1)) ++ cs.drop (k + 1) := by
  rw [List.set_append_right _ _ (by simp [marks_len])]
  simp only [List.length_map, marks_len, Nat.sub_self]
  rw [List.drop_eq_getElem_cons h, List.set_cons_zero]
  simp [marks, List.range_succ]
theorem Own.set_ {w : World} {lo hi g o : Nat} {cs : List Value} (h : Own w lo hi (some ⟨g, o, none⟩) cs) (k : Nat) (hk : k < cs.length) (u : Value) : Own (w.setCell ⟨g, o + k, none⟩ u) lo hi (some ⟨g, o, none⟩) (cs.set k u) := fun hn => by
  obtain ⟨g', o', e, h1, h2, hc⟩ := h (by omega)
  injection e with e
  injection e with e1 e2 _
  subst e1
  subst e2
  refine ⟨g, o, rfl, h1, h2, fun j v hv => ?_⟩
  rw [World.frozen?_setCell]
  by_cases hj : j = k
  · subst hj
    rw [List.getElem?_set_self hk] at hv
    injection hv with hv
    subst hv
    obtain ⟨h3, h4⟩ := hc j _ (List.getElem?_eq_getElem hk)
    exact ⟨World.cell?_setCell_same w _ _ h3, h4⟩
  · rw [List.getElem?_set_ne (fun e => hj e.symm)] at hv
    obtain ⟨h3, h4⟩ := hc j v hv
    refine ⟨(World.cell?_setCell_other w _ _ _ (fun e => ?_)).trans h3, h4⟩
    injection e with _ e _
    omega


end Go.Proofs.YtjfkeflmbgfhmaaGreatDoor
