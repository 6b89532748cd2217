/- A slice of slices of numbers, the rows in different blocks; what the laws' helpers do with it: compare, mark, look again. -/
import Derived.Test.YtbabkcjnfdpafaaGreatDoorMb
import Derived.Deep.AppendLies
namespace Go.Proofs.YtbabkcjnfdpafaaGreatDoor
open Go.RowKit

theorem Own.far {w w' : World} {lo hi : Nat} {A : Option Addr} {cs : List Value} {row : Option Nat} (h : Own w lo hi A cs) (hg : w.grownBy w' row) (hh : hi ≤ w.heap.size) (hr : ∀ p, A = some p → 0 < cs.length → some p.block ≠ row) : Own w' lo hi A cs := fun hn => by
  obtain ⟨g, o, e, h1, h2, hc⟩ := h hn
  have hne : some g ≠ row := hr _ e hn
  refine ⟨g, o, e, h1, h2, fun j u hu => ?_⟩
  rw [hg.cell_far ⟨g, o + j, none⟩ (Nat.lt_of_lt_of_le h2 hh) hne, hg.frozen_far ⟨g, o + j, none⟩ (Nat.lt_of_lt_of_le h2 hh) hne]
  exact hc j u hu
theorem grown_set {w wr : World} {g o : Nat} {u : Value} (h : w.grownBy wr (some g)) : w.grownBy (wr.setCell ⟨g, o, none⟩ u) (some g) := by
  have hb : Below g wr (wr.setCell ⟨g, o, none⟩ u) := (Below.refl g wr).setCell (Nat.le_refl _) u
  refine ⟨hb.os.trans h.os, hb.tape.trans h.tape, hb.output.trans h.output, Nat.le_trans h.size hb.size, fun i hi hne => ?_⟩
  rw [← h.block i hi hne]
  exact Below.heap_setCell _ _ _ i (fun e => hne (by rw [e]))

/-- Rows: n of them, F i the numbers of row i, at the address Af i. -/
structure OwnL (w : World) (lo hi : Nat) (A : Option Addr) (n : Nat) (F : Nat → List Int) (Af : Nat → Option Addr) (cf : Nat → Nat) : Prop where
  own : Own w lo hi A ((List.range n).map fun i => .slice (Af i) (F i).length (cf i))
  row : ∀ i, i < n → Own w lo hi (Af i) (i64s (F i))
  off : ∀ i, i < n → 0 < (F i).length → ∀ p q, A = some p → Af i = some q → p.block ≠ q.block
  apart : ∀ i j, i < n → j < n → i ≠ j → 0 < (F i).length → 0 < (F j).length → ∀ p q, Af i = some p → Af j = some q → p.block ≠ q.block
section
variable {w w' : World} {lo hi n : Nat} {A : Option Addr} {F : Nat → List Int} {Af : Nat → Option Addr} {cf : Nat → Nat}
theorem OwnL.below {B : Nat} (h : OwnL w lo hi A n F Af cf) (hb : Below B w w') (hB : hi ≤ B) : OwnL w' lo hi A n F Af cf :=
  ⟨h.own.below hb hB, fun i hi => (h.row i hi).below hb hB, h.off, h.apart⟩
theorem OwnL.drewN (h : OwnL w lo hi A n F Af cf) (k : Nat) : OwnL (w.drewN k) lo hi A n F Af cf := ⟨h.own.drewN k, fun i hi => (h.row i hi).drewN k, h.off, h.apart⟩
theorem OwnL.wide (h : OwnL w lo hi A n F Af cf) {lo' hi' : Nat} (h1 : lo' ≤ lo) (h2 : hi ≤ hi') : OwnL w lo' hi' A n F Af cf := ⟨h.own.wide h1 h2, fun i hi => (h.row i hi).wide h1 h2, h.off, h.apart⟩
theorem OwnL.at_ (h : OwnL w lo hi A n F Af cf) {k : Nat} (hk : k < n) : ∃ g o, A = some ⟨g, o, none⟩ ∧ w.cell? ⟨g, o + k, none⟩ = some (.slice (Af k) (F k).length (cf k)) ∧ Own w lo hi (Af k) (i64s (F k)) := by
  obtain ⟨g, o, e, _, _, hc, _⟩ := h.own.at_ (k := k) (by simpa using hk)
  exact ⟨g, o, e, by simpa using hc, h.row k hk⟩
/-- one row turned, nothing else -/
theorem OwnL.turn (h : OwnL w lo hi A n F Af cf) {k : Nat} (hk : k < n) (xs : List Int) (hx : xs.length = (F k).length) (hg : w.grownBy w' ((Af k).map (·.block))) (hh : hi ≤ w.heap.size) (ho : Own w' lo hi (Af k) (i64s xs)) :
    (0 < xs.length ∨ w = w') → OwnL w' lo hi A n (fun i => if i = k then xs else F i) Af cf := fun hz => by
  have hl : ∀ i, (if i = k then xs else F i).length = (F i).length := fun i => by split <;> simp_all
  refine ⟨?_, fun i hi2 => ?_, fun i hi2 h0 => h.off i hi2 (by rwa [hl] at h0), fun i j hi2 hj hij h0 h1 => h.apart i j hi2 hj hij (by rwa [hl] at h0) (by rwa [hl] at h1)⟩
  · simp only [hl]
    rcases hz with hz | rfl
    · refine h.own.far hg hh fun p hp _ => ?_
      cases hA : Af k with
      | none => simp
      | some q => simpa using h.off k hk (by omega) p q hp hA
    · exact h.own
  · by_cases e : i = k
    · subst e; simpa using ho
    · simp only [if_neg e]
      rcases hz with hz | rfl
      · refine (h.row i hi2).far hg hh fun p hp h0 => ?_
        cases hA : Af k with
        | none => simp
        | some q => simpa using h.apart i k hi2 hk e (by simpa using h0) (by omega) p q hp hA
      · exact h.row i hi2
theorem OwnL.congr {F' : Nat → List Int} (h : OwnL w lo hi A n F Af cf) (he : ∀ i, i < n → F i = F' i) : OwnL w lo hi A n F' Af cf := by
  refine ⟨?_, fun i hi2 => by rw [← he i hi2]; exact h.row i hi2, fun i hi2 h0 => h.off i hi2 (by rwa [he i hi2]), fun i j hi2 hj hij h0 h1 => h.apart i j hi2 hj hij (by rwa [he i hi2]) (by rwa [he j hj])⟩
  have e : ((List.range n).map fun i => Value.slice (Af i) (F i).length (cf i)) = (List.range n).map fun i => Value.slice (Af i) (F' i).length (cf i) := List.map_congr_left fun i hi2 => by rw [he i (List.mem_range.1 hi2)]
  rw [← e]
  exact h.own
end

/-- How many numbers stand in the rows before row k. -/
def pre (F : Nat → List Int) : Nat → Nat
  | 0 => 0
  | k + 1 => pre F k + (F k).length
theorem pre_mono (F : Nat → List Int) {k n : Nat} (h : k ≤ n) : pre F k ≤ pre F n := by
  induction n with
  | zero => have : k = 0 := by omega
            subst this; exact Nat.le_refl _
  | succ n ih =>
    by_cases e : k = n + 1
    · subst e; exact Nat.le_refl _
    · have := ih (by omega)
      rw [pre]; omega
theorem len_pre (F : Nat → List Int) {k n : Nat} (h : k < n) : (F k).length ≤ pre F n := by
  have := pre_mono F (show k + 1 ≤ n by omega)
  rw [pre] at this
  omega
/-- Rows before k marked, the others as they were. -/
def mixL (F : Nat → List Int) (m : Int) (k : Nat) (i : Nat) : List Int := if i < k then marks (m + pre F i) (F i).length else F i



theorem mix_step {w : World} {lo hi n : Nat} {A : Option Addr} {F : Nat → List Int} {Af : Nat → Option Addr} {cf : Nat → Nat} {m : Int} {k : Nat}
    (h : OwnL w lo hi A n (fun i => if i = k then marks (m + pre F k) (F k).length else mixL F m k i) Af cf) : OwnL w lo hi A n (mixL F m (k + 1)) Af cf :=
  h.congr fun i _ => by
    simp only [mixL]
    by_cases e : i = k
    · subst e; simp
    · by_cases e2 : i < k
      · simp [e, e2, show i < k + 1 by omega]
      · simp [e, e2, show ¬ i < k + 1 by omega]
theorem mix_k (F : Nat → List Int) (m : Int) (k : Nat) : mixL F m k k = F k := by simp [mixL]



/-- Row i of a list of lists. -/
def rowsOf (xss : List (List Int)) (i : Nat) : List Int := xss.getD i []
/-- What a function with a slice of slices of numbers and a bool hands back: the lists xss, in memory of its own. -/
def ResSS (ok : Bool) (xss : List (List Int)) (w : World) (e : Ending) (w' : World) : Prop :=
  ∃ A c Af cf, e = .returned (.tuple #[.slice A xss.length c, .bool ok]) ∧ OwnL w' w.heap.size w'.heap.size A xss.length (rowsOf xss) Af cf ∧ Below w.heap.size w w'
theorem resSS_nil {ok : Bool} {w w' : World} (hb : Below w.heap.size w w') : ResSS ok [] w (.returned (.tuple #[.slice none 0 0, .bool ok])) w' :=
  ⟨none, 0, fun _ => none, fun _ => 0, rfl, ⟨Own.none_, fun i hi => absurd hi (by simp), fun i hi => absurd hi (by simp), fun i j hi => absurd hi (by simp)⟩, hb⟩
/-- The lists' lengths together are at most their number by the longest one's. -/
theorem pre_le (F : Nat → List Int) (n L : Nat) (h : ∀ i, i < n → (F i).length ≤ L) : pre F n ≤ n * L := by
  induction n with
  | zero => simp [pre]
  | succ n ih =>
    have h1 := ih (fun i hi => h i (by omega))
    have h2 := h n (by omega)
    rw [pre, Nat.succ_mul]
    omega
end Go.Proofs.YtbabkcjnfdpafaaGreatDoor
