/- Slices of structs of two numbers: what the laws' helpers do with them. -/
import Derived.Test.YtjfkeflmbgfhmaaGreatDoorOwn
import Derived.Deep.RegionHeld3
namespace Go.Proofs.YtjfkeflmbgfhmaaGreatDoor
open Go.RowKit

/-- Pairs of numbers as cells. -/
def prs (xs : List (Int × Int)) : List Value := xs.flatMap fun x => [.int .i64 x.1, .int .i64 x.2]
theorem prs_len (xs : List (Int × Int)) : (prs xs).length = 2 * xs.length := by
  induction xs with
  | nil => rfl
  | cons x xs ih => simp [prs] at ih ⊢; omega
theorem prs_get (xs : List (Int × Int)) (k : Nat) (h : k < xs.length) : (prs xs)[2 * k]? = some (.int .i64 xs[k].1) ∧ (prs xs)[2 * k + 1]? = some (.int .i64 xs[k].2) := by
  induction xs generalizing k with
  | nil => simp at h
  | cons x xs ih =>
    cases k with
    | zero => simp [prs]
    | succ k =>
      have := ih k (by simpa using h)
      have e1 : 2 * (k + 1) = 2 * k + 1 + 1 := by omega
      have e2 : 2 * (k + 1) + 1 = 2 * k + 1 + 1 + 1 := by omega
      rw [e2, e1]
      simpa [prs] using this
theorem prs_app (xs : List (Int × Int)) (a b : Int) : prs xs ++ [.int .i64 a, .int .i64 b] = prs (xs ++ [(a, b)]) := by simp [prs]
theorem Own.pair_ {w : World} {lo hi : Nat} {A : Option Addr} {xs : List (Int × Int)} (h : Own w lo hi A (prs xs)) {k : Nat} (hk : k < xs.length) :
    ∃ g o, A = some ⟨g, o, none⟩ ∧ lo ≤ g ∧ g < hi ∧ w.cell? ⟨g, o + k * 2, none⟩ = some (.int .i64 xs[k].1) ∧ w.cell? ⟨g, o + k * 2 + 1, none⟩ = some (.int .i64 xs[k].2) := by
  obtain ⟨g, o, e, h1, h2, hc⟩ := h (by rw [prs_len]; omega)
  obtain ⟨p1, p2⟩ := prs_get xs k hk
  refine ⟨g, o, e, h1, h2, ?_, ?_⟩
  · rw [Nat.mul_comm k 2]; exact (hc _ _ p1).1
  · rw [Nat.mul_comm k 2, Nat.add_assoc]; exact (hc _ _ p2).1
theorem mark2_step {w : World} {lo hi n k : Nat} {A : Option Addr} {cs : List Value} {m : Int} (h : Own w lo hi A (i64s (marks m (2 * k)) ++ cs.drop (2 * k))) (hn : cs.length = 2 * n) (hk : k < n) :
    ∃ g o z z', A = some ⟨g, o, none⟩ ∧ lo ≤ g ∧ w.cell? ⟨g, o + k * 2, none⟩ = some z ∧ w.frozen? ⟨g, o + k * 2, none⟩ = false ∧ w.cell? ⟨g, o + k * 2 + 1, none⟩ = some z' ∧ w.frozen? ⟨g, o + k * 2 + 1, none⟩ = false ∧
      Own ((w.setCell ⟨g, o + k * 2, none⟩ (.int .i64 (m + 2 * k))).setCell ⟨g, o + k * 2 + 1, none⟩ (.int .i64 (m + 2 * k + 1))) lo hi (some ⟨g, o, none⟩) (i64s (marks m (2 * (k + 1))) ++ cs.drop (2 * (k + 1))) := by
  have hl0 : 2 * k < cs.length := by omega
  have hl1 : 2 * k + 1 < cs.length := by omega
  have hlen : 2 * k < (i64s (marks m (2 * k)) ++ cs.drop (2 * k)).length := by simp [marks_len]; omega
  have hlen1 : 2 * k + 1 < (i64s (marks m (2 * k)) ++ cs.drop (2 * k)).length := by simp [marks_len]; omega
  obtain ⟨g, o, rfl, hg1, hg2, hc⟩ := h (by omega)
  obtain ⟨c0, f0⟩ := hc _ _ (List.getElem?_eq_getElem hlen)
  obtain ⟨c1, f1⟩ := hc _ _ (List.getElem?_eq_getElem hlen1)
  have o1 := h.set_ (2 * k) hlen (.int .i64 (m + (2 * k : Nat)))
  rw [marks_set m cs (2 * k) hl0] at o1
  have o2 := o1.set_ (2 * k + 1) (by simp [marks_len]; omega) (.int .i64 (m + (2 * k + 1 : Nat)))
  rw [marks_set m cs (2 * k + 1) hl1] at o2
  have a0 : o + 2 * k = o + k * 2 := by omega
  have a1 : o + (2 * k + 1) = o + k * 2 + 1 := by omega
  have a2 : m + ((2 * k : Nat) : Int) = m + 2 * k := by omega
  have a3 : m + ((2 * k + 1 : Nat) : Int) = m + 2 * k + 1 := by omega
  have a4 : 2 * k + 1 + 1 = 2 * (k + 1) := by omega
  rw [a0, a1, a2, a3, a4] at o2
  refine ⟨g, o, _, _, rfl, hg1, by rw [← a0]; exact c0, by rw [← a0]; exact f0, by rw [← a1]; exact c1, by rw [← a1]; exact f1, o2⟩
/-- What a function with a slice of pairs and a bool hands back. -/
def ResP (ok : Bool) (xs : List (Int × Int)) (w : World) (e : Ending) (w' : World) : Prop :=
  ∃ A c, e = .returned (.tuple #[.slice A xs.length c, .bool ok]) ∧ Own w' w.heap.size w'.heap.size A (prs xs) ∧ Below w.heap.size w w'
theorem resP_nil {ok : Bool} {w w' : World} (hb : Below w.heap.size w w') : ResP ok [] w (.returned (.tuple #[.slice none 0 0, .bool ok])) w' := ⟨none, 0, rfl, Own.none_, hb⟩










end Go.Proofs.YtjfkeflmbgfhmaaGreatDoor
