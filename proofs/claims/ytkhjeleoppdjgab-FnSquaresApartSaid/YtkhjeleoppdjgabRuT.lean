/- Chapter 5: runs sorted by their lengths. -/
import Derived.Test.YtkhjeleoppdjgabRuS
namespace Go.Proofs.Ytkhjeleoppdjgab
open Go.ChangeShapes Go.WideShapes Go.ChangeAt Go.RowKit Go.Shelf Go.Sort

def encR (x : Int × Int) : List Value := [.int .i64 x.1, .int .i64 x.2]
theorem holdsK_of_own {w : World} {lo hi blk off : Nat} {xs : List (Int × Int)} (h : Own w lo hi (some ⟨blk, off, none⟩) (prs xs)) : HoldsK encR 2 w blk off xs.toArray := by
  intro j hj
  rw [size_flatK] at hj
  have hj2 : j < xs.length * 2 := by simpa using hj
  have hq : j / 2 < xs.length := by omega
  obtain ⟨p1, p2⟩ := prs_get xs (j / 2) hq
  have hc := own_cells h
  rw [get_flatK _ _ _ _ hj]
  have e : xs.toArray[j / 2]! = xs[j / 2] := by rw [getElem!_pos _ _ (by simpa using hq)]; simp
  rw [e]
  have h3 : j % 2 = 0 ∨ j % 2 = 1 := by omega
  rcases h3 with h3 | h3
  · rw [h3]
    have e2 : 2 * (j / 2) = j := by omega
    rw [e2] at p1
    exact hc _ _ p1
  · rw [h3]
    have e2 : 2 * (j / 2) + 1 = j := by omega
    rw [e2] at p2
    exact hc _ _ p2
theorem own_of_holdsK {w : World} {lo hi blk off : Nat} {d : Array (Int × Int)} (h : HoldsK encR 2 w blk off d) (h1 : lo ≤ blk) (h2 : blk < hi) : Own w lo hi (some ⟨blk, off, none⟩) (prs d.toList) := fun _ => by
  refine ⟨blk, off, rfl, h1, h2, fun j u hu => ?_⟩
  have hj : j < 2 * d.toList.length := by
    rw [← prs_len]
    exact (List.getElem?_eq_some_iff.1 hu).1
  have hj2 : j < d.size * 2 := by simp at hj; omega
  have hq : j / 2 < d.toList.length := by omega
  obtain ⟨p1, p2⟩ := prs_get d.toList (j / 2) hq
  have hg := h j (by rw [size_flatK]; exact hj2)
  rw [get_flatK _ _ _ _ hj2] at hg
  have e : d[j / 2]! = d.toList[j / 2] := by rw [getElem!_pos d _ (by simpa using hq)]; simp
  rw [e] at hg
  have h3 : j % 2 = 0 ∨ j % 2 = 1 := by omega
  rcases h3 with h3 | h3
  · have e2 : 2 * (j / 2) = j := by omega
    rw [e2, hu] at p1
    injection p1 with p1
    rw [h3] at hg
    rw [p1]
    exact hg
  · have e2 : 2 * (j / 2) + 1 = j := by omega
    rw [e2, hu] at p2
    injection p2 with p2
    rw [h3] at hg
    rw [p2]
    exact hg
theorem below_sorted {α : Type} [Inhabited α] {enc : α → Value} {B : Nat} {w : World} {blk off m : Nat} {d : Array α} {os : Array Obj} (hB : B ≤ blk) (hz : B ≤ w.heap.size) : Below B w (sortWorld enc w blk off m d os) := by
  unfold sortWorld
  have h : Below B w (putRow enc (Sort.ahead w m) blk off d) := ⟨rfl, rfl, rfl, by simp [putRow, mapBlock, Sort.ahead], fun k hk => by
    simp [putRow, mapBlock, Sort.ahead, Array.getElem?_modify, show blk ≠ k by omega]⟩
  refine ⟨h.os, h.tape, h.output, ?_, fun k hk => ?_⟩
  · rw [size_grow]
    exact Nat.le_trans h.size (Nat.le_add_right _ _)
  · rw [← h.block k hk, heap_grow_old _ _ (by have := h.size; omega)]
theorem below_sortedK {α : Type} [Inhabited α] {enc : α → List Value} {k B : Nat} {w : World} {blk off m : Nat} {d : Array α} {os : Array Obj} (hB : B ≤ blk) (hz : B ≤ w.heap.size) : Below B w (sortWorldK enc k w blk off m d os) :=
  below_sorted (enc := id) hB hz
end Go.Proofs.Ytkhjeleoppdjgab
