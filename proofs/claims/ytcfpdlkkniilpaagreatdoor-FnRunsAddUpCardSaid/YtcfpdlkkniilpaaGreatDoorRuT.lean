/- Chapter 5: runs sorted by their lengths. -/
import Derived.Test.YtcfpdlkkniilpaaGreatDoorRuS
namespace Go.Proofs.YtcfpdlkkniilpaaGreatDoor
open Go.ChangeShapes Go.WideShapes Go.ChangeAt Go.RowKit Go.Shelf Go.Sort

def encR (x : Int × Int) : List Value := [.int .i64 x.1, .int .i64 x.2]
theorem holdsK_of_own {w : World} {lo hi blk off : Nat} {xs : List (Int × Int)} (h : Own w lo hi (some ⟨blk, off, none⟩) (prs xs)) : HoldsK encR 2 w blk off xs.toArray := by
  intro j hj
  rw [size_flatK] at hj
  have hj2 : j < xs.length * 2 := by simpa using hj
  have hq : j / 2 < xs.length := by omega
  obtain ⟨p1, p2⟩ := prs_get xs (j / 2) hq
  have hc := own_cells h
  rw [get_flatK _ _ _ _ hj]
  have e : xs.toArray[j / 2]! = xs[j / 2] := by rw [getElem!_pos _ _ (by simpa using hq)]; simp
  rw [e]
  have h3 : j % 2 = 0 ∨ j % 2 = 1 := by omega
  rcases h3 with h3 | h3
  · rw [h3]
    have e2 : 2 * (j / 2) = j := by omega
    rw [e2] at p1
    exact hc _ _ p1
  · rw [h3]
    have e2 : 2 * (j / 2) + 1 = j := by omega
    rw [e2] at p2
    exact hc _ _ p2
theorem own_of_holdsK {w : World} {lo hi blk off : Nat} {d : Array (Int × Int)} (h : HoldsK encR 2 w blk off d) (h1 : lo ≤ blk) (h2 : blk < hi) : Own w lo hi (some ⟨blk, off, none⟩) (prs d.toList) := fun _ => by
  refine ⟨blk, off, rfl, h1, h2, fun j u hu => ?_⟩
  have hj : j < 2 * d.toList.length := by
    rw [← prs_len]
    exact (List.getElem?_eq_some_iff.1 hu).1
  have hj2 : j < d.size * 2 := by simp at hj; omega
  have hq : j / 2 < d.toList.length := by omega
  obtain ⟨p1, p2⟩ := prs_get d.toList (j / 2) hq
  have hg := h j (by rw [size_flatK]; exact hj2)
  rw [get_flatK _ _ _ _ hj2] at hg
  have e : d[j / 2]! = d.toList[j / 2] := by rw [getElem!_pos d _ (by simpa using hq)]; simp
  rw [e] at hg
  have h3 : j % 2 = 0 ∨ j % 2 = 1 := by omega
  rcases h3 with h3 | h3
  · have e2 : 2 * (j / 2) = j := by omega
    rw [e2, hu] at p1
    injection p1 with p1
    rw [h3] at hg
    rw [p1]
    exact hg
  · have e2 : 2 * (j / 2) + 1 = j := by omega
    rw [e2, hu] at p2
    injection p2 with p2
    rw [h3] at hg
    rw [p2]
    exact hg
theorem below_sorted {α : Type} [Inhabited α] {enc : α → Value} {B : Nat} {w : World} {blk off m : Nat} {d : Array α} {os : Array Obj} (hB : B ≤ blk) (hz : B ≤ w.heap.size) : Below B w (sortWorld enc w blk off m d os) := by
  unfold sortWorld
  have h : Below B w (putRow enc (Sort.ahead w m) blk off d) := ⟨rfl, rfl, rfl, by simp [putRow, mapBlock, Sort.ahead], fun k hk => by
    simp [putRow, mapBlock, Sort.ahead, Array.getElem?_modify, show blk ≠ k by omega]⟩
  refine ⟨h.os, h.tape, h.output, ?_, fun k hk => ?_⟩
  · rw [size_grow]
    exact Nat.le_trans h.size (Nat.le_add_right _ _)
  · rw [← h.block k hk, heap_grow_old _ _ (by have := h.size; omega)]
theorem below_sortedK {α : Type} [Inhabited α] {enc : α → List Value} {k B : Nat} {w : World} {blk off m : Nat} {d : Array α} {os : Array Obj} (hB : B ≤ blk) (hz : B ≤ w.heap.size) : Below B w (sortWorldK enc k w blk off m d os) :=
  below_sorted (enc := id) hB hz
set_option maxHeartbeats 800000 in
theorem sortRuns_any (blk off cap lo hi N : Nat) (xs ys : List (Int × Int)) (w : World) (hN : xs.length = N) (hn : N ≤ 1000000) (ho : Own w lo hi (some ⟨blk, off, none⟩) (prs xs)) (hh : hi ≤ w.heap.size) (h1 : lo ≤ blk) (h2 : blk < hi) (hp : xs.Perm ys) (hk : ys.Pairwise fun x y => x.2 < y.2) :
    Calls Tryz.prog 38 #[.slice (some ⟨blk, off, none⟩) N cap, .func (.func 39) #[] #[]] w fun e w' => e = .returned (.tuple #[]) ∧ Own w' lo hi (some ⟨blk, off, none⟩) (prs ys) ∧ Below lo w w' := by
  have hmf : ∀ (fn : Fn) (first cap : Array Value) (w : World), (Instr.makeFunc fn first cap).run Tryz.prog w = .ok (.func fn first cap) w := fun _ _ _ _ => rfl
  have eg : ∀ args w, (callFunc 56 args).run Tryz.prog w = .ok (.enter 56 args) w := enters_of Tryz.func56 (by kernel_rfl) rfl
  have HS : ∀ W : World, Hid (Below w.heap.size w W → w.heap.size < W.heap.size → W.cell? ⟨w.heap.size, 0, none⟩ = some (.func (.func 39) #[] #[]) →
      Calls Tryz.prog 55 #[.slice (some ⟨blk, off, none⟩) N cap, .func (.func 56) #[] #[.pointer (some ⟨w.heap.size, 0, none⟩)]] W fun e w' => e = .returned (.tuple #[]) ∧ Own w' lo hi (some ⟨blk, off, none⟩) (prs ys) ∧ Below lo w w') := by
    intro W
    refine Lib.hid fun hb hz hc => ?_
    have hO := ho.below hb hh
    have hH := holdsK_of_own hO
    have hcmp : CmpLays Tryz.prog 56 #[.pointer (some ⟨w.heap.size, 0, none⟩)] encR 2 (fun x y => cmpI x.2 y.2) blk off xs.toArray.size W := by
      intro m os dk hs x y
      refine (cmpRun_any x.1 x.2 y.1 y.2 w.heap.size _ ?_ ?_)
      · rw [cell?_sortWorldK_other _ _ _ _ _ _ _ _ _ (by simp; omega) (by simpa using hz)]
        exact hc
      · exact Nat.lt_of_lt_of_le hz (size_sortWorldK_c _ _ _ _ _ _ _ _)
    have hcon := AnyQ.slices_SortFunc Tryz.laysSlF06_f55 2 Tryz.isAgg31 Tryz.sizeOf31 encR (fun _ => rfl) (fun x v hv => by simp [encR] at hv; rcases hv with rfl | rfl <;> rfl) (fun x y => cmpI x.2 y.2) (swo_key fun x : Int × Int => x.2) 56 #[.pointer (some ⟨w.heap.size, 0, none⟩)] blk off cap xs.toArray W eg hcmp hH (by omega) (by simp; omega)
    change Calls Tryz.prog 55 _ _ _ at hcon
    rw [show xs.toArray.size = N by simpa using hN] at hcon
    refine hcon.mono ?_
    rintro e w' ⟨rfl, d', n, os, hpm, hso, rfl⟩
    have hd := sorted_is (fun x : Int × Int => x.2) (l := ys) (by rw [show xs.toArray.size = N by simpa using hN]; exact hpm) (by rw [show xs.toArray.size = N by simpa using hN]; exact hso) (by simpa using hp) hk
    have hsz : d'.size = xs.toArray.size := by rw [hpm.1]
    refine ⟨rfl, ?_, (hb.mono (by omega)).trans (below_sortedK h1 (by have := hb.size; omega))⟩
    rw [← hd]
    exact own_of_holdsK (holdsK_sortWorldK_c encR 2 W blk off xs.toArray d' n os hH (by omega) hsz) h1 h2
  clear ho hp hk hN
  go_enter Tryz.func38, Tryz.ntmps38
  go_wp2_with (go_at_call 55; refine ((HS _).out ((Below.refl _ _).alloc (Nat.le_refl _) _) (by simp) (by simp [go_sem])).mono ?_; rintro e w1 ⟨rfl, ho1, hb1⟩)
  go_end0
  exact ⟨rfl, ho1, hb1⟩
end Go.Proofs.YtcfpdlkkniilpaaGreatDoor
