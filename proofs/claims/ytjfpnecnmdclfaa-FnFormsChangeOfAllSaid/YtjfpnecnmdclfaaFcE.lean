/- A slice of numbers that came in as an argument is memory that nobody froze: its view, opened. No condition. -/
import Derived.Test.YtjfpnecnmdclfaaMa
namespace Go.Proofs.Ytjfpnecnmdclfaa
open Go.ChangeShapes Go.WideShapes Go.ChangeAt Go.RowKit

theorem view_own {H : Type} {enc : TypeId × Value → H} {W : World} {t e : TypeId} {A : Option Addr} {n c : Nat} {d : DataW H} {p : List MemPlace}
    (ht : Try.prog.underlying t = some (.slice e)) (he : Try.prog.underlying e = some (.int .i64)) (hc : Try.prog.cellsOf e = 1)
    (hf : DataW.Trod enc Try.prog W 0 (fun _ => true) true t (.slice A n c) d p) (hz : W.noneFrozen p) :
    ∃ Z : List Int, Z.length = n ∧ n ≤ 9223372036854775807 ∧ n ≤ c ∧ Own W 0 W.heap.size A (i64s Z) := by
  obtain ⟨fuel, hf⟩ := hf
  rcases open_ints ht he hc hf with ⟨hcs, hx⟩ | ⟨a, len', cap', zs, hcs, _, hl, hm, hzl, hx, hcell, hwz⟩
  · simp [Value.cells] at hcs
    obtain ⟨rfl, rfl, rfl⟩ := hcs
    exact ⟨[], rfl, by omega, by omega, fun h => absurd h (by simp)⟩
  · simp [Value.cells] at hcs
    obtain ⟨rfl, rfl, rfl⟩ := hcs
    simp only [if_true] at hzl
    unfold maxLen at hm
    refine ⟨zs.take n, (by simp; omega), by omega, hl, fun h => ?_⟩
    have h0 : 0 < n := by
      simp only [List.length_map, List.length_take] at h
      omega
    have h2 := hcell 0 (by omega)
    have h3 : (a.add 0) = a := rfl
    rw [h3] at h2
    have hb : a.block < W.heap.size := by
      rcases Nat.lt_or_ge a.block W.heap.size with h4 | h4
      · exact h4
      · simp [World.cell?, Array.getElem?_eq_none h4] at h2
    have hs : a.spot = none := by
      cases hq : a.spot with
      | none => rfl
      | some q =>
        exfalso
        unfold World.cell? at h2
        split at h2
        · simp [hq] at h2
        · cases h2
    have hp : p = MemPlace.row a zs.length := by injection hx
    refine ⟨a.block, a.off, by cases a; simp at hs; subst hs; rfl, Nat.zero_le _, hb, fun j u hu => ⟨?_, ?_⟩⟩
    · have hj : j < (zs.take n).length := by
        have := (List.getElem?_eq_some_iff.1 hu).1
        simpa using this
      have hj2 : j < zs.length := by simp at hj; omega
      have hadd : a.add j = ⟨a.block, a.off + j, none⟩ := by
        unfold Addr.add
        split
        · rename_i e0
          subst e0
          cases a
          simp at hs
          subst hs
          rfl
        · rfl
      rw [← hadd, hcell j hj2]
      rw [← hu]
      simp only [List.getElem?_map, List.getD_eq_getElem?_getD]
      rw [List.getElem?_take_of_lt (by simp at hj; omega), List.getElem?_eq_getElem hj2]
      rfl
    · have hj : j < (zs.take n).length := by
        have := (List.getElem?_eq_some_iff.1 hu).1
        simpa using this
      refine hz a.block (a.off + j) ?_
      rw [hp, MemPlace.row, List.mem_map]
      exact ⟨j, by simp at hj ⊢; omega, rfl⟩
end Go.Proofs.Ytjfpnecnmdclfaa
