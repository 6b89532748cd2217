/- The law FnExactAreParts: the program tells parts as the specification does, whatever the arguments; the list is left as it was. No condition. -/
import Derived.Test.YtljleceepghfjaaDoorSuB
namespace Go.Proofs.YtljleceepghfjaaDoor
open Go.ChangeShapes Go.WideShapes Go.ChangeAt Go.RowKit

theorem addr_block (a : Addr) (j : Nat) : (a.add j).block = a.block := by
  unfold Addr.add
  by_cases h : j = 0 <;> simp [h]
theorem addr_none (g o j : Nat) : (⟨g, o, none⟩ : Addr).add j = ⟨g, o + j, none⟩ := by
  unfold Addr.add
  by_cases h : j = 0 <;> simp [h]
/-- A slice at the address A reads as the cells cs, in a block below hi. -/
def Rd (w : World) (hi : Nat) (A : Option Addr) (cs : List Value) : Prop :=
  0 < cs.length → ∃ ad : Addr, A = some ad ∧ ad.block < hi ∧ ∀ j u, cs[j]? = some u → w.cell? (ad.add j) = some u
section
variable {w w' : World} {lo hi : Nat} {A : Option Addr} {cs : List Value}
theorem Rd.below {B : Nat} (h : Rd w hi A cs) (hb : Below B w w') (hB : hi ≤ B) : Rd w' hi A cs := fun hn => by
  obtain ⟨ad, e, h1, hc⟩ := h hn
  refine ⟨ad, e, h1, fun j u hu => ?_⟩
  rw [hb.cell (p := ad.add j) (by rw [addr_block]; exact Nat.lt_of_lt_of_le h1 hB)]
  exact hc j u hu
theorem Rd.at_ (h : Rd w hi A cs) {k : Nat} (hk : k < cs.length) : ∃ ad : Addr, A = some ad ∧ ad.block < hi ∧ w.cell? (ad.add k) = some cs[k] := by
  obtain ⟨ad, e, h1, hc⟩ := h (by omega)
  exact ⟨ad, e, h1, hc k _ (List.getElem?_eq_getElem hk)⟩
theorem Own.rd (h : Own w lo hi A cs) : Rd w hi A cs := fun hn => by
  obtain ⟨g, o, e, h1, h2, hc⟩ := h hn
  exact ⟨⟨g, o, none⟩, e, h2, fun j u hu => by rw [addr_none]; exact (hc j u hu).1⟩
end
/-- An argument that is a slice of numbers. -/
theorem view_ints {H : Type} {enc : TypeId × Value → H} {W : World} {t e : TypeId} {A : Option Addr} {n c : Nat} {d : DataW H} {p : List MemPlace}
    (ht : Tryd.prog.underlying t = some (.slice e)) (he : Tryd.prog.underlying e = some (.int .i64)) (hc : Tryd.prog.cellsOf e = 1)
    (hf : DataW.Trod enc Tryd.prog W 0 (fun _ => true) true t (.slice A n c) d p) : ∃ Z : List Int, Z.length = n ∧ n ≤ 9223372036854775807 ∧ Rd W W.heap.size A (i64s Z) := by
  obtain ⟨fuel, hf⟩ := hf
  rcases open_ints ht he hc hf with ⟨hcs, hx⟩ | ⟨a, len', cap', zs, hcs, _, hl, hm, hz, hx, hcell, hwz⟩
  · simp [Value.cells] at hcs
    obtain ⟨rfl, rfl, rfl⟩ := hcs
    exact ⟨[], rfl, by omega, fun h => absurd h (by simp)⟩
  · simp [Value.cells] at hcs
    obtain ⟨rfl, rfl, rfl⟩ := hcs
    simp only [if_true] at hz
    unfold maxLen at hm
    refine ⟨zs.take n, (by simp; omega), by omega, fun h => ?_⟩
    have h0 : 0 < n := by
      simp only [List.length_map, List.length_take] at h
      omega
    refine ⟨a, rfl, ?_, fun j u hu => ?_⟩
    · have h2 := hcell 0 (by omega)
      have h3 : (a.add 0) = a := rfl
      rw [h3] at h2
      rcases Nat.lt_or_ge a.block W.heap.size with h4 | h4
      · exact h4
      · simp [World.cell?, Array.getElem?_eq_none h4] at h2
    · have hj := (List.getElem?_eq_some_iff.1 hu).1
      simp only [List.length_map, List.length_take] at hj
      rw [hcell j (by omega), ← hu]
      simp [List.getD_eq_getElem?_getD, show j < n from by omega]
      rw [List.getElem?_eq_getElem (by omega)]
      rfl
theorem fill_set (ys cs : List Value) (k : Nat) (h : k < ys.length) (h2 : k < cs.length) : (ys.take k ++ cs.drop k).set k ys[k] = ys.take (k + 1) ++ cs.drop (k + 1) := by
  have e1 : (ys.take k).length = k := by simp; omega
  rw [List.set_append_right _ _ (by omega), e1, Nat.sub_self, List.drop_eq_getElem_cons h2, List.set_cons_zero, List.take_succ_eq_append_getElem h, List.append_assoc]
  rfl

/-- What stands ahead of a place: the greatest place there may be, or the place before. -/
def bef (xs : List Int) (j : Nat) : Int := if j = 0 then 1000 else xs.getD (j - 1) 0
/-- The first k are places of parts. -/
def Parts (xs : List Int) (k : Nat) : Prop := ∀ j, j < k → 1 ≤ xs.getD j 0 ∧ xs.getD j 0 ≤ bef xs j
theorem parts_zero (xs : List Int) : Parts xs 0 := fun j h => by omega
theorem parts_succ {xs : List Int} {k : Nat} (h : Parts xs k) (h1 : 1 ≤ xs.getD k 0) (h2 : xs.getD k 0 ≤ bef xs k) : Parts xs (k + 1) := fun j hj => by
  by_cases e : j = k
  · subst e; exact ⟨h1, h2⟩
  · exact h j (by omega)
theorem bef_le {xs : List Int} {k : Nat} (h : Parts xs k) : bef xs k ≤ 1000 := by
  induction k with
  | zero => simp [bef]
  | succ k ih =>
    have h1 := (h k (by omega)).2
    have h2 := ih (fun j hj => h j (by omega))
    have e : bef xs (k + 1) = xs.getD k 0 := by simp [bef]
    omega

theorem Rd.get {w : World} {hi : Nat} {A : Option Addr} {xs : List Int} {k : Nat} (h : Rd w hi A (i64s xs)) (hk : k < xs.length) : ∃ ad : Addr, A = some ad ∧ ad.block < hi ∧ w.cell? (ad.add k) = some (.int .i64 (xs.getD k 0)) := by
  obtain ⟨ad, e, h1, h2⟩ := h.at_ (k := k) (by simpa using hk)
  refine ⟨ad, e, h1, ?_⟩
  rw [h2]
  simp [List.getD_eq_getElem?_getD, List.getElem?_eq_getElem hk]
theorem Rd.on {w w' : World} {A : Option Addr} {cs : List Value} (h : Rd w w.heap.size A cs) (hb : Below w.heap.size w w') : Rd w' w'.heap.size A cs := fun hn => by
  obtain ⟨ad, e, h1, hc⟩ := (h.below hb (Nat.le_refl _)) hn
  exact ⟨ad, e, Nat.lt_of_lt_of_le h1 hb.size, hc⟩
end Go.Proofs.YtljleceepghfjaaDoor
