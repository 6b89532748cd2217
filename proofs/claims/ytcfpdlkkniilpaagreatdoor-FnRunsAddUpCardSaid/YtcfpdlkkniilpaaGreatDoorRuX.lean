/- Chapter 5: the program's sort of lists by their first numbers. -/
import Derived.Test.YtcfpdlkkniilpaaGreatDoorRuW
import Derived.Test.YtcfpdlkkniilpaaGreatDoorRuL
namespace Go.Proofs.YtcfpdlkkniilpaaGreatDoor
open Go.ChangeShapes Go.WideShapes Go.ChangeAt Go.RowKit Go.Shelf Go.Sort

/-- What the sort of n lists leaves: the rows turned round. -/
def Turned (w : World) (lo hi : Nat) (A : Option Addr) (n : Nat) (F : Nat → List Int) (Af : Nat → Option Addr) (cf : Nat → Nat) (w' : World) : Prop :=
  OwnL w' lo hi A n (fun i => F (n - 1 - i)) (fun i => Af (n - 1 - i)) (fun i => cf (n - 1 - i)) ∧ Below lo w w'
/-- What is asked of the rows. -/
structure Falls (w : World) (lo hi : Nat) (A : Option Addr) (n : Nat) (F : Nat → List Int) (Af : Nat → Option Addr) (cf : Nat → Nat) : Prop where
  own : OwnL w lo hi A n F Af cf
  hh : hi ≤ w.heap.size
  lh : lo ≤ hi
  n1 : n ≤ 1000000
  row : ∀ i, i < n → 0 < (F i).length
  key : ∀ i j, i < j → j < n → (F j).getD 0 0 < (F i).getD 0 0
section
variable {w w' : World} {lo hi n : Nat} {A : Option Addr} {F : Nat → List Int} {Af : Nat → Option Addr} {cf : Nat → Nat}
theorem Falls.below (h : Falls w lo hi A n F Af cf) {B : Nat} (hb : Below B w w') (hB : hi ≤ B) : Falls w' lo hi A n F Af cf :=
  ⟨h.own.below hb hB, Nat.le_trans h.hh hb.size, h.lh, h.n1, h.row, h.key⟩
end
theorem sortRows_any (c lo hi n K : Nat) (A : Option Addr) (F : Nat → List Int) (Af : Nat → Option Addr) (cf : Nat → Nat) (W : World) (h : Falls W lo hi A n F Af cf)
    (hc : W.cell? ⟨K, 0, none⟩ = some (.func (.func 59) #[] #[])) (hz : K < W.heap.size) (hKb : hi ≤ K) :
    Calls Tryz.prog 66 #[.slice A n c, .func (.func 67) #[] #[.pointer (some ⟨K, 0, none⟩)]] W fun e w' => e = .returned (.tuple #[]) ∧ Turned W lo hi A n F Af cf w' := by
  rcases Nat.eq_zero_or_pos n with h0 | h0
  · subst h0
    refine (Tryz.slices_SortFunc_none (α := Int) A c _ W).mono ?_
    rintro e w' ⟨rfl, rfl⟩
    exact ⟨rfl, ⟨fun hn => absurd hn (by simp), fun i hi => absurd hi (by omega), fun i hi => absurd hi (by omega), fun i j hi => absurd hi (by omega)⟩, Below.refl _ _⟩
  · obtain ⟨g, o, rfl, h1, h2, _⟩ := h.own.own (by simpa using h0)
    exact sortFunc_rows g o c lo hi n K F Af cf W h.own h.hh h1 h2 h0 h.n1 h.row h.key hc hz (by omega)
theorem sortBy_any (c lo hi n : Nat) (A : Option Addr) (F : Nat → List Int) (Af : Nat → Option Addr) (cf : Nat → Nat) (w : World) (h : Falls w lo hi A n F Af cf) :
    Calls Tryz.prog 58 #[.slice A n c, .func (.func 59) #[] #[]] w fun e w' => e = .returned (.tuple #[]) ∧ Turned w lo hi A n F Af cf w' := by
  have hmf : ∀ (fn : Fn) (first cap : Array Value) (w : World), (Instr.makeFunc fn first cap).run Tryz.prog w = .ok (.func fn first cap) w := fun _ _ _ _ => rfl
  have HS : ∀ W : World, Hid (Below w.heap.size w W → w.heap.size < W.heap.size → W.cell? ⟨w.heap.size, 0, none⟩ = some (.func (.func 59) #[] #[]) →
      Calls Tryz.prog 66 #[.slice A n c, .func (.func 67) #[] #[.pointer (some ⟨w.heap.size, 0, none⟩)]] W fun e w' => e = .returned (.tuple #[]) ∧ Turned w lo hi A n F Af cf w') := fun W => Lib.hid fun hb hz hc =>
    (sortRows_any c lo hi n w.heap.size A F Af cf W (h.below hb h.hh) hc hz h.hh).mono fun e w' ⟨he, ht⟩ => ⟨he, ht.1, (hb.mono (Nat.le_trans h.lh h.hh)).trans ht.2⟩
  clear h
  go_enter Tryz.func58, Tryz.ntmps58
  go_wp2_with (go_at_call 66; refine ((HS _).out ((Below.refl _ _).alloc (Nat.le_refl _) _) (by simp) (by simp [go_sem])).mono ?_; rintro e w1 ⟨rfl, ht⟩)
  go_end0
  exact ⟨rfl, ht⟩
theorem sortByFirst_any (c lo hi n : Nat) (A : Option Addr) (F : Nat → List Int) (Af : Nat → Option Addr) (cf : Nat → Nat) (w : World) (h : Falls w lo hi A n F Af cf) :
    Calls Tryz.prog 41 #[.slice A n c] w fun e w' => e = .returned (.tuple #[]) ∧ Turned w lo hi A n F Af cf w' := by
  have HS := Lib.hid (sortBy_any c lo hi n A F Af cf w h)
  clear h
  go_enter Tryz.func41, Tryz.ntmps41
  go_wp2_with (go_at_call 58; refine HS.out.mono ?_; rintro e w1 ⟨rfl, ht⟩)
  go_end0
  exact ⟨rfl, ht⟩
/-- Lists that were put one behind the other, their first numbers falling, and turned round: what is owed. -/
theorem resSS_turned {w0 w2 : World} {lo : Nat} {V : Value} {rs : List Value} {yss : List (List Int)} (h : Lists w2 lo V rs yss) (hlo : w0.heap.size ≤ lo) (_hl2 : lo ≤ w2.heap.size) (hb : Below w0.heap.size w0 w2) (hlen : yss.length ≤ 1000000) (hrow : ∀ xs ∈ yss, 0 < xs.length) (hkey : yss.Pairwise fun x y => y.getD 0 0 < x.getD 0 0) :
    ∃ A c F Af cf, V = .slice A yss.length c ∧ Falls w2 w0.heap.size w2.heap.size A yss.length F Af cf ∧ (∀ w3, Turned w2 w0.heap.size w2.heap.size A yss.length F Af cf w3 → ResSS true yss.reverse w0 (.returned (.tuple #[V, .bool true])) w3) := by
  obtain ⟨A, c, Af, cf, rfl, ho⟩ := h.ownL
  have hro : ∀ i (hi : i < yss.length), rowsOf yss i = yss[i] := fun i hi => by simp [rowsOf, List.getD_eq_getElem?_getD, hi]
  have ho2 : OwnL w2 w0.heap.size w2.heap.size A yss.length (rowsOf yss) Af cf := ho.wide hlo (Nat.le_refl _)
  refine ⟨A, c, rowsOf yss, Af, cf, rfl, ⟨ho2, Nat.le_refl _, hb.size, hlen, fun i hi => by rw [hro i hi]; exact hrow _ (List.getElem_mem hi), fun i j hij hj => ?_⟩, fun w3 ⟨ht, hb3⟩ => ⟨A, c, fun i => Af (yss.length - 1 - i), fun i => cf (yss.length - 1 - i), by simp, ?_, hb.trans hb3⟩⟩
  · rw [hro i (by omega), hro j hj]
    exact (List.pairwise_iff_getElem.1 hkey) i j _ _ hij
  · have e : ∀ i, i < yss.length → rowsOf yss (yss.length - 1 - i) = rowsOf yss.reverse i := fun i hi => by
      rw [hro _ (by omega)]
      simp [rowsOf, List.getD_eq_getElem?_getD, hi]
    rw [List.length_reverse]
    exact (ht.congr e).wide (Nat.le_refl _) hb3.size
end Go.Proofs.YtcfpdlkkniilpaaGreatDoor
