/- Chapter 5: lists of numbers sorted by their first numbers. -/
import Derived.Test.YtcfpdlkkniilpaaGreatDoorRuT
import Derived.Test.YtcfpdlkkniilpaaGreatDoorOwL
namespace Go.Proofs.YtcfpdlkkniilpaaGreatDoor
open Go.ChangeShapes Go.WideShapes Go.ChangeAt Go.RowKit Go.Shelf Go.Sort

theorem keyFirst_any (g o n c : Nat) (z : Int) (w : World) (hn : 0 < n) (hc : w.cell? ⟨g, o, none⟩ = some (.int .i64 z)) :
    Calls Tryz.prog 59 #[.slice (some ⟨g, o, none⟩) n c] w fun e w' => e = .returned (.int .i64 z) ∧ ∃ q os', w' = grow (w.drewN q) os' := by
  have hnI : (0 : Int) < (n : Int) := by omega
  go_enter Tryz.func59, Tryz.ntmps59
  go_wp2
  go_ret
  exact ⟨rfl, 0, #[], by rw [grow_empty]; rfl⟩
set_option maxHeartbeats 1600000 in
theorem cmpRow_any (g1 o1 n1 c1 g2 o2 n2 c2 K : Nat) (z1 z2 : Int) (w : World) (hK : w.cell? ⟨K, 0, none⟩ = some (.func (.func 59) #[] #[])) (hz : K < w.heap.size)
    (h1 : w.cell? ⟨g1, o1, none⟩ = some (.int .i64 z1)) (h2 : w.cell? ⟨g2, o2, none⟩ = some (.int .i64 z2)) (p1 : 0 < n1) (p2 : 0 < n2) (b1 : g1 < w.heap.size) (b2 : g2 < w.heap.size) :
    Calls Tryz.prog 67 #[.slice (some ⟨g1, o1, none⟩) n1 c1, .slice (some ⟨g2, o2, none⟩) n2 c2, .pointer (some ⟨K, 0, none⟩)] w fun e w' => e = .returned (.int .i64 (cmpI z1 z2)) ∧ ∃ q os', w' = grow (w.drewN q) os' := by
  have hm : Tryz.prog.follows .mixedOrders = true := by kernel_rfl
  have HC := Lib.hid fun x y W => compare_any x y W
  have HL : Hid (∀ (g o n c : Nat) (z : Int), 0 < n → g < w.heap.size → w.cell? ⟨g, o, none⟩ = some (.int .i64 z) → ∀ q os, Calls Tryz.prog 59 #[.slice (some ⟨g, o, none⟩) n c] (grow (w.drewN q) os) fun e w' => e = .returned (.int .i64 z) ∧ ∃ q' os', w' = grow ((grow (w.drewN q) os).drewN q') os') := Lib.hid fun g o n c z hn hb hc q os => keyFirst_any g o n c z _ hn (cell_grown hb hc q os)
  have k0 : ∀ n os, (grow (w.drewN n) os).cell? ⟨K, 0, none⟩ = some (.func (.func 59) #[] #[]) := fun n os => cell_grown hz hK n os
  obtain ⟨r, hr⟩ : ∃ r, r = cmpI z1 z2 := ⟨_, rfl⟩
  rw [← hr]
  have HR := Lib.hid hr.symm
  clear hr hK
  go_enter Tryz.func67, Tryz.ntmps67
  go_wp2_with fail
  go_quiet_grown (first
    | (go_at_call 57; exact Calls.grown_of ((HC.out _ _ _).mono fun _ _ ⟨he, hw⟩ => ⟨he, 0, #[], by rw [hw, grow_empty]; rfl⟩))
    | (exact Calls.grown_of (HL.out _ _ _ _ _ (by assumption) (by assumption) (by assumption) _ _)))
  go_wp2
  go_ret
  exact ⟨ret_int HR.out, nq, osq, rfl⟩

/-- A row's slice and its first number. -/
def RowVal (w : World) (blk : Nat) (r : Value × Int) : Prop := ∃ g o n c, r.1 = .slice (some ⟨g, o, none⟩) n c ∧ 0 < n ∧ g ≠ blk ∧ g < w.heap.size ∧ w.cell? ⟨g, o, none⟩ = some (.int .i64 r.2)
theorem heap_sorted {α : Type} [Inhabited α] (enc : α → Value) (W : World) (blk off m : Nat) (d : Array α) (os : Array Obj) (g : Nat) (h1 : g ≠ blk) (h2 : g < W.heap.size) : (sortWorld enc W blk off m d os).heap[g]? = W.heap[g]? := by
  unfold sortWorld
  rw [heap_grow_old _ _ (by simpa [putRow, mapBlock, Sort.ahead] using h2)]
  simp [putRow, mapBlock, Sort.ahead, Array.getElem?_modify, h1.symm]

section
variable {w : World} {lo hi n : Nat} {A : Option Addr} {F : Nat → List Int} {Af : Nat → Option Addr} {cf : Nat → Nat}
theorem rowVal_of {blk off : Nat} (h : OwnL w lo hi (some ⟨blk, off, none⟩) n F Af cf) (hh : hi ≤ w.heap.size) {i : Nat} (hi' : i < n) (h0 : 0 < (F i).length) : RowVal w blk (.slice (Af i) (F i).length (cf i), (F i).getD 0 0) := by
  obtain ⟨g, o, e, h1, h2, hc⟩ := h.row i hi' (by simpa using h0)
  have hne := h.off i hi' h0 _ _ rfl e
  have h3 := (hc 0 (.int .i64 ((F i).getD 0 0)) (by simp [List.getD_eq_getElem?_getD, h0])).1
  exact ⟨g, o, _, _, by rw [e], h0, fun e2 => hne e2.symm, by omega, by simpa using h3⟩
end
theorem toList_ofFn' {α : Type} (n : Nat) (f : Fin n → α) : (Array.ofFn f).toList = List.ofFn f := by simp
set_option maxHeartbeats 1600000 in
/-- The rows, their first numbers falling, are turned round by the sort. -/
theorem sortFunc_rows (blk off cap lo hi n K : Nat) (F : Nat → List Int) (Af : Nat → Option Addr) (cf : Nat → Nat) (W : World) (h : OwnL W lo hi (some ⟨blk, off, none⟩) n F Af cf) (hh : hi ≤ W.heap.size) (hlo : lo ≤ blk) (hbk : blk < hi) (h0 : 0 < n) (hn : n ≤ 1000000)
    (hF : ∀ i, i < n → 0 < (F i).length) (hk : ∀ i j, i < j → j < n → (F j).getD 0 0 < (F i).getD 0 0)
    (hc : W.cell? ⟨K, 0, none⟩ = some (.func (.func 59) #[] #[])) (hz : K < W.heap.size) (hKb : K ≠ blk) :
    Calls Tryz.prog 66 #[.slice (some ⟨blk, off, none⟩) n cap, .func (.func 67) #[] #[.pointer (some ⟨K, 0, none⟩)]] W fun e w' => e = .returned (.tuple #[]) ∧
      OwnL w' lo hi (some ⟨blk, off, none⟩) n (fun i => F (n - 1 - i)) (fun i => Af (n - 1 - i)) (fun i => cf (n - 1 - i)) ∧ Below lo W w' := by
  have eg : ∀ args w, (callFunc 67 args).run Tryz.prog w = .ok (.enter 67 args) w := enters_of Tryz.func67 (by kernel_rfl) rfl
  let f : Fin n → { r : Value × Int // RowVal W blk r } := fun i => ⟨(.slice (Af i) (F i).length (cf i), (F i).getD 0 0), rowVal_of h hh i.2 (hF i i.2)⟩
  haveI : Inhabited { r : Value × Int // RowVal W blk r } := ⟨f ⟨0, h0⟩⟩
  let d : Array { r : Value × Int // RowVal W blk r } := Array.ofFn f
  let enc : { r : Value × Int // RowVal W blk r } → Value := fun r => r.1.1
  have hds : d.size = n := by simp [d]
  have hdg : ∀ j (hj : j < n), d[j]! = f ⟨j, hj⟩ := fun j hj => by
    rw [getElem!_pos d j (by rw [hds]; exact hj)]
    simp [d]
  have h1 : OneCell enc := fun x => by
    obtain ⟨g, o, m, c, e, _⟩ := x.2
    show (x.1.1).oneCell' = true
    rw [e]
    rfl
  have hH : Holds enc W blk off d := fun j hj => by
    rw [hds] at hj
    rw [hdg j hj]
    obtain ⟨g, o, e, _, _, hcell⟩ := h.own (by simpa using h0)
    injection e with e
    injection e with e2 e3 _
    subst e2
    subst e3
    exact hcell j _ (by simp [hj]; rfl)
  have hcmp : CmpLays1 Tryz.prog 67 #[.pointer (some ⟨K, 0, none⟩)] enc (fun x y => cmpI x.1.2 y.1.2) blk off d.size W := by
    intro m os dk hs x y
    obtain ⟨g1, o1, n1, c1, e1, p1, q1, r1, s1⟩ := x.2
    obtain ⟨g2, o2, n2, c2, e2, p2, q2, r2, s2⟩ := y.2
    have hsz : W.heap.size ≤ (sortWorld enc W blk off m dk os).heap.size := (SW.le (dk := dk) ⟨m, os, rfl⟩)
    have hx : enc x = .slice (some ⟨g1, o1, none⟩) n1 c1 := e1
    have hy : enc y = .slice (some ⟨g2, o2, none⟩) n2 c2 := e2
    show Calls Tryz.prog 67 #[enc x, enc y, .pointer (some ⟨K, 0, none⟩)] _ _
    rw [hx, hy]
    refine cmpRow_any g1 o1 n1 c1 g2 o2 n2 c2 K _ _ _ ?_ (by omega) ?_ ?_ p1 p2 (by omega) (by omega)
    · rw [World.cell?_of_block (heap_sorted enc W blk off m dk os K hKb hz)]; exact hc
    · rw [World.cell?_of_block (heap_sorted enc W blk off m dk os g1 q1 r1)]; exact s1
    · rw [World.cell?_of_block (heap_sorted enc W blk off m dk os g2 q2 r2)]; exact s2
  have hcon := Tryz.slices_SortFunc enc h1 (fun x y => cmpI x.1.2 y.1.2) (swo_key fun x : { r : Value × Int // RowVal W blk r } => x.1.2) 67 #[.pointer (some ⟨K, 0, none⟩)] blk off cap d W eg hcmp hH (by omega) (by rw [hds]; omega)
  rw [hds] at hcon
  refine hcon.mono ?_
  rintro e w' ⟨rfl, d', m, os, hpm, hso, rfl⟩
  have hd := sorted_is (fun x : { r : Value × Int // RowVal W blk r } => x.1.2) (d := d) (d' := d') (l := d.toList.reverse) (by rw [hds]; exact hpm) (by rw [hds]; exact hso) (List.reverse_perm _).symm (by
    rw [List.pairwise_reverse, List.pairwise_iff_getElem]
    intro i j hi hj hij
    simp [d] at hi hj
    simp only [d, Array.getElem_toList, Array.getElem_ofFn, f]
    exact hk i j hij hj)
  have hsz' : d'.size = d.size := by rw [hpm.1]
  have hdg' : ∀ j (hj : j < n), d'[j]! = f ⟨n - 1 - j, by omega⟩ := fun j hj => by
    have hj' : j < d'.size := by rw [hsz', hds]; exact hj
    rw [getElem!_pos d' j hj', ← Array.getElem_toList]
    simp only [hd]
    rw [List.getElem_reverse]
    simp [d]
  have hH' : Holds enc (sortWorld enc W blk off m d' os) blk off d' := holds_sortWorld enc W blk off m d d' os (by omega) hH hsz'
  have far : ∀ g, g ≠ blk → g < W.heap.size → (sortWorld enc W blk off m d' os).heap[g]? = W.heap[g]? := fun g a b => heap_sorted enc W blk off m d' os g a b
  have hrow : ∀ i, i < n → Own (sortWorld enc W blk off m d' os) lo hi (Af i) (i64s (F i)) := fun i hi' hp => by
    obtain ⟨g, o, e, a1, a2, hcell⟩ := h.row i hi' hp
    have hne := h.off i hi' (hF i hi') _ _ rfl e
    refine ⟨g, o, e, a1, a2, fun j u hu => ?_⟩
    have hblk := far g (fun e2 => hne e2.symm) (by omega)
    rw [World.cell?_of_block (a := ⟨g, o + j, none⟩) hblk, World.frozen?_of_block (a := ⟨g, o + j, none⟩) hblk]
    exact hcell j u hu
  refine ⟨rfl, ⟨fun _ => ⟨blk, off, rfl, hlo, hbk, fun j u hu => ?_⟩, fun i hi' => hrow _ (by omega), fun i hi' hp => h.off _ (by omega) hp, fun i j hi' hj hij hp hq => h.apart _ _ (by omega) (by omega) (by omega) hp hq⟩, below_sorted hlo (by omega)⟩
  have hj : j < n := by
    have := (List.getElem?_eq_some_iff.1 hu).1
    simpa using this
  have hg := hH' j (by rw [hsz', hds]; exact hj)
  rw [hdg' j hj] at hg
  have hu2 : u = .slice (Af (n - 1 - j)) (F (n - 1 - j)).length (cf (n - 1 - j)) := by
    simp [hj] at hu
    exact hu.symm
  rw [hu2]
  exact hg
end Go.Proofs.YtcfpdlkkniilpaaGreatDoor
