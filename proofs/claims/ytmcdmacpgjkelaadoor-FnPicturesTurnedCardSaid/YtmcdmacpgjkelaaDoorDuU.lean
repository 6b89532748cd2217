/- Chapter 7: the program's pictures with other dots, without borders. -/
import Derived.Test.YtmcdmacpgjkelaaDoorDuT
import Derived.Shelf.SlMaps.Clone
namespace Go.Proofs.YtmcdmacpgjkelaaDoor
open Go.ChangeShapes Go.WideShapes Go.ChangeAt Go.RowKit Go.Maps

theorem cf_other1 : ∀ (args : Array Value) (V : World), (callFunc 53 args).run Tryd.prog V = .ok (.enter 53 args) V := fun _ _ => by kernel_rfl
theorem other1_any (x y : Int) (K b : Nat) (S : Int → Int → Bool) (w : World) (c2 : w.cell? ⟨K, 2, none⟩ = some (.map (some b))) (hd : Ds w b S) (hw : wf2 x y) :
    Calls Tryd.prog 53 #[.int .i64 x, .int .i64 y, .pointer (some ⟨K, 0, none⟩)] w fun e w' => e = .returned (.bool (!S x y)) ∧ Below w.heap.size w w' := by
  have HH := Lib.hid fun V (h : Ds V b S) => has_any b S x y V h hw
  go_enter Tryd.func53, Tryd.ntmps53
  go_wp2_with (go_at_call 54; refine (HH.out _ hd).mono ?_; rintro e w1 ⟨rfl, hb1⟩)
  go_ret
  exact ⟨rfl, hb1⟩
set_option maxRecDepth 100000 in
set_option maxHeartbeats 1600000 in
theorem withOtherDots_chg (W H : Nat) (S : Int → Int → Bool) (w0 : 1 ≤ W) (hW : W ≤ 50) (hH : H ≤ 50) : Chg 32 W H S W H (fun x y => inP W H x y && !S x y) := by
  intro w b hd
  have hbl := hd.lt
  obtain ⟨V, hV⟩ : ∃ V, V = (w.alloc (.cells #[.int .i64 (W : Int), .int .i64 (H : Int), .map (some b)] 42)).alloc (.cells #[.int .i64 0, .int .i64 0, .map none] 42) := ⟨_, rfl⟩
  have k0 : V.heap[w.heap.size]? = some (.cells #[.int .i64 (W : Int), .int .i64 (H : Int), .map (some b)] 42) := by
    rw [hV, (MapKept.heap_alloc _ _).2 _ (by simp)]
    exact (MapKept.heap_alloc _ _).1
  have k1 : V.heap[w.heap.size + 1]? = some (.cells #[.int .i64 0, .int .i64 0, .map none] 42) := by
    have h := (MapKept.heap_alloc (w.alloc (.cells #[.int .i64 (W : Int), .int .i64 (H : Int), .map (some b)] 42)) (.cells #[.int .i64 0, .int .i64 0, .map none] 42)).1
    rw [show (w.alloc (.cells #[.int .i64 (W : Int), .int .i64 (H : Int), .map (some b)] 42)).heap.size = w.heap.size + 1 by simp] at h
    rw [hV]
    exact h
  have hgV : w.grownBy V none := by rw [hV]; exact (World.grownBy_alloc w _ none).andThen (World.grownBy_alloc _ _ none) (by simp)
  have HD := Lib.hid (hd.kept hgV (by simp))
  have HDW : Hid (Dw 53 #[] #[.pointer (some ⟨w.heap.size, 0, none⟩)] (fun x y => !S x y) W H V) := Lib.hid
    { cf := cf_other1
      dw := fun x y V' hxy hg => other1_any x y w.heap.size b S V' (hg.cell (show V.cell? ⟨w.heap.size, 2, none⟩ = _ from Lib.cell_of_heap k0 2) (by simp)) (HD.out.kept hg (by simp)) (wf2_of (by omega) (by omega) (by omega) (by omega)) }
  have hzV : V.heap.size = w.heap.size + 2 := by rw [hV]; simp
  go_enter Tryd.func32, Tryd.ntmps32
  go_wp2_with fail
  rw [← hV]
  clear hV
  refine (draw_any W H _ _ _ _ _ V HDW.out rfl w0 hW hH).mono ?_
  rintro e w3 ⟨⟨c, rfl, hc, hd3⟩, hb3⟩
  have hg3 := grown_of_below hb3 (Nat.le_refl _)
  have i3 := grown_heap k1 hg3 (by simp)
  have s0 := Lib.cell_of_heap i3 0
  have s1 := Lib.cell_of_heap i3 1
  have s2 := Lib.cell_of_heap i3 2
  have f0 := Lib.frozen_of_heap i3 0
  have f1 := Lib.frozen_of_heap i3 1
  have f2 := Lib.frozen_of_heap i3 2
  have HDF := Lib.hid hd3
  have HGF := Lib.hid hg3
  have HGV := Lib.hid hgV
  clear hd3 hb3 hg3 hgV HDW HD
  have HC := Lib.hid (show w.heap.size + 2 ≤ c by omega)
  clear hc hzV
  go_wp2
  obtain ⟨e0, e1, e2⟩ := put3D s0 s1 s2 (.int .i64 (W : Int)) (.int .i64 (H : Int)) (.map (some c))
  have hgE := grown_set3 w3 (w.heap.size + 1) (.int .i64 (W : Int)) (.int .i64 (H : Int)) (.map (some c))
  have HDE := Lib.hid (HDF.out.kept hgE (by have := HC.out; simp; omega))
  have HBE := Lib.hid ((Below.refl w.heap.size w).grown ((HGV.out.andThen HGF.out (by simp)).andThen hgE (by intro j hj; cases hj; exact Or.inl (by omega))) (Nat.le_refl _) (by simp))
  exact bodyPost_ret (v := .agg #[.int .i64 (W : Int), .int .i64 (H : Int), .map (some c)]) (by simp [results, Tryd.results32, go_sem, e0, e1, e2]) rfl ⟨⟨c, rfl, HDE.out⟩, HBE.out⟩
end Go.Proofs.YtmcdmacpgjkelaaDoor
