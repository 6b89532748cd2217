/- Chapter 7: the program's pictures without borders; texts changed. -/
import Derived.Test.YtbabkcjnfdpafaaGreatDoorDuU
import Derived.Test.YtbabkcjnfdpafaaGreatDoorDuO
import Derived.Test.YtbabkcjnfdpafaaGreatDoorDuS
namespace Go.Proofs.YtbabkcjnfdpafaaGreatDoor
open Go.ChangeShapes Go.WideShapes Go.ChangeAt Go.RowKit Go.Maps

set_option maxRecDepth 8000 in
set_option maxHeartbeats 3200000 in
theorem withoutBorder_chg (W H : Nat) (S : Int → Int → Bool) : Chg 70 W H S W H (dS S (bS S)) := by
  intro w b hd
  have hbl := hd.lt
  obtain ⟨V, hV⟩ : ∃ V, V = (w.alloc (.cells #[.int .i64 (W : Int), .int .i64 (H : Int), .map (some b)] 57)).alloc (.cells #[.int .i64 0, .int .i64 0, .map none] 57) := ⟨_, rfl⟩
  have k0 : V.heap[w.heap.size]? = some (.cells #[.int .i64 (W : Int), .int .i64 (H : Int), .map (some b)] 57) := by
    rw [hV, (MapKept.heap_alloc _ _).2 _ (by simp)]
    exact (MapKept.heap_alloc _ _).1
  have k1 : V.heap[w.heap.size + 1]? = some (.cells #[.int .i64 0, .int .i64 0, .map none] 57) := by
    have h := (MapKept.heap_alloc (w.alloc (.cells #[.int .i64 (W : Int), .int .i64 (H : Int), .map (some b)] 57)) (.cells #[.int .i64 0, .int .i64 0, .map none] 57)).1
    rw [show (w.alloc (.cells #[.int .i64 (W : Int), .int .i64 (H : Int), .map (some b)] 57)).heap.size = w.heap.size + 1 by simp] at h
    rw [hV]
    exact h
  have hgV : w.grownBy V none := by rw [hV]; exact (World.grownBy_alloc w _ none).andThen (World.grownBy_alloc _ _ none) (by simp)
  have HD := Lib.hid (hd.kept hgV (by simp))
  have hzV : V.heap.size = w.heap.size + 2 := by rw [hV]; simp
  go_enter Tryz.func70, Tryz.ntmps70
  go_wp2_with fail
  rw [← hV]
  clear hV hd
  refine (clone_any b S V HD.out).mono ?_
  rintro e w1 ⟨rfl, hd1, hz1, hb1⟩
  have hg1 := grown_of_below hb1 (Nat.le_refl _)
  have i0 := grown_heap k0 hg1 (by simp)
  have i1 := grown_heap k1 hg1 (by simp)
  have q2 : w1.cell? ⟨w.heap.size, 2, none⟩ = some (.map (some b)) := Lib.cell_of_heap i0 2
  have HD1 := Lib.hid (HD.out.kept hg1 (by simp))
  have HC1 := Lib.hid hd1
  have HG1 := Lib.hid (hgV.andThen hg1 (by simp))
  have hcb : V.heap.size ≠ b := by omega
  clear hd1 hb1 hg1 hgV HD k0 k1
  generalize hcV : V.heap.size = c at *
  have hc2 : w.heap.size + 2 ≤ c := by omega
  clear hzV hcV
  go_wp2_with (first
    | (go_at_call 62; refine (border_any _ _ _ HD1.out).mono ?_; rintro e w2 ⟨⟨m, rfl, hm, hd2⟩, hb2⟩; have hg2 := grown_of_below hb2 (Nat.le_refl _); have HM2 := Lib.hid hd2; have HC2 := Lib.hid (HC1.out.kept hg2 (by simp)); have i2 := grown_heap i0 hg2 (by simp); have j2 := grown_heap i1 hg2 (by simp); have HG2 := Lib.hid (HG1.out.andThen hg2 (by simp)); clear hd2 hb2 hg2)
    | (go_at_call 63; refine (drop_any _ _ _ _ _ HC2.out HM2.out (by omega)).mono ?_; rintro e w3 ⟨rfl, hd3, hg3⟩; have HC3 := Lib.hid hd3; have i3 := grown_heap i2 hg3 (by simp; omega); have j3 := grown_heap j2 hg3 (by simp; omega); have HG3 := Lib.hid (HG2.out.andThen hg3 (by intro j hj; cases hj; exact Or.inl (by omega))); have p0 := Lib.cell_of_heap i3 0; have p1 := Lib.cell_of_heap i3 1; have p2 := Lib.cell_of_heap i3 2; clear hd3 hg3)
    | (go_at_call 73; refine (withDots_any _ _ _ _ _).mono ?_; rintro e w4 ⟨rfl, hb4⟩; have hg4 := grown_of_below hb4 (Nat.le_refl _); have HDF := Lib.hid (HC3.out.kept hg4 (by simp)); have j4 := grown_heap j3 hg4 (by simp); have HG4 := Lib.hid (HG3.out.andThen hg4 (by simp)); have s0 := Lib.cell_of_heap j4 0; have s1 := Lib.cell_of_heap j4 1; have s2 := Lib.cell_of_heap j4 2; have f0 := Lib.frozen_of_heap j4 0; have f1 := Lib.frozen_of_heap j4 1; have f2 := Lib.frozen_of_heap j4 2; clear hb4 hg4))
  obtain ⟨e0, e1, e2⟩ := put3D s0 s1 s2 (.int .i64 (W : Int)) (.int .i64 (H : Int)) (.map (some c))
  have hgE := grown_set3 w4 (w.heap.size + 1) (.int .i64 (W : Int)) (.int .i64 (H : Int)) (.map (some c))
  have HDE := Lib.hid (HDF.out.kept hgE (by simp; omega))
  have HBE := Lib.hid ((Below.refl w.heap.size w).grown (HG4.out.andThen hgE (by intro j hj; cases hj; exact Or.inl (by omega))) (Nat.le_refl _) (by simp))
  exact bodyPost_ret (v := .agg #[.int .i64 (W : Int), .int .i64 (H : Int), .map (some c)]) (by simp [results, Tryz.results70, go_sem, e0, e1, e2]) rfl ⟨⟨c, rfl, HDE.out⟩, HBE.out⟩
end Go.Proofs.YtbabkcjnfdpafaaGreatDoor
