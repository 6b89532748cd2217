/- Chapter 7: the program's pictures joined. -/
import Derived.Test.YtbabkcjnfdpafaaGreatDoorDuV
namespace Go.Proofs.YtbabkcjnfdpafaaGreatDoor
open Go.ChangeShapes Go.WideShapes Go.ChangeAt Go.RowKit Go.Maps

theorem cf_joined1 : ∀ (args : Array Value) (V : World), (callFunc 89 args).run Tryz.prog V = .ok (.enter 89 args) V := fun _ _ => by kernel_rfl
set_option maxRecDepth 8000 in
theorem joined1_any (x y u v : Int) (K : Nat) (w : World) (c0 : w.cell? ⟨K, 0, none⟩ = some (.int .i64 u)) (c1 : w.cell? ⟨K, 1, none⟩ = some (.int .i64 v)) (h : Sml x y u v) :
    Calls Tryz.prog 89 #[.agg #[.int .i64 x, .int .i64 y], .pointer (some ⟨K, 0, none⟩)] w fun e w' => e = .returned (.agg #[.int .i64 (x + u), .int .i64 (y + v)]) ∧ Below w.heap.size w w' := by
  have HL := Lib.hid fun W => led_any x y u v W h
  have c0a := fun o p => cell_old (cell_old c0 o) p
  have c1a := fun o p => cell_old (cell_old c1 o) p
  obtain ⟨V, hV⟩ : ∃ V, V = (w.alloc (.cells #[.int .i64 x, .int .i64 y] 71)).alloc (.cells #[.int .i64 0, .int .i64 0] 71) := ⟨_, rfl⟩
  have k1 : V.heap[w.heap.size + 1]? = some (.cells #[.int .i64 0, .int .i64 0] 71) := by
    have h := (MapKept.heap_alloc (w.alloc (.cells #[.int .i64 x, .int .i64 y] 71)) (.cells #[.int .i64 0, .int .i64 0] 71)).1
    rw [show (w.alloc (.cells #[.int .i64 x, .int .i64 y] 71)).heap.size = w.heap.size + 1 by simp] at h
    rw [hV]
    exact h
  have hgV : w.grownBy V none := by rw [hV]; exact (World.grownBy_alloc w _ none).andThen (World.grownBy_alloc _ _ none) (by simp)
  go_enter Tryz.func89, Tryz.ntmps89
  go_wp2_with fail
  rw [← hV]
  clear hV
  refine (HL.out _).mono ?_
  rintro e w1 ⟨rfl, hb1⟩
  have hg1 := grown_of_below hb1 (Nat.le_refl _)
  have i1 := grown_heap k1 hg1 (by simp)
  have s0 := Lib.cell_of_heap i1 0
  have s1 := Lib.cell_of_heap i1 1
  have f0 := Lib.frozen_of_heap i1 0
  have f1 := Lib.frozen_of_heap i1 1
  have HG := Lib.hid (hgV.andThen hg1 (by simp))
  clear hb1 hg1 hgV k1
  go_wp2
  have q0 : ((w1.setCell ⟨w.heap.size + 1, 0, none⟩ (.int .i64 (x + u))).setCell ⟨w.heap.size + 1, 1, none⟩ (.int .i64 (y + v))).cell? ⟨w.heap.size + 1, 0, none⟩ = some (.int .i64 (x + u)) := put_farD (World.cell?_setCell_same w1 _ _ s0) (by omega)
  have q1 : ((w1.setCell ⟨w.heap.size + 1, 0, none⟩ (.int .i64 (x + u))).setCell ⟨w.heap.size + 1, 1, none⟩ (.int .i64 (y + v))).cell? ⟨w.heap.size + 1, 1, none⟩ = some (.int .i64 (y + v)) := World.cell?_setCell_same _ _ _ (put_farD s1 (by omega))
  have hB : Below w.heap.size w ((w1.setCell ⟨w.heap.size + 1, 0, none⟩ (.int .i64 (x + u))).setCell ⟨w.heap.size + 1, 1, none⟩ (.int .i64 (y + v))) := (((Below.refl w.heap.size w).grown HG.out (Nat.le_refl _) (by simp)).setCell (p := ⟨w.heap.size + 1, 0, none⟩) (by simp) _).setCell (p := ⟨w.heap.size + 1, 1, none⟩) (by simp) _
  exact bodyPost_ret (v := .agg #[.int .i64 (x + u), .int .i64 (y + v)]) (by simp [results, Tryz.results89, go_sem, q0, q1]) rfl ⟨rfl, hB⟩
set_option maxRecDepth 8000 in
set_option maxHeartbeats 3200000 in
theorem joined_any (W H V G u v : Nat) (X Y : Nat) (b d : Nat) (S T : Int → Int → Bool) (w : World) (hS : Ds w b S) (hT : Ds w d T) (hX : max W (u + V) = X) (hY : max H (v + G) = Y)
    (hb : ∀ x y, T x y = true → 0 ≤ x ∧ x + u < 100 ∧ 0 ≤ y ∧ y + v < 100) (b1 : W ≤ 50) (b2 : H ≤ 50) (b3 : V ≤ 50) (b4 : G ≤ 50) (b5 : u ≤ 50) (b6 : v ≤ 50) :
    Calls Tryz.prog 59 #[.agg #[.int .i64 (W : Int), .int .i64 (H : Int), .map (some b)], .agg #[.int .i64 (V : Int), .int .i64 (G : Int), .map (some d)], .agg #[.int .i64 (u : Int), .int .i64 (v : Int)]] w fun e w' => (∃ c, e = .returned (.agg #[.int .i64 (X : Int), .int .i64 (Y : Int), .map (some c)]) ∧ Ds w' c (uS (fun x y => T (x - u) (y - v)) S)) ∧ Below w.heap.size w w' := by
  have hbl := hS.lt
  have hdl := hT.lt
  obtain ⟨B, hB⟩ : ∃ B, B = (((w.alloc (.cells #[.int .i64 (W : Int), .int .i64 (H : Int), .map (some b)] 57)).alloc (.cells #[.int .i64 (V : Int), .int .i64 (G : Int), .map (some d)] 57)).alloc (.cells #[.int .i64 (u : Int), .int .i64 (v : Int)] 71)).alloc (.cells #[.int .i64 0, .int .i64 0, .map none] 57) := ⟨_, rfl⟩
  have k0 : B.heap[w.heap.size]? = some (.cells #[.int .i64 (W : Int), .int .i64 (H : Int), .map (some b)] 57) := by
    rw [hB, (MapKept.heap_alloc _ _).2 _ (by simp; omega), (MapKept.heap_alloc _ _).2 _ (by simp; omega), (MapKept.heap_alloc _ _).2 _ (by simp)]
    exact (MapKept.heap_alloc _ _).1
  have k1 : B.heap[w.heap.size + 1]? = some (.cells #[.int .i64 (V : Int), .int .i64 (G : Int), .map (some d)] 57) := by
    have h := (MapKept.heap_alloc (w.alloc (.cells #[.int .i64 (W : Int), .int .i64 (H : Int), .map (some b)] 57)) (.cells #[.int .i64 (V : Int), .int .i64 (G : Int), .map (some d)] 57)).1
    rw [show (w.alloc (.cells #[.int .i64 (W : Int), .int .i64 (H : Int), .map (some b)] 57)).heap.size = w.heap.size + 1 by simp] at h
    rw [hB, (MapKept.heap_alloc _ _).2 _ (by simp), (MapKept.heap_alloc _ _).2 _ (by simp)]
    exact h
  have k2 : B.heap[w.heap.size + 2]? = some (.cells #[.int .i64 (u : Int), .int .i64 (v : Int)] 71) := by
    have h := (MapKept.heap_alloc ((w.alloc (.cells #[.int .i64 (W : Int), .int .i64 (H : Int), .map (some b)] 57)).alloc (.cells #[.int .i64 (V : Int), .int .i64 (G : Int), .map (some d)] 57)) (.cells #[.int .i64 (u : Int), .int .i64 (v : Int)] 71)).1
    rw [show ((w.alloc (.cells #[.int .i64 (W : Int), .int .i64 (H : Int), .map (some b)] 57)).alloc (.cells #[.int .i64 (V : Int), .int .i64 (G : Int), .map (some d)] 57)).heap.size = w.heap.size + 2 by simp] at h
    rw [hB, (MapKept.heap_alloc _ _).2 _ (by simp)]
    exact h
  have k3 : B.heap[w.heap.size + 3]? = some (.cells #[.int .i64 0, .int .i64 0, .map none] 57) := by
    have h := (MapKept.heap_alloc (((w.alloc (.cells #[.int .i64 (W : Int), .int .i64 (H : Int), .map (some b)] 57)).alloc (.cells #[.int .i64 (V : Int), .int .i64 (G : Int), .map (some d)] 57)).alloc (.cells #[.int .i64 (u : Int), .int .i64 (v : Int)] 71)) (.cells #[.int .i64 0, .int .i64 0, .map none] 57)).1
    rw [show (((w.alloc (.cells #[.int .i64 (W : Int), .int .i64 (H : Int), .map (some b)] 57)).alloc (.cells #[.int .i64 (V : Int), .int .i64 (G : Int), .map (some d)] 57)).alloc (.cells #[.int .i64 (u : Int), .int .i64 (v : Int)] 71)).heap.size = w.heap.size + 3 by simp] at h
    rw [hB]
    exact h
  have hgB : w.grownBy B none := by rw [hB]; exact (((World.grownBy_alloc w _ none).andThen (World.grownBy_alloc _ _ none) (by simp)).andThen (World.grownBy_alloc _ _ none) (by simp)).andThen (World.grownBy_alloc _ _ none) (by simp)
  have hzB : B.heap.size = w.heap.size + 4 := by rw [hB]; simp
  have HS := Lib.hid (hS.kept hgB (by simp))
  have HT := Lib.hid (hT.kept hgB (by simp))
  have HMV : Hid (Mv 89 (w.heap.size + 2) T (fun x _ => x + u) (fun _ y => y + v) (fun x _ => x - u) (fun _ y => y - v) B) := Lib.hid
    { cf := cf_joined1
      mv := fun x y W' hs hg => by
        have hb1 := hb x y hs
        exact joined1_any x y u v (w.heap.size + 2) W' (hg.cell (show B.cell? ⟨w.heap.size + 2, 0, none⟩ = _ from Lib.cell_of_heap k2 0) (by simp)) (hg.cell (show B.cell? ⟨w.heap.size + 2, 1, none⟩ = _ from Lib.cell_of_heap k2 1) (by simp)) ⟨by omega, by omega, by omega, by omega, by omega, by omega, by omega, by omega⟩
      inv := fun x y _ a c => by constructor <;> rintro ⟨rfl, rfl⟩ <;> constructor <;> omega
      bd := fun x y hs => by have hb1 := hb x y hs; omega }
  have q2 : B.cell? ⟨w.heap.size + 1, 2, none⟩ = some (.map (some d)) := Lib.cell_of_heap k1 2
  go_enter Tryz.func59, Tryz.ntmps59
  go_wp2_with fail
  rw [← hB]
  clear hB hS hT
  refine (moved_any _ _ _ _ _ _ _ _ _ HT.out HMV.out).mono ?_
  rintro e w1 ⟨⟨c, rfl, hc, hd1⟩, hb1⟩
  have hg1 := grown_of_below hb1 (Nat.le_refl _)
  have i0 := grown_heap k0 hg1 (by simp)
  have i1 := grown_heap k1 hg1 (by simp)
  have i2 := grown_heap k2 hg1 (by simp)
  have i3 := grown_heap k3 hg1 (by simp)
  have HC1 := Lib.hid hd1
  have HS1 := Lib.hid (HS.out.kept hg1 (by simp))
  have HG1 := Lib.hid (hgB.andThen hg1 (by simp))
  have p2 : w1.cell? ⟨w.heap.size, 2, none⟩ = some (.map (some b)) := Lib.cell_of_heap i0 2
  have hc4 : w.heap.size + 4 ≤ c := by omega
  clear hd1 hb1 hg1 hgB k0 k1 k2 k3 q2 HS HT HMV hb hc hzB
  have eX : IntKind.i64.wrap ((u : Int) + V) = ((u + V : Nat) : Int) := by rw [IntWalk.i64_in _ (by omega)]; omega
  have eY : IntKind.i64.wrap ((v : Int) + G) = ((v + G : Nat) : Int) := by rw [IntWalk.i64_in _ (by omega)]; omega
  go_wp2_with (go_at_call 91; refine (copy_any _ _ _ _ _ HC1.out HS1.out (by omega)).mono ?_; rintro e w2 ⟨rfl, hd2, hg2⟩; have HC2 := Lib.hid hd2; have j0 := grown_heap i0 hg2 (by simp; omega); have j1 := grown_heap i1 hg2 (by simp; omega); have j2 := grown_heap i2 hg2 (by simp; omega); have j3 := grown_heap i3 hg2 (by simp; omega); have HG2 := Lib.hid (HG1.out.andThen hg2 (by intro j hj; cases hj; exact Or.inl (by omega))); have a0 := Lib.cell_of_heap j0 0; have a1 := Lib.cell_of_heap j0 1; have a2 := Lib.cell_of_heap j1 0; have a3 := Lib.cell_of_heap j1 1; have a4 := Lib.cell_of_heap j2 0; have a5 := Lib.cell_of_heap j2 1; have s0 := Lib.cell_of_heap j3 0; have s1 := Lib.cell_of_heap j3 1; have s2 := Lib.cell_of_heap j3 2; have f0 := Lib.frozen_of_heap j3 0; have f1 := Lib.frozen_of_heap j3 1; have f2 := Lib.frozen_of_heap j3 2; clear hd2 hg2)
  obtain ⟨e0, e1, e2⟩ := put3D (R := w.heap.size + 1 + 1 + 1) s0 s1 s2 (.int .i64 (max (W : Int) ((u : Int) + V))) (.int .i64 (max (H : Int) ((v : Int) + G))) (.map (some c))
  have hgE := grown_set3 w2 (w.heap.size + 1 + 1 + 1) (.int .i64 (max (W : Int) ((u : Int) + V))) (.int .i64 (max (H : Int) ((v : Int) + G))) (.map (some c))
  have HDE := Lib.hid (HC2.out.kept hgE (by simp; omega))
  have HBE := Lib.hid ((Below.refl w.heap.size w).grown (HG2.out.andThen hgE (by intro j hj; cases hj; exact Or.inl (by omega))) (Nat.le_refl _) (by simp))
  have mX : max (W : Int) ((u : Int) + V) = (X : Int) := by omega
  have mY : max (H : Int) ((v : Int) + G) = (Y : Int) := by omega
  refine bodyPost_ret (v := .agg #[.int .i64 (max (W : Int) ((u : Int) + V)), .int .i64 (max (H : Int) ((v : Int) + G)), .map (some c)]) (by simp [results, Tryz.results59, go_sem, e0, e1, e2]) rfl ⟨⟨c, ?_, HDE.out⟩, HBE.out⟩
  rw [mX, mY]
end Go.Proofs.YtbabkcjnfdpafaaGreatDoor
