/- Chapter 7: the program's pictures with other dots, turned, mirrored. -/
import Derived.Test.YtmcdmacpgjkelaaDoorDuG
import Derived.Test.YtmcdmacpgjkelaaDoorDuE
import Derived.Test.YtmcdmacpgjkelaaDoorDuP
namespace Go.Proofs.YtmcdmacpgjkelaaDoor
open Go.ChangeShapes Go.WideShapes Go.ChangeAt Go.RowKit Go.Maps

theorem grown_undrew {V w : World} {row : Option Nat} (h : V.drew.grownBy w row) : V.grownBy w row := ⟨h.os, h.tape, h.output, h.size, h.block⟩
theorem withDots_any (W H : Int) (b c : Nat) (w : World) :
    Calls Tryd.prog 50 #[.agg #[.int .i64 W, .int .i64 H, .map (some b)], .map (some c)] w fun e w' => e = .returned (.agg #[.int .i64 W, .int .i64 H, .map (some c)]) ∧ Below w.heap.size w w' := by
  go_enter Tryd.func50, Tryd.ntmps50
  go_wp2
  exact bodyPost_ret (v := .agg #[.int .i64 W, .int .i64 H, .map (some c)]) (by simp [results, Tryd.results50, go_sem]) rfl ⟨rfl, ((Below.refl _ _).alloc (Nat.le_refl _) _).alloc (by simp) _⟩
theorem turned1_any (x y H : Int) (K : Nat) (w : World) (c1 : w.cell? ⟨K, 1, none⟩ = some (.int .i64 H)) (_ : 0 ≤ x) (_ : x < 100) (y0 : 0 ≤ y) (y1 : y < 100) (h0 : 0 ≤ H) (h1 : H ≤ 100) :
    Calls Tryd.prog 46 #[.agg #[.int .i64 x, .int .i64 y], .pointer (some ⟨K, 0, none⟩)] w fun e w' => e = .returned (.agg #[.int .i64 (H - 1 - y), .int .i64 x]) ∧ Below w.heap.size w w' := by
  have e1 : IntKind.i64.wrap (H - 1) = H - 1 := IntWalk.i64_in _ (by omega)
  have e2 : IntKind.i64.wrap (H - 1 - y) = H - 1 - y := IntWalk.i64_in _ (by omega)
  have c1a := fun o => cell_old c1 o
  have c1b := fun o p => cell_old (cell_old c1 o) p
  go_enter Tryd.func46, Tryd.ntmps46
  go_wp2
  exact bodyPost_ret (v := .agg #[.int .i64 (H - 1 - y), .int .i64 x]) (by simp [results, Tryd.results46, go_sem]) rfl ⟨rfl, ((Below.refl _ _).alloc (Nat.le_refl _) _).alloc (by simp) _⟩
theorem mirrored1_any (x y W : Int) (K : Nat) (w : World) (c1 : w.cell? ⟨K, 0, none⟩ = some (.int .i64 W)) (x0 : 0 ≤ x) (x1 : x < 100) (_ : 0 ≤ y) (_ : y < 100) (h0 : 0 ≤ W) (h1 : W ≤ 100) :
    Calls Tryd.prog 51 #[.agg #[.int .i64 x, .int .i64 y], .pointer (some ⟨K, 0, none⟩)] w fun e w' => e = .returned (.agg #[.int .i64 (W - 1 - x), .int .i64 y]) ∧ Below w.heap.size w w' := by
  have e1 : IntKind.i64.wrap (W - 1) = W - 1 := IntWalk.i64_in _ (by omega)
  have e2 : IntKind.i64.wrap (W - 1 - x) = W - 1 - x := IntWalk.i64_in _ (by omega)
  have c1a := fun o => cell_old c1 o
  have c1b := fun o p => cell_old (cell_old c1 o) p
  go_enter Tryd.func51, Tryd.ntmps51
  go_wp2
  exact bodyPost_ret (v := .agg #[.int .i64 (W - 1 - x), .int .i64 y]) (by simp [results, Tryd.results51, go_sem]) rfl ⟨rfl, ((Below.refl _ _).alloc (Nat.le_refl _) _).alloc (by simp) _⟩
/-- A change of pictures: what a function makes of one. -/
def Chg (F : Nat) (W H : Nat) (S : Int → Int → Bool) (W' H' : Nat) (S' : Int → Int → Bool) : Prop :=
  ∀ (V : World) (b : Nat), Ds V b S → Calls Tryd.prog F #[.agg #[.int .i64 (W : Int), .int .i64 (H : Int), .map (some b)]] V fun e V' => (∃ c, e = .returned (.agg #[.int .i64 (W' : Int), .int .i64 (H' : Int), .map (some c)]) ∧ Ds V' c S') ∧ Below V.heap.size V V'
theorem cf_turned1 : ∀ (args : Array Value) (V : World), (callFunc 46 args).run Tryd.prog V = .ok (.enter 46 args) V := fun _ _ => by kernel_rfl
set_option maxRecDepth 8000 in
set_option maxHeartbeats 1600000 in
theorem turned_chg (W H : Nat) (S : Int → Int → Bool) (hS : Bd W H S) (hW : W ≤ 50) (hH : H ≤ 50) : Chg 26 W H S H W (fun x y => S y ((H : Int) - 1 - x)) := by
  intro w b hd
  have hbl := hd.lt
  obtain ⟨V, hV⟩ : ∃ V, V = (w.alloc (.cells #[.int .i64 (W : Int), .int .i64 (H : Int), .map (some b)] 42)).alloc (.cells #[.int .i64 0, .int .i64 0, .map none] 42) := ⟨_, rfl⟩
  have k0 : V.heap[w.heap.size]? = some (.cells #[.int .i64 (W : Int), .int .i64 (H : Int), .map (some b)] 42) := by
    rw [hV, (MapKept.heap_alloc _ _).2 _ (by simp)]
    exact (MapKept.heap_alloc _ _).1
  have k1 : V.heap[w.heap.size + 1]? = some (.cells #[.int .i64 0, .int .i64 0, .map none] 42) := by
    have h := (MapKept.heap_alloc (w.alloc (.cells #[.int .i64 (W : Int), .int .i64 (H : Int), .map (some b)] 42)) (.cells #[.int .i64 0, .int .i64 0, .map none] 42)).1
    rw [show (w.alloc (.cells #[.int .i64 (W : Int), .int .i64 (H : Int), .map (some b)] 42)).heap.size = w.heap.size + 1 by simp] at h
    rw [hV]
    exact h
  have hgV : w.grownBy V none := by rw [hV]; exact (World.grownBy_alloc w _ none).andThen (World.grownBy_alloc _ _ none) (by simp)
  have HD := Lib.hid (hd.kept hgV (by simp))
  have HMV : Hid (Mv 46 w.heap.size S (fun _ y => (H : Int) - 1 - y) (fun x _ => x) (fun _ v => v) (fun u _ => (H : Int) - 1 - u) V.drew) := Lib.hid
    { cf := cf_turned1
      mv := fun x y W' hs hg => by
        have hb := hS x y hs
        exact turned1_any x y H w.heap.size W' (hg.cell (show V.cell? ⟨w.heap.size, 1, none⟩ = _ from Lib.cell_of_heap k0 1) (by simp)) (by omega) (by omega) (by omega) (by omega) (by omega) (by omega)
      inv := fun x y _ u v => by constructor <;> rintro ⟨rfl, rfl⟩ <;> constructor <;> omega
      bd := fun x y hs => by have hb := hS x y hs; omega }
  have q0 : V.cell? ⟨w.heap.size, 0, none⟩ = some (.int .i64 (W : Int)) := Lib.cell_of_heap k0 0
  have q1 : V.cell? ⟨w.heap.size, 1, none⟩ = some (.int .i64 (H : Int)) := Lib.cell_of_heap k0 1
  have q2 : V.cell? ⟨w.heap.size, 2, none⟩ = some (.map (some b)) := Lib.cell_of_heap k0 2
  have hzV : V.heap.size = w.heap.size + 2 := by rw [hV]; simp
  go_enter Tryd.func26, Tryd.ntmps26
  go_wp2
  rw [← hV]
  clear hV
  have z1 : w.heap.size + 1 < V.drew.heap.size := by show w.heap.size + 1 < V.heap.size; omega
  have z0 : w.heap.size < V.drew.heap.size := by show w.heap.size < V.heap.size; omega
  go_region_held3 (fun w' => w'.cell? ⟨w.heap.size, 0, none⟩ = some (.int .i64 (W : Int)) ∧ w'.cell? ⟨w.heap.size, 1, none⟩ = some (.int .i64 (H : Int)) ∧ w'.cell? ⟨w.heap.size, 2, none⟩ = some (.map (some b)))
    (first | with_reducible exact ⟨t0, t1, t2⟩ | with_reducible exact ⟨(grown_set3 w3 _ _ _ _).cell t0 (by simp), (grown_set3 w3 _ _ _ _).cell t1 (by simp), (grown_set3 w3 _ _ _ _).cell t2 (by simp)⟩ | exact ⟨q0, q1, q2⟩)
    (first | (go_at_call 47; refine (moved_any _ _ _ _ _ _ _ _ _ HD.out.drew HMV.out).mono ?_; rintro e w3 ⟨⟨c, rfl, hc, hd3⟩, hb3⟩; have t0 := (hb3.cell (p := ⟨w.heap.size, 0, none⟩) z0).trans q0; have t1 := (hb3.cell (p := ⟨w.heap.size, 1, none⟩) z0).trans q1; have t2 := (hb3.cell (p := ⟨w.heap.size, 2, none⟩) z0).trans q2; have i3 := (hb3.block (w.heap.size + 1) z1).trans k1; have s0 := Lib.cell_of_heap i3 0; have s1 := Lib.cell_of_heap i3 1; have s2 := Lib.cell_of_heap i3 2; have f0 := Lib.frozen_of_heap i3 0; have f1 := Lib.frozen_of_heap i3 1; have f2 := Lib.frozen_of_heap i3 2; have HDF := Lib.hid hd3; have HGF := Lib.hid (grown_undrew (grown_of_below hb3 (Nat.le_refl _))); have hcV : V.heap.size ≤ c := hc))
  obtain ⟨e0, e1, e2⟩ := put3D s0 s1 s2 (.int .i64 (H : Int)) (.int .i64 (W : Int)) (.map (some c))
  have hgE := grown_set3 w3 (w.heap.size + 1) (.int .i64 (H : Int)) (.int .i64 (W : Int)) (.map (some c))
  have HDE := Lib.hid (HDF.out.kept hgE (by simp; omega))
  have HBE := Lib.hid ((Below.refl w.heap.size w).grown ((hgV.andThen HGF.out (by simp)).andThen hgE (by intro j hj; cases hj; exact Or.inl (by omega))) (Nat.le_refl _) (by simp))
  clear hgE
  go_wp2
  exact bodyPost_ret (v := .agg #[.int .i64 (H : Int), .int .i64 (W : Int), .map (some c)]) (by simp [results, Tryd.results26, go_sem, e0, e1, e2]) rfl ⟨⟨c, rfl, HDE.out⟩, HBE.out⟩
theorem cf_mirrored1 : ∀ (args : Array Value) (V : World), (callFunc 51 args).run Tryd.prog V = .ok (.enter 51 args) V := fun _ _ => by kernel_rfl
set_option maxRecDepth 8000 in
set_option maxHeartbeats 1600000 in
theorem mirrored_chg (W H : Nat) (S : Int → Int → Bool) (hS : Bd W H S) (hW : W ≤ 50) (hH : H ≤ 50) : Chg 30 W H S W H (fun x y => S ((W : Int) - 1 - x) y) := by
  intro w b hd
  have hbl := hd.lt
  obtain ⟨V, hV⟩ : ∃ V, V = (w.alloc (.cells #[.int .i64 (W : Int), .int .i64 (H : Int), .map (some b)] 42)).alloc (.cells #[.int .i64 0, .int .i64 0, .map none] 42) := ⟨_, rfl⟩
  have k0 : V.heap[w.heap.size]? = some (.cells #[.int .i64 (W : Int), .int .i64 (H : Int), .map (some b)] 42) := by
    rw [hV, (MapKept.heap_alloc _ _).2 _ (by simp)]
    exact (MapKept.heap_alloc _ _).1
  have k1 : V.heap[w.heap.size + 1]? = some (.cells #[.int .i64 0, .int .i64 0, .map none] 42) := by
    have h := (MapKept.heap_alloc (w.alloc (.cells #[.int .i64 (W : Int), .int .i64 (H : Int), .map (some b)] 42)) (.cells #[.int .i64 0, .int .i64 0, .map none] 42)).1
    rw [show (w.alloc (.cells #[.int .i64 (W : Int), .int .i64 (H : Int), .map (some b)] 42)).heap.size = w.heap.size + 1 by simp] at h
    rw [hV]
    exact h
  have hgV : w.grownBy V none := by rw [hV]; exact (World.grownBy_alloc w _ none).andThen (World.grownBy_alloc _ _ none) (by simp)
  have HD := Lib.hid (hd.kept hgV (by simp))
  have HMV : Hid (Mv 51 w.heap.size S (fun x _ => (W : Int) - 1 - x) (fun _ y => y) (fun u _ => (W : Int) - 1 - u) (fun _ v => v) V.drew) := Lib.hid
    { cf := cf_mirrored1
      mv := fun x y W' hs hg => by
        have hb := hS x y hs
        exact mirrored1_any x y W w.heap.size W' (hg.cell (show V.cell? ⟨w.heap.size, 0, none⟩ = _ from Lib.cell_of_heap k0 0) (by simp)) (by omega) (by omega) (by omega) (by omega) (by omega) (by omega)
      inv := fun x y _ u v => by constructor <;> rintro ⟨rfl, rfl⟩ <;> constructor <;> omega
      bd := fun x y hs => by have hb := hS x y hs; omega }
  have q0 : V.cell? ⟨w.heap.size, 0, none⟩ = some (.int .i64 (W : Int)) := Lib.cell_of_heap k0 0
  have q1 : V.cell? ⟨w.heap.size, 1, none⟩ = some (.int .i64 (H : Int)) := Lib.cell_of_heap k0 1
  have q2 : V.cell? ⟨w.heap.size, 2, none⟩ = some (.map (some b)) := Lib.cell_of_heap k0 2
  have hzV : V.heap.size = w.heap.size + 2 := by rw [hV]; simp
  go_enter Tryd.func30, Tryd.ntmps30
  go_wp2
  rw [← hV]
  clear hV
  have z1 : w.heap.size + 1 < V.drew.heap.size := by show w.heap.size + 1 < V.heap.size; omega
  have z0 : w.heap.size < V.drew.heap.size := by show w.heap.size < V.heap.size; omega
  go_region_held3 (fun w' => w'.cell? ⟨w.heap.size, 0, none⟩ = some (.int .i64 (W : Int)) ∧ w'.cell? ⟨w.heap.size, 1, none⟩ = some (.int .i64 (H : Int)) ∧ w'.cell? ⟨w.heap.size, 2, none⟩ = some (.map (some b)))
    (first | with_reducible exact ⟨t0, t1, t2⟩ | with_reducible exact ⟨(grown_set3 w4 _ _ _ _).cell t0 (by simp), (grown_set3 w4 _ _ _ _).cell t1 (by simp), (grown_set3 w4 _ _ _ _).cell t2 (by simp)⟩ | exact ⟨q0, q1, q2⟩)
    (first
      | (go_at_call 47; refine (moved_any _ _ _ _ _ _ _ _ _ HD.out.drew HMV.out).mono ?_; rintro e w3 ⟨⟨c, rfl, hc, hd3⟩, hb3⟩; have t0 := (hb3.cell (p := ⟨w.heap.size, 0, none⟩) z0).trans q0; have t1 := (hb3.cell (p := ⟨w.heap.size, 1, none⟩) z0).trans q1; have t2 := (hb3.cell (p := ⟨w.heap.size, 2, none⟩) z0).trans q2; have i3 := (hb3.block (w.heap.size + 1) z1).trans k1; have HDF := Lib.hid hd3; have HGF := Lib.hid (grown_undrew (grown_of_below hb3 (Nat.le_refl _))); have hcV : V.heap.size ≤ c := hc; have hz3 : V.heap.size ≤ w3.heap.size := HGF.out.size)
      | (go_at_call 50; refine (withDots_any _ _ _ _ _).mono ?_; rintro e w4 ⟨rfl, hb4⟩; have HDF := Lib.hid (HDF.out.below hb4); have hg4 := grown_of_below hb4 (Nat.le_refl _); have HGF := Lib.hid (HGF.out.andThen hg4 (by simp)); have t0 := hg4.cell t0 (by simp); have t1 := hg4.cell t1 (by simp); have t2 := hg4.cell t2 (by simp); have i3 := grown_heap i3 hg4 (by simp); have s0 := Lib.cell_of_heap i3 0; have s1 := Lib.cell_of_heap i3 1; have s2 := Lib.cell_of_heap i3 2; have f0 := Lib.frozen_of_heap i3 0; have f1 := Lib.frozen_of_heap i3 1; have f2 := Lib.frozen_of_heap i3 2))
  obtain ⟨e0, e1, e2⟩ := put3D s0 s1 s2 (.int .i64 (W : Int)) (.int .i64 (H : Int)) (.map (some c))
  have hgE := grown_set3 w4 (w.heap.size + 1) (.int .i64 (W : Int)) (.int .i64 (H : Int)) (.map (some c))
  have HDE := Lib.hid (HDF.out.kept hgE (by simp; omega))
  have HBE := Lib.hid ((Below.refl w.heap.size w).grown ((hgV.andThen HGF.out (by simp)).andThen hgE (by intro j hj; cases hj; exact Or.inl (by omega))) (Nat.le_refl _) (by simp))
  clear hgE
  go_wp2
  exact bodyPost_ret (v := .agg #[.int .i64 (W : Int), .int .i64 (H : Int), .map (some c)]) (by simp [results, Tryd.results30, go_sem, e0, e1, e2]) rfl ⟨⟨c, rfl, HDE.out⟩, HBE.out⟩
end Go.Proofs.YtmcdmacpgjkelaaDoor
