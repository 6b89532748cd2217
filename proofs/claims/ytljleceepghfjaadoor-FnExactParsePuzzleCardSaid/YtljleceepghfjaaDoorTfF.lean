/- Chapter 9: what the laws do with puzzles: their size, copies, comparisons, marks. -/
import Derived.Test.YtljleceepghfjaaDoorTfE
namespace Go.Proofs.YtljleceepghfjaaDoor
open Go.ChangeShapes Go.WideShapes Go.ChangeAt Go.RowKit

/-- A slice in blocks from lo up is not touched by a store below. -/
theorem own_set9 {w : World} {lo hi : Nat} {A : Option Addr} {cs : List Value} {p : Addr} {u : Value} (h : Own w lo hi A cs) (hp : p.block < lo) : Own (w.setCell p u) lo hi A cs := fun hn => by
  obtain ⟨g, o, e, h1, h2, hc⟩ := h hn
  refine ⟨g, o, e, h1, h2, fun j v hv => ?_⟩
  obtain ⟨h3, h4⟩ := hc j v hv
  rw [World.frozen?_setCell]
  exact ⟨(World.cell?_setCell_other w _ _ _ (fun e => by rw [e] at hp; simp at hp; omega)).trans h3, h4⟩
set_option maxHeartbeats 800000 in
theorem eqPuzzle_same (m : Int) (A B : Option Addr) (n c d l1 h1 l2 h2 : Nat) (xs : List Clu) (w : World) (hn : xs.length = n) (hm : n ≤ 1000000000)
    (ha : Own w l1 h1 A (c64 xs)) (hb : Own w l2 h2 B (c64 xs)) (hz1 : h1 ≤ w.heap.size) (hz2 : h2 ≤ w.heap.size) :
    Calls Tryd.prog 6 #[.agg #[.int .i64 m, .slice A n c], .agg #[.int .i64 m, .slice B n d]] w fun e w' => e = .returned (.bool true) ∧ Below w.heap.size w w' := by
  have hb2 : Below w.heap.size w ((w.alloc (.cells #[.int .i64 m, .slice A n c] 24)).alloc (.cells #[.int .i64 m, .slice B n d] 24)) := ((Below.refl _ _).alloc (Nat.le_refl _) _).alloc (by simp) _
  have HE := Lib.hid (eqClueS_same A B n c d l1 h1 l2 h2 xs _ hn hm (ha.below hb2 hz1) (hb.below hb2 hz2) (Nat.le_trans hz1 hb2.size) (Nat.le_trans hz2 hb2.size))
  have HB := Lib.hid hb2
  clear hb2 ha hb
  go_enter Tryd.func6, Tryd.ntmps6
  go_wp2_with (go_at_call 16; refine HE.out.mono ?_; rintro e w' ⟨rfl, hb3⟩)
  go_ret
  exact ⟨rfl, HB.out.trans (hb3.mono HB.out.size)⟩
set_option maxHeartbeats 800000 in
theorem markPuzzle_any (p : Int) (A : Option Addr) (n c lo hi : Nat) (cs : List Value) (m : Int) (w : World) (hn : cs.length = n * 3) (hm : n ≤ 1000000000) (m0 : 0 ≤ m) (m1 : m ≤ 1000000000)
    (ha : Own w lo hi A cs) (hlo : lo ≤ w.heap.size) (hhi : hi ≤ w.heap.size) :
    Calls Tryd.prog 7 #[.agg #[.int .i64 p, .slice A n c], .int .i64 m] w fun e w' => e = .returned (.int .i64 (m + 3 * n)) ∧ Own w' lo hi A (i64s (marks m (n * 3))) ∧ Below lo w w' ∧ ∀ l h B ys, Own w l h B ys → h ≤ w.heap.size → (h ≤ lo ∨ hi ≤ l) → Own w' l h B ys := by
  have hb2 : Below w.heap.size w (w.alloc (.cells #[.int .i64 p, .slice A n c] 24)) := (Below.refl _ _).alloc (Nat.le_refl _) _
  have HE := Lib.hid (markClueS_any A n c lo hi cs m _ hn hm m0 m1 (ha.below hb2 hhi))
  have HB : Hid (Below lo w (w.alloc (.cells #[.int .i64 p, .slice A n c] 24))) := Lib.hid (hb2.mono hlo)
  have HK := Lib.hid fun l h B ys (ho : Own w l h B ys) (hh : h ≤ w.heap.size) => ho.below hb2 hh
  clear hb2 ha
  go_enter Tryd.func7, Tryd.ntmps7
  go_wp2_with (go_at_call 17; refine HE.out.mono ?_; rintro e w' ⟨rfl, ho, hb3, hf3⟩; have HO := Lib.hid ho; have HB3 := Lib.hid hb3; have HF3 := Lib.hid hf3; clear ho hb3 hf3)
  go_ret
  exact ⟨rfl, HO.out, HB.out.trans HB3.out, fun l h B ys ho hh hd => (HK.out l h B ys ho hh).far8 HF3.out hd⟩
set_option maxHeartbeats 800000 in
theorem heldPuzzle_any (p : Int) (A : Option Addr) (n c lo hi : Nat) (m : Int) (w : World) (hm : n ≤ 1000000000) (m0 : 0 ≤ m) (m1 : m ≤ 1000000000)
    (ha : Own w lo hi A (i64s (marks m (n * 3)))) (hhi : hi ≤ w.heap.size) :
    Calls Tryd.prog 8 #[.agg #[.int .i64 p, .slice A n c], .int .i64 m] w fun e w' => e = .returned (.int .i64 (m + 3 * n)) ∧ Below w.heap.size w w' := by
  have hb2 : Below w.heap.size w (w.alloc (.cells #[.int .i64 p, .slice A n c] 24)) := (Below.refl _ _).alloc (Nat.le_refl _) _
  have HE := Lib.hid (heldClueS_any A n c lo hi m _ hm m0 m1 (ha.below hb2 hhi))
  have HB := Lib.hid hb2
  clear hb2 ha
  go_enter Tryd.func8, Tryd.ntmps8
  go_wp2_with (go_at_call 18; refine HE.out.mono ?_; rintro e w' ⟨rfl, rfl⟩)
  go_ret
  exact ⟨rfl, HB.out⟩
end Go.Proofs.YtljleceepghfjaaDoor
