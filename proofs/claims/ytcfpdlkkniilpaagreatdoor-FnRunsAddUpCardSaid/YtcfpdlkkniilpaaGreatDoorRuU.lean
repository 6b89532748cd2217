/- Chapter 5: the run of the same sum that begins at 0 or below. -/
import Derived.Test.YtcfpdlkkniilpaaGreatDoorRuT
import Derived.Test.YtcfpdlkkniilpaaGreatDoorRuF
namespace Go.Proofs.YtcfpdlkkniilpaaGreatDoor
open Go.ChangeShapes Go.WideShapes Go.ChangeAt Go.RowKit Go.Shelf Go.Sort

set_option maxHeartbeats 1600000 in
theorem withLess_any (f l : Int) (w : World) (f1 : 0 ≤ f) (f2 : f ≤ 10000000) (l1 : 0 ≤ l) (l2 : l ≤ 10000000) :
    Calls Tryz.prog 37 #[.agg #[.int .i64 f, .int .i64 l]] w fun e w' => e = .returned (.agg #[.int .i64 (1 - f), .int .i64 (f + l - 1 + f)]) ∧ Below w.heap.size w w' := by
  go_enter Tryz.func37, Tryz.ntmps37
  go_wp2_with fail
  have q1 : IntKind.i64.wrap (1 - f) = 1 - f := IntWalk.i64_in _ (by omega)
  have q2 : IntKind.i64.wrap (f + l - 1 + f) = f + l - 1 + f := IntWalk.i64_in _ (by omega)
  have c0 : ((w.alloc (.cells #[.int .i64 f, .int .i64 l] 31)).alloc (.cells #[.int .i64 0, .int .i64 0] 31)).cell? ⟨w.heap.size, 0, none⟩ = some (.int .i64 f) := by simp [go_sem]
  have c1 : ((w.alloc (.cells #[.int .i64 f, .int .i64 l] 31)).alloc (.cells #[.int .i64 0, .int .i64 0] 31)).cell? ⟨w.heap.size, 1, none⟩ = some (.int .i64 l) := by simp [go_sem]
  have r0 : ((w.alloc (.cells #[.int .i64 f, .int .i64 l] 31)).alloc (.cells #[.int .i64 0, .int .i64 0] 31)).cell? ⟨w.heap.size + 1, 0, none⟩ = some (.int .i64 0) := by simp [go_sem]
  have r1 : ((w.alloc (.cells #[.int .i64 f, .int .i64 l] 31)).alloc (.cells #[.int .i64 0, .int .i64 0] 31)).cell? ⟨w.heap.size + 1, 1, none⟩ = some (.int .i64 0) := by simp [go_sem]
  have g0 : ((w.alloc (.cells #[.int .i64 f, .int .i64 l] 31)).alloc (.cells #[.int .i64 0, .int .i64 0] 31)).frozen? ⟨w.heap.size + 1, 0, none⟩ = false := by simp [go_sem]
  have g1 : ((w.alloc (.cells #[.int .i64 f, .int .i64 l] 31)).alloc (.cells #[.int .i64 0, .int .i64 0] 31)).frozen? ⟨w.heap.size + 1, 1, none⟩ = false := by simp [go_sem]
  have hz : w.heap.size + 1 < ((w.alloc (.cells #[.int .i64 f, .int .i64 l] 31)).alloc (.cells #[.int .i64 0, .int .i64 0] 31)).heap.size := by simp
  have hb : Below w.heap.size w ((w.alloc (.cells #[.int .i64 f, .int .i64 l] 31)).alloc (.cells #[.int .i64 0, .int .i64 0] 31)) := ((Below.refl _ _).alloc (Nat.le_refl _) _).alloc (by simp) _
  generalize (w.alloc (.cells #[.int .i64 f, .int .i64 l] 31)).alloc (.cells #[.int .i64 0, .int .i64 0] 31) = W at *
  have HB := Lib.hid hb
  obtain ⟨R, hR⟩ : ∃ R, R = w.heap.size := ⟨_, rfl⟩
  rw [← hR] at c0 c1 r0 r1 g0 g1 hz ⊢
  have HRR := Lib.hid hR
  clear hb hR
  go_region_with (go_at_call 40; refine (last_below _ _ _ (by omega) (by omega) (by omega) (by omega)).mono ?_; rintro e w1 ⟨rfl, hb1⟩; have d0 := (hb1.cell (p := ⟨R, 0, none⟩) (by simp; omega)).trans c0; have d1 := (hb1.cell (p := ⟨R, 1, none⟩) (by simp; omega)).trans c1; have s0 := (hb1.cell (p := ⟨R + 1, 0, none⟩) (by simpa using hz)).trans r0; have s1 := (hb1.cell (p := ⟨R + 1, 1, none⟩) (by simpa using hz)).trans r1; have h0 := (hb1.frozen (p := ⟨R + 1, 0, none⟩) (by simpa using hz)).trans g0; have h1 := (hb1.frozen (p := ⟨R + 1, 1, none⟩) (by simpa using hz)).trans g1)
  all_goals
    have hB : Below w.heap.size w w1 := HB.out.drew.trans (hb1.mono (by have := HB.out.size; simpa using this))
    have t0 : ((w1.setCell ⟨R + 1, 0, none⟩ (.int .i64 (1 - f))).setCell ⟨R + 1, 1, none⟩ (.int .i64 (f + l - 1 + f))).cell? ⟨R + 1, 0, none⟩ = some (.int .i64 (1 - f)) := by
      rw [World.cell?_setCell_other _ _ _ _ (by intro e; simp only [Addr.mk.injEq] at e; omega)]
      exact World.cell?_setCell_same _ _ _ s0
    have t1 : ((w1.setCell ⟨R + 1, 0, none⟩ (.int .i64 (1 - f))).setCell ⟨R + 1, 1, none⟩ (.int .i64 (f + l - 1 + f))).cell? ⟨R + 1, 1, none⟩ = some (.int .i64 (f + l - 1 + f)) :=
      World.cell?_setCell_same _ _ _ ((World.cell?_setCell_other _ _ _ _ (by intro e; simp only [Addr.mk.injEq] at e; omega)).trans s1)
    go_wp2
    exact bodyPost_ret (v := .agg #[.int .i64 (1 - f), .int .i64 (f + l - 1 + f)]) (by simp [results, Tryz.results37, go_sem, t0, t1]) rfl ⟨rfl, (hB.setCell (by have := HRR.out; simp; omega) _).setCell (by have := HRR.out; simp; omega) _⟩
end Go.Proofs.YtcfpdlkkniilpaaGreatDoor
