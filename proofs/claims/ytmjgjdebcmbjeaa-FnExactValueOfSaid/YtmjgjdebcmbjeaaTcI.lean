/- Chapter 8, the program: the door through which the numbers of a row come out. -/
import Derived.Test.YtmjgjdebcmbjeaaTcH
import Derived.Recover
import Derived.Laws.Pointers
namespace Go.Proofs.Ytmjgjdebcmbjeaa
open Go.RowKit

theorem assert_long (a b : Int) (w : World) : (Instr.typeAssert (.iface 59 (.agg #[.int .u64 a, .int .u64 b])) 20 59 true).run Try.prog w = .ok (.tuple #[.agg #[.int .u64 a, .int .u64 b], .bool true]) w := by kernel_rfl
theorem assert_none (w : World) : (Instr.typeAssert .nilIface 20 59 true).run Try.prog w = .ok (.tuple #[.agg #[.int .u64 0, .int .u64 0], .bool false]) w := by kernel_rfl
set_option maxRecDepth 8000 in
set_option maxHeartbeats 1600000 in
/-- The closure of the door where a number was raised: what is handed back is nothing. -/
theorem door_raised (B : Nat) (v : Int) (x y : Value) (w : World) (c0 : w.cell? ⟨B, 0, none⟩ = some x) (c1 : w.cell? ⟨B + 1, 0, none⟩ = some y)
    (z0 : w.frozen? ⟨B, 0, none⟩ = false) (z1 : w.frozen? ⟨B + 1, 0, none⟩ = false) :
    CallsD Try.prog 100 #[.pointer (some ⟨B, 0, none⟩), .pointer (some ⟨B + 1, 0, none⟩)] (.panicking ({ v := .iface 59 (lng v), recovered := false } :: [])) w fun e u' w' =>
      e = .returned (.tuple #[]) ∧ u' = .panicking ({ v := .iface 59 (lng v), recovered := true } :: []) ∧ w' = ((w.alloc (.cells #[.int .u64 (hi8 v), .int .u64 (lo8 v)] 59)).setCell ⟨B, 0, none⟩ (.slice none 0 0)).setCell ⟨B + 1, 0, none⟩ (.bool false) := by
  refine callsD_of_wpS Try.func100 rfl fun c₀ cs hu => ?_
  unfold lng at *
  generalize hi8 v = a at *
  generalize lo8 v = b at *
  have ht := assert_long a b
  have hb0 : B ≠ w.heap.size := Nat.ne_of_lt (World.block_lt_of_cell? _ _ c0)
  have hb1 : B + 1 ≠ w.heap.size := Nat.ne_of_lt (World.block_lt_of_cell? _ _ c1)
  have k0 := (World.cell?_alloc_old w (.cells #[.int .u64 a, .int .u64 b] 59) ⟨B, 0, none⟩ hb0).trans c0
  have k1 := (World.cell?_alloc_old w (.cells #[.int .u64 a, .int .u64 b] 59) ⟨B + 1, 0, none⟩ hb1).trans c1
  have j0 := (World.frozen?_alloc_old w (.cells #[.int .u64 a, .int .u64 b] 59) ⟨B, 0, none⟩ hb0).trans z0
  have j1 := (World.frozen?_alloc_old w (.cells #[.int .u64 a, .int .u64 b] 59) ⟨B + 1, 0, none⟩ hb1).trans z1
  apply wpS_seq
  apply wpS_region
  simp [wpOpsS, go_sem, recoverD, hu, Try.ntmps100, Exit.thenS, ht, Array.replicate]
  generalize (w.alloc (.cells #[.int .u64 a, .int .u64 b] 59)) = w1 at *
  apply wpS_seq
  apply wpS_region
  simp [wpOpsS, go_sem, Exit.thenS]
  refine wpS_cond (t := true) (by simp [Act.eval]) ?_
  simp only [if_true]
  apply wpS_region
  simp [wpOpsS, go_sem, k0, k1, j0, j1, bodyPostS, results, Try.results100]
theorem door_quiet (B : Nat) (w : World) :
    CallsD Try.prog 100 #[.pointer (some ⟨B, 0, none⟩), .pointer (some ⟨B + 1, 0, none⟩)] .returning w fun e u' w' =>
      e = .returned (.tuple #[]) ∧ u' = .returning ∧ w' = w.alloc (.cells #[.int .u64 0, .int .u64 0] 59) := by
  refine callsD_of_wpS Try.func100 rfl fun c₀ cs hu => ?_
  have ht := assert_none
  apply wpS_seq
  apply wpS_region
  simp [wpOpsS, go_sem, recoverD, hu, Try.ntmps100, Exit.thenS, ht, Array.replicate]
  apply wpS_seq
  apply wpS_region
  simp [wpOpsS, go_sem, Exit.thenS]
  refine wpS_cond (t := false) (by simp [Act.eval]) ?_
  simp only [Bool.false_eq_true, if_false]
  refine wpS_of_wp (wp_skip ?_)
  cases c₀
  simp_all [bodyPostS, results, Try.results100]
end Go.Proofs.Ytmjgjdebcmbjeaa
