/- The law FnExactFirstDesk, walked. No condition. -/
import Derived.Test.YtppdjjdejggjaaaChecked
import Derived.Test.YtppdjjdejggjaaaNum
import Derived.Lib.Hide
namespace Go.Proofs.Ytppdjjdejggjaaa
open Go.RowKit
theorem spec_FirstDesk_any (w : World) : Calls Try.prog 14 #[] w fun e w' => e = .returned (.agg #[.int .i64 3, .string ⟨#[111]⟩]) ∧ Below w.heap.size w w' := by
  go_enter Try.func14, Try.ntmps14
  go_wp2
  exact bodyPost_ret (v := .agg #[.int .i64 3, .string ⟨#[111]⟩]) (by simp [results, Try.results14, go_sem]) rfl ⟨rfl, (Below.refl _ _).alloc (Nat.le_refl _) _⟩
theorem impl_FirstDesk_any (w : World) : Calls Try.prog 15 #[] w fun e w' => e = .returned (.agg #[.int .i64 3, .string ⟨#[111]⟩]) ∧ Below w.heap.size w w' := by
  go_enter Try.func15, Try.ntmps15
  go_wp2
  exact bodyPost_ret (v := .agg #[.int .i64 3, .string ⟨#[111]⟩]) (by simp [results, Try.results15, go_sem]) rfl ⟨rfl, (Below.refl _ _).alloc (Nat.le_refl _) _⟩
theorem eqDesk_first (w : World) : Calls Try.prog 16 #[.agg #[.int .i64 3, .string ⟨#[111]⟩], .agg #[.int .i64 3, .string ⟨#[111]⟩]] w fun e w' => e = .returned (.bool true) ∧ Below w.heap.size w w' := by
  go_enter Try.func16, Try.ntmps16
  go_wp2
  go_ret
  exact ⟨rfl, ((Below.refl _ _).alloc (Nat.le_refl _) _).alloc (by simp) _⟩
abbrev dsk : Obj := .cells #[.int .i64 3, .string ⟨#[111]⟩] 23
theorem walk_FirstDesk (w : World) :
    Calls Try.prog 3 #[] w fun e w' => e = .returned (.bool true) ∧ Below w.heap.size w w' := by
  go_enter Try.func3, Try.ntmps3
  go_wp2_with (first
    | (go_at_call 14; refine (spec_FirstDesk_any _).mono ?_; rintro e w1 ⟨rfl, hb1⟩)
    | (go_at_call 15; refine (impl_FirstDesk_any _).mono ?_; rintro e w2 ⟨rfl, hb2⟩
       have hlt : w1.heap.size < w2.heap.size := by have := hb2.size; simp at this; omega
       have q0 : (w2.alloc dsk).cell? ⟨w1.heap.size, 0, none⟩ = some (.int .i64 3) := by
         rw [((Below.refl w2.heap.size w2).alloc (Nat.le_refl _) dsk).cell (p := ⟨w1.heap.size, 0, none⟩) hlt, hb2.cell (p := ⟨w1.heap.size, 0, none⟩) (by simp)]
         simp [go_sem]
       have q1 : (w2.alloc dsk).cell? ⟨w1.heap.size, 1, none⟩ = some (.string ⟨#[111]⟩) := by
         rw [((Below.refl w2.heap.size w2).alloc (Nat.le_refl _) dsk).cell (p := ⟨w1.heap.size, 1, none⟩) hlt, hb2.cell (p := ⟨w1.heap.size, 1, none⟩) (by simp)]
         simp [go_sem]
       have hb3 : Below w.heap.size w (w2.alloc dsk) := (((hb1.alloc hb1.size _).trans (hb2.mono (by have := hb1.size; simp; omega))).alloc (by have := hb1.size; omega) _)
       have HL := Lib.hid hlt
       clear hlt hb2)
    | (go_at_call 16; refine (eqDesk_first _).mono ?_; rintro e w3 ⟨rfl, hb4⟩))
  go_ret
  exact ⟨rfl, hb3.trans (hb4.mono hb3.size)⟩
end Go.Proofs.Ytppdjjdejggjaaa
