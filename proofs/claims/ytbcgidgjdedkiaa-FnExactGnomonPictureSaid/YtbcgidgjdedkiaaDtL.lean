/- Chapter 7: the specification's pictures turned, mirrored, with other dots, their borders. -/
import Derived.Test.YtbcgidgjdedkiaaDtK
namespace Go.Proofs.Ytbcgidgjdedkiaa
open Go.ChangeShapes Go.WideShapes Go.ChangeAt Go.RowKit

theorem below_weak {j k : Nat} {a b : World} (h : Below k a b) (hj : j ≤ k) : Below j a b := ⟨h.os, h.tape, h.output, h.size, fun i hi => h.block i (by omega)⟩
theorem make_of {W H n c g lo : Nat} {d : Nat → Bool} {w : World} (hm : Marks w lo g n c d) (hn : n = W * H) (w0 : 1 ≤ W) (w1 : W ≤ 24) (h0 : 1 ≤ H) (h1 : H ≤ 24) :
    Calls Try.prog 31 #[.int .i64 (W : Int), .int .i64 (H : Int), .slice (some ⟨g, 0, none⟩) n c] w fun e w' => e = .returned (.string (bt (gText W H d))) ∧ Below w.heap.size w w' :=
  doMake_any W H n c g d w hn w0 (by omega) h0 (by omega) hm.lt.2 fun i hi => hm.cell hi
theorem text_of {W H c g lo : Nat} {d : Nat → Bool} {w : World} (hr : RowsAt w lo g H (gRows W H d)) (hc : H ≤ c) (w1 : W ≤ 24) (h0 : 1 ≤ H) (h1 : H ≤ 50) :
    Calls Try.prog 37 #[.slice (some ⟨g, 0, none⟩) H c] w fun e w' => e = .returned (.string (bt (gText W H d))) ∧ w = w' :=
  doText_any g 0 H c (gRows W H d) w (gRows_len W H d).symm h0 (by omega) hc (fun r hr => by obtain ⟨y, _, rfl⟩ := List.mem_map.1 hr; rw [gRow_len]; omega) (fun j hj => by rw [Nat.zero_add]; exact hr.cell j hj)
theorem rows_rev (W H : Nat) (d : Nat → Bool) (j : Nat) : ((gRows W H d).getD j []).length ≤ 100 ∨ 100 < W := by
  by_cases h : j < H
  · rw [gRows_at W H d j h, gRow_len]
    omega
  · left
    rw [List.getD, List.getElem?_eq_none (by rw [gRows_len]; omega)]
    simp
/-- The other dots among the first a places. -/
def pod (d : Nat → Bool) (a : Nat) (i : Nat) : Bool := if i < a then !d i else d i
theorem pod_zero (d : Nat → Bool) (i : Nat) : d i = pod d 0 i := by simp [pod]
theorem pod_at (d : Nat → Bool) (a : Nat) : pod d a a = d a := by simp [pod]
theorem pod_succ (d : Nat → Bool) (a i : Nat) : updB (pod d a) a (!d a) i = pod d (a + 1) i := by
  unfold updB pod
  by_cases e : i = a
  · subst e
    rw [if_pos rfl, if_pos (by omega)]
  · rw [if_neg e]
    have : (i < a) ↔ (i < a + 1) := by omega
    simp only [this]
theorem pod_all (d : Nat → Bool) (n i : Nat) (h : i < n) : pod d n i = oD d i := by simp [pod, oD, h]
end Go.Proofs.Ytbcgidgjdedkiaa
