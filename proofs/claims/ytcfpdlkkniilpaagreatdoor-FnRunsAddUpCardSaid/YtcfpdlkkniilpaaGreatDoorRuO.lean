/- Chapter 5: powers of 2 by their binary texts: the program's test. -/
import Derived.Test.YtcfpdlkkniilpaaGreatDoorRuR
namespace Go.Proofs.YtcfpdlkkniilpaaGreatDoor
open Go.ChangeShapes Go.WideShapes Go.ChangeAt Go.RowKit

/-- The ones among the first signs. -/
def ones (l : List UInt8) (n : Nat) : Nat := (l.take n).count 49
theorem ones_zero (l : List UInt8) : ones l 0 = 0 := rfl
theorem ones_all (l : List UInt8) (n : Nat) (h : l.length ≤ n) : ones l n = l.count 49 := by rw [ones, List.take_of_length_le h]
theorem ones_step (l : List UInt8) (n : Nat) (h : n < l.length) : ones l (n + 1) = ones l n + if l[n] = 49 then 1 else 0 := by
  rw [ones, List.take_succ_eq_append_getElem h, List.count_append, ones]
  congr 1
  rw [List.count_singleton]
  simp
theorem ones_le (l : List UInt8) (n : Nat) : ones l n ≤ n := by
  rw [ones]
  have h1 := List.count_le_length (a := (49 : UInt8)) (l := l.take n)
  have h2 := List.length_take_le n l
  omega

set_option maxHeartbeats 800000 in
theorem isPower_any (u : Int) (w : World) (h0 : 0 ≤ u) (hu : u < 8192) (hT : TabOne w) (hg : 2 < w.heap.size) :
    Calls Tryz.prog 45 #[.int .i64 u] w fun e w' => e = .returned (.bool (decide (pcf 13 u.toNat = 1))) ∧ Below w.heap.size w w' := by
  go_enter Tryz.func45, Tryz.ntmps45
  go_wp2_with (go_at_call 60; refine (fmt_two u _ h0 hu hT hg).mono ?_; rintro e w1 ⟨S, rfl, hS, hb⟩)
  obtain ⟨l, rfl, hd, hcn, hl65⟩ := hS
  have hsz : (ByteArray.mk l.toArray).size = l.length := by simp [ByteArray.size]
  generalize hSS : ByteArray.mk l.toArray = S at *
  have HC := Lib.hid hcn
  have HD := Lib.hid hd
  clear hcn hd
  go_loopw [3] (fun n w' => ∃ pos : Nat, pos ≤ l.length ∧ n = .int .i64 (ones l pos : Nat) ∧ w' = w1.iter S pos) (fun _ w' => S.size - w'.iterPos w1.heap.size)
  case atStart => exact ⟨0, by omega, rfl, rfl⟩
  case round =>
    obtain ⟨pos, hpos, rfl, rfl⟩ := hrel
    by_cases hp : pos < l.length
    · have hps : pos < S.size := by omega
      have hat : S[pos]'hps = l[pos] := by subst hSS; rfl
      have hst := Lib.hid (ones_step l pos hp)
      have hle := ones_le l pos
      rcases HD.out _ (List.getElem_mem hp) with h8 | h9
      · have hnx : ∀ ty, (Instr.next (.pointer (some ⟨w1.heap.size, 0, none⟩)) true ty).run Tryz.prog (w1.iter S pos) = .ok (.tuple #[.bool true, .int .i64 pos, .int .i32 48]) (w1.iter S (pos + 1)) := fun ty => by
          rw [run_next_ascii w1 S pos ty hps (by rw [hat, h8]; decide), hat, h8]
          rfl
        have H8 := Lib.hid h8
        clear h8 hat
        go_wp2
        go_roundw
        case rel =>
          have k := hst.out
          rw [H8.out, if_neg (by decide)] at k
          exact ⟨pos + 1, by omega, by rw [k]; rfl, rfl⟩
        case measure => simp; omega
      · have hnx : ∀ ty, (Instr.next (.pointer (some ⟨w1.heap.size, 0, none⟩)) true ty).run Tryz.prog (w1.iter S pos) = .ok (.tuple #[.bool true, .int .i64 pos, .int .i32 49]) (w1.iter S (pos + 1)) := fun ty => by
          rw [run_next_ascii w1 S pos ty hps (by rw [hat, h9]; decide), hat, h9]
          rfl
        have H9 := Lib.hid h9
        clear h9 hat
        go_wp2
        go_roundw
        case rel =>
          have k := hst.out
          rw [H9.out, if_pos rfl] at k
          exact ⟨pos + 1, by omega, by rw [k]; simp, rfl⟩
        case measure => simp; omega
    · have hnx : ∀ ty, (Instr.next (.pointer (some ⟨w1.heap.size, 0, none⟩)) true ty).run Tryz.prog (w1.iter S pos) = _ := fun ty => run_next_end w1 S pos ty (by omega)
      have hoa := ones_all l pos (by omega)
      rw [hoa]
      have hc1 : ((l.count 49 : Nat) : Int) = (pcf 13 u.toNat : Nat) := by rw [HC.out]
      rw [hc1]
      clear hoa hc1
      go_wp2
      go_ret
      refine ⟨?_, hb.alloc hb.size _⟩
      show Ending.returned (Value.bool (((pcf 13 u.toNat : Nat) : Int) == 1)) = _
      congr 2
      rw [Bool.eq_iff_iff, beq_iff_eq, decide_eq_true_iff]
      omega
end Go.Proofs.YtcfpdlkkniilpaaGreatDoor
