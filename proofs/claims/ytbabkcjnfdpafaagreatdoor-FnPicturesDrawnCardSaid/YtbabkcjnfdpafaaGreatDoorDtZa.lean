/- Chapter 7: the law's marks as texts. -/
import Derived.Test.YtbabkcjnfdpafaaGreatDoorDtZ
import Derived.Laws.BytesArg
namespace Go.Proofs.YtbabkcjnfdpafaaGreatDoor
open Go.ChangeShapes Go.WideShapes Go.ChangeAt Go.RowKit

theorem conv_one7 (W : World) (b : Nat) (x : Int) (cap : Nat) (hc : W.cell? ⟨b, 0, none⟩ = some (.int .u8 x)) :
    (convert 22 9 (.slice (some ⟨b, 0, none⟩) 1 cap)).run Tryz.prog W = .ok (.string (bt [UInt8.ofNat x.toNat])) W := by
  have h := run_convert_bytes_arg (P := Tryz.prog) W 22 5 Tryz.underlying22 Tryz.underlying5 b 0 1 cap [x] rfl
    (fun i hi => by
      have : i = 0 := by omega
      subst this
      simpa using hc) 9 Tryz.underlying9
  rw [h]
  rfl
/-- A number's signs, ahead of others. -/
def sgs : Nat → Nat → List UInt8 → List UInt8
  | 0, _, l => l
  | f + 1, m, l => if m = 0 then l else sgs f (m / 10) (UInt8.ofNat (48 + m % 10) :: l)
theorem sgs_len (f : Nat) : ∀ m l, (sgs f m l).length ≤ f + l.length := by
  induction f with
  | zero => intro m l; simp [sgs]
  | succ f ih =>
    intro m l
    rw [sgs]
    split
    · omega
    · have := ih (m / 10) (UInt8.ofNat (48 + m % 10) :: l)
      rw [List.length_cons] at this
      omega
/-- The text of a mark. -/
def mkt (m : Nat) : List UInt8 := 109 :: sgs (m + 1) m []
end Go.Proofs.YtbabkcjnfdpafaaGreatDoor
