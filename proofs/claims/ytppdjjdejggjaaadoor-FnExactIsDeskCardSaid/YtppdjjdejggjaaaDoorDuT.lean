/- Chapter 7: the program's pictures with other dots, turned, mirrored. -/
import Derived.Test.YtppdjjdejggjaaaDoorDuG
import Derived.Test.YtppdjjdejggjaaaDoorDuE
import Derived.Test.YtppdjjdejggjaaaDoorDuP
namespace Go.Proofs.YtppdjjdejggjaaaDoor
open Go.ChangeShapes Go.WideShapes Go.ChangeAt Go.RowKit Go.Maps

theorem grown_undrew {V w : World} {row : Option Nat} (h : V.drew.grownBy w row) : V.grownBy w row := ⟨h.os, h.tape, h.output, h.size, h.block⟩
/-- A change of pictures: what a function makes of one. -/
def Chg (F : Nat) (W H : Nat) (S : Int → Int → Bool) (W' H' : Nat) (S' : Int → Int → Bool) : Prop :=
  ∀ (V : World) (b : Nat), Ds V b S → Calls Tryd.prog F #[.agg #[.int .i64 (W : Int), .int .i64 (H : Int), .map (some b)]] V fun e V' => (∃ c, e = .returned (.agg #[.int .i64 (W' : Int), .int .i64 (H' : Int), .map (some c)]) ∧ Ds V' c S') ∧ Below V.heap.size V V'
end Go.Proofs.YtppdjjdejggjaaaDoor
