/- Chapter 7: the specification's places beside one. -/
import Derived.Test.YtbcgidgjdedkiaaDtH
namespace Go.Proofs.Ytbcgidgjdedkiaa
open Go.ChangeShapes Go.WideShapes Go.ChangeAt Go.RowKit

theorem infoInt7 : (Try.prog.info? 3).map (fun i => (i.zero, i.size, i.bytes)) = some (some (.int .i64 0), 1, 8) := by kernel_rfl
/-- Places as numbers. -/
def ofN (xs : List Nat) : List Int := xs.map fun (x : Nat) => (x : Int)
/-- A row of the call's own that grows number by number. -/
structure Grw (w0 w : World) (v : Value) (xs : List Int) : Prop where
  row : w.ownsRow w0.heap.size 3 1 v xs.length (i64s xs)
  below : Below w0.heap.size w0 w
theorem Grw.cast {w0 w : World} {v : Value} {xs ys : List Int} (h : Grw w0 w v xs) (e : xs = ys) : Grw w0 w v ys := e ▸ h
theorem grw_nil (w : World) : Grw w w (.slice none 0 0) [] := ⟨World.ownsRow_nil _ _ _ _, Below.refl _ _⟩
end Go.Proofs.Ytbcgidgjdedkiaa
