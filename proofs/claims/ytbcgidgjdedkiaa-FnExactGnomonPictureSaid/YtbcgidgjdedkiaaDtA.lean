/- Chapter 7: the specification's parts of a text. -/
import Derived.Test.YtbcgidgjdedkiaaDtQ
import Derived.Test.YtbcgidgjdedkiaaRuA
import Derived.Test.YtbcgidgjdedkiaaOwn
import Derived.Lib.Hide
namespace Go.Proofs.Ytbcgidgjdedkiaa
open Go.ChangeShapes Go.WideShapes Go.ChangeAt Go.RowKit

theorem infoStr : (Try.prog.info? 9).map (fun i => (i.zero, i.size, i.bytes)) = some (some (.string ⟨#[]⟩), 1, 16) := by kernel_rfl
/-- Texts as cells. -/
def strs (xs : List (List UInt8)) : List Value := xs.map fun x => .string (bt x)
theorem strs_app (xs : List (List UInt8)) (x : List UInt8) : strs xs ++ [.string (bt x)] = strs (xs ++ [x]) := by simp [strs]
theorem strs_len (xs : List (List UInt8)) : (strs xs).length = xs.length := by simp [strs]
theorem ba_get (s : ByteArray) (k : Nat) (h : k < s.size) : s.data.toList[k]? = some s[k] := by
  have : k < s.data.toList.length := by simpa using h
  rw [List.getElem?_eq_getElem this]
  simp [ByteArray.getElem_eq_getElem_data]
theorem ba_cut (s : ByteArray) (i j : Nat) : s.extract i j = bt ((s.data.toList.take j).drop i) := by
  have h := bt_cut s.data.toList i j
  rw [← bt_of] at h
  exact h
end Go.Proofs.Ytbcgidgjdedkiaa
