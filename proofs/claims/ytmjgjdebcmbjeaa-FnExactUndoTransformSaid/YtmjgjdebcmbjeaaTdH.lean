/- Chapter 8: the law UndoTransform. -/
import Derived.Test.YtmjgjdebcmbjeaaTcL
import Derived.Test.YtmjgjdebcmbjeaaTbZ
import Derived.Test.YtmjgjdebcmbjeaaTbG
import Derived.Test.YtmjgjdebcmbjeaaLfUndoTransform
namespace Go.Proofs.Ytmjgjdebcmbjeaa
open Go.ChangeShapes Go.WideShapes Go.ChangeAt Go.RowKit

theorem walk_UndoTransform (A : Option Addr) (n c : Nat) (xs : List Int) (w : World) (hn : xs.length = n) (hl : n ≤ 9223372036854775807) (ha : Rd w w.heap.size A (i64s xs)) :
    Calls Try.prog 14 #[.slice A n c] w fun e w' => e = .returned (.bool true) ∧ Below w.heap.size w w' := by
  by_cases hm : n ≤ 1048576
  · cases h : gd8 xs with
    | false => exact lawLL_UndoTransform A n c xs [] false w hn hm (by simp) ha (fun B d lo W hO => spec_UndoTransform_no B n d lo xs W hn hm hO h) (fun B d lo W hO => impl_UndoTransform_no B n d lo xs W hn hm hO h)
    | true => exact lawLL_UndoTransform A n c xs _ _ w hn hm (ans8_len (by rw [fst8_len]; omega)) ha (fun B d lo W hO => spec_UndoTransform_yes B n d lo xs W hn hO h) (fun B d lo W hO => impl_UndoTransform_yes B n d lo xs W hn hO h)
  · exact lawL_UndoTransform_big A n c w (by omega)
end Go.Proofs.Ytmjgjdebcmbjeaa
