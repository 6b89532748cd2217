/- Chapter 8: the law FormOfSums. -/
import Derived.Test.YtmjgjdebcmbjeaaTcN
import Derived.Test.YtmjgjdebcmbjeaaTbW
import Derived.Test.YtmjgjdebcmbjeaaTbG
import Derived.Test.YtmjgjdebcmbjeaaLfFormOfSums
namespace Go.Proofs.Ytmjgjdebcmbjeaa
open Go.ChangeShapes Go.WideShapes Go.ChangeAt Go.RowKit

theorem walk_FormOfSums (A : Option Addr) (n c : Nat) (xs : List Int) (w : World) (hn : xs.length = n) (hl : n ≤ 9223372036854775807) (ha : Rd w w.heap.size A (i64s xs)) :
    Calls Try.prog 11 #[.slice A n c] w fun e w' => e = .returned (.bool true) ∧ Below w.heap.size w w' := by
  by_cases hm : n ≤ 1048576
  · cases h : fm8 xs with
    | false => exact lawLL_FormOfSums A n c xs [] false w hn hm (by simp) ha (fun B d lo W hO => spec_FormOfSums_no B n d lo xs W hn hm hO h) (fun B d lo W hO => impl_FormOfSums_no B n d lo xs W hn hm hO h)
    | true => exact lawLL_FormOfSums A n c xs _ _ w hn hm (ans8_len (by rw [trm8_len]; exact Nat.le_trans (tln8_le _ _) (by simp; omega))) ha (fun B d lo W hO => spec_FormOfSums_yes B n d lo xs W hn hO h) (fun B d lo W hO => impl_FormOfSums_yes B n d lo xs W hn hO h)
  · exact lawL_FormOfSums_big A n c w (by omega)
end Go.Proofs.Ytmjgjdebcmbjeaa
