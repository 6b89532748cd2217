/- Chapter 8: the law SumsFrom. -/
import Derived.Test.YtmjgjdebcmbjeaaTcO
import Derived.Test.YtmjgjdebcmbjeaaTbW
import Derived.Test.YtmjgjdebcmbjeaaTbG
import Derived.Test.YtmjgjdebcmbjeaaLfSumsFrom
namespace Go.Proofs.Ytmjgjdebcmbjeaa
open Go.ChangeShapes Go.WideShapes Go.ChangeAt Go.RowKit

theorem walk_SumsFrom (a : Int) (A : Option Addr) (n c : Nat) (xs : List Int) (w : World) (hn : xs.length = n) (hl : n ≤ 9223372036854775807) (ha : Rd w w.heap.size A (i64s xs)) :
    Calls Try.prog 10 #[.int .i64 a, .slice A n c] w fun e w' => e = .returned (.bool true) ∧ Below w.heap.size w w' := by
  by_cases hm : n ≤ 1048576
  · by_cases h : (a < -1000000 ∨ 1000000 < a) ∨ gd8 xs = false
    · exact lawLL_SumsFrom a A n c xs [] false w hn hm (by simp) ha (fun B d lo W hO => spec_SumsFrom_no a B n d lo xs W hn hm hO h) (fun B d lo W hO => impl_SumsFrom_no a B n d lo xs W hn hm hO h)
    · have h1 : -1000000 ≤ a := by omega
      have h2 : a ≤ 1000000 := by omega
      have h3 : gd8 xs = true := by
        cases hg : gd8 xs with
        | false => exact absurd (.inr hg) h
        | true => rfl
      exact lawLL_SumsFrom a A n c xs _ _ w hn hm (ans8_len (by rw [sms8_len]; omega)) ha (fun B d lo W hO => spec_SumsFrom_yes a B n d lo xs W hn hO h1 h2 h3) (fun B d lo W hO => impl_SumsFrom_yes a B n d lo xs W hn hO h1 h2 h3)
  · exact lawL_SumsFrom_big a A n c w (by omega)
end Go.Proofs.Ytmjgjdebcmbjeaa
