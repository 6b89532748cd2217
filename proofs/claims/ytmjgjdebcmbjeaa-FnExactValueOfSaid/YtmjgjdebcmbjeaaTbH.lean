/- Chapter 8: lists and forms tested, by the specification; rows of differences. -/
import Derived.Test.YtmjgjdebcmbjeaaSdH
import Derived.Test.YtmjgjdebcmbjeaaTbM
import Derived.Test.YtmjgjdebcmbjeaaTbN
import Derived.Deep.AppendLies
import Derived.Deep.RegionHeld3
namespace Go.Proofs.Ytmjgjdebcmbjeaa
open Go.RowKit

/-- A list; a form. -/
def gd8 (xs : List Int) : Bool := decide (1 ≤ xs.length ∧ xs.length ≤ 12) && allIn xs (-1000000) 1000000
def fm8 (xs : List Int) : Bool := decide (xs.length ≤ 12) && allIn xs (-1000000) 1000000 && (decide (xs.length = 0) || decide (xs.getD (xs.length - 1) 0 ≠ 0))
theorem dfGood_any (A : Option Addr) (n c lo hi : Nat) (xs : List Int) (w : World) (hn : xs.length = n) (hm : n ≤ 1048576) (ha : Own w lo hi A (i64s xs)) :
    Calls Try.prog 58 #[.slice A n c] w fun e w' => e = .returned (.bool (gd8 xs)) ∧ w = w' := by
  have HL := Lib.hid fun W (h : Own W lo hi A (i64s xs)) => l1All_any A n c xs (-1000000) 1000000 hi W hn hm h.rd
  have HA := Lib.hid ha
  have hg : gd8 xs = (decide (1 ≤ n ∧ n ≤ 12) && allIn xs (-1000000) 1000000) := by unfold gd8; rw [hn]
  rw [hg]
  clear hg hn ha
  generalize allIn xs (-1000000) 1000000 = r at *
  by_cases h : (n : Int) < 1 ∨ 12 < (n : Int)
  · rw [decide_eq_false (by omega)]
    have H := Lib.hid h
    clear h
    go_enter Try.func58, Try.ntmps58
    go_wp2_with (go_at_call 70; refine (in_no _ _ _ _ H.out).mono ?_; rintro e w' ⟨rfl, rfl⟩)
    go_ret
    exact ⟨rfl, rfl⟩
  · rw [decide_eq_true (by omega), Bool.true_and]
    have h1 : 1 ≤ (n : Int) := by omega
    have h2 : (n : Int) ≤ 12 := by omega
    clear h
    go_enter Try.func58, Try.ntmps58
    go_wp2_with (first
      | (go_at_call 70; refine (in_yes _ _ _ _ h1 h2).mono ?_; rintro e w' ⟨rfl, rfl⟩)
      | (go_at_call 97; refine (HL.out _ HA.out).mono ?_; rintro e w' ⟨rfl, rfl⟩))
    go_ret
    exact ⟨rfl, rfl⟩
end Go.Proofs.Ytmjgjdebcmbjeaa
