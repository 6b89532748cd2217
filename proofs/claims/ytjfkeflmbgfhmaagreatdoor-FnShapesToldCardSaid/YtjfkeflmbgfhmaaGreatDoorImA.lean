/- Contracts of the program's functions of chapter 1: bounds, rules, the search for a last place. -/
import Derived.Test.YtjfkeflmbgfhmaaGreatDoorChecked
import Derived.Test.YtjfkeflmbgfhmaaGreatDoorNum
import Derived.Lib.Hide
namespace Go.Proofs.YtjfkeflmbgfhmaaGreatDoor
open Go.RowKit

theorem within_yes (n lo hi : Int) (w : World) (h1 : lo ≤ n) (h2 : n ≤ hi) :
    Calls Tryz.prog 37 #[.int .i64 n, .int .i64 lo, .int .i64 hi] w fun e w' => e = .returned (.bool true) ∧ w = w' := by
  go_enter Tryz.func37, Tryz.ntmps37
  go_wp2
  go_ret
  exact ⟨rfl, rfl⟩
theorem within_no (n lo hi : Int) (w : World) (h : n < lo ∨ hi < n) :
    Calls Tryz.prog 37 #[.int .i64 n, .int .i64 lo, .int .i64 hi] w fun e w' => e = .returned (.bool false) ∧ w = w' := by
  rcases Int.lt_or_le n lo with h1 | h1
  · go_enter Tryz.func37, Tryz.ntmps37
    go_wp2
    go_ret
    exact ⟨rfl, rfl⟩
  · have h2 : decide (n ≤ hi) = false := by simp; omega
    go_enter Tryz.func37, Tryz.ntmps37
    go_wp2
    go_ret
    exact ⟨rfl, rfl⟩

/-- The search for a last place, whatever function value tells what fits. -/
theorem last_any (beyond L : Int) (fid : Nat) (cap : Array Value) (w : World) (h0 : 1 ≤ beyond) (h1 : beyond ≤ 4000000000) (hL0 : 0 ≤ L) (hL1 : L < beyond)
    (hcf : ∀ (args : Array Value) (W : World), (callFunc fid args).run Tryz.prog W = .ok (.enter fid args) W)
    (hf : ∀ (m : Int) (W : World), Below w.heap.size w W → 1 ≤ m → m < beyond → Calls Tryz.prog fid (#[.int .i64 m] ++ cap) W fun e W' => e = .returned (.bool (decide (m ≤ L))) ∧ Below w.heap.size w W') :
    Calls Tryz.prog 72 #[.int .i64 beyond, .func (.func fid) #[] cap] w fun e w' => e = .returned (.int .i64 L) ∧ Below w.heap.size w w' := by
  have HF := Lib.hid hf
  clear hf
  go_enter Tryz.func72, Tryz.ntmps72
  go_wp2
  go_step3
  go_wp2
  go_step3
  go_wp2
  go_loopw [0, 5] (fun b l wr => ∃ p q : Int, b = .int .i64 p ∧ l = .int .i64 q ∧ 0 ≤ q ∧ q ≤ L ∧ L < p ∧ p ≤ beyond ∧ Below w.heap.size w wr) (fun b l _ => (intOf b - intOf l).toNat)
  case atStart => exact ⟨beyond, 0, rfl, rfl, by omega, hL0, hL1, by omega, Below.refl _ _⟩
  case round =>
    obtain ⟨p, q, rfl, rfl, hq0, hq1, hp0, hp1, hb⟩ := hrel
    by_cases hlt : q + (p - q) / 2 = q
    · have hB : (q + (p - q) / 2 == q) = true := by simp; omega
      obtain rfl : q = L := by omega
      clear hlt
      go_wp2_with fail
      rw [Exit.noGoto_ret]
      go_ret
      exact ⟨rfl, hb⟩
    · have hB : (q + (p - q) / 2 == q) = false := by simp; omega
      by_cases hle : q + (p - q) / 2 ≤ L
      · have hD : decide (q + (p - q) / 2 ≤ L) = true := by simp; omega
        go_wp2_with (refine (HF.out _ _ hb (by omega) (by omega)).mono ?_; rintro e w1 ⟨rfl, hb1⟩)
        go_roundw
        case rel => exact ⟨_, _, rfl, rfl, by omega, hle, by omega, by omega, hb1⟩
        case measure => simp [intOf]; omega
      · have hD : decide (q + (p - q) / 2 ≤ L) = false := by simp; omega
        go_wp2_with (refine (HF.out _ _ hb (by omega) (by omega)).mono ?_; rintro e w1 ⟨rfl, hb1⟩)
        go_roundw
        case rel => exact ⟨_, _, rfl, rfl, by omega, by omega, by omega, by omega, hb1⟩
        case measure => simp [intOf]; omega

end Go.Proofs.YtjfkeflmbgfhmaaGreatDoor
