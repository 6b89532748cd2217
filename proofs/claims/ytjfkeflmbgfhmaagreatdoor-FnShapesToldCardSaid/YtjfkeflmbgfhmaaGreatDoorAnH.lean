/- What the laws of promises ask of slices of numbers: the same ones, their sum, whether they rise. No condition. -/
import Derived.Test.YtjfkeflmbgfhmaaGreatDoorOwn
import Derived.Lib.Hide
import Derived.Deep.QuietTactic
namespace Go.Proofs.YtjfkeflmbgfhmaaGreatDoor
open Go.RowKit

set_option maxHeartbeats 400000 in
theorem oSame_same (A B : Option Addr) (n c d l1 h1 l2 h2 : Nat) (xs : List Int) (w : World) (hn : xs.length = n) (hm : n ≤ 1000000000)
    (ha : Own w l1 h1 A (i64s xs)) (hb : Own w l2 h2 B (i64s xs)) :
    Calls Tryz.prog 28 #[.slice A n c, .slice B n d] w fun e w' => e = .returned (.bool true) ∧ ∃ q, w' = w.drewN q := by
  have HA := Lib.hid ha
  have HB := Lib.hid hb
  have HN := Lib.hid hn
  clear ha hb hn
  go_enter Tryz.func28, Tryz.ntmps28
  go_wp2
  go_loopw [13] (fun i wr => ∃ k q : Nat, k ≤ n ∧ i = .int .i64 k ∧ wr = w.drewN q) (fun i _ => n - (intOf i).toNat)
  case atStart => exact ⟨0, 0, Nat.zero_le _, rfl, rfl⟩
  case round =>
    obtain ⟨k, q, hk, rfl, rfl⟩ := hrel
    by_cases hlt : k < n
    · obtain ⟨g, o, rfl, _, _, hca, _⟩ := HA.out.at_ (k := k) (by simp [HN.out]; omega)
      obtain ⟨g', o', rfl, _, _, hcb, _⟩ := HB.out.at_ (k := k) (by simp [HN.out]; omega)
      have hcx : w.cell? ⟨g, o + k, none⟩ = some (.int .i64 (xs[k]'(by rw [HN.out]; exact hlt))) := by simpa using hca
      have hcy : w.cell? ⟨g', o' + k, none⟩ = some (.int .i64 (xs[k]'(by rw [HN.out]; exact hlt))) := by simpa using hcb
      generalize xs[k]'(by rw [HN.out]; exact hlt) = z at hcx hcy
      clear hca hcb
      have hi : (k : Int) < (n : Int) := by omega
      go_wp2
      go_quiet (fail)
      go_wp2
      go_roundw
      case rel => exact ⟨k + 1, _, by omega, by go_num, rfl⟩
      case measure => simp [intOf]; omega
    · go_wp2
      go_ret
      exact ⟨rfl, q, rfl⟩

/-- The sum of the first k numbers. -/
def sumF (xs : List Int) : Nat → Int
  | 0 => 0
  | k + 1 => sumF xs k + xs.getD k 0
end Go.Proofs.YtjfkeflmbgfhmaaGreatDoor
