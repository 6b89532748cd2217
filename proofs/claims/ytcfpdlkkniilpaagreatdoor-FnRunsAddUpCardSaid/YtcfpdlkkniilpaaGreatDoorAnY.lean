/- What the laws of promises ask of rows, of runs, of a number in a list, of a number's size. No condition. -/
import Derived.Test.YtcfpdlkkniilpaaGreatDoorAnH
import Derived.Test.YtcfpdlkkniilpaaGreatDoorOwL
import Derived.Test.YtcfpdlkkniilpaaGreatDoorOwS
import Derived.Test.YtcfpdlkkniilpaaGreatDoorSiM
import Derived.Lib.Hide
import Derived.Deep.QuietTactic
namespace Go.Proofs.YtcfpdlkkniilpaaGreatDoor
open Go.RowKit

set_option maxHeartbeats 800000 in
theorem oRows_same (A B : Option Addr) (n c d l1 h1 l2 h2 : Nat) (F : Nat → List Int) (Af Bf : Nat → Option Addr) (cf df : Nat → Nat) (w : World) (hm : n ≤ 1000000000) (hp : pre F n ≤ 1000000000)
    (ha : OwnL w l1 h1 A n F Af cf) (hb : OwnL w l2 h2 B n F Bf df) :
    Calls Tryz.prog 17 #[.slice A n c, .slice B n d] w fun e w' => e = .returned (.bool true) ∧ ∃ q, w' = w.drewN q := by
  have HA := Lib.hid ha
  have HB := Lib.hid hb
  have HP := Lib.hid hp
  clear ha hb hp
  go_enter Tryz.func17, Tryz.ntmps17
  go_wp2
  go_loopw [13] (fun i wr => ∃ k q : Nat, k ≤ n ∧ i = .int .i64 k ∧ wr = w.drewN q) (fun i _ => n - (intOf i).toNat)
  case atStart => exact ⟨0, 0, Nat.zero_le _, rfl, rfl⟩
  case round =>
    obtain ⟨k, q, hk, rfl, rfl⟩ := hrel
    by_cases hlt : k < n
    · obtain ⟨g, o, rfl, hca, hoa⟩ := HA.out.at_ hlt
      obtain ⟨g', o', rfl, hcb, hob⟩ := HB.out.at_ hlt
      have hl : (F k).length ≤ 1000000000 := by have := len_pre F hlt; have := HP.out; omega
      have HE := Lib.hid (fun x => oSame_same (Af k) (Bf k) (F k).length (cf k) (df k) _ _ _ _ (F k) (w.drewN (q + x)) rfl hl (by rw [← World.drewN_drewN]; exact hoa.drewN x) (by rw [← World.drewN_drewN]; exact hob.drewN x))
      have hi : (k : Int) < (n : Int) := by omega
      generalize Af k = Ak at *
      generalize Bf k = Bk at *
      generalize cf k = ck at *
      generalize df k = dk at *
      generalize (F k).length = lk at *
      clear hoa hob
      go_wp2
      go_quiet (first | (go_at_call 30; refine (HE.out _).mono ?_; rintro e w2 ⟨rfl, m, rfl⟩; exact ⟨rfl, _, by rw [World.drewN_drewN, Nat.add_assoc]⟩))
      go_wp2
      go_roundw
      case rel => exact ⟨k + 1, _, by omega, by go_num, rfl⟩
      case measure => simp [intOf]; omega
    · go_wp2
      go_ret
      exact ⟨rfl, q, rfl⟩

set_option maxHeartbeats 800000 in
theorem oRuns_same (A B : Option Addr) (n c d l1 h1 l2 h2 : Nat) (xs : List (Int × Int)) (w : World) (hn : xs.length = n) (hm : n ≤ 1000000000)
    (ha : Own w l1 h1 A (prs xs)) (hb : Own w l2 h2 B (prs xs)) :
    Calls Tryz.prog 16 #[.slice A n c, .slice B n d] w fun e w' => e = .returned (.bool true) ∧ ∃ q, w' = w.drewN q := by
  have HA := Lib.hid ha
  have HB := Lib.hid hb
  have HN := Lib.hid hn
  clear ha hb hn
  go_enter Tryz.func16, Tryz.ntmps16
  go_wp2
  go_loopw [13] (fun i wr => ∃ k q : Nat, k ≤ n ∧ i = .int .i64 k ∧ wr = w.drewN q) (fun i _ => n - (intOf i).toNat)
  case atStart => exact ⟨0, 0, Nat.zero_le _, rfl, rfl⟩
  case round =>
    obtain ⟨k, q, hk, rfl, rfl⟩ := hrel
    by_cases hlt : k < n
    · have hlen : k < xs.length := by rw [HN.out]; exact hlt
      obtain ⟨g, o, rfl, _, hg, hca0, hca1⟩ := HA.out.pair_ hlen
      obtain ⟨g', o', rfl, _, hg', hcb0, hcb1⟩ := HB.out.pair_ hlen
      generalize (xs[k]'hlen).1 = x at hca0 hcb0
      generalize (xs[k]'hlen).2 = y at hca1 hcb1
      have hi : (k : Int) < (n : Int) := by omega
      clear hlen
      go_wp2
      go_quiet (fail)
      go_wp2
      go_roundw
      case rel => exact ⟨k + 1, _, by omega, by go_num, rfl⟩
      case measure => simp [intOf]; omega
    · go_wp2
      go_ret
      exact ⟨rfl, q, rfl⟩

end Go.Proofs.YtcfpdlkkniilpaaGreatDoor
