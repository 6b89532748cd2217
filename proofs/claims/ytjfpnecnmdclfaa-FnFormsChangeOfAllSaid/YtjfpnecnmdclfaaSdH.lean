/- Chapter 4: going on by a recurrence: the specification's side. -/
import Derived.Test.YtjfpnecnmdclfaaSdA
import Derived.Test.YtjfpnecnmdclfaaMa
import Derived.OwnWalk
import Derived.StillTailTactics
namespace Go.Proofs.Ytjfpnecnmdclfaa
open Go.ChangeShapes Go.WideShapes Go.ChangeAt Go.RowKit

/-- All numbers lie between lo and hi. -/
def allIn (xs : List Int) (lo hi : Int) : Bool := xs.all fun x => decide (lo ≤ x ∧ x ≤ hi)
theorem allIn_out (xs : List Int) (lo hi : Int) (k : Nat) (hk : k < xs.length) (h : xs.getD k 0 < lo ∨ hi < xs.getD k 0) : allIn xs lo hi = false := by
  rw [allIn, List.all_eq_false]
  refine ⟨xs[k], List.getElem_mem hk, ?_⟩
  rw [List.getD_eq_getElem?_getD, List.getElem?_eq_getElem hk] at h
  simp only [Option.getD_some] at h
  simp
  omega
theorem allIn_take (xs : List Int) (lo hi : Int) (k : Nat) (hk : k < xs.length) (h : allIn (xs.take k) lo hi = true) (h1 : lo ≤ xs.getD k 0) (h2 : xs.getD k 0 ≤ hi) : allIn (xs.take (k + 1)) lo hi = true := by
  have e : xs.getD k 0 = xs[k] := by simp [List.getD_eq_getElem?_getD, hk]
  rw [e] at h1 h2
  simp only [allIn, List.take_succ_eq_append_getElem hk, List.all_append, List.all_cons, List.all_nil, Bool.and_true, Bool.and_eq_true, decide_eq_true_eq]
  exact ⟨h, h1, h2⟩
set_option maxHeartbeats 800000 in
theorem l1All_any (A : Option Addr) (n c : Nat) (xs : List Int) (lo hi : Int) (hB : Nat) (w : World) (hn : xs.length = n) (hm : n ≤ 1048576) (ha : Rd w hB A (i64s xs)) :
    Calls Try.prog 70 #[.slice A n c, .int .i64 lo, .int .i64 hi] w fun e w' => e = .returned (.bool (allIn xs lo hi)) ∧ w = w' := by
  have HA := Lib.hid ha
  have HN := Lib.hid hn
  obtain ⟨r, hr⟩ : ∃ r, r = allIn xs lo hi := ⟨_, rfl⟩
  rw [← hr]
  have HR := Lib.hid hr
  clear ha hn hr
  go_enter Try.func70, Try.ntmps70
  go_wp2
  go_loopw [11] (fun i wr => ∃ k : Nat, k ≤ n ∧ i = .int .i64 k ∧ Hid (allIn (xs.take k) lo hi = true) ∧ wr = w) (fun i _ => n - (intOf i).toNat)
  case atStart => exact ⟨0, Nat.zero_le _, rfl, Lib.hid (by simp [allIn]), rfl⟩
  case round =>
    obtain ⟨k, hk, rfl, HP, rfl⟩ := hrel
    by_cases hlt : k < n
    · obtain ⟨ad, rfl, _, hcx⟩ := HA.out.get (k := k) (by rw [HN.out]; exact hlt)
      have ho := allIn_out xs lo hi k (by rw [HN.out]; exact hlt)
      have ht := allIn_take xs lo hi k (by rw [HN.out]; exact hlt) HP.out
      generalize xs.getD k 0 = x at *
      have hki : (k : Int) < (n : Int) := by omega
      by_cases hin : x < lo ∨ hi < x
      · have H := Lib.hid hin
        have hF : r = false := by rw [HR.out]; exact ho hin
        subst hF
        clear hin ho ht
        go_wp2_with (go_at_call 63; refine (in_no _ _ _ _ H.out).mono ?_; rintro e w' ⟨rfl, rfl⟩)
        first | (rw [Exit.noGoto_ret]; go_ret) | go_ret
        exact ⟨rfl, rfl⟩
      · have hx1 : lo ≤ x := by omega
        have hx2 : x ≤ hi := by omega
        have HP2 := Lib.hid (ht hx1 hx2)
        clear hin ho ht
        go_wp2_with (go_at_call 63; refine (in_yes _ _ _ _ hx1 hx2).mono ?_; rintro e w' ⟨rfl, rfl⟩)
        go_roundw
        case rel => exact ⟨k + 1, by omega, by go_num, HP2, by trivial⟩
        case measure => simp [intOf]; omega
    · obtain rfl : k = n := by omega
      have hT : r = true := by rw [HR.out, ← HP.out, ← HN.out, List.take_length]
      subst hT
      go_wp2
      go_ret
      exact ⟨rfl, rfl⟩
end Go.Proofs.Ytjfpnecnmdclfaa
