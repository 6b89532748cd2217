/- The laws FnExactWidePlace, FnExactRootOf: the program's answer is the specification's, whatever the arguments. No condition. -/
import Derived.Test.YtkhjeleoppdjgacBase
import Derived.Test.YtkhjeleoppdjgacSpA
import Derived.Test.YtkhjeleoppdjgacLwC
import Derived.Deep.QuietTactic
import Derived.BigQuiet
namespace Go.Proofs.Ytkhjeleoppdjgac
open Go.ChangeShapes Go.WideShapes Go.ChangeAt Go.RowKit

theorem belRule_bds (s k : Int) (h1 : 3 ≤ s) (h2 : s ≤ 24) (h3 : 0 ≤ k) (h4 : k ≤ 3000000) : RuleBds 0 (s - 4) (s - 2) k (num s (-k)) := by
  obtain ⟨a0, a1, b0, b1, c0, c1, d0⟩ := num_bds s k h1 h2 (by omega) h4
  have e1 := neg_twice s k
  have e2 := num_nn s (-k) h1
  constructor <;> omega
theorem bel_fits (s n : Int) (h1 : 3 ≤ s) (h2 : s ≤ 24) (h3 : 0 ≤ n) (h4 : n ≤ 1000000000000) : Fits 0 (s - 4) (s - 2) n (wl s n) (fun k => num s (-k)) :=
  ⟨fun k h5 h6 => belRule_bds s k h1 h2 h5 (by omega), wl_nn s n h1 h3, by have := wl_le s n h1 h3 h4; omega, fun k h5 _ => wfits_iff s n k h1 h3 (by omega)⟩

set_option maxHeartbeats 400000 in
theorem shRoot_any (n : Int) (w : World) (h3 : 0 ≤ n) (h4 : n ≤ 4000000000000000000) :
    Calls Try.prog 153 #[.int .i64 n] w fun e w' => e = .returned (.int .i64 (rt n)) ∧ w = w' := by
  go_enter Try.func153, Try.ntmps153
  go_wp2
  go_loop [3, 4] (fun r b => ∃ x t : Int, r = .int .i64 x ∧ b = .int .i64 (t / 2) ∧ P2 t ∧ 0 ≤ x ∧ x + t ≤ 2147483648 ∧ x * x ≤ n ∧ Hid (n < (x + t) * (x + t))) (fun _ b => (intOf b).toNat)
  case atStart => exact ⟨0, 2147483648, rfl, rfl, P2.start, by omega, by omega, by omega, Lib.hid (by omega)⟩
  case round =>
    obtain ⟨x, t, rfl, rfl, ht, hx0, hx1, hx2, HX⟩ := hrel
    have t1 := ht.pos
    by_cases h1 : t = 1
    · subst h1
      have hr := rt_uniq n x h3 hx0 hx2 HX.out
      have HR := Lib.hid hr
      clear hr
      go_wp2
      go_ret
      exact ⟨ret_int HR.out, rfl⟩
    · obtain ⟨hp, he⟩ := ht.half h1
      obtain ⟨u, hu⟩ : ∃ u, u = t / 2 := ⟨_, rfl⟩
      rw [← hu] at hp he ⊢
      clear hu h1
      subst he
      clear ht
      have u1 := hp.pos
      have s0 : 0 ≤ (x + u) * (x + u) := sq_nn _
      have s1 : (x + u) * (x + u) ≤ 2147483648 * 2147483648 := sq_le _ _ (by omega) (by omega)
      by_cases hf : (x + u) * (x + u) ≤ n
      · go_wp2
        go_round
        case rel => exact ⟨x + u, u, rfl, rfl, hp, by omega, by omega, hf, Lib.hid (by rw [show x + u + u = x + 2 * u from by omega]; exact HX.out)⟩
        case measure => simp [intOf]; omega
      · go_wp2
        go_round
        case rel => exact ⟨x, u, rfl, rfl, hp, by omega, by omega, by omega, Lib.hid (by omega)⟩
        case measure => simp [intOf]; omega
theorem root1_any (m n : Int) (r : Nat) (w : World) (h0 : 1 ≤ m) (h1 : m < 2000000001) (cn : w.cell? ⟨r, 0, none⟩ = some (.int .i64 n)) :
    Calls Try.prog 111 #[.int .i64 m, .pointer (some ⟨r, 0, none⟩)] w fun e w' => e = .returned (.bool (decide (m * m ≤ n))) ∧ w = w' := by
  have s0 : 0 ≤ m * m := sq_nn _
  have s1 : m * m ≤ 2000000001 * 2000000001 := sq_le _ _ (by omega) (by omega)
  go_enter Try.func111, Try.ntmps111
  go_wp2
  go_ret
  exact ⟨rfl, rfl⟩
theorem cf_root : ∀ (args : Array Value) (W : World), (callFunc 111 args).run Try.prog W = .ok (.enter 111 args) W := fun _ _ => by kernel_rfl
theorem impl_RootOf_no (n : Int) (w : World) (h : n < 0 ∨ 4000000000000000000 < n) :
    Calls Try.prog 36 #[.int .i64 n] w fun e w' => e = .returned (.tuple #[.int .i64 0, .bool false]) ∧ Below w.heap.size w w' := by
  have H := Lib.hid h
  clear h
  go_enter Try.func36, Try.ntmps36
  go_wp2_with (go_at_call 97; refine (within_no _ _ _ _ H.out).mono ?_; rintro e w' ⟨rfl, rfl⟩)
  go_ret2
  exact ⟨rfl, (Below.refl _ _).alloc (Nat.le_refl _) _⟩
theorem impl_RootOf_yes (n : Int) (w : World) (h3 : 0 ≤ n) (h4 : n ≤ 4000000000000000000) :
    Calls Try.prog 36 #[.int .i64 n] w fun e w' => e = .returned (.tuple #[.int .i64 (rt n), .bool true]) ∧ Below w.heap.size w w' := by
  have hmf : ∀ (fn : Fn) (first cap : Array Value) (w : World), (Instr.makeFunc fn first cap).run Try.prog w = .ok (.func fn first cap) w := fun _ _ _ _ => rfl
  have HB : ∀ W : World, Hid (W.heap.size = w.heap.size + 1 → W.cell? ⟨w.heap.size, 0, none⟩ = some (.int .i64 n) →
      Calls Try.prog 110 #[.int .i64 2000000001, .func (.func 111) #[] #[.pointer (some ⟨w.heap.size, 0, none⟩)]] W fun e w' => e = .returned (.int .i64 (rt n)) ∧ Below W.heap.size W w') := by
    intro W
    refine Lib.hid fun hz cn => ?_
    refine last_any 2000000001 (rt n) _ _ W (by omega) (by omega) (rt_nn n h3) (by have := rt_le n h3 h4; omega) cf_root ?_
    intro m W1 hb h1 h2
    have e : decide (m * m ≤ n) = decide (m ≤ rt n) := by
      have := rfits_iff n m h3 (by omega)
      by_cases hc : m ≤ rt n <;> simp [hc, this]
    refine (root1_any m n w.heap.size W1 h1 h2 ?_).mono ?_
    · exact (hb.cell (p := ⟨w.heap.size, 0, none⟩) (by simp; omega)).trans cn
    · rintro e1 W2 ⟨rfl, rfl⟩
      exact ⟨by rw [e], hb⟩
  go_enter Try.func36, Try.ntmps36
  go_wp2_with (first
    | (go_at_call 97; refine (within_yes _ _ _ _ h3 h4).mono ?_; rintro e w' ⟨rfl, rfl⟩)
    | (go_at_call 110; refine ((HB _).out ?_ ?_).mono ?_; (iterate 2 (first | simp [go_sem] | skip)); rintro e w1 ⟨rfl, hb1⟩))
  go_ret2
  exact ⟨rfl, ((Below.refl _ _).alloc (Nat.le_refl _) _).trans (hb1.mono (by simp))⟩
end Go.Proofs.Ytkhjeleoppdjgac
