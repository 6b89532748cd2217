/- Chapter 5: the law MostSquareRectangle. -/
import Derived.Test.YtkhjeleoppdjgabRuG
namespace Go.Proofs.Ytkhjeleoppdjgab
open Go.ChangeShapes Go.WideShapes Go.ChangeAt Go.RowKit

set_option maxHeartbeats 400000 in
theorem shRoot5_any (n : Int) (w : World) (h3 : 0 ≤ n) (h4 : n ≤ 4000000000000000000) :
    Calls Try.prog 78 #[.int .i64 n] w fun e w' => e = .returned (.int .i64 (rt n)) ∧ w = w' := by
  go_enter Try.func78, Try.ntmps78
  go_wp2
  go_loop [3, 4] (fun r b => ∃ x t : Int, r = .int .i64 x ∧ b = .int .i64 (t / 2) ∧ P2 t ∧ 0 ≤ x ∧ x + t ≤ 2147483648 ∧ x * x ≤ n ∧ Hid (n < (x + t) * (x + t))) (fun _ b => (intOf b).toNat)
  case atStart => exact ⟨0, 2147483648, rfl, rfl, P2.start, by omega, by omega, by omega, Lib.hid (by omega)⟩
  case round =>
    obtain ⟨x, t, rfl, rfl, ht, hx0, hx1, hx2, HX⟩ := hrel
    have t1 := ht.pos
    by_cases h1 : t = 1
    · subst h1
      have hr := rt_uniq n x h3 hx0 hx2 HX.out
      have HR := Lib.hid hr
      clear hr
      go_wp2
      go_ret
      exact ⟨ret_int HR.out, rfl⟩
    · obtain ⟨hp, he⟩ := ht.half h1
      obtain ⟨u, hu⟩ : ∃ u, u = t / 2 := ⟨_, rfl⟩
      rw [← hu] at hp he ⊢
      clear hu h1
      subst he
      clear ht
      have u1 := hp.pos
      have s0 : 0 ≤ (x + u) * (x + u) := sq_nn _
      have s1 : (x + u) * (x + u) ≤ 2147483648 * 2147483648 := sq_le _ _ (by omega) (by omega)
      by_cases hf : (x + u) * (x + u) ≤ n
      · go_wp2
        go_round
        case rel => exact ⟨x + u, u, rfl, rfl, hp, by omega, by omega, hf, Lib.hid (by rw [show x + u + u = x + 2 * u from by omega]; exact HX.out)⟩
        case measure => simp [intOf]; omega
      · go_wp2
        go_round
        case rel => exact ⟨x, u, rfl, rfl, hp, by omega, by omega, by omega, Lib.hid (by omega)⟩
        case measure => simp [intOf]; omega
theorem root15_any (m n : Int) (r : Nat) (w : World) (h0 : 1 ≤ m) (h1 : m < 2000000001) (cn : w.cell? ⟨r, 0, none⟩ = some (.int .i64 n)) :
    Calls Try.prog 99 #[.int .i64 m, .pointer (some ⟨r, 0, none⟩)] w fun e w' => e = .returned (.bool (decide (m * m ≤ n))) ∧ w = w' := by
  have s0 : 0 ≤ m * m := sq_nn _
  have s1 : m * m ≤ 2000000001 * 2000000001 := sq_le _ _ (by omega) (by omega)
  go_enter Try.func99, Try.ntmps99
  go_wp2
  go_ret
  exact ⟨rfl, rfl⟩
theorem cf_root5 : ∀ (args : Array Value) (W : World), (callFunc 99 args).run Try.prog W = .ok (.enter 99 args) W := fun _ _ => by kernel_rfl

/-- The greatest factor up to the root. -/
structure LastF (n a : Int) : Prop where
  a1 : 1 ≤ a
  a2 : a ≤ rt n
  r : rt n ≤ 1415
  m : n % a = 0
  no : ∀ l, a < l → l ≤ rt n → ¬ n % l = 0
theorem lastF_ex (n : Int) (h0 : 1 ≤ n) (h1 : n ≤ 1000000) : ∃ a, LastF n a := by
  obtain ⟨r1, r2⟩ := rt_small n h0 (by omega)
  have key : ∀ k : Nat, 1 ≤ (k : Int) → (k : Int) ≤ rt n → (∀ l, (k : Int) < l → l ≤ rt n → ¬ n % l = 0) → ∃ a, LastF n a := by
    intro k
    induction k with
    | zero => intro h; omega
    | succ k ih =>
      intro h2 h3 h4
      by_cases hm : n % ((k + 1 : Nat) : Int) = 0
      · exact ⟨_, h2, h3, r2, hm, h4⟩
      · by_cases hk : k = 0
        · subst hk
          simp at hm
        · refine ih (by omega) (by omega) fun l h5 h6 => ?_
          by_cases e : l = ((k + 1 : Nat) : Int)
          · rw [e]; exact hm
          · exact h4 l (by omega) h6
  exact key (rt n).toNat (by omega) (by omega) fun l h2 h3 => by omega
theorem lastF_at (n a : Int) (h0 : 1 ≤ n) (h1 : n ≤ 1000000) (h : LastF n a) : ∃ M, (facs n).length = M + 1 ∧ (facs n)[M]? = some (a, n / a) ∧ M ≤ 1500 := by
  have e := facs_last n a h0 h.a1 h.a2 h.m h.no
  have hl := facs_len n h0 (by omega)
  rw [e] at hl ⊢
  refine ⟨_, by simp; rfl, by simp, ?_⟩
  simp at hl
  omega
set_option maxHeartbeats 800000 in
theorem impl_MostSquareRectangle_yes (n a : Int) (w : World) (h0 : 1 ≤ n) (h1 : n ≤ 1000000) (h : LastF n a) :
    Calls Try.prog 15 #[.int .i64 n] w fun e w' => e = .returned (.tuple #[.int .i64 a, .int .i64 (n / a), .bool true]) ∧ Below w.heap.size w w' := by
  obtain ⟨M, hl, hx, hm⟩ := lastF_at n a h0 h1 h
  have HA := Lib.hid (betr_yes h0 h1)
  have HC := Lib.hid fun W => factorsOf_any n W h0 (by omega)
  have HL := Lib.hid fun A c lo hi w => lastPair_any A c lo hi M (facs n) (a, n / a) w hl hx (by omega)
  rw [hl] at HC
  obtain ⟨xs, hxs⟩ : ∃ xs, xs = facs n := ⟨_, rfl⟩
  rw [← hxs] at HC HL
  obtain ⟨b, hb⟩ : ∃ b, b = n / a := ⟨_, rfl⟩
  rw [← hb] at HL ⊢
  clear hl hx hxs hb h
  go_enter Try.func15, Try.ntmps15
  go_wp2_with (first
    | (go_at_call 70; refine (isRunned_any _ _).mono ?_; rw [HA.out]; rintro e w' ⟨rfl, rfl⟩)
    | (go_at_call 76; refine (HC.out _).mono ?_; rintro e w1 ⟨A, c, rfl, ho, hb1⟩; have HO := Lib.hid ho; clear ho)
    | (go_at_call 77; refine (HL.out _ _ _ _ _ HO.out (Nat.le_refl _)).mono ?_; rintro e w2 ⟨rfl, hb2⟩; have hb3 := hb1.trans (hb2.mono hb1.size)))
  go_region
  go_wp2
  go_ret3
  exact ⟨rfl, (hb3.alloc hb3.size _).drew⟩
set_option maxHeartbeats 800000 in
theorem spec_MostSquareRectangle_yes (n a : Int) (w : World) (h0 : 1 ≤ n) (h1 : n ≤ 1000000) (h : LastF n a) :
    Calls Try.prog 16 #[.int .i64 n] w fun e w' => e = .returned (.tuple #[.int .i64 a, .int .i64 (n / a), .bool true]) ∧ Below w.heap.size w w' := by
  obtain ⟨a1, a2, r2, hm, hno⟩ := h
  have HA := Lib.hid (betr_yes h0 h1)
  have HR := Lib.hid fun W => shRoot5_any n W (by omega) (by omega)
  have HN := Lib.hid hno
  obtain ⟨r, hr⟩ : ∃ r, r = rt n := ⟨_, rfl⟩
  rw [← hr] at a2 r2 HR HN
  have HM := Lib.hid hm
  clear hno hr hm
  go_enter Try.func16, Try.ntmps16
  go_wp2_with (first
    | (go_at_call 74; refine (ruGood_any _ _).mono ?_; rw [HA.out]; rintro e w' ⟨rfl, rfl⟩)
    | (go_at_call 78; refine (HR.out _).mono ?_; rintro e w' ⟨rfl, rfl⟩))
  go_loop [5] (fun v => ∃ j : Int, v = .int .i64 j ∧ a ≤ j ∧ j ≤ r) (fun v => (intOf v).toNat)
  case atStart => exact ⟨r, rfl, a2, by omega⟩
  case round =>
    obtain ⟨j, rfl, hj1, hj2⟩ := hrel
    by_cases hlt : a < j
    · have hm := HN.out j hlt hj2
      have hmb : (n % j != 0) = true := by simpa using hm
      clear hm
      go_wp2
      go_round
      case rel => exact ⟨j - 1, rfl, by omega, by omega⟩
      case measure => simp [intOf]; omega
    · obtain rfl : j = a := by omega
      have hmb : (n % j != 0) = false := by simp [HM.out]
      have hq0 : 0 ≤ n / j := Int.ediv_nonneg (by omega) (by omega)
      have hq1 : n / j ≤ n := Int.ediv_le_self _ (by omega)
      go_wp2_with fail
      go_region
      go_wp2
      go_ret3
      exact ⟨rfl, (Below.refl _ _).drew⟩
theorem spec_MostSquareRectangle_no (n : Int) (w : World) (h : n < 1 ∨ 1000000 < n) :
    Calls Try.prog 16 #[.int .i64 n] w fun e w' => e = .returned (.tuple #[.int .i64 0, .int .i64 0, .bool false]) ∧ Below w.heap.size w w' := by
  have HA := Lib.hid (betr_no h)
  clear h
  go_enter Try.func16, Try.ntmps16
  go_wp2_with (go_at_call 74; refine (ruGood_any _ _).mono ?_; rw [HA.out]; rintro e w' ⟨rfl, rfl⟩)
  go_ret3
  exact ⟨rfl, Below.refl _ _⟩
theorem impl_MostSquareRectangle_no (n : Int) (w : World) (h : n < 1 ∨ 1000000 < n) :
    Calls Try.prog 15 #[.int .i64 n] w fun e w' => e = .returned (.tuple #[.int .i64 0, .int .i64 0, .bool false]) ∧ Below w.heap.size w w' := by
  have HA := Lib.hid (betr_no h)
  clear h
  go_enter Try.func15, Try.ntmps15
  go_wp2_with (go_at_call 70; refine (isRunned_any _ _).mono ?_; rw [HA.out]; rintro e w' ⟨rfl, rfl⟩)
  go_ret3
  exact ⟨rfl, Below.refl _ _⟩
end Go.Proofs.Ytkhjeleoppdjgab
