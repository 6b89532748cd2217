/- Chapter 4: the law GoOnBy. -/
import Derived.Test.YtmpeembnjpgcgaaSdW
namespace Go.Proofs.Ytmpeembnjpgcgaa
open Go.ChangeShapes Go.WideShapes Go.ChangeAt Go.RowKit

set_option maxHeartbeats 800000 in
theorem impl_GoOnBy_no (a b f c m : Int) (w : World) (h : ¬ GoOk a b f c m) :
    Calls Try.prog 18 #[.int .i64 a, .int .i64 b, .int .i64 f, .int .i64 c, .int .i64 m] w (ResI false [] w) := by
  by_cases h0 : a < -1000 ∨ 1000 < a
  · have HA := Lib.hid (betw_no h0)
    clear h h0
    go_enter Try.func18, Try.ntmps18
    go_wp2_with (first
      | (go_at_call 38; refine (ofSize_any _ _ _ (by omega) (by omega)).mono ?_; (first | rw [HA.out]); rintro e w' ⟨rfl, rfl⟩)
      | (go_at_call 37; refine (within_any _ _ _ _).mono ?_; (first | rw [HA.out]); rintro e w' ⟨rfl, rfl⟩))
    go_ret2
    exact resI_nil (Below.refl _ _)
  · have HA : Hid (betw a (-1000) 1000 = true) := Lib.hid (betw_yes (by omega) (by omega))
    by_cases h1 : b < -1000 ∨ 1000 < b
    · have HB := Lib.hid (betw_no h1)
      clear h h0 h1
      go_enter Try.func18, Try.ntmps18
      go_wp2_with (first
        | (go_at_call 38; refine (ofSize_any _ _ _ (by omega) (by omega)).mono ?_; (first | rw [HA.out] | rw [HB.out]); rintro e w' ⟨rfl, rfl⟩)
        | (go_at_call 37; refine (within_any _ _ _ _).mono ?_; (first | rw [HA.out] | rw [HB.out]); rintro e w' ⟨rfl, rfl⟩))
      go_ret2
      exact resI_nil (Below.refl _ _)
    · have HB : Hid (betw b (-1000) 1000 = true) := Lib.hid (betw_yes (by omega) (by omega))
      by_cases h2 : f < -10 ∨ 10 < f
      · have HF := Lib.hid (betw_no h2)
        clear h h0 h1 h2
        go_enter Try.func18, Try.ntmps18
        go_wp2_with (first
          | (go_at_call 38; refine (ofSize_any _ _ _ (by omega) (by omega)).mono ?_; (first | rw [HA.out] | rw [HB.out] | rw [HF.out]); rintro e w' ⟨rfl, rfl⟩)
          | (go_at_call 37; refine (within_any _ _ _ _).mono ?_; (first | rw [HA.out] | rw [HB.out] | rw [HF.out]); rintro e w' ⟨rfl, rfl⟩))
        go_ret2
        exact resI_nil (Below.refl _ _)
      · have HF : Hid (betw f (-10) 10 = true) := Lib.hid (betw_yes (by omega) (by omega))
        by_cases h3 : c < -1000 ∨ 1000 < c
        · have HC := Lib.hid (betw_no h3)
          clear h h0 h1 h2 h3
          go_enter Try.func18, Try.ntmps18
          go_wp2_with (first
            | (go_at_call 38; refine (ofSize_any _ _ _ (by omega) (by omega)).mono ?_; (first | rw [HA.out] | rw [HB.out] | rw [HF.out] | rw [HC.out]); rintro e w' ⟨rfl, rfl⟩)
            | (go_at_call 37; refine (within_any _ _ _ _).mono ?_; (first | rw [HA.out] | rw [HB.out] | rw [HF.out] | rw [HC.out]); rintro e w' ⟨rfl, rfl⟩))
          go_ret2
          exact resI_nil (Below.refl _ _)
        · have HC : Hid (betw c (-1000) 1000 = true) := Lib.hid (betw_yes (by omega) (by omega))
          have h4 : m < 0 ∨ 12 < m := by
            rcases Int.lt_or_le m 0 with h5 | h5
            · exact .inl h5
            · rcases Int.lt_or_le 12 m with h6 | h6
              · exact .inr h6
              · exact absurd ⟨by omega, by omega, by omega⟩ h
          have HM := Lib.hid (betw_no h4)
          clear h h0 h1 h2 h3 h4
          go_enter Try.func18, Try.ntmps18
          go_wp2_with (first
            | (go_at_call 38; refine (ofSize_any _ _ _ (by omega) (by omega)).mono ?_; (first | rw [HA.out] | rw [HB.out] | rw [HF.out] | rw [HC.out] | rw [HM.out]); rintro e w' ⟨rfl, rfl⟩)
            | (go_at_call 37; refine (within_any _ _ _ _).mono ?_; (first | rw [HA.out] | rw [HB.out] | rw [HF.out] | rw [HC.out] | rw [HM.out]); rintro e w' ⟨rfl, rfl⟩))
          go_ret2
          exact resI_nil (Below.refl _ _)
theorem cf_next : ∀ (args : Array Value) (W : World), (callFunc 43 args).run Try.prog W = .ok (.enter 43 args) W := fun _ _ => by kernel_rfl
set_option maxHeartbeats 1600000 in
theorem impl_GoOnBy_yes (a b f c : Int) (N : Nat) (w : World) (h : GoOk a b f c N) :
    Calls Try.prog 18 #[.int .i64 a, .int .i64 b, .int .i64 f, .int .i64 c, .int .i64 N] w (ResI true (tab (gOn a b f c) N) w) := by
  obtain ⟨i0, hi0, hz0, hz1, hz2⟩ := info_parts infoInt
  obtain ⟨⟨a1, a2, b1, b2, c1, c2⟩, ⟨f1, f2⟩, m1, m2⟩ := h
  have HA := Lib.hid (betw_yes a1 a2)
  have HB := Lib.hid (betw_yes b1 b2)
  have HF := Lib.hid (betw_yes f1 f2)
  have HC := Lib.hid (betw_yes c1 c2)
  have HM := Lib.hid (betw_yes m1 m2)
  have HBD := Lib.hid (gOn_11 a b f c a1 a2 b1 b2 c1 c2 f1 f2)
  have hmf : ∀ (fn : Fn) (first cap : Array Value) (w : World), (Instr.makeFunc fn first cap).run Try.prog w = .ok (.func fn first cap) w := fun _ _ _ _ => rfl
  have hix := first_of
  have HL : ∀ (k : Nat) (W : World), k ≤ 11 → Hid (Calls Try.prog 42 #[.agg #[.int .i64 a, .int .i64 b], .func (.func 43) #[.agg #[.int .i64 f, .int .i64 c]] #[], .int .i64 k] W fun e W' => e = .returned (.agg #[.int .i64 (gOn a b f c k), .int .i64 (gOn a b f c (k + 1))]) ∧ Below W.heap.size W W') := fun k W hk => Lib.hid (
    ledOn_any (fun i => (gOn a b f c i, gOn a b f c (i + 1))) k (by omega) 43 #[.agg #[.int .i64 f, .int .i64 c]] #[] W cf_next fun i W2 hi _ => by
      obtain ⟨x0, x1⟩ := HBD.out i (by omega)
      obtain ⟨x2, x3⟩ := HBD.out (i + 1) (by omega)
      exact nextRec_any f c (gOn a b f c i) (gOn a b f c (i + 1)) W2 (by omega) (by omega) c1 c2 (by omega) (by omega) (by omega) (by omega))
  go_enter Try.func18, Try.ntmps18
  go_wp2_with (first
    | (go_at_call 38; refine (ofSize_any _ _ _ (by omega) (by omega)).mono ?_; (first | rw [HA.out] | rw [HB.out] | rw [HF.out] | rw [HC.out]); rintro e w' ⟨rfl, rfl⟩)
    | (go_at_call 37; refine (within_any _ _ _ _).mono ?_; rw [HM.out]; rintro e w' ⟨rfl, rfl⟩))
  have hb0 : Below w.heap.size w (w.alloc (.cells #[.int .i64 f, .int .i64 c] 52)) := (Below.refl _ _).alloc (Nat.le_refl _) _
  have hR : w.heap.size < (w.alloc (.cells #[.int .i64 f, .int .i64 c] 52)).heap.size := by simp
  have k0 : (w.alloc (.cells #[.int .i64 f, .int .i64 c] 52)).cell? ⟨w.heap.size, 0, none⟩ = some (.int .i64 f) := by simp [go_sem]
  have k1 : (w.alloc (.cells #[.int .i64 f, .int .i64 c] 52)).cell? ⟨w.heap.size, 1, none⟩ = some (.int .i64 c) := by simp [go_sem]
  generalize w.alloc (.cells #[.int .i64 f, .int .i64 c] 52) = w1 at *
  have HB0 := Lib.hid hb0
  clear hb0
  go_loopw [13, 40] (fun v i wr => ∃ k : Nat, k ≤ N ∧ i = .int .i64 k ∧ Hid (wr.ownsRow w1.heap.size 3 1 v k (i64s (tab (gOn a b f c) k))) ∧ Hid (Below w1.heap.size w1 wr)) (fun _ i _ => N - (intOf i).toNat)
  case atStart => exact ⟨0, Nat.zero_le _, rfl, Lib.hid (World.ownsRow_nil _ _ _ _), Lib.hid (Below.refl _ _)⟩
  case round =>
    obtain ⟨k, hk, rfl, hown, hb⟩ := hrel
    by_cases hlt : k < N
    · have hki : (k : Int) < (N : Int) := by omega
      have HS : Hid (i64s (tab (gOn a b f c) k) ++ [Value.int .i64 (gOn a b f c k)] = i64s (tab (gOn a b f c) (k + 1))) := Lib.hid (by rw [tab_snoc]; simp)
      have e0 := (hb.out.cell (p := ⟨w.heap.size, 0, none⟩) hR).trans k0
      have e1 := (hb.out.cell (p := ⟨w.heap.size, 1, none⟩) hR).trans k1
      have hk11 : k ≤ 11 := by omega
      go_wp2_with (first
        | (go_at_call 42; refine ((HL k _ hk11).out).mono ?_; rintro e w3 ⟨rfl, hb3⟩; have HO3 := Lib.hid (row_below hown.out hb3 (Nat.le_refl _)); have HB3 := Lib.hid (hb.out.trans (hb3.mono hb.out.size)); clear hb3)
        | (at_builtin; refine wpList_append_own _ rfl _ _ 22 rfl w1.heap.size 3 i0 (.int .i64 0) 1 8 Try.underlying22 hi0 hz0 hz1 hz2 rfl (by decide) _ _ _ rfl (HO3.out.alloc _) ⟨w3.heap.size, 0, none⟩ 1 1 [.int .i64 (gOn a b f c k)] rfl rfl ?c1 ?c2 ?c3 ?c4 ?c5 ?_))
      case c1 =>
        intro j u hj
        match j, hj with
        | 0, hj => simp at hj; subst hj; simp [Addr.add]
      case c2 => intro u hu; simp at hu; subst hu; rfl
      case c3 => unfold maxLen; omega
      case c4 => omega
      case c5 => have := HB3.out.size; simp; omega
      · intro v' w5 hown' hgrow _
        rw [HS.out] at hown'
        have hb5 : Below w1.heap.size w1 w5 := (HB3.out.alloc HB3.out.size _).grown hgrow (by have := HB3.out.size; simp; omega) fun g hg => (HO3.out.lt g hg).1
        have HO := Lib.hid hown'
        have HB5 := Lib.hid hb5
        clear hown' hgrow hb5
        go_wp2
        go_roundw
        case rel => exact ⟨k + 1, by omega, by go_num, HO, HB5⟩
        case measure => simp [intOf]; omega
    · obtain rfl : k = N := by omega
      obtain ⟨B, d, rfl⟩ := row_form hown.out
      go_wp2
      go_ret2
      exact ⟨B, d, by rw [tab_len]; rfl, (own_of_row hown.out).wide HB0.out.size (Nat.le_refl _), HB0.out.trans (hb.out.mono HB0.out.size)⟩
end Go.Proofs.Ytmpeembnjpgcgaa
