/- Chapter 4: pairs and rules of arithmetic: what the program hands back, and the laws. -/
import Derived.Test.YtmpeembnjpgcgaaSdB
import Derived.Test.YtmpeembnjpgcgaaImC
import Derived.BigQuiet
namespace Go.Proofs.Ytmpeembnjpgcgaa
open Go.ChangeShapes Go.WideShapes Go.ChangeAt Go.RowKit

theorem tx_odd (k : Nat) : tx k % 2 = 1 := by
  induction k with
  | zero => decide
  | succ k ih => rw [tx_succ]; omega
theorem ty_par (k : Nat) : ty (2 * k) % 2 = 0 ∧ ty (2 * k + 1) % 2 = 1 := by
  induction k with
  | zero => decide
  | succ k ih =>
    have h1 := tx_odd (2 * k + 1)
    have h2 := tx_odd (2 * k + 1 + 1)
    have e : 2 * (k + 1) = 2 * k + 1 + 1 := by omega
    rw [e, ty_succ (2 * k + 1 + 1), ty_succ (2 * k + 1)]
    omega
theorem isPairIndex_yes (k : Int) (w : World) (h3 : 0 ≤ k) (h4 : k ≤ 12) :
    Calls Try.prog 31 #[.int .i64 k] w fun e w' => e = .returned (.bool true) ∧ w = w' := by
  go_enter Try.func31, Try.ntmps31
  go_wp2_with (go_at_call 37; refine (within_yes _ _ _ _ h3 h4).mono ?_; rintro e w' ⟨rfl, rfl⟩)
  go_ret
  exact ⟨rfl, rfl⟩
theorem isPairIndex_no (k : Int) (w : World) (h : k < 0 ∨ 12 < k) :
    Calls Try.prog 31 #[.int .i64 k] w fun e w' => e = .returned (.bool false) ∧ w = w' := by
  have H := Lib.hid h
  clear h
  go_enter Try.func31, Try.ntmps31
  go_wp2_with (go_at_call 37; refine (within_no _ _ _ _ H.out).mono ?_; rintro e w' ⟨rfl, rfl⟩)
  go_ret
  exact ⟨rfl, rfl⟩
/-- The step to the next pair. -/
theorem nextTwice_any (x y : Int) (w : World) (h1 : 0 ≤ x) (h2 : x ≤ 2000000000) (h3 : 0 ≤ y) (h4 : y ≤ 2000000000) :
    Calls Try.prog 50 #[.agg #[.int .i64 x, .int .i64 y]] w fun e w' => e = .returned (.agg #[.int .i64 (x + 2 * y), .int .i64 (x + y)]) ∧ Below w.heap.size w w' := by
  go_enter Try.func50, Try.ntmps50
  go_wp2
  exact bodyPost_ret (v := .agg #[.int .i64 (x + 2 * y), .int .i64 (x + y)]) (by simp [results, Try.results50, go_sem]) rfl ⟨rfl, ((Below.refl _ _).alloc (Nat.le_refl _) _).alloc (by simp) _⟩
/-- Two cells of a box that are written. -/
theorem set_two {W : World} {R : Nat} {u v : Value} (p q : Value) (c0 : W.cell? ⟨R, 0, none⟩ = some u) (c1 : W.cell? ⟨R, 1, none⟩ = some v) :
    ((W.setCell ⟨R, 0, none⟩ p).setCell ⟨R, 1, none⟩ q).cell? ⟨R, 0, none⟩ = some p ∧ ((W.setCell ⟨R, 0, none⟩ p).setCell ⟨R, 1, none⟩ q).cell? ⟨R, 1, none⟩ = some q := by
  refine ⟨?_, ?_⟩
  · rw [World.cell?_setCell_other _ _ _ _ (by intro e; simp only [Addr.mk.injEq] at e; omega)]
    exact World.cell?_setCell_same W _ _ c0
  · exact World.cell?_setCell_same _ _ _ ((World.cell?_setCell_other W _ _ _ (by intro e; simp only [Addr.mk.injEq] at e; omega)).trans c1)
theorem set_two_far {W : World} {R Q : Nat} (o : Nat) (p q : Value) (h : Q ≠ R) : ((W.setCell ⟨R, 0, none⟩ p).setCell ⟨R, 1, none⟩ q).cell? ⟨Q, o, none⟩ = W.cell? ⟨Q, o, none⟩ := by
  rw [World.cell?_setCell_other _ _ _ _ (by intro e; simp only [Addr.mk.injEq] at e; omega), World.cell?_setCell_other _ _ _ _ (by intro e; simp only [Addr.mk.injEq] at e; omega)]
set_option maxHeartbeats 800000 in
/-- A pair is led on by a step, whatever function value it is. -/
theorem ledOn_any (P : Nat → Int × Int) (K : Nat) (hK : K ≤ 1000) (fid : Nat) (first cap : Array Value) (w : World)
    (hcf : ∀ (args : Array Value) (W : World), (callFunc fid args).run Try.prog W = .ok (.enter fid args) W)
    (hf : ∀ (i : Nat) (W : World), i < K → Below w.heap.size w W → Calls Try.prog fid (first.push (.agg #[.int .i64 (P i).1, .int .i64 (P i).2]) ++ cap) W fun e W' => e = .returned (.agg #[.int .i64 (P (i + 1)).1, .int .i64 (P (i + 1)).2]) ∧ Below W.heap.size W W') :
    Calls Try.prog 42 #[.agg #[.int .i64 (P 0).1, .int .i64 (P 0).2], .func (.func fid) first cap, .int .i64 K] w fun e w' => e = .returned (.agg #[.int .i64 (P K).1, .int .i64 (P K).2]) ∧ Below w.heap.size w w' := by
  have HF := Lib.hid hf
  clear hf
  go_enter Try.func42, Try.ntmps42
  go_wp2
  go_loopw [8] (fun i wr => ∃ k : Nat, k ≤ K ∧ i = .int .i64 k ∧ wr.cell? ⟨w.heap.size, 0, none⟩ = some (.int .i64 (P k).1) ∧ wr.cell? ⟨w.heap.size, 1, none⟩ = some (.int .i64 (P k).2) ∧ wr.frozen? ⟨w.heap.size, 0, none⟩ = false ∧ wr.frozen? ⟨w.heap.size, 1, none⟩ = false ∧ wr.cell? ⟨w.heap.size + 1, 0, none⟩ = some (.int .i64 0) ∧ wr.cell? ⟨w.heap.size + 1, 1, none⟩ = some (.int .i64 0) ∧ wr.frozen? ⟨w.heap.size + 1, 0, none⟩ = false ∧ wr.frozen? ⟨w.heap.size + 1, 1, none⟩ = false ∧ Hid (w.heap.size + 2 ≤ wr.heap.size) ∧ Hid (Below w.heap.size w wr)) (fun i _ => K - (intOf i).toNat)
  case atStart => exact ⟨0, Nat.zero_le _, rfl, by simp [go_sem], by simp [go_sem], by simp [go_sem], by simp [go_sem], by simp [go_sem], by simp [go_sem], by simp [go_sem], by simp [go_sem], Lib.hid (by simp), Lib.hid (((Below.refl _ _).alloc (Nat.le_refl _) _).alloc (by simp) _)⟩
  case round =>
    obtain ⟨k, hk, rfl, c0, c1, f0, f1, d0, d1, g0, g1, hz, hb⟩ := hrel
    by_cases hlt : k < K
    · have hki : (k : Int) < (K : Int) := by omega
      go_wp2_with fail
      refine (HF.out k wr hlt hb.out).mono ?_
      rintro e w2 ⟨rfl, hb2⟩
      have z0 := hz.out
      have q0 : w.heap.size < wr.heap.size := by omega
      have q1 : w.heap.size + 1 < wr.heap.size := by omega
      have e0 := (hb2.cell (p := ⟨w.heap.size, 0, none⟩) q0).trans c0
      have e1 := (hb2.cell (p := ⟨w.heap.size, 1, none⟩) q0).trans c1
      have k0 := (hb2.frozen (p := ⟨w.heap.size, 0, none⟩) q0).trans f0
      have k1 := (hb2.frozen (p := ⟨w.heap.size, 1, none⟩) q0).trans f1
      have l0 := (hb2.cell (p := ⟨w.heap.size + 1, 0, none⟩) q1).trans d0
      have l1 := (hb2.cell (p := ⟨w.heap.size + 1, 1, none⟩) q1).trans d1
      have m0 := (hb2.frozen (p := ⟨w.heap.size + 1, 0, none⟩) q1).trans g0
      have m1 := (hb2.frozen (p := ⟨w.heap.size + 1, 1, none⟩) q1).trans g1
      have HB := Lib.hid (hb.out.trans (hb2.mono hb.out.size))
      have HZ : Hid (w.heap.size + 2 ≤ w2.heap.size) := Lib.hid (by have := hb2.size; omega)
      clear c0 c1 f0 f1 d0 d1 g0 g1 hz hb hb2 z0 q0 q1
      have HS := Lib.hid (set_two (.int .i64 (P (k + 1)).1) (.int .i64 (P (k + 1)).2) e0 e1)
      have HL0 := Lib.hid ((set_two_far (W := w2) (R := w.heap.size) (Q := w.heap.size + 1) 0 (.int .i64 (P (k + 1)).1) (.int .i64 (P (k + 1)).2) (by omega)).trans l0)
      have HL1 := Lib.hid ((set_two_far (W := w2) (R := w.heap.size) (Q := w.heap.size + 1) 1 (.int .i64 (P (k + 1)).1) (.int .i64 (P (k + 1)).2) (by omega)).trans l1)
      clear l0 l1
      go_wp2
      go_roundw
      case rel => exact ⟨k + 1, by omega, by go_num, HS.out.1, HS.out.2, by simpa using k0, by simpa using k1, HL0.out, HL1.out, by simpa using m0, by simpa using m1, Lib.hid (by simpa using HZ.out), Lib.hid ((HB.out.setCell (Nat.le_refl _) _).setCell (Nat.le_refl _) _)⟩
      case measure => simp [intOf]; omega
    · obtain rfl : k = K := by omega
      have HS := Lib.hid (set_two (R := w.heap.size + 1) (.int .i64 (P k).1) (.int .i64 (P k).2) d0 d1)
      go_wp2
      exact bodyPost_ret (v := .agg #[.int .i64 (P k).1, .int .i64 (P k).2]) (by simp [results, Try.results42, go_sem, HS.out.1, HS.out.2]) rfl ⟨rfl, (hb.out.setCell (by simp) _).setCell (by simp) _⟩
theorem cf_nextTwice : ∀ (args : Array Value) (W : World), (callFunc 50 args).run Try.prog W = .ok (.enter 50 args) W := fun _ _ => by kernel_rfl
/-- The twice pairs, one from the other. -/
theorem twicePair_any (K : Nat) (hK : K ≤ 25) (w : World) :
    Calls Try.prog 32 #[.int .i64 K] w fun e w' => e = .returned (.agg #[.int .i64 (tx K), .int .i64 (ty K)]) ∧ Below w.heap.size w w' := by
  have HL : ∀ W : World, Hid (Calls Try.prog 42 #[.agg #[.int .i64 1, .int .i64 0], .func (.func 50) #[] #[], .int .i64 K] W fun e W' => e = .returned (.agg #[.int .i64 (tx K), .int .i64 (ty K)]) ∧ Below W.heap.size W W') := fun W => Lib.hid (
    ledOn_any tp K (by omega) 50 #[] #[] W cf_nextTwice fun i W2 hi _ => by
      obtain ⟨a0, a1, a2, a3⟩ := tp_25 i (by omega)
      exact nextTwice_any (tx i) (ty i) W2 (by omega) (by omega) a2 (by omega))
  go_enter Try.func32, Try.ntmps32
  go_wp2_with (go_at_call 42; refine ((HL _).out).mono ?_; rintro e w1 ⟨rfl, hb1⟩; obtain ⟨c1, f1⟩ := bcell hb1; have z1 : w.heap.size < w1.heap.size := by have := hb1.size; simp at this; omega)
  have hB : Below w.heap.size w w1 := ((Below.refl _ _).alloc (Nat.le_refl _) _).trans (hb1.mono (by simp))
  exact bodyPost_ret (v := .agg #[.int .i64 (tx K), .int .i64 (ty K)]) (by simp [results, Try.results32, go_sem, c1]) rfl ⟨rfl, (hB.setCell (by simp) _).setCell (by simp) _⟩
theorem oddTwicePair_any (K : Nat) (hK : K ≤ 12) (w : World) :
    Calls Try.prog 36 #[.int .i64 K] w fun e w' => e = .returned (.agg #[.int .i64 (tx (2 * K + 1)), .int .i64 (ty (2 * K + 1))]) ∧ Below w.heap.size w w' := by
  have HL : ∀ W : World, Hid (Calls Try.prog 32 #[.int .i64 (2 * (K : Int) + 1)] W fun e W' => e = .returned (.agg #[.int .i64 (tx (2 * K + 1)), .int .i64 (ty (2 * K + 1))]) ∧ Below W.heap.size W W') := fun W => Lib.hid (by
    have h := twicePair_any (2 * K + 1) (by omega) W
    push_cast at h
    exact h)
  go_enter Try.func36, Try.ntmps36
  go_wp2_with (go_at_call 32; refine ((HL _).out).mono ?_; rintro e w1 ⟨rfl, hb1⟩; obtain ⟨c1, f1⟩ := bcell hb1; have z1 : w.heap.size < w1.heap.size := by have := hb1.size; simp at this; omega)
  have hB : Below w.heap.size w w1 := ((Below.refl _ _).alloc (Nat.le_refl _) _).trans (hb1.mono (by simp))
  exact bodyPost_ret (v := .agg #[.int .i64 (tx (2 * K + 1)), .int .i64 (ty (2 * K + 1))]) (by simp [results, Try.results36, go_sem, c1]) rfl ⟨rfl, (hB.setCell (by simp) _).setCell (by simp) _⟩
theorem impl_TwicePair_no (k : Int) (w : World) (h : k < 0 ∨ 12 < k) :
    Calls Try.prog 5 #[.int .i64 k] w fun e w' => e = .returned (.tuple #[.int .i64 0, .int .i64 0, .bool false]) ∧ Below w.heap.size w w' := by
  have H : Hid (k < 0 ∨ 12 < k) := Lib.hid (by omega)
  clear h
  go_enter Try.func5, Try.ntmps5
  go_wp2_with (first
    | (go_at_call 31; refine (isPairIndex_no _ _ H.out).mono ?_; rintro e w' ⟨rfl, rfl⟩))
  go_ret3
  exact ⟨rfl, Below.refl _ _⟩
theorem impl_TriangleSquarePlaces_no (k : Int) (w : World) (h : k < 0 ∨ 12 < k) :
    Calls Try.prog 9 #[.int .i64 k] w fun e w' => e = .returned (.tuple #[.int .i64 0, .int .i64 0, .bool false]) ∧ Below w.heap.size w w' := by
  have H : Hid (k < 0 ∨ 12 < k) := Lib.hid (by omega)
  clear h
  go_enter Try.func9, Try.ntmps9
  go_wp2_with (first
    | (go_at_call 31; refine (isPairIndex_no _ _ H.out).mono ?_; rintro e w' ⟨rfl, rfl⟩))
  go_ret3
  exact ⟨rfl, Below.refl _ _⟩
theorem impl_TwiceTriangle_no (k : Int) (w : World) (h : k < 0 ∨ 12 < k) :
    Calls Try.prog 11 #[.int .i64 k] w fun e w' => e = .returned (.tuple #[.int .i64 0, .int .i64 0, .bool false]) ∧ Below w.heap.size w w' := by
  have H : Hid (k < 0 ∨ 12 < k) := Lib.hid (by omega)
  clear h
  go_enter Try.func11, Try.ntmps11
  go_wp2_with (first
    | (go_at_call 31; refine (isPairIndex_no _ _ H.out).mono ?_; rintro e w' ⟨rfl, rfl⟩))
  go_ret3
  exact ⟨rfl, Below.refl _ _⟩
theorem impl_NearRight_no (k : Int) (w : World) (h : k < 0 ∨ 12 < k) :
    Calls Try.prog 13 #[.int .i64 k] w (ResI false [] w) := by
  have H : Hid (k < 0 ∨ 12 < k) := Lib.hid (by omega)
  clear h
  go_enter Try.func13, Try.ntmps13
  go_wp2_with (first
    | (go_at_call 31; refine (isPairIndex_no _ _ H.out).mono ?_; rintro e w' ⟨rfl, rfl⟩))
  go_ret2
  exact resI_nil (Below.refl _ _)

theorem impl_TwicePair_yes (K : Nat) (hK : K ≤ 12) (w : World) :
    Calls Try.prog 5 #[.int .i64 K] w fun e w' => e = .returned (.tuple #[.int .i64 (tx K), .int .i64 (ty K), .bool true]) ∧ Below w.heap.size w w' := by
  have i1 : (0 : Int) ≤ (K : Int) := by omega
  have i2 : (K : Int) ≤ 12 := by omega
  have HP := Lib.hid fun w => twicePair_any K (by omega) w
  go_enter Try.func5, Try.ntmps5
  go_wp2_with (first
    | (go_at_call 31; refine (isPairIndex_yes _ _ i1 i2).mono ?_; rintro e w' ⟨rfl, rfl⟩)
    | (go_at_call 32; refine (HP.out _).mono ?_; rintro e w1 ⟨rfl, hb1⟩))
  have hB : Below w.heap.size w (w1.alloc (.cells #[.int .i64 (tx K), .int .i64 (ty K)] 42)) := hb1.alloc hb1.size _
  have c0 : (w1.alloc (.cells #[.int .i64 (tx K), .int .i64 (ty K)] 42)).cell? ⟨w1.heap.size, 0, none⟩ = some (.int .i64 (tx K)) := by simp [go_sem]
  have c1 : (w1.alloc (.cells #[.int .i64 (tx K), .int .i64 (ty K)] 42)).cell? ⟨w1.heap.size, 1, none⟩ = some (.int .i64 (ty K)) := by simp [go_sem]
  generalize w1.alloc (.cells #[.int .i64 (tx K), .int .i64 (ty K)] 42) = w2 at *
  go_quiet (fail)
  go_wp2
  go_ret3
  exact ⟨rfl, below_drewN hB _⟩
theorem impl_TriangleSquarePlaces_yes (K : Nat) (hK : K ≤ 12) (w : World) :
    Calls Try.prog 9 #[.int .i64 K] w fun e w' => e = .returned (.tuple #[.int .i64 (min (tx K * tx K) (2 * ty K * ty K)), .int .i64 (tx K * ty K), .bool true]) ∧ Below w.heap.size w w' := by
  have i1 : (0 : Int) ≤ (K : Int) := by omega
  have i2 : (K : Int) ≤ 12 := by omega
  have HP := Lib.hid fun w => twicePair_any K (by omega) w
  obtain ⟨b0, b1, b2, b3, b4, b5, b6, b7⟩ := tp_prod K hK
  obtain ⟨a0, a1, a2, a3⟩ := tp_12 K hK
  have em : (if 2 * ty K * ty K < tx K * tx K then 2 * ty K * ty K else tx K * tx K) = min (tx K * tx K) (2 * ty K * ty K) := by omega
  rw [← em]
  clear em
  generalize tx K = x at *
  generalize ty K = y at *
  go_enter Try.func9, Try.ntmps9
  go_wp2_with (first
    | (go_at_call 31; refine (isPairIndex_yes _ _ i1 i2).mono ?_; rintro e w' ⟨rfl, rfl⟩)
    | (go_at_call 32; refine (HP.out _).mono ?_; rintro e w1 ⟨rfl, hb1⟩))
  have hB : Below w.heap.size w (w1.alloc (.cells #[.int .i64 (x), .int .i64 (y)] 42)) := hb1.alloc hb1.size _
  have c0 : (w1.alloc (.cells #[.int .i64 (x), .int .i64 (y)] 42)).cell? ⟨w1.heap.size, 0, none⟩ = some (.int .i64 (x)) := by simp [go_sem]
  have c1 : (w1.alloc (.cells #[.int .i64 (x), .int .i64 (y)] 42)).cell? ⟨w1.heap.size, 1, none⟩ = some (.int .i64 (y)) := by simp [go_sem]
  generalize w1.alloc (.cells #[.int .i64 (x), .int .i64 (y)] 42) = w2 at *
  have q1 : IntKind.i64.wrap (x * x) = x * x := IntWalk.i64_in _ (by omega)
  have q2 : IntKind.i64.wrap (2 * y) = 2 * y := IntWalk.i64_in _ (by omega)
  have q3 : IntKind.i64.wrap (2 * y * y) = 2 * y * y := IntWalk.i64_in _ (by omega)
  have q4 : IntKind.i64.wrap (x * y) = x * y := IntWalk.i64_in _ (by omega)
  go_region
  go_wp2
  all_goals (go_ret3; exact ⟨rfl, hB.drew⟩)
theorem impl_TwiceTriangle_yes (K : Nat) (hK : K ≤ 12) (w : World) :
    Calls Try.prog 11 #[.int .i64 K] w fun e w' => e = .returned (.tuple #[.int .i64 ((tx (2 * K + 1) - 1) / 2), .int .i64 ((ty (2 * K + 1) - 1) / 2), .bool true]) ∧ Below w.heap.size w w' := by
  have i1 : (0 : Int) ≤ (K : Int) := by omega
  have i2 : (K : Int) ≤ 12 := by omega
  have HP := Lib.hid fun w => oddTwicePair_any K hK w
  obtain ⟨a0, a1, a2, a3⟩ := tp_25 (2 * K + 1) (by omega)
  have ox := tx_odd (2 * K + 1)
  have oy := (ty_par K).2
  generalize tx (2 * K + 1) = x at *
  generalize ty (2 * K + 1) = y at *
  have ex : (x - 1) / 2 = x / 2 := by omega
  have ey : (y - 1) / 2 = y / 2 := by omega
  rw [ex, ey]
  clear ex ey ox oy
  go_enter Try.func11, Try.ntmps11
  go_wp2_with (first
    | (go_at_call 31; refine (isPairIndex_yes _ _ i1 i2).mono ?_; rintro e w' ⟨rfl, rfl⟩)
    | (go_at_call 36; refine (HP.out _).mono ?_; rintro e w1 ⟨rfl, hb1⟩))
  have hB : Below w.heap.size w (w1.alloc (.cells #[.int .i64 x, .int .i64 y] 42)) := hb1.alloc hb1.size _
  have c0 : (w1.alloc (.cells #[.int .i64 x, .int .i64 y] 42)).cell? ⟨w1.heap.size, 0, none⟩ = some (.int .i64 x) := by simp [go_sem]
  have c1 : (w1.alloc (.cells #[.int .i64 x, .int .i64 y] 42)).cell? ⟨w1.heap.size, 1, none⟩ = some (.int .i64 y) := by simp [go_sem]
  generalize w1.alloc (.cells #[.int .i64 x, .int .i64 y] 42) = w2 at *
  go_quiet (fail)
  go_wp2
  go_ret3
  exact ⟨rfl, below_drewN hB _⟩
theorem impl_NearRight_yes (K : Nat) (hK : K ≤ 12) (w : World) :
    Calls Try.prog 13 #[.int .i64 K] w (ResI true (nrt K) w) := by
  have i1 : (0 : Int) ≤ (K : Int) := by omega
  have i2 : (K : Int) ≤ 12 := by omega
  have HP := Lib.hid fun w => oddTwicePair_any K hK w
  obtain ⟨a0, a1, a2, a3⟩ := tp_25 (2 * K + 1) (by omega)
  have ox := tx_odd (2 * K + 1)
  have HN : Hid (nrt K = [tx (2 * K + 1) / 2, tx (2 * K + 1) / 2 + 1, ty (2 * K + 1)]) := Lib.hid (by
    have ex : (tx (2 * K + 1) - 1) / 2 = tx (2 * K + 1) / 2 := by omega
    rw [nrt, ex])
  generalize tx (2 * K + 1) = x at *
  generalize ty (2 * K + 1) = y at *
  clear ox
  go_enter Try.func13, Try.ntmps13
  go_wp2_with (first
    | (go_at_call 31; refine (isPairIndex_yes _ _ i1 i2).mono ?_; rintro e w' ⟨rfl, rfl⟩)
    | (go_at_call 36; refine (HP.out _).mono ?_; rintro e w1 ⟨rfl, hb1⟩))
  go_ret2
  rw [HN.out]
  exact ⟨some ⟨(w1.alloc (.cells #[.int .i64 x, .int .i64 y] 42)).heap.size, 0, none⟩, 3, by rw [World.size_alloc]; rfl, (own_of_row (World.ownsRow_lit (w1.alloc (.cells #[.int .i64 x, .int .i64 y] 42)) (base := w.heap.size) (e := 3) (size := 1) #[.int .i64 (x / 2), .int .i64 (x / 2 + 1), .int .i64 y] 3 (by have := hb1.size; simp; omega) (by unfold maxLen; omega) rfl)), (hb1.alloc hb1.size _).alloc (by have := hb1.size; simp; omega) _⟩
theorem impl_TriangleSquare_no (k : Int) (w : World) (h : k < 0 ∨ 12 < k) :
    Calls Try.prog 7 #[.int .i64 k] w fun e w' => e = .returned (.tuple #[.int .i64 0, .bool false]) ∧ Below w.heap.size w w' := by
  have HP := Lib.hid fun w => impl_TriangleSquarePlaces_no k w h
  clear h
  go_enter Try.func7, Try.ntmps7
  go_wp2_with (go_at_call 9; refine (HP.out _).mono ?_; rintro e w1 ⟨rfl, hb1⟩)
  go_ret2
  exact ⟨rfl, hb1⟩
theorem impl_TriangleSquare_yes (K : Nat) (hK : K ≤ 12) (w : World) :
    Calls Try.prog 7 #[.int .i64 K] w fun e w' => e = .returned (.tuple #[.int .i64 (tx K * ty K * tx K * ty K), .bool true]) ∧ Below w.heap.size w w' := by
  have HP := Lib.hid fun w => impl_TriangleSquarePlaces_yes K hK w
  obtain ⟨b0, b1, b2, b3, b4, b5, b6, b7⟩ := tp_prod K hK
  have e0 : tx K * ty K * tx K * ty K = (tx K * ty K) * (tx K * ty K) := Int.mul_assoc _ _ _
  rw [e0]
  clear e0
  generalize min (tx K * tx K) (2 * ty K * ty K) = z at *
  generalize tx K * ty K = x at *
  have e3 : 0 ≤ x * x := Int.mul_nonneg b0 b0
  have e4 : x * x ≤ 271669860 * 271669860 := Int.mul_le_mul b1 b1 (by omega) (by omega)
  go_enter Try.func7, Try.ntmps7
  go_wp2_with (go_at_call 9; refine (HP.out _).mono ?_; rintro e w1 ⟨rfl, hb1⟩)
  go_ret2
  exact ⟨rfl, hb1⟩
theorem impl_HexagonsAre_no (n : Int) (w : World) (h : n < 1 ∨ 50000 < n) :
    Calls Try.prog 20 #[.int .i64 n] w fun e w' => e = .returned (.tuple #[.int .i64 0, .bool false]) ∧ Below w.heap.size w w' := by
  have H : Hid (n < 1 ∨ 50000 < n) := Lib.hid (by omega)
  clear h
  go_enter Try.func20, Try.ntmps20
  go_wp2_with (first
    | (go_at_call 37; refine (within_no _ _ _ _ H.out).mono ?_; rintro e w' ⟨rfl, rfl⟩))
  go_ret2
  exact ⟨rfl, Below.refl _ _⟩
theorem impl_SquareOfOdd_no (k : Int) (w : World) (h : k < 0 ∨ 100000 < k) :
    Calls Try.prog 22 #[.int .i64 k] w fun e w' => e = .returned (.tuple #[.int .i64 0, .int .i64 0, .bool false]) ∧ Below w.heap.size w w' := by
  have H : Hid (k < 0 ∨ 100000 < k) := Lib.hid (by omega)
  clear h
  go_enter Try.func22, Try.ntmps22
  go_wp2_with (first
    | (go_at_call 37; refine (within_no _ _ _ _ H.out).mono ?_; rintro e w' ⟨rfl, rfl⟩))
  go_ret3
  exact ⟨rfl, Below.refl _ _⟩
theorem impl_HexagonsAre_yes (n : Int) (h3 : 1 ≤ n) (h4 : n ≤ 50000) (w : World) :
    Calls Try.prog 20 #[.int .i64 n] w fun e w' => e = .returned (.tuple #[.int .i64 (2 * n - 1), .bool true]) ∧ Below w.heap.size w w' := by
  go_enter Try.func20, Try.ntmps20
  go_wp2_with (go_at_call 37; refine (within_yes _ _ _ _ h3 h4).mono ?_; rintro e w' ⟨rfl, rfl⟩)
  go_ret2
  exact ⟨rfl, Below.refl _ _⟩
theorem impl_SquareOfOdd_yes (k : Int) (h3 : 0 ≤ k) (h4 : k ≤ 100000) (w : World) :
    Calls Try.prog 22 #[.int .i64 k] w fun e w' => e = .returned (.tuple #[.int .i64 ((2 * k + 1) * (2 * k + 1)), .int .i64 k, .bool true]) ∧ Below w.heap.size w w' := by
  have a0 : 0 ≤ (2 * k + 1) * (2 * k + 1) := Int.mul_nonneg (by omega) (by omega)
  have a1 : (2 * k + 1) * (2 * k + 1) ≤ 200001 * 200001 := Int.mul_le_mul (by omega) (by omega) (by omega) (by omega)
  go_enter Try.func22, Try.ntmps22
  go_wp2_with (go_at_call 37; refine (within_yes _ _ _ _ h3 h4).mono ?_; rintro e w' ⟨rfl, rfl⟩)
  go_ret3
  exact ⟨rfl, Below.refl _ _⟩
end Go.Proofs.Ytmpeembnjpgcgaa
