/- Chapter 8, the program: whole numbers of 128 digits. -/
import Derived.Test.YtjfpnecnmdclfaaMb
import Derived.Test.YtjfpnecnmdclfaaTbQ
import Derived.Test.YtjfpnecnmdclfaaImA
import Derived.Shelf.Spec.BitsCarry
namespace Go.Proofs.Ytjfpnecnmdclfaa
open Go.RowKit

theorem within8_any (x lo hi : Int) (w : World) : Calls Try.prog 42 #[.int .i64 x, .int .i64 lo, .int .i64 hi] w fun e w' => e = .returned (.bool (decide (lo ≤ x ∧ x ≤ hi))) ∧ w = w' := by
  by_cases h : x < lo ∨ hi < x
  · rw [decide_eq_false (by omega)]; exact within_no _ _ _ _ h
  · rw [decide_eq_true (by omega)]; exact within_yes _ _ _ _ (by omega) (by omega)
theorem ofSize8_any (x g : Int) (w : World) (h1 : 0 ≤ g) (h2 : g ≤ 1000000000000000) : Calls Try.prog 82 #[.int .i64 x, .int .i64 g] w fun e w' => e = .returned (.bool (decide (-g ≤ x ∧ x ≤ g))) ∧ w = w' := by
  go_enter Try.func82, Try.ntmps82
  go_wp2_with (go_at_call 42; refine (within8_any _ _ _ _).mono ?_; rintro e w' ⟨rfl, rfl⟩)
  go_ret
  exact ⟨by simp, rfl⟩

/-- A whole number of 128 digits, as a value. -/
abbrev lng (v : Int) : Value := .agg #[.int .u64 (hi8 v), .int .u64 (lo8 v)]
theorem add64_run (x y c : Int) (hx : 0 ≤ x) (hy : 0 ≤ y) (hc0 : 0 ≤ c) (hc : c ≤ 1) (w : World) :
    (callFunc 80 #[.int .u64 x, .int .u64 y, .int .u64 c]).run Try.prog w =
      .ok (.value (.tuple #[.int .u64 ((x + y + c) % 18446744073709551616), .int .u64 ((x + y + c) / 18446744073709551616)])) w := by
  rw [run_callFunc_extern Try.func80 (by kernel_rfl) (by kernel_rfl) (by kernel_rfl) (e := add64Entry) (by kernel_rfl), run_add64 x y c hx hy hc0 hc]
  rfl
theorem sub64_run (x y b : Nat) (hb : b ≤ 1) (w : World) :
    (callFunc 86 #[.int .u64 x, .int .u64 y, .int .u64 b]).run Try.prog w =
      .ok (.value (.tuple #[.int .u64 (((x + 18446744073709551616 - y - b) % 18446744073709551616 : Nat) : Int), .int .u64 ((if x < y + b then 1 else 0 : Nat) : Int)])) w := by
  rw [run_callFunc_extern Try.func86 (by kernel_rfl) (by kernel_rfl) (by kernel_rfl) (e := sub64Entry) (by kernel_rfl), run_sub64 x y b hb]
  rfl
theorem longOf_any (n : Int) (w : World) (h1 : -9223372036854775808 ≤ n) (h2 : n ≤ 9223372036854775807) :
    Calls Try.prog 69 #[.int .i64 n] w fun e w' => e = .returned (lng n) ∧ Below w.heap.size w w' := by
  have e1 : IntKind.u64.wrap (n / 9223372036854775808) = hi8 n := by
    rw [IntKind.wrap_u64, hi8_small n h1 h2]
    split <;> omega
  have e2 : IntKind.u64.wrap n = lo8 n := IntKind.wrap_u64 n
  unfold lng
  generalize hi8 n = a at *
  generalize lo8 n = b at *
  clear h1 h2
  go_enter Try.func69, Try.ntmps69
  go_wp2
  exact bodyPost_ret (v := .agg #[.int .u64 a, .int .u64 b]) (by simp [results, Try.results69, go_sem]) rfl ⟨rfl, (Below.refl _ _).alloc (Nat.le_refl _) _⟩
set_option maxRecDepth 8000 in
theorem plus_any (u v : Int) (w : World) :
    Calls Try.prog 71 #[lng u, lng v] w fun e w' => e = .returned (lng (u + v)) ∧ Below w.heap.size w w' := by
  have hu := lo8_bds u
  have hv := lo8_bds v
  have hhu := hi8_bds u
  have hhv := hi8_bds v
  obtain ⟨c, hc⟩ : ∃ c, c = (lo8 u + lo8 v) / 18446744073709551616 := ⟨_, rfl⟩
  have r1 : ∀ W, (callFunc 80 #[.int .u64 (lo8 u), .int .u64 (lo8 v), .int .u64 0]).run Try.prog W = .ok (.value (.tuple #[.int .u64 (lo8 (u + v)), .int .u64 c])) W := fun W => by
    rw [add64_run _ _ _ hu.1 hv.1 (by omega) (by omega), hc, lo8_add, Int.add_zero]
  have r2 : ∀ W, (callFunc 80 #[.int .u64 (hi8 u), .int .u64 (hi8 v), .int .u64 c]).run Try.prog W = .ok (.value (.tuple #[.int .u64 (hi8 (u + v)), .int .u64 ((hi8 u + hi8 v + c) / 18446744073709551616)])) W := fun W => by
    rw [add64_run _ _ _ hhu.1 hhv.1 (by omega) (by omega), hi8_add, hc]
  clear hc
  unfold lng
  generalize (hi8 u + hi8 v + c) / 18446744073709551616 = d at *
  generalize lo8 (u + v) = a at *
  generalize hi8 (u + v) = b at *
  generalize lo8 u = a1 at *
  generalize lo8 v = a2 at *
  generalize hi8 u = b1 at *
  generalize hi8 v = b2 at *
  clear hu hv hhu hhv
  go_enter Try.func71, Try.ntmps71
  go_wp2
  exact bodyPost_ret (v := .agg #[.int .u64 b, .int .u64 a]) (by simp [results, Try.results71, go_sem]) rfl ⟨rfl, (((Below.refl w.heap.size w).alloc (Nat.le_refl _) _).alloc (by simp) _).alloc (by simp; omega) _⟩
set_option maxRecDepth 8000 in
theorem minus_any (u v : Int) (w : World) :
    Calls Try.prog 83 #[lng u, lng v] w fun e w' => e = .returned (lng (u - v)) ∧ Below w.heap.size w w' := by
  obtain ⟨c, hc⟩ : ∃ c : Int, c = if lo8 u < lo8 v then 1 else 0 := ⟨_, rfl⟩
  obtain ⟨d, r1, r2⟩ : ∃ d : Int, (∀ W, (callFunc 86 #[.int .u64 (lo8 u), .int .u64 (lo8 v), .int .u64 0]).run Try.prog W = .ok (.value (.tuple #[.int .u64 (lo8 (u - v)), .int .u64 c])) W) ∧
      (∀ W, (callFunc 86 #[.int .u64 (hi8 u), .int .u64 (hi8 v), .int .u64 c]).run Try.prog W = .ok (.value (.tuple #[.int .u64 (hi8 (u - v)), .int .u64 d])) W) := by
    rw [lo8_sub, hi8_sub, ← hc]
    obtain ⟨a1, e1, l1⟩ := lo8_nat u
    obtain ⟨a2, e2, l2⟩ := lo8_nat v
    obtain ⟨b1, e3, l3⟩ := hi8_nat u
    obtain ⟨b2, e4, l4⟩ := hi8_nat v
    rw [e1, e2] at hc
    rw [e1, e2, e3, e4]
    obtain ⟨cn, hcn, hc1⟩ : ∃ cn : Nat, c = (cn : Int) ∧ cn ≤ 1 := by
      by_cases h : (a1 : Int) < a2
      · exact ⟨1, by rw [hc, if_pos h]; rfl, by omega⟩
      · exact ⟨0, by rw [hc, if_neg h]; rfl, by omega⟩
    refine ⟨((if b1 < b2 + cn then 1 else 0 : Nat) : Int), fun W => ?_, fun W => ?_⟩
    · have := sub64_run a1 a2 0 (by omega) W
      rw [show ((0 : Nat) : Int) = 0 from rfl] at this
      rw [this, show ((a1 + 18446744073709551616 - a2 - 0) % 18446744073709551616 : Nat) = ((a1 : Int) + 18446744073709551616 - a2) % 18446744073709551616 by omega]
      have e : ((if a1 < a2 + 0 then 1 else 0 : Nat) : Int) = c := by
        rw [hc]
        by_cases h : a1 < a2
        · rw [if_pos (by omega), if_pos (by omega)]; rfl
        · rw [if_neg (by omega), if_neg (by omega)]; rfl
      rw [e]
    · rw [hcn, sub64_run b1 b2 cn hc1 W, show ((b1 + 18446744073709551616 - b2 - cn) % 18446744073709551616 : Nat) = ((b1 : Int) + 18446744073709551616 - b2 - cn) % 18446744073709551616 by omega]
  clear hc
  unfold lng
  generalize lo8 (u - v) = a at *
  generalize hi8 (u - v) = b at *
  generalize lo8 u = a1 at *
  generalize lo8 v = a2 at *
  generalize hi8 u = b1 at *
  generalize hi8 v = b2 at *
  go_enter Try.func83, Try.ntmps83
  go_wp2
  exact bodyPost_ret (v := .agg #[.int .u64 b, .int .u64 a]) (by simp [results, Try.results83, go_sem]) rfl ⟨rfl, (((Below.refl w.heap.size w).alloc (Nat.le_refl _) _).alloc (by simp) _).alloc (by simp; omega) _⟩
end Go.Proofs.Ytjfpnecnmdclfaa
