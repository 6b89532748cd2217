/- Contracts of the program's functions of chapter 1, 2: rules and places. -/
import Derived.Test.YtjfkeflmbgfhmaaGreatDoorImA
import Derived.Deep.RegionHeld3
namespace Go.Proofs.YtjfkeflmbgfhmaaGreatDoor
open Go.RowKit

theorem areSides_yes (s : Int) (w : World) (h1 : 3 ≤ s) (h2 : s ≤ 24) :
    Calls Tryz.prog 48 #[.int .i64 s] w fun e w' => e = .returned (.bool true) ∧ w = w' := by
  go_enter Tryz.func48, Tryz.ntmps48
  go_wp2_with (go_at_call 37; refine (within_yes _ _ _ _ h1 h2).mono ?_; rintro e w' ⟨rfl, rfl⟩)
  go_ret
  exact ⟨rfl, rfl⟩
theorem areSides_no (s : Int) (w : World) (h : s < 3 ∨ 24 < s) :
    Calls Tryz.prog 48 #[.int .i64 s] w fun e w' => e = .returned (.bool false) ∧ w = w' := by
  have H := Lib.hid h
  clear h
  go_enter Tryz.func48, Tryz.ntmps48
  go_wp2_with (go_at_call 37; refine (within_no _ _ _ _ H.out).mono ?_; rintro e w' ⟨rfl, rfl⟩)
  go_ret
  exact ⟨rfl, rfl⟩
theorem asap_yes (s p l : Int) (w : World) (h1 : 3 ≤ s) (h2 : s ≤ 24) (h3 : l ≤ p) (h4 : p ≤ 100000) :
    Calls Tryz.prog 41 #[.int .i64 s, .int .i64 p, .int .i64 l] w fun e w' => e = .returned (.bool true) ∧ w = w' := by
  go_enter Tryz.func41, Tryz.ntmps41
  go_wp2_with (first
    | (go_at_call 48; refine (areSides_yes _ _ h1 h2).mono ?_; rintro e w' ⟨rfl, rfl⟩)
    | (go_at_call 37; refine (within_yes _ _ _ _ h3 h4).mono ?_; rintro e w' ⟨rfl, rfl⟩))
  go_ret
  exact ⟨rfl, rfl⟩
theorem asap_no (s p l : Int) (w : World) (h : (s < 3 ∨ 24 < s) ∨ (p < l ∨ 100000 < p)) :
    Calls Tryz.prog 41 #[.int .i64 s, .int .i64 p, .int .i64 l] w fun e w' => e = .returned (.bool false) ∧ w = w' := by
  by_cases hs : s < 3 ∨ 24 < s
  · have H := Lib.hid hs
    clear h hs
    go_enter Tryz.func41, Tryz.ntmps41
    go_wp2_with (go_at_call 48; refine (areSides_no _ _ H.out).mono ?_; rintro e w' ⟨rfl, rfl⟩)
    go_ret
    exact ⟨rfl, rfl⟩
  · have h1 : 3 ≤ s := by omega
    have h2 : s ≤ 24 := by omega
    have H : Hid (p < l ∨ 100000 < p) := Lib.hid (by omega)
    clear h hs
    go_enter Tryz.func41, Tryz.ntmps41
    go_wp2_with (first
      | (go_at_call 48; refine (areSides_yes _ _ h1 h2).mono ?_; rintro e w' ⟨rfl, rfl⟩)
      | (go_at_call 37; refine (within_no _ _ _ _ H.out).mono ?_; rintro e w' ⟨rfl, rfl⟩))
    go_ret
    exact ⟨rfl, rfl⟩
theorem asat_yes (s n : Int) (w : World) (h1 : 3 ≤ s) (h2 : s ≤ 24) (h3 : 0 ≤ n) (h4 : n ≤ 1000000000000) :
    Calls Tryz.prog 55 #[.int .i64 s, .int .i64 n] w fun e w' => e = .returned (.bool true) ∧ w = w' := by
  go_enter Tryz.func55, Tryz.ntmps55
  go_wp2_with (first
    | (go_at_call 48; refine (areSides_yes _ _ h1 h2).mono ?_; rintro e w' ⟨rfl, rfl⟩)
    | (go_at_call 37; refine (within_yes _ _ _ _ h3 h4).mono ?_; rintro e w' ⟨rfl, rfl⟩))
  go_ret
  exact ⟨rfl, rfl⟩
theorem asat_no (s n : Int) (w : World) (h : (s < 3 ∨ 24 < s) ∨ (n < 0 ∨ 1000000000000 < n)) :
    Calls Tryz.prog 55 #[.int .i64 s, .int .i64 n] w fun e w' => e = .returned (.bool false) ∧ w = w' := by
  by_cases hs : s < 3 ∨ 24 < s
  · have H := Lib.hid hs
    clear h hs
    go_enter Tryz.func55, Tryz.ntmps55
    go_wp2_with (go_at_call 48; refine (areSides_no _ _ H.out).mono ?_; rintro e w' ⟨rfl, rfl⟩)
    go_ret
    exact ⟨rfl, rfl⟩
  · have h1 : 3 ≤ s := by omega
    have h2 : s ≤ 24 := by omega
    have H : Hid (n < 0 ∨ 1000000000000 < n) := Lib.hid (by omega)
    clear h hs
    go_enter Tryz.func55, Tryz.ntmps55
    go_wp2_with (first
      | (go_at_call 48; refine (areSides_yes _ _ h1 h2).mono ?_; rintro e w' ⟨rfl, rfl⟩)
      | (go_at_call 37; refine (within_no _ _ _ _ H.out).mono ?_; rintro e w' ⟨rfl, rfl⟩))
    go_ret
    exact ⟨rfl, rfl⟩

theorem polygonRule_any (s : Int) (w : World) (h1 : 3 ≤ s) (h2 : s ≤ 24) :
    Calls Tryz.prog 42 #[.int .i64 s] w fun e w' => e = .returned (.agg #[.int .i64 0, .int .i64 (4 - s), .int .i64 (s - 2)]) ∧ Below w.heap.size w w' := by
  go_enter Tryz.func42, Tryz.ntmps42
  go_wp2
  exact bodyPost_ret (v := .agg #[.int .i64 0, .int .i64 (4 - s), .int .i64 (s - 2)]) (by simp [results, Tryz.results42, go_sem]) rfl ⟨rfl, (Below.refl _ _).alloc (Nat.le_refl _) _⟩

/-- What a rule's walk asks of a place: the doubled number is 2 v. -/
structure RuleBds (a b c k v : Int) : Prop where
  e : a + b * k + c * k * k = 2 * v
  v0 : 0 ≤ v
  v1 : v ≤ 400000000000000
  p0 : -400000000000000 ≤ b * k
  p1 : b * k ≤ 400000000000000
  q0 : -400000000000000 ≤ c * k
  q1 : c * k ≤ 400000000000000
  r0 : -400000000000000 ≤ c * k * k
  r1 : c * k * k ≤ 400000000000000
  a0 : -1000 ≤ a
  a1 : a ≤ 1000

theorem numberAt_any (a b c k v : Int) (w : World) (h : RuleBds a b c k v) :
    Calls Tryz.prog 43 #[.agg #[.int .i64 a, .int .i64 b, .int .i64 c], .int .i64 k] w fun e w' => e = .returned (.int .i64 v) ∧ Below w.heap.size w w' := by
  obtain ⟨he, v0, v1, p0, p1, q0, q1, r0, r1, a0, a1⟩ := h
  have hd : 0 ≤ a + b * k + c * k * k := by omega
  have hv : (a + b * k + c * k * k) / 2 = v := by omega
  have H := Lib.hid hv
  clear he hv
  go_enter Tryz.func43, Tryz.ntmps43
  go_wp2
  go_ret
  exact ⟨ret_int H.out, (Below.refl _ _).alloc (Nat.le_refl _) _⟩

end Go.Proofs.YtjfkeflmbgfhmaaGreatDoor
