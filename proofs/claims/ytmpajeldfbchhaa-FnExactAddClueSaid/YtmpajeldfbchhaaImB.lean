/- Contracts of the program's functions of chapter 1, 2: rules and places. -/
import Derived.Test.YtmpajeldfbchhaaImA
import Derived.Deep.RegionHeld3
namespace Go.Proofs.Ytmpajeldfbchhaa
open Go.RowKit

theorem areSides_yes (s : Int) (w : World) (h1 : 3 ≤ s) (h2 : s ≤ 24) :
    Calls Try.prog 28 #[.int .i64 s] w fun e w' => e = .returned (.bool true) ∧ w = w' := by
  go_enter Try.func28, Try.ntmps28
  go_wp2_with (go_at_call 29; refine (within_yes _ _ _ _ h1 h2).mono ?_; rintro e w' ⟨rfl, rfl⟩)
  go_ret
  exact ⟨rfl, rfl⟩
theorem areSides_no (s : Int) (w : World) (h : s < 3 ∨ 24 < s) :
    Calls Try.prog 28 #[.int .i64 s] w fun e w' => e = .returned (.bool false) ∧ w = w' := by
  have H := Lib.hid h
  clear h
  go_enter Try.func28, Try.ntmps28
  go_wp2_with (go_at_call 29; refine (within_no _ _ _ _ H.out).mono ?_; rintro e w' ⟨rfl, rfl⟩)
  go_ret
  exact ⟨rfl, rfl⟩
theorem polygonRule_any (s : Int) (w : World) (h1 : 3 ≤ s) (h2 : s ≤ 24) :
    Calls Try.prog 62 #[.int .i64 s] w fun e w' => e = .returned (.agg #[.int .i64 0, .int .i64 (4 - s), .int .i64 (s - 2)]) ∧ Below w.heap.size w w' := by
  go_enter Try.func62, Try.ntmps62
  go_wp2
  exact bodyPost_ret (v := .agg #[.int .i64 0, .int .i64 (4 - s), .int .i64 (s - 2)]) (by simp [results, Try.results62, go_sem]) rfl ⟨rfl, (Below.refl _ _).alloc (Nat.le_refl _) _⟩

/-- What a rule's walk asks of a place: the doubled number is 2 v. -/
structure RuleBds (a b c k v : Int) : Prop where
  e : a + b * k + c * k * k = 2 * v
  v0 : 0 ≤ v
  v1 : v ≤ 400000000000000
  p0 : -400000000000000 ≤ b * k
  p1 : b * k ≤ 400000000000000
  q0 : -400000000000000 ≤ c * k
  q1 : c * k ≤ 400000000000000
  r0 : -400000000000000 ≤ c * k * k
  r1 : c * k * k ≤ 400000000000000
  a0 : -1000 ≤ a
  a1 : a ≤ 1000

theorem numberAt_any (a b c k v : Int) (w : World) (h : RuleBds a b c k v) :
    Calls Try.prog 69 #[.agg #[.int .i64 a, .int .i64 b, .int .i64 c], .int .i64 k] w fun e w' => e = .returned (.int .i64 v) ∧ Below w.heap.size w w' := by
  obtain ⟨he, v0, v1, p0, p1, q0, q1, r0, r1, a0, a1⟩ := h
  have hd : 0 ≤ a + b * k + c * k * k := by omega
  have hv : (a + b * k + c * k * k) / 2 = v := by omega
  have H := Lib.hid hv
  clear he hv
  go_enter Try.func69, Try.ntmps69
  go_wp2
  go_ret
  exact ⟨ret_int H.out, (Below.refl _ _).alloc (Nat.le_refl _) _⟩

end Go.Proofs.Ytmpajeldfbchhaa
