/- Chapter 5: bounds, a run's last number, the sums of runs. -/
import Derived.Test.YtcfpdlkkniilpaaGreatDoorBase
import Derived.Test.YtcfpdlkkniilpaaGreatDoorSpA
import Derived.Test.YtcfpdlkkniilpaaGreatDoorImA
import Derived.Test.YtcfpdlkkniilpaaGreatDoorRuN
import Derived.Test.YtcfpdlkkniilpaaGreatDoorOwS
namespace Go.Proofs.YtcfpdlkkniilpaaGreatDoor
open Go.ChangeShapes Go.WideShapes Go.ChangeAt Go.RowKit

def betr (x lo hi : Int) : Bool := decide (lo ≤ x ∧ x ≤ hi)
theorem betr_yes {x lo hi : Int} (h1 : lo ≤ x) (h2 : x ≤ hi) : betr x lo hi = true := decide_eq_true ⟨h1, h2⟩
theorem betr_no {x lo hi : Int} (h : x < lo ∨ hi < x) : betr x lo hi = false := decide_eq_false (by omega)
theorem rin_any (x lo hi : Int) (w : World) : Calls Tryz.prog 46 #[.int .i64 x, .int .i64 lo, .int .i64 hi] w fun e w' => e = .returned (.bool (betr x lo hi)) ∧ w = w' := by
  by_cases h : x < lo ∨ hi < x
  · rw [betr_no h]; exact in_no _ _ _ _ h
  · rw [betr_yes (x := x) (lo := lo) (hi := hi) (by omega) (by omega)]; exact in_yes _ _ _ _ (by omega) (by omega)
theorem rwithin_any (x lo hi : Int) (w : World) : Calls Tryz.prog 43 #[.int .i64 x, .int .i64 lo, .int .i64 hi] w fun e w' => e = .returned (.bool (betr x lo hi)) ∧ w = w' := by
  by_cases h : x < lo ∨ hi < x
  · rw [betr_no h]; exact within_no _ _ _ _ h
  · rw [betr_yes (x := x) (lo := lo) (hi := hi) (by omega) (by omega)]; exact within_yes _ _ _ _ (by omega) (by omega)
theorem rofSize_any (x g : Int) (w : World) (h1 : 0 ≤ g) (h2 : g ≤ 1000000000000000) : Calls Tryz.prog 42 #[.int .i64 x, .int .i64 g] w fun e w' => e = .returned (.bool (betr x (-g) g)) ∧ w = w' := by
  go_enter Tryz.func42, Tryz.ntmps42
  go_wp2_with (go_at_call 43; refine (rwithin_any _ _ _ _).mono ?_; rintro e w' ⟨rfl, rfl⟩)
  go_ret
  exact ⟨rfl, rfl⟩
theorem isRunned_any (n : Int) (w : World) : Calls Tryz.prog 32 #[.int .i64 n] w fun e w' => e = .returned (.bool (betr n 1 1000000)) ∧ w = w' := by
  go_enter Tryz.func32, Tryz.ntmps32
  go_wp2_with (go_at_call 43; refine (rwithin_any _ _ _ _).mono ?_; rintro e w' ⟨rfl, rfl⟩)
  go_ret
  exact ⟨rfl, rfl⟩
theorem ruGood_any (n : Int) (w : World) : Calls Tryz.prog 34 #[.int .i64 n] w fun e w' => e = .returned (.bool (betr n 1 1000000)) ∧ w = w' := by
  go_enter Tryz.func34, Tryz.ntmps34
  go_wp2_with (go_at_call 46; refine (rin_any _ _ _ _).mono ?_; rintro e w' ⟨rfl, rfl⟩)
  go_ret
  exact ⟨rfl, rfl⟩

theorem last_any' (f l : Int) (w : World) (f1 : -100000000000000 ≤ f) (f2 : f ≤ 100000000000000) (l1 : -100000000000000 ≤ l) (l2 : l ≤ 100000000000000) :
    Calls Tryz.prog 40 #[.agg #[.int .i64 f, .int .i64 l]] w fun e w' => e = .returned (.int .i64 (f + l - 1)) ∧ w' = w.alloc (.cells #[.int .i64 f, .int .i64 l] 31) := by
  go_enter Tryz.func40, Tryz.ntmps40
  go_wp2
  go_ret
  exact ⟨rfl, rfl⟩
theorem last_below (f l : Int) (w : World) (f1 : -100000000000000 ≤ f) (f2 : f ≤ 100000000000000) (l1 : -100000000000000 ≤ l) (l2 : l ≤ 100000000000000) :
    Calls Tryz.prog 40 #[.agg #[.int .i64 f, .int .i64 l]] w fun e w' => e = .returned (.int .i64 (f + l - 1)) ∧ Below w.heap.size w w' :=
  (last_any' f l w f1 f2 l1 l2).mono fun e w' ⟨he, hw⟩ => ⟨he, hw ▸ (Below.refl _ _).alloc (Nat.le_refl _) _⟩
theorem apart_any (a b : Int) (w : World) (a1 : 0 ≤ a) (a2 : a ≤ 100000000000000) (b1 : 0 ≤ b) (b2 : b ≤ 100000000000000) :
    Calls Tryz.prog 54 #[.agg #[.int .i64 a, .int .i64 b]] w fun e w' => e = .returned (.int .i64 (b - a)) ∧ w' = w.alloc (.cells #[.int .i64 a, .int .i64 b] 69) := by
  go_enter Tryz.func54, Tryz.ntmps54
  go_wp2
  go_ret
  exact ⟨rfl, rfl⟩
theorem ret_bool {a b : Bool} (h : a = b) : Ending.returned (.bool a) = .returned (.bool b) := by rw [h]
theorem areAlike_any (a b : Int) (w : World) (a1 : 0 ≤ a) (a2 : a ≤ b) (b2 : b ≤ 100000000000000) :
    Calls Tryz.prog 53 #[.agg #[.int .i64 a, .int .i64 b]] w fun e w' => e = .returned (.bool (alikeB (a, b))) ∧ Below w.heap.size w w' := by
  have H : Hid (alikeB (a, b) = ((b - a) % 2 == 0)) := Lib.hid (by unfold alikeB; by_cases h : (b - a) % 2 = 0 <;> simp [h])
  go_enter Tryz.func53, Tryz.ntmps53
  go_wp2_with (go_at_call 54; refine (apart_any _ _ _ (by omega) (by omega) (by omega) (by omega)).mono ?_; rintro e w' ⟨rfl, rfl⟩)
  go_ret
  exact ⟨ret_bool H.out.symm, ((Below.refl _ _).alloc (Nat.le_refl _) _).alloc (by simp) _⟩

/-! ### sums of runs -/
/-- What the walks over a run's sum ask. -/
structure SumBds (f l : Int) : Prop where
  f0 : -1000000 ≤ f
  f1 : f ≤ 1000000
  l0 : 0 ≤ l
  l1 : l ≤ 1000000
  p0 : -3000000000000 ≤ l * f
  p1 : l * f ≤ 3000000000000
  q0 : 0 ≤ l * (l - 1)
  q1 : l * (l - 1) ≤ 3000000000000
  r0 : -6000000000000 ≤ l * (f + (f + l - 1))
  r1 : l * (f + (f + l - 1)) ≤ 6000000000000
  s : (l * (f + (f + l - 1))).tdiv 2 = l * f + l * (l - 1) / 2
theorem sum_bds' (f l : Int) (f0 : -1000000 ≤ f) (f1 : f ≤ 1000000) (l0 : 0 ≤ l) (l1 : l ≤ 1000000) : SumBds f l := by
  have a1 := Int.mul_nonneg (a := l) (b := 1000000 - f) l0 (by omega)
  have a2 := Int.mul_nonneg (a := l) (b := 1000000 + f) l0 (by omega)
  have e1 : l * (1000000 - f) = 1000000 * l - l * f := by grind
  have e2 : l * (1000000 + f) = 1000000 * l + l * f := by grind
  have b1 := pr_nn l
  have b2 := Int.mul_nonneg (a := l) (b := 1000000 - l) l0 (by omega)
  have e3 : l * (1000000 - l) = 1000000 * l - l * (l - 1) - l := by grind
  have e4 : l * (f + (f + l - 1)) = 2 * (l * f) + l * (l - 1) := by grind
  have ev := even_pr l
  have e5 : (l * (f + (f + l - 1))).tdiv 2 = (l * (f + (f + l - 1))) / 2 := tdiv2 _ (by omega)
  refine ⟨f0, f1, l0, l1, by omega, by omega, by omega, by omega, by omega, by omega, ?_⟩
  rw [e5]
  omega
theorem ruSum_any (f l : Int) (w : World) (h : SumBds f l) :
    Calls Tryz.prog 49 #[.agg #[.int .i64 f, .int .i64 l]] w fun e w' => e = .returned (.int .i64 (l * f + l * (l - 1) / 2)) ∧ Below w.heap.size w w' := by
  obtain ⟨f0, f1, l0, l1, p0, p1, q0, q1, r0, r1, s⟩ := h
  clear s
  go_enter Tryz.func49, Tryz.ntmps49
  go_wp2
  go_ret
  exact ⟨rfl, (Below.refl _ _).alloc (Nat.le_refl _) _⟩
theorem spec_SumOfRun_yes (f l : Int) (w : World) (h : SumBds f l) :
    Calls Tryz.prog 23 #[.agg #[.int .i64 f, .int .i64 l]] w fun e w' => e = .returned (.tuple #[.int .i64 (l * f + l * (l - 1) / 2), .bool true]) ∧ Below w.heap.size w w' := by
  have HA := Lib.hid (betr_yes h.f0 h.f1)
  have HB := Lib.hid (betr_yes h.l0 h.l1)
  go_enter Tryz.func23, Tryz.ntmps23
  go_wp2_with (first
    | (go_at_call 46; refine (rin_any _ _ _ _).mono ?_; (first | rw [HA.out] | rw [HB.out]); rintro e w' ⟨rfl, rfl⟩)
    | (go_at_call 49; refine (ruSum_any _ _ _ h).mono ?_; rintro e w1 ⟨rfl, hb1⟩))
  go_ret2
  exact ⟨rfl, ((Below.refl _ _).alloc (Nat.le_refl _) _).trans (hb1.mono (by simp))⟩
theorem impl_SumOfRun_yes (f l : Int) (w : World) (h : SumBds f l) :
    Calls Tryz.prog 18 #[.agg #[.int .i64 f, .int .i64 l]] w fun e w' => e = .returned (.tuple #[.int .i64 (l * f + l * (l - 1) / 2), .bool true]) ∧ Below w.heap.size w w' := by
  have HA := Lib.hid (betr_yes h.f0 h.f1)
  have HB := Lib.hid (betr_yes h.l0 h.l1)
  obtain ⟨f0, f1, l0, l1, p0, p1, q0, q1, r0, r1, s⟩ := h
  have HS := Lib.hid s
  clear s
  go_enter Tryz.func18, Tryz.ntmps18
  go_wp2_with (first
    | (go_at_call 42; refine (rofSize_any _ _ _ (by omega) (by omega)).mono ?_; rw [HA.out]; rintro e w' ⟨rfl, rfl⟩)
    | (go_at_call 43; refine (rwithin_any _ _ _ _).mono ?_; rw [HB.out]; rintro e w' ⟨rfl, rfl⟩)
    | fail)
  have c0 : (w.alloc (.cells #[.int .i64 f, .int .i64 l] 31)).cell? ⟨w.heap.size, 0, none⟩ = some (.int .i64 f) := by simp [go_sem]
  have c1 : (w.alloc (.cells #[.int .i64 f, .int .i64 l] 31)).cell? ⟨w.heap.size, 1, none⟩ = some (.int .i64 l) := by simp [go_sem]
  have hz : w.heap.size < (w.alloc (.cells #[.int .i64 f, .int .i64 l] 31)).heap.size := by simp
  have hb : Below w.heap.size w (w.alloc (.cells #[.int .i64 f, .int .i64 l] 31)) := (Below.refl _ _).alloc (Nat.le_refl _) _
  generalize w.alloc (.cells #[.int .i64 f, .int .i64 l] 31) = W at *
  obtain ⟨R, hR⟩ : ∃ R, R = w.heap.size := ⟨_, rfl⟩
  rw [← hR] at c0 c1 hz ⊢
  have q1 : IntKind.i64.wrap (f + (f + l - 1)) = f + (f + l - 1) := IntWalk.i64_in _ (by omega)
  have q2 : IntKind.i64.wrap (l * (f + (f + l - 1))) = l * (f + (f + l - 1)) := IntWalk.i64_in _ (by omega)
  have q3 : IntKind.i64.wrap ((l * (f + (f + l - 1))).tdiv 2) = l * f + l * (l - 1) / 2 := by rw [HS.out]; exact IntWalk.i64_in _ (by omega)
  have HR := Lib.hid hR
  clear hR
  go_region_held3 (fun w' => w'.cell? ⟨R, 0, none⟩ = some (.int .i64 f) ∧ w'.cell? ⟨R, 1, none⟩ = some (.int .i64 l))
    (first | exact ⟨c0, c1⟩ | exact ⟨(hb1.cell (p := ⟨R, 0, none⟩) hz).trans c0, (hb1.cell (p := ⟨R, 1, none⟩) hz).trans c1⟩)
    (first | (go_at_call 40; refine (last_below _ _ _ (by omega) (by omega) (by omega) (by omega)).mono ?_; rintro e w1 ⟨rfl, hb1⟩))
  go_wp2
  go_ret2
  exact ⟨rfl, hb.drew.trans (hb1.mono hb.size)⟩
theorem spec_SumOfRun_no (f l : Int) (w : World) (h : (f < -1000000 ∨ 1000000 < f) ∨ (l < 0 ∨ 1000000 < l)) :
    Calls Tryz.prog 23 #[.agg #[.int .i64 f, .int .i64 l]] w fun e w' => e = .returned (.tuple #[.int .i64 0, .bool false]) ∧ Below w.heap.size w w' := by
  by_cases hs : f < -1000000 ∨ 1000000 < f
  · have HA := Lib.hid (betr_no hs)
    clear h hs
    go_enter Tryz.func23, Tryz.ntmps23
    go_wp2_with (go_at_call 46; refine (rin_any _ _ _ _).mono ?_; rw [HA.out]; rintro e w' ⟨rfl, rfl⟩)
    go_ret2
    exact ⟨rfl, (Below.refl _ _).alloc (Nat.le_refl _) _⟩
  · have HA := Lib.hid (betr_yes (x := f) (lo := -1000000) (hi := 1000000) (by omega) (by omega))
    have HB := Lib.hid (betr_no (x := l) (lo := 0) (hi := 1000000) (by omega))
    clear h hs
    go_enter Tryz.func23, Tryz.ntmps23
    go_wp2_with (go_at_call 46; refine (rin_any _ _ _ _).mono ?_; (first | rw [HA.out] | rw [HB.out]); rintro e w' ⟨rfl, rfl⟩)
    go_ret2
    exact ⟨rfl, (Below.refl _ _).alloc (Nat.le_refl _) _⟩
theorem impl_SumOfRun_no (f l : Int) (w : World) (h : (f < -1000000 ∨ 1000000 < f) ∨ (l < 0 ∨ 1000000 < l)) :
    Calls Tryz.prog 18 #[.agg #[.int .i64 f, .int .i64 l]] w fun e w' => e = .returned (.tuple #[.int .i64 0, .bool false]) ∧ Below w.heap.size w w' := by
  by_cases hs : f < -1000000 ∨ 1000000 < f
  · have HA := Lib.hid (betr_no hs)
    clear h hs
    go_enter Tryz.func18, Tryz.ntmps18
    go_wp2_with (go_at_call 42; refine (rofSize_any _ _ _ (by omega) (by omega)).mono ?_; rw [HA.out]; rintro e w' ⟨rfl, rfl⟩)
    go_ret2
    exact ⟨rfl, (Below.refl _ _).alloc (Nat.le_refl _) _⟩
  · have HA := Lib.hid (betr_yes (x := f) (lo := -1000000) (hi := 1000000) (by omega) (by omega))
    have HB := Lib.hid (betr_no (x := l) (lo := 0) (hi := 1000000) (by omega))
    clear h hs
    go_enter Tryz.func18, Tryz.ntmps18
    go_wp2_with (first
      | (go_at_call 42; refine (rofSize_any _ _ _ (by omega) (by omega)).mono ?_; rw [HA.out]; rintro e w' ⟨rfl, rfl⟩)
      | (go_at_call 43; refine (rwithin_any _ _ _ _).mono ?_; rw [HB.out]; rintro e w' ⟨rfl, rfl⟩))
    go_ret2
    exact ⟨rfl, (Below.refl _ _).alloc (Nat.le_refl _) _⟩

end Go.Proofs.YtcfpdlkkniilpaaGreatDoor
