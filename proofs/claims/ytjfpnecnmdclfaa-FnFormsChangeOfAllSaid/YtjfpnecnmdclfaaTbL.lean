/- Chapter 8: FormOfShape, by the specification. -/
import Derived.Test.YtjfpnecnmdclfaaTbK
namespace Go.Proofs.Ytjfpnecnmdclfaa
open Go.RowKit

theorem sides8_any (s : Int) (w : World) : Calls Try.prog 53 #[.int .i64 s] w fun e w' => e = .returned (.bool (decide (3 ≤ s ∧ s ≤ 24))) ∧ w = w' := by
  by_cases h : s < 3 ∨ 24 < s
  · rw [decide_eq_false (by omega)]
    have H := Lib.hid h
    clear h
    go_enter Try.func53, Try.ntmps53
    go_wp2_with (go_at_call 63; refine (in_no _ _ _ _ H.out).mono ?_; rintro e w' ⟨rfl, rfl⟩)
    go_ret
    exact ⟨rfl, rfl⟩
  · have h2 : 3 ≤ s := by omega
    have h3 : s ≤ 24 := by omega
    rw [decide_eq_true ⟨h2, h3⟩]
    clear h
    go_enter Try.func53, Try.ntmps53
    go_wp2_with (go_at_call 63; refine (in_yes _ _ _ _ h2 h3).mono ?_; rintro e w' ⟨rfl, rfl⟩)
    go_ret
    exact ⟨rfl, rfl⟩
set_option maxHeartbeats 800000 in
theorem spec_FormOfShape_no (s : Int) (w : World) (h : s < 3 ∨ 24 < s) :
    Calls Try.prog 23 #[.int .i64 s] w (ResI false [] w) := by
  have HS := Lib.hid fun W => sides8_any s W
  rw [decide_eq_false (by omega)] at HS
  clear h
  go_enter Try.func23, Try.ntmps23
  go_wp2_with (go_at_call 53; refine (HS.out _).mono ?_; rintro e w' ⟨rfl, rfl⟩)
  go_ret2
  exact resI_nil (Below.refl _ _)
set_option maxHeartbeats 800000 in
theorem spec_FormOfShape_yes (s : Int) (w : World) (h0 : 3 ≤ s) (h1 : s ≤ 24) :
    Calls Try.prog 23 #[.int .i64 s] w (ResI true [0, 1, s - 2] w) := by
  have HS := Lib.hid fun W => sides8_any s W
  rw [decide_eq_true ⟨h0, h1⟩] at HS
  have e1 : IntKind.i64.wrap (s - 2) = s - 2 := IntWalk.i64_in _ (by omega)
  clear h0 h1
  go_enter Try.func23, Try.ntmps23
  go_wp2_with (go_at_call 53; refine (HS.out _).mono ?_; rintro e w' ⟨rfl, rfl⟩)
  go_ret2
  have hb := (Below.refl w.heap.size w).alloc (Nat.le_refl _) (.cells #[.int .i64 0, .int .i64 1, .int .i64 (s - 2)] 3)
  refine ⟨some ⟨w.heap.size, 0, none⟩, 3, rfl, fun _ => ⟨w.heap.size, 0, rfl, Nat.le_refl _, by simp, fun j u hu => ?_⟩, hb⟩
  rw [Nat.zero_add]
  match j, hu with
  | 0, hu => simp at hu; subst hu; exact ⟨by simp [go_sem], by simp [go_sem]⟩
  | 1, hu => simp at hu; subst hu; exact ⟨by simp [go_sem], by simp [go_sem]⟩
  | 2, hu => simp at hu; subst hu; exact ⟨by simp [go_sem], by simp [go_sem]⟩
  | _ + 3, hu => simp at hu
end Go.Proofs.Ytjfpnecnmdclfaa
