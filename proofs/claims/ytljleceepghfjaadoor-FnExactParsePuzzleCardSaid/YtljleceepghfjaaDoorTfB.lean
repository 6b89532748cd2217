/- Chapter 9, by the specification: clues, and what fits them. -/
import Derived.Test.YtljleceepghfjaaDoorMa
namespace Go.Proofs.YtljleceepghfjaaDoor
open Go.ChangeShapes Go.WideShapes Go.ChangeAt Go.RowKit

theorem ret_bool9 {a b : Bool} (h : a = b) : Ending.returned (.bool a) = .returned (.bool b) := by rw [h]
theorem sSides9 (s : Int) (w : World) : Calls Tryd.prog 28 #[.int .i64 s] w fun e w' => e = .returned (.bool (betr s 3 24)) ∧ w = w' := by
  by_cases h : s < 3 ∨ 24 < s
  · rw [betr_no h]; exact shSides_no _ _ h
  · rw [betr_yes (x := s) (lo := 3) (hi := 24) (by omega) (by omega)]; exact shSides_yes _ _ (by omega) (by omega)
/-- It is a clue, by its kinds. -/
theorem okc9_shape {k a b : Int} (h : k = 0 ∨ k = 1 ∨ k = 5) : okc9 ⟨k, a, b⟩ = (betr a 3 24 && decide (b = 0)) := by
  show (if k = 0 ∨ k = 1 ∨ k = 5 then decide ((3 ≤ a ∧ a ≤ 24) ∧ b = 0) else _) = _
  rw [if_pos h]
  unfold betr
  simp
theorem okc9_rest {a b : Int} : okc9 ⟨2, a, b⟩ = (betr a 2 100 && betr b 0 (a - 1)) := by
  show decide _ = _
  unfold betr
  simp
theorem okc9_dig {a b : Int} : okc9 ⟨3, a, b⟩ = (betr a 0 100 && decide (b = 0)) := by
  show decide _ = _
  unfold betr
  simp
theorem okc9_less {a b : Int} : okc9 ⟨4, a, b⟩ = (betr a 0 100 && betr b 3 24) := by
  show decide _ = _
  unfold betr
  simp
theorem okc9_none {k a b : Int} (h : k < 0 ∨ 5 < k) : okc9 ⟨k, a, b⟩ = false := by
  show (if k = 0 ∨ k = 1 ∨ k = 5 then _ else if k = 2 then _ else if k = 3 then _ else if k = 4 then _ else false) = _
  rw [if_neg (by omega), if_neg (by omega), if_neg (by omega), if_neg (by omega)]
theorem kinds9 (k : Int) : k = 0 ∨ k = 1 ∨ k = 5 ∨ k = 2 ∨ k = 3 ∨ k = 4 ∨ (k < 0 ∨ 5 < k) := by omega

set_option maxHeartbeats 800000 in
theorem pzClue_shape (k a b : Int) (w : World) (h : k = 0 ∨ k = 1 ∨ k = 5) : Calls Tryd.prog 20 #[.agg #[.int .i64 k, .int .i64 a, .int .i64 b]] w fun e w' => e = .returned (.bool (betr a 3 24 && decide (b = 0))) ∧ Below w.heap.size w w' := by
  cases hx : betr a 3 24
  · have HX := Lib.hid hx
    clear hx
    rcases h with rfl | rfl | rfl <;> (
      go_enter Tryd.func20, Tryd.ntmps20
      go_wp2_with (go_at_call 28; refine (sSides9 _ _).mono ?_; rw [HX.out]; rintro e w' ⟨rfl, rfl⟩)
      go_ret
      exact ⟨rfl, (Below.refl _ _).alloc (Nat.le_refl _) _⟩)
  · have HX := Lib.hid hx
    clear hx
    by_cases hb : b = 0
    · subst hb
      rcases h with rfl | rfl | rfl <;> (
        go_enter Tryd.func20, Tryd.ntmps20
        go_wp2_with (go_at_call 28; refine (sSides9 _ _).mono ?_; rw [HX.out]; rintro e w' ⟨rfl, rfl⟩)
        go_ret
        exact ⟨ret_bool9 (by simp), (Below.refl _ _).alloc (Nat.le_refl _) _⟩)
    · rcases h with rfl | rfl | rfl <;> (
        go_enter Tryd.func20, Tryd.ntmps20
        go_wp2_with (go_at_call 28; refine (sSides9 _ _).mono ?_; rw [HX.out]; rintro e w' ⟨rfl, rfl⟩)
        go_ret
        exact ⟨ret_bool9 (by simp [hb]), (Below.refl _ _).alloc (Nat.le_refl _) _⟩)
set_option maxHeartbeats 800000 in
theorem pzClue_rest (a b : Int) (w : World) : Calls Tryd.prog 20 #[.agg #[.int .i64 2, .int .i64 a, .int .i64 b]] w fun e w' => e = .returned (.bool (betr a 2 100 && betr b 0 (a - 1))) ∧ Below w.heap.size w w' := by
  cases hx : betr a 2 100
  · have HX := Lib.hid hx
    clear hx
    go_enter Tryd.func20, Tryd.ntmps20
    go_wp2_with (go_at_call 19; refine (rin_any _ _ _ _).mono ?_; rw [HX.out]; rintro e w' ⟨rfl, rfl⟩)
    go_ret
    exact ⟨rfl, (Below.refl _ _).alloc (Nat.le_refl _) _⟩
  · have HX := Lib.hid hx
    have h1 : 2 ≤ a ∧ a ≤ 100 := of_decide_eq_true hx
    have e1 : IntKind.i64.wrap (a - 1) = a - 1 := IntWalk.i64_in _ (by omega)
    clear hx
    obtain ⟨r, hr⟩ : ∃ r, r = betr b 0 (a - 1) := ⟨_, rfl⟩
    rw [← hr]
    have HR := Lib.hid hr.symm
    clear hr
    go_enter Tryd.func20, Tryd.ntmps20
    go_wp2_with (go_at_call 19; refine (rin_any _ _ _ _).mono ?_; (first | rw [HX.out] | rw [HR.out]); rintro e w' ⟨rfl, rfl⟩)
    go_ret
    exact ⟨ret_bool9 (by simp), (Below.refl _ _).alloc (Nat.le_refl _) _⟩
set_option maxHeartbeats 800000 in
theorem pzClue_dig (a b : Int) (w : World) : Calls Tryd.prog 20 #[.agg #[.int .i64 3, .int .i64 a, .int .i64 b]] w fun e w' => e = .returned (.bool (betr a 0 100 && decide (b = 0))) ∧ Below w.heap.size w w' := by
  cases hx : betr a 0 100
  · have HX := Lib.hid hx
    clear hx
    go_enter Tryd.func20, Tryd.ntmps20
    go_wp2_with (go_at_call 19; refine (rin_any _ _ _ _).mono ?_; rw [HX.out]; rintro e w' ⟨rfl, rfl⟩)
    go_ret
    exact ⟨rfl, (Below.refl _ _).alloc (Nat.le_refl _) _⟩
  · have HX := Lib.hid hx
    clear hx
    by_cases hb : b = 0
    · subst hb
      go_enter Tryd.func20, Tryd.ntmps20
      go_wp2_with (go_at_call 19; refine (rin_any _ _ _ _).mono ?_; rw [HX.out]; rintro e w' ⟨rfl, rfl⟩)
      go_ret
      exact ⟨ret_bool9 (by simp), (Below.refl _ _).alloc (Nat.le_refl _) _⟩
    · go_enter Tryd.func20, Tryd.ntmps20
      go_wp2_with (go_at_call 19; refine (rin_any _ _ _ _).mono ?_; rw [HX.out]; rintro e w' ⟨rfl, rfl⟩)
      go_ret
      exact ⟨ret_bool9 (by simp [hb]), (Below.refl _ _).alloc (Nat.le_refl _) _⟩
set_option maxHeartbeats 800000 in
theorem pzClue_less (a b : Int) (w : World) : Calls Tryd.prog 20 #[.agg #[.int .i64 4, .int .i64 a, .int .i64 b]] w fun e w' => e = .returned (.bool (betr a 0 100 && betr b 3 24)) ∧ Below w.heap.size w w' := by
  cases hx : betr a 0 100
  · have HX := Lib.hid hx
    clear hx
    go_enter Tryd.func20, Tryd.ntmps20
    go_wp2_with (go_at_call 19; refine (rin_any _ _ _ _).mono ?_; rw [HX.out]; rintro e w' ⟨rfl, rfl⟩)
    go_ret
    exact ⟨rfl, (Below.refl _ _).alloc (Nat.le_refl _) _⟩
  · have HX := Lib.hid hx
    clear hx
    obtain ⟨r, hr⟩ : ∃ r, r = betr b 3 24 := ⟨_, rfl⟩
    rw [← hr]
    have HR := Lib.hid hr.symm
    clear hr
    go_enter Tryd.func20, Tryd.ntmps20
    go_wp2_with (first
      | (go_at_call 28; refine (sSides9 _ _).mono ?_; rw [HR.out]; rintro e w' ⟨rfl, rfl⟩)
      | (go_at_call 19; refine (rin_any _ _ _ _).mono ?_; rw [HX.out]; rintro e w' ⟨rfl, rfl⟩))
    go_ret
    exact ⟨ret_bool9 (by simp), (Below.refl _ _).alloc (Nat.le_refl _) _⟩
set_option maxHeartbeats 800000 in
theorem pzClue_none (k a b : Int) (w : World) (h : k < 0 ∨ 5 < k) : Calls Tryd.prog 20 #[.agg #[.int .i64 k, .int .i64 a, .int .i64 b]] w fun e w' => e = .returned (.bool false) ∧ Below w.heap.size w w' := by
  have n0 : k ≠ 0 := by omega
  have n1 : k ≠ 1 := by omega
  have n2 : k ≠ 2 := by omega
  have n3 : k ≠ 3 := by omega
  have n4 : k ≠ 4 := by omega
  have n5 : k ≠ 5 := by omega
  clear h
  go_enter Tryd.func20, Tryd.ntmps20
  go_wp2
  go_ret
  exact ⟨rfl, (Below.refl _ _).alloc (Nat.le_refl _) _⟩
theorem pzClue_any (c : Clu) (w : World) : Calls Tryd.prog 20 #[.agg #[.int .i64 c.k, .int .i64 c.a, .int .i64 c.b]] w fun e w' => e = .returned (.bool (okc9 c)) ∧ Below w.heap.size w w' := by
  obtain ⟨k, a, b⟩ := c
  show Calls _ _ #[.agg #[.int .i64 k, .int .i64 a, .int .i64 b]] _ _
  rcases kinds9 k with h | h | h | h | h | h | h
  · rw [okc9_shape (Or.inl h)]; exact pzClue_shape k a b w (Or.inl h)
  · rw [okc9_shape (Or.inr (Or.inl h))]; exact pzClue_shape k a b w (Or.inr (Or.inl h))
  · rw [okc9_shape (Or.inr (Or.inr h))]; exact pzClue_shape k a b w (Or.inr (Or.inr h))
  · subst h; rw [okc9_rest]; exact pzClue_rest a b w
  · subst h; rw [okc9_dig]; exact pzClue_dig a b w
  · subst h; rw [okc9_less]; exact pzClue_less a b w
  · rw [okc9_none h]; exact pzClue_none k a b w h

end Go.Proofs.YtljleceepghfjaaDoor
