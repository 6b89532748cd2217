/- Chapter 7: the specification's texts of rows, dots counted; the laws IsPicture, CountDots, SizeOfPicture. -/
import Derived.Test.YtppdjjdejggjaaaDoorDtB
namespace Go.Proofs.YtppdjjdejggjaaaDoor
open Go.ChangeShapes Go.WideShapes Go.ChangeAt Go.RowKit

theorem cat7 (x y : ByteArray) (h : x.size + y.size ≤ 1000000) (W : World) : (Op.stringOp .add x y).run Tryd.prog W = .ok (.string (x ++ y)) W := run_string_add_sum W x y (by omega)
theorem slash_app (a r : List UInt8) : bt a ++ (⟨#[47]⟩ ++ bt r) = bt (a ++ (47 :: r)) := by
  rw [show (⟨#[47]⟩ : ByteArray) = bt [47] from rfl, bt_app, bt_app]
  rfl
theorem joinP_take (R : List (List UInt8)) (j : Nat) (h1 : 1 ≤ j) (h : j < R.length) : joinP 47 (R.take (j + 1)) = joinP 47 (R.take j) ++ (47 :: R.getD j []) := by
  have hne : R.take j ≠ [] := by
    intro e
    have := congrArg List.length e
    rw [List.length_take] at this
    simp only [List.length_nil] at this
    omega
  rw [List.take_succ_eq_append_getElem h, joinP_snoc _ _ _ hne]
  simp [List.getD, h]
theorem joinP_le (R : List (List UInt8)) (hr : ∀ r ∈ R, r.length ≤ 100) (j : Nat) : (joinP 47 (R.take j)).length ≤ j * 101 := by
  induction j with
  | zero => simp [joinP]
  | succ j ih =>
    rcases Nat.lt_or_ge j R.length with h | h
    · rcases Nat.eq_zero_or_pos j with rfl | hj
      · cases R with
        | nil => simp at h
        | cons r rs =>
          have := hr r (by simp)
          simp [joinP]
          omega
      · rw [joinP_take R j hj h]
        have : (R.getD j []).length ≤ 100 := by
          have e : R.getD j [] = R[j] := by simp [List.getD, h]
          rw [e]
          exact hr _ (List.getElem_mem h)
        rw [List.length_append, List.length_cons]
        omega
    · rw [List.take_of_length_le (by omega)]
      rw [List.take_of_length_le (by omega)] at ih
      omega
/-- IsPicture, CountDots, SizeOfPicture, by the specification. -/
theorem spec_IsPicture (s : ByteArray) (w : World) (hs : s.size ≤ 10000000) :
    Calls Tryd.prog 28 #[.string s] w fun e w' => e = .returned (.bool (isPic s.data.toList)) ∧ Below w.heap.size w w' := by
  have HR := Lib.hid fun W => doRows_any s W hs
  have HP : Hid (isPic s.data.toList = rowsOk (parts s.data.toList 47)) := Lib.hid rfl
  rw [HP.out]
  clear HP
  generalize parts s.data.toList 47 = R at *
  cases hr : rowsOk R
  · have HO := Lib.hid hr
    clear hr
    go_enter Tryd.func28, Tryd.ntmps28
    go_wp2_with (go_at_call 40; refine (HR.out _).mono ?_; rintro e w1 ⟨h1, hb1⟩; obtain ⟨h2, _⟩ | ⟨_, rfl⟩ := h1; (rw [HO.out] at h2; cases h2))
    go_ret
    exact ⟨rfl, hb1⟩
  · have HO := Lib.hid hr
    clear hr
    go_enter Tryd.func28, Tryd.ntmps28
    go_wp2_with (go_at_call 40; refine (HR.out _).mono ?_; rintro e w1 ⟨h1, hb1⟩; obtain ⟨_, A, c, rfl, hrow⟩ | ⟨h2, _⟩ := h1; rotate_left; (rw [HO.out] at h2; cases h2))
    go_ret
    exact ⟨rfl, hb1⟩
end Go.Proofs.YtppdjjdejggjaaaDoor
