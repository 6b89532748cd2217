/- Chapter 7: the specification's texts of rows, dots counted; the laws IsPicture, CountDots, SizeOfPicture. -/
import Derived.Test.YtbcgidgjdedkiaaDtB
namespace Go.Proofs.Ytbcgidgjdedkiaa
open Go.ChangeShapes Go.WideShapes Go.ChangeAt Go.RowKit

theorem cat7 (x y : ByteArray) (h : x.size + y.size ≤ 1000000) (W : World) : (Op.stringOp .add x y).run Try.prog W = .ok (.string (x ++ y)) W := run_string_add_sum W x y (by omega)
theorem slash_app (a r : List UInt8) : bt a ++ (⟨#[47]⟩ ++ bt r) = bt (a ++ (47 :: r)) := by
  rw [show (⟨#[47]⟩ : ByteArray) = bt [47] from rfl, bt_app, bt_app]
  rfl
theorem joinP_take (R : List (List UInt8)) (j : Nat) (h1 : 1 ≤ j) (h : j < R.length) : joinP 47 (R.take (j + 1)) = joinP 47 (R.take j) ++ (47 :: R.getD j []) := by
  have hne : R.take j ≠ [] := by
    intro e
    have := congrArg List.length e
    rw [List.length_take] at this
    simp only [List.length_nil] at this
    omega
  rw [List.take_succ_eq_append_getElem h, joinP_snoc _ _ _ hne]
  simp [List.getD, h]
theorem joinP_le (R : List (List UInt8)) (hr : ∀ r ∈ R, r.length ≤ 100) (j : Nat) : (joinP 47 (R.take j)).length ≤ j * 101 := by
  induction j with
  | zero => simp [joinP]
  | succ j ih =>
    rcases Nat.lt_or_ge j R.length with h | h
    · rcases Nat.eq_zero_or_pos j with rfl | hj
      · cases R with
        | nil => simp at h
        | cons r rs =>
          have := hr r (by simp)
          simp [joinP]
          omega
      · rw [joinP_take R j hj h]
        have : (R.getD j []).length ≤ 100 := by
          have e : R.getD j [] = R[j] := by simp [List.getD, h]
          rw [e]
          exact hr _ (List.getElem_mem h)
        rw [List.length_append, List.length_cons]
        omega
    · rw [List.take_of_length_le (by omega)]
      rw [List.take_of_length_le (by omega)] at ih
      omega
set_option maxRecDepth 4000 in
set_option maxHeartbeats 800000 in
theorem doText_any (g o n c : Nat) (R : List (List UInt8)) (w : World) (hn : n = R.length) (h1 : 1 ≤ n) (h2 : n ≤ 1000) (hnc : n ≤ c) (hr : ∀ r ∈ R, r.length ≤ 100)
    (hC : ∀ j : Nat, j < n → w.cell? ⟨g, o + j, none⟩ = some (.string (bt (R.getD j [])))) :
    Calls Try.prog 37 #[.slice (some ⟨g, o, none⟩) n c] w fun e w' => e = .returned (.string (bt (joinP 47 R))) ∧ w = w' := by
  have HC := Lib.hid hC
  have c0 : w.cell? ⟨g, o, none⟩ = some (.string (bt (R.getD 0 []))) := hC 0 (by omega)
  have HJ := Lib.hid fun j (a : 1 ≤ j) (b : j < n) => joinP_take R j a (by omega)
  have HL := Lib.hid fun j => joinP_le R hr j
  have HF : Hid (joinP 47 (R.take n) = joinP 47 R) := Lib.hid (by rw [List.take_of_length_le (by omega)])
  have H1 : Hid (R.getD 0 [] = joinP 47 (R.take 1)) := Lib.hid (by
    cases R with
    | nil => simp [joinP]
    | cons r rs => simp [joinP])
  have HRL : Hid (∀ j, j < n → (R.getD j []).length ≤ 100) := Lib.hid fun j hj => by
    have hjl : j < R.length := by omega
    have e : R.getD j [] = R[j] := by simp [List.getD, hjl]
    rw [e]
    exact hr _ (List.getElem_mem hjl)
  rw [H1.out] at c0
  clear hC hr hn H1
  have h10 : (1 : Int) ≤ (n : Int) := by omega
  have h11 : (0 : Int) < (n : Int) := by omega
  by_cases hn1 : n = 1
  · subst hn1
    rw [HF.out] at c0
    go_enter Try.func37, Try.ntmps37
    go_wp2_with fail
    all_goals
      go_loopw [12, 3] (fun i v wr => wr = w ∧ i = .int .i64 0 ∧ v = .string (bt (joinP 47 R))) (fun _ _ _ => 0)
      case atStart => exact ⟨rfl, by simp, rfl⟩
      case round =>
        obtain ⟨rfl, rfl, rfl⟩ := hrel
        go_wp2
        go_ret
        exact ⟨rfl, rfl⟩
  · have hc1 : ¬ c = 1 := by omega
    have hl : IntKind.i64.wrap ((n : Int) - 1) = (n : Int) - 1 := IntWalk.i64_in _ (by omega)
    go_enter Try.func37, Try.ntmps37
    go_wp2_with fail
    go_loopw [12, 3] (fun i v wr => wr = w ∧ ∃ j : Nat, j ≤ n - 1 ∧ i = .int .i64 (j : Int) ∧ v = .string (bt (joinP 47 (R.take (j + 1))))) (fun i _ _ => n - (intOf i).toNat)
    case atStart => exact ⟨rfl, 0, by omega, by simp, by simp⟩
    case round =>
      obtain ⟨rfl, j, hj, rfl, rfl⟩ := hrel
      by_cases hlt : j < n - 1
      · have hlt2 : (j : Int) < ((n - 1 : Nat) : Int) := by omega
        have cj := HC.out (j + 1) (by omega)
        have e1 := HJ.out (j + 1) (by omega) (by omega)
        have l1 := HL.out (j + 1)
        have l2 := HRL.out (j + 1) (by omega)
        generalize joinP 47 (R.take (j + 1)) = acc at *
        generalize R.getD (j + 1) [] = r at *
        have k1 := cat7 ⟨#[47]⟩ (bt r) (by simp [bt, ByteArray.size]; omega)
        have k2 := cat7 (bt acc) (⟨#[47]⟩ ++ bt r) (by simp [bt, ByteArray.size]; omega)
        rw [slash_app, ← e1] at k2
        have HE := Lib.hid e1
        clear e1 l1 l2
        have cj2 : wr.cell? ⟨g, o + 1 + j, none⟩ = some (.string (bt r)) := by rw [show o + 1 + j = o + (j + 1) by omega]; exact cj
        go_wp2
        go_roundw
        case rel => exact ⟨trivial, j + 1, by omega, by go_num, rfl⟩
        case measure => simp [intOf]; omega
      · obtain rfl : j = n - 1 := by omega
        have e : R.take (n - 1 + 1) = R.take n := by rw [show n - 1 + 1 = n by omega]
        rw [e, HF.out]
        go_wp2
        go_ret
        exact ⟨rfl, rfl⟩
end Go.Proofs.Ytbcgidgjdedkiaa
