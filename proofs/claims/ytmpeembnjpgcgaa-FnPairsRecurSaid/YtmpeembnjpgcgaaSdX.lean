/- Chapter 4: the laws RecurrenceOf, GoOnBy. -/
import Derived.Test.YtmpeembnjpgcgaaSdW
namespace Go.Proofs.Ytmpeembnjpgcgaa
open Go.ChangeShapes Go.WideShapes Go.ChangeAt Go.RowKit

set_option maxHeartbeats 1600000 in
theorem impl_RecurrenceOf_no (A : Option Addr) (n c : Nat) (xs : List Int) (w : World) (hn : xs.length = n) (hm : n ≤ 1048576) (ha : Rd w w.heap.size A (i64s xs)) (h : (n < 4 ∨ 20 < n) ∨ allIn xs (-1000000000000000) 1000000000000000 = false) :
    Calls Try.prog 16 #[.slice A n c] w fun e w' => e = .returned (.tuple #[.int .i64 0, .int .i64 0, .bool false]) ∧ Below w.heap.size w w' := by
  have HA := Lib.hid ha
  have HN := Lib.hid hn
  by_cases h1 : n < 4 ∨ 20 < n
  · have HF : Hid (betw (n : Int) 4 20 = false) := Lib.hid (betw_no (by omega))
    clear h h1 ha hn
    go_enter Try.func16, Try.ntmps16
    go_wp2_with (go_at_call 37; refine (within_any _ _ _ _).mono ?_; rw [HF.out]; rintro e w' ⟨rfl, rfl⟩)
    go_ret3
    exact ⟨rfl, Below.refl _ _⟩
  · have HF : Hid (betw (n : Int) 4 20 = true) := Lib.hid (betw_yes (by omega) (by omega))
    have HL := Lib.hid (h.resolve_left h1)
    clear h h1 ha hn
    go_enter Try.func16, Try.ntmps16
    go_wp2_with (go_at_call 37; refine (within_any _ _ _ _).mono ?_; rw [HF.out]; rintro e w' ⟨rfl, rfl⟩)
    go_loopw [14] (fun i wr => ∃ k : Nat, k ≤ n ∧ i = .int .i64 k ∧ Hid (allIn (xs.take k) (-1000000000000000) 1000000000000000 = true) ∧ wr = w) (fun i _ => n - (intOf i).toNat)
    case atStart => exact ⟨0, Nat.zero_le _, rfl, Lib.hid (by simp [allIn]), rfl⟩
    case round =>
      obtain ⟨k, hk, rfl, HP, rfl⟩ := hrel
      by_cases hlt : k < n
      · obtain ⟨ad, rfl, _, hcx⟩ := HA.out.get (k := k) (by rw [HN.out]; exact hlt)
        have ht := allIn_take xs (-1000000000000000) 1000000000000000 k (by rw [HN.out]; exact hlt) HP.out
        generalize xs.getD k 0 = x at *
        have hki : (k : Int) < (n : Int) := by omega
        by_cases hin : x < -1000000000000000 ∨ 1000000000000000 < x
        · have H := Lib.hid (betw_no hin)
          clear hin ht
          go_wp2_with (go_at_call 38; refine (ofSize_any _ _ _ (by omega) (by omega)).mono ?_; rw [H.out]; rintro e w' ⟨rfl, rfl⟩)
          first | (rw [Exit.noGoto_ret]; go_ret3) | go_ret3
          exact ⟨rfl, Below.refl _ _⟩
        · have hx1 : -1000000000000000 ≤ x := by omega
          have hx2 : x ≤ 1000000000000000 := by omega
          have H := Lib.hid (betw_yes hx1 hx2)
          have HP2 := Lib.hid (ht hx1 hx2)
          clear hin ht
          go_wp2_with (go_at_call 38; refine (ofSize_any _ _ _ (by omega) (by omega)).mono ?_; rw [H.out]; rintro e w' ⟨rfl, rfl⟩)
          go_roundw
          case rel => exact ⟨k + 1, by omega, by go_num, HP2, by trivial⟩
          case measure => simp [intOf]; omega
      · obtain rfl : k = n := by omega
        have hT := HP.out
        rw [← HN.out, List.take_length, HL.out] at hT
        cases hT
set_option maxHeartbeats 3200000 in
theorem impl_RecurrenceOf_any (A : Option Addr) (n c : Nat) (xs : List Int) (w : World) (hn : xs.length = n) (hm1 : 4 ≤ n) (hm2 : n ≤ 20) (ha : Rd w w.heap.size A (i64s xs)) (h : allIn xs (-1000000000000000) 1000000000000000 = true) (r1 r2 : Int) (ok : Bool)
    (hy : (recT xs 2001).2.2 = 1 → r1 = (recT xs 2001).1 ∧ r2 = (recT xs 2001).2.1 ∧ ok = true) (hz : (recT xs 2001).2.2 ≠ 1 → r1 = 0 ∧ r2 = 0 ∧ ok = false) :
    Calls Try.prog 16 #[.slice A n c] w fun e w' => e = .returned (.tuple #[.int .i64 r1, .int .i64 r2, .bool ok]) ∧ Below w.heap.size w w' := by
  have HA := Lib.hid ha
  have HN := Lib.hid hn
  have HF : Hid (betw (n : Int) 4 20 = true) := Lib.hid (betw_yes (by omega) (by omega))
  have HX := Lib.hid (allIn_bd xs _ _ (by omega) (by omega) h)
  obtain ⟨ad, rfl, _, _⟩ := ha (by simp; omega)
  have HLen := Lib.hid (recL_len xs 2001)
  have HOne := Lib.hid (recL_one xs 2001)
  have HYZ := Lib.hid (And.intro hy hz)
  clear hy hz ha hn h
  go_enter Try.func16, Try.ntmps16
  go_wp2_with (go_at_call 37; refine (within_any _ _ _ _).mono ?_; rw [HF.out]; rintro e w' ⟨rfl, rfl⟩)
  go_loopw [14] (fun i wr => ∃ k : Nat, k ≤ n ∧ i = .int .i64 k ∧ wr = w) (fun i _ => n - (intOf i).toNat)
  case atStart => exact ⟨0, Nat.zero_le _, rfl, rfl⟩
  case round =>
    obtain ⟨k, hk, rfl, rfl⟩ := hrel
    by_cases hlt : k < n
    · obtain ⟨ad', he, _, hcx⟩ := HA.out.get (k := k) (by rw [HN.out]; exact hlt)
      cases he
      obtain ⟨hx1, hx2⟩ := HX.out k
      generalize xs.getD k 0 = x at *
      have hki : (k : Int) < (n : Int) := by omega
      have H := Lib.hid (betw_yes hx1 hx2)
      go_wp2_with (go_at_call 38; refine (ofSize_any _ _ _ (by omega) (by omega)).mono ?_; rw [H.out]; rintro e w' ⟨rfl, rfl⟩)
      go_roundw
      case rel => exact ⟨k + 1, by omega, by go_num, by trivial⟩
      case measure => simp [intOf]; omega
    · obtain rfl : k = n := by omega
      go_wp2_with fail
      refine (recsOf_any ad _ c _ xs wr HN.out hm1 hm2 HA.out (Nat.le_refl _) HX.out).mono ?_
      rintro e w1 ⟨⟨B, d, rfl, ho⟩, hb⟩
      have HB := Lib.hid hb
      have HO := Lib.hid ho
      clear hb ho
      obtain ⟨hl, hl2⟩ := HLen.out
      by_cases h1 : (recL xs 2001).length = 1
      · obtain ⟨p, hp⟩ : ∃ p, recL xs 2001 = [p] := List.length_eq_one_iff.1 h1
        have hpe := HOne.out p hp
        obtain ⟨y1, y2, rfl⟩ := HYZ.out.1 (by rw [← hl, h1]; rfl)
        have hcs : rpr (recL xs 2001) = [.int .i64 r1, .int .i64 r2] := by rw [hp, hpe, y1, y2]; rfl
        have ho := HO.out
        rw [hcs] at ho
        obtain ⟨g, o, rfl, _, _, hcell⟩ := ho (by simp)
        have e0 : w1.cell? ⟨g, o, none⟩ = some (.int .i64 r1) := (hcell 0 (.int .i64 r1) rfl).1
        have e1 : w1.cell? ⟨g, o + 1, none⟩ = some (.int .i64 r2) := (hcell 1 (.int .i64 r2) rfl).1
        rw [h1]
        clear ho hcell hcs y1 y2 HYZ HOne hpe hp h1 hl hl2 HO HLen
        go_wp2
        go_quiet (fail)
        go_wp2
        go_ret3
        exact ⟨rfl, below_drewN HB.out _⟩
      · have hne : (((recL xs 2001).length : Int) != 1) = true := by simp; omega
        obtain ⟨rfl, rfl, rfl⟩ := HYZ.out.2 (by rw [← hl]; omega)
        go_wp2
        go_ret3
        exact ⟨rfl, HB.out⟩
end Go.Proofs.Ytmpeembnjpgcgaa
