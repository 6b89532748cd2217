/- Chapter 8, the program: lists and forms tested; entries. -/
import Derived.Test.YtmjgjdebcmbjeaaTcJ
import Derived.Test.YtmjgjdebcmbjeaaTbJ
namespace Go.Proofs.Ytmjgjdebcmbjeaa
open Go.RowKit

/-- A row that may be a list or a form as to its length and its numbers. -/
def ent8 (xs : List Int) : Bool := decide (xs.length ≤ 12) && allIn xs (-1000000) 1000000
theorem ent8_len {xs : List Int} (h : ent8 xs = true) : xs.length ≤ 12 := by
  unfold ent8 at h
  rw [Bool.and_eq_true, decide_eq_true_iff] at h
  exact h.1
theorem gd8_ent (xs : List Int) : gd8 xs = (decide (0 < xs.length) && ent8 xs) := by
  unfold gd8 ent8
  by_cases h1 : 0 < xs.length
  · by_cases h2 : xs.length ≤ 12
    · rw [decide_eq_true h1, decide_eq_true h2, decide_eq_true ⟨h1, h2⟩]
      simp
    · rw [decide_eq_true h1, decide_eq_false h2, decide_eq_false (by omega)]
      simp
  · rw [decide_eq_false h1, decide_eq_false (by omega)]
    simp
theorem fm8_ent (xs : List Int) : fm8 xs = (ent8 xs && (decide (xs.length = 0) || decide (xs.getD (xs.length - 1) 0 ≠ 0))) := rfl
theorem isEntry8_any (x : Int) (w : World) : Calls Try.prog 78 #[.int .i64 x] w fun e w' => e = .returned (.bool (decide (-1000000 ≤ x ∧ x ≤ 1000000))) ∧ w = w' := by
  have HS := Lib.hid fun W => ofSize8_any x 1000000 W (by omega) (by omega)
  generalize decide (-1000000 ≤ x ∧ x ≤ 1000000) = r at *
  go_enter Try.func78, Try.ntmps78
  go_wp2_with (go_at_call 104; refine (HS.out _).mono ?_; rintro e w' ⟨rfl, rfl⟩)
  go_ret
  exact ⟨rfl, rfl⟩
set_option maxHeartbeats 800000 in
theorem areEntries_any (A : Option Addr) (n c lo hi : Nat) (xs : List Int) (w : World) (hn : xs.length = n) (hm : n ≤ 1048576) (ha : Own w lo hi A (i64s xs)) :
    Calls Try.prog 98 #[.slice A n c] w fun e w' => e = .returned (.bool (ent8 xs)) ∧ w = w' := by
  have HA := Lib.hid ha
  have HN := Lib.hid hn
  obtain ⟨r, hr⟩ : ∃ r, r = ent8 xs := ⟨_, rfl⟩
  rw [← hr]
  by_cases h12 : 12 < n
  · have hF : r = false := by rw [hr, ent8, decide_eq_false (by omega), Bool.false_and]
    subst hF
    have hi12 : (n : Int) > 12 := by omega
    clear ha hn hr h12
    go_enter Try.func98, Try.ntmps98
    go_wp2
    go_ret
    exact ⟨rfl, rfl⟩
  · have hi12 : ¬ (n : Int) > 12 := by omega
    have hr2 : r = allIn xs (-1000000) 1000000 := by rw [hr, ent8, decide_eq_true (by omega), Bool.true_and]
    have HR := Lib.hid hr2
    have HG := Lib.hid (show ∀ k, k < n → (i64s xs)[k]? = some (.int .i64 (xs.getD k 0)) from fun k hk => by simp [List.getD_eq_getElem?_getD, hn, hk])
    have HIL : Hid ((i64s xs).length = n) := Lib.hid (by simp [hn])
    clear ha hn hr hr2 h12
    go_enter Try.func98, Try.ntmps98
    go_wp2
    go_loopw [10] (fun i wr => ∃ k : Nat, k ≤ n ∧ i = .int .i64 (k : Int) ∧ Hid (allIn (xs.take k) (-1000000) 1000000 = true) ∧ wr = w) (fun i _ => n - (intOf i).toNat)
    case atStart => exact ⟨0, Nat.zero_le _, by simp, Lib.hid (by simp [allIn]), rfl⟩
    case round =>
      obtain ⟨k, hk, rfl, HP, rfl⟩ := hrel
      by_cases hlt : k < n
      · obtain ⟨g, o, rfl, hg0, hg1, hcs⟩ := HA.out (by rw [HIL.out]; omega)
        have hcx := (hcs _ _ (HG.out k hlt)).1
        have ho := allIn_out xs (-1000000) 1000000 k (by rw [HN.out]; exact hlt)
        have ht := allIn_take xs (-1000000) 1000000 k (by rw [HN.out]; exact hlt) HP.out
        generalize xs.getD k 0 = x at *
        have hki : (k : Int) < (n : Int) := by omega
        have HE := Lib.hid fun W => isEntry8_any x W
        clear hcs
        by_cases hin : x < -1000000 ∨ 1000000 < x
        · have hF : r = false := by rw [HR.out]; exact ho hin
          subst hF
          rw [decide_eq_false (by omega)] at HE
          clear hin ho ht
          go_wp2_with (go_at_call 78; refine (HE.out _).mono ?_; rintro e w' ⟨rfl, rfl⟩)
          first | (rw [Exit.noGoto_ret]; go_ret) | go_ret
          exact ⟨rfl, rfl⟩
        · have HP2 := Lib.hid (ht (by omega) (by omega))
          rw [decide_eq_true (by omega)] at HE
          clear hin ho ht
          go_wp2_with (go_at_call 78; refine (HE.out _).mono ?_; rintro e w' ⟨rfl, rfl⟩)
          go_roundw
          case rel => exact ⟨k + 1, by omega, by go_num, HP2, by trivial⟩
          case measure => simp [intOf]; omega
      · obtain rfl : k = n := by omega
        have hT : r = true := by rw [HR.out, ← HP.out, ← HN.out, List.take_length]
        subst hT
        go_wp2
        go_ret
        exact ⟨rfl, rfl⟩
theorem isList8_any (A : Option Addr) (n c lo hi : Nat) (xs : List Int) (w : World) (hn : xs.length = n) (hm : n ≤ 1048576) (ha : Own w lo hi A (i64s xs)) :
    Calls Try.prog 60 #[.slice A n c] w fun e w' => e = .returned (.bool (gd8 xs)) ∧ w = w' := by
  have HE := Lib.hid (areEntries_any A n c lo hi xs w hn hm ha)
  rw [gd8_ent, hn]
  generalize ent8 xs = r at *
  by_cases h0 : 0 < n
  · rw [decide_eq_true h0, Bool.true_and]
    have hi0 : (n : Int) > 0 := by omega
    clear ha hn h0
    go_enter Try.func60, Try.ntmps60
    go_wp2_with (go_at_call 98; refine HE.out.mono ?_; rintro e w' ⟨rfl, rfl⟩)
    go_ret
    exact ⟨by simp, rfl⟩
  · rw [decide_eq_false h0, Bool.false_and]
    have hi0 : ¬ (n : Int) > 0 := by omega
    clear ha hn h0
    go_enter Try.func60, Try.ntmps60
    go_wp2
    go_ret
    exact ⟨rfl, rfl⟩
theorem lastInt_any (A : Option Addr) (n c lo hi : Nat) (xs : List Int) (w : World) (hn : xs.length = n + 1) (hm : n ≤ 1048576) (ha : Own w lo hi A (i64s xs)) :
    Calls Try.prog 102 #[.slice A (n + 1) c] w fun e w' => e = .returned (.int .i64 (xs.getD n 0)) ∧ w = w' := by
  obtain ⟨g, o, rfl, hg1, hg2, hcs⟩ := ha (by simp [hn])
  have hcx := (hcs n (.int .i64 (xs.getD n 0)) (by simp [List.getD_eq_getElem?_getD, hn])).1
  obtain ⟨m, hmn⟩ : ∃ m, m = n + 1 := ⟨_, rfl⟩
  rw [← hmn]
  have e1 : IntKind.i64.wrap ((m : Int) - 1) = (n : Int) := by rw [IntWalk.i64_in _ (by omega)]; omega
  have h1 : (n : Int) < (m : Int) := by omega
  have h0 : (0 : Int) ≤ (n : Int) := by omega
  generalize xs.getD n 0 = x at *
  clear ha hcs hn hmn
  go_enter Try.func102, Try.ntmps102
  go_wp2
  go_ret
  exact ⟨rfl, rfl⟩
set_option maxHeartbeats 800000 in
theorem isForm8_any (A : Option Addr) (n c lo hi : Nat) (xs : List Int) (w : World) (hn : xs.length = n) (hm : n ≤ 1048576) (ha : Own w lo hi A (i64s xs)) :
    Calls Try.prog 72 #[.slice A n c] w fun e w' => e = .returned (.bool (fm8 xs)) ∧ w = w' := by
  have HE := Lib.hid (areEntries_any A n c lo hi xs w hn hm ha)
  rw [fm8_ent, hn]
  cases n with
  | zero =>
    rw [decide_eq_true rfl, Bool.true_or, Bool.and_true]
    generalize ent8 xs = r at *
    clear ha hn
    cases r with
    | false =>
      go_enter Try.func72, Try.ntmps72
      go_wp2_with (go_at_call 98; refine HE.out.mono ?_; rintro e w' ⟨rfl, rfl⟩)
      go_ret
      exact ⟨rfl, rfl⟩
    | true =>
      go_enter Try.func72, Try.ntmps72
      go_wp2_with (go_at_call 98; refine HE.out.mono ?_; rintro e w' ⟨rfl, rfl⟩)
      go_ret
      exact ⟨rfl, rfl⟩
  | succ m =>
    have HL := Lib.hid (lastInt_any A m c lo hi xs w hn (by omega) ha)
    rw [decide_eq_false (by omega), Bool.false_or, Nat.add_sub_cancel]
    have h0 : ¬ ((m + 1 : Nat) : Int) = 0 := by omega
    obtain ⟨q, hq⟩ : ∃ q, q = m + 1 := ⟨_, rfl⟩
    rw [← hq] at HE HL h0 ⊢
    generalize ent8 xs = r at *
    generalize xs.getD m 0 = x at *
    clear ha hn hq
    cases r with
    | false =>
      go_enter Try.func72, Try.ntmps72
      go_wp2_with (go_at_call 98; refine HE.out.mono ?_; rintro e w' ⟨rfl, rfl⟩)
      go_ret
      exact ⟨rfl, rfl⟩
    | true =>
      have hz1 : ((q : Int) == 0) = false := by simp; omega
      go_enter Try.func72, Try.ntmps72
      go_wp2_with (first
        | (go_at_call 98; refine HE.out.mono ?_; rintro e w' ⟨rfl, rfl⟩)
        | (go_at_call 102; refine HL.out.mono ?_; rintro e w' ⟨rfl, rfl⟩))
      go_ret
      exact ⟨by cases hz : decide (x = 0) <;> simp_all [], rfl⟩
theorem entries_any (A : Option Addr) (n c lo hi : Nat) (xs : List Int) (w : World) (hn : xs.length = n) (hm : n ≤ 1000) (hX : Sm xs) (ha : Own w lo hi A (l64s xs)) (hh : hi ≤ w.heap.size) :
    Calls Try.prog 68 #[.slice A n c] w (ResI (ent8 xs) (ans8 (ent8 xs) xs) w) := by
  have HE := Lib.hid (numbers_any 1000000 A n c lo hi xs w hn hm hX (by omega) (by omega) ha hh)
  by_cases h12 : 12 < n
  · have hF : ent8 xs = false := by rw [ent8, decide_eq_false (by omega), Bool.false_and]
    rw [hF, show ans8 false xs = [] from rfl]
    have hi12 : (n : Int) > 12 := by omega
    clear ha hn hX hh h12 HE
    go_enter Try.func68, Try.ntmps68
    go_wp2
    go_ret2
    exact resI_nil (Below.refl _ _)
  · have hr : ent8 xs = allIn xs (-1000000) 1000000 := by rw [ent8, decide_eq_true (by omega), Bool.true_and]
    have hi12 : ¬ (n : Int) > 12 := by omega
    rw [hr]
    rw [show -(1000000 : Int) = -1000000 from rfl] at HE
    generalize allIn xs (-1000000) 1000000 = r at *
    generalize ans8 r xs = ys at *
    clear ha hn hX hh h12 hr
    go_enter Try.func68, Try.ntmps68
    go_wp2_with (go_at_call 63; refine HE.out.mono ?_; rintro e w2 ⟨B, d, rfl, hO, hb⟩)
    go_ret2
    exact ⟨B, d, rfl, hO, hb⟩
theorem ans8_len {r : Bool} {xs : List Int} (h : xs.length ≤ 1000000000) : (ans8 r xs).length ≤ 1000000000 := by
  cases r
  · exact Nat.zero_le _
  · exact h
end Go.Proofs.Ytmjgjdebcmbjeaa
