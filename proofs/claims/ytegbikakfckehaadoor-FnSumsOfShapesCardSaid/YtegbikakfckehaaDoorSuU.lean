/- The laws FnExactTwoShapes and FnExactCountTwoShapes: the program's pairs of two shapes are the specification's, whatever the arguments. No condition. -/
import Derived.Test.YtegbikakfckehaaDoorSuT
import Derived.Deep.QuietTactic
import Derived.BigQuiet
namespace Go.Proofs.YtegbikakfckehaaDoor
open Go.ChangeShapes Go.WideShapes Go.ChangeAt Go.RowKit

def hp1 : List (Int × Int) → Int
  | [] => 0
  | p :: _ => p.1
def hp2 : List (Int × Int) → Int
  | [] => 0
  | p :: _ => p.2
theorem hp_app (P Q : List (Int × Int)) (h : P ≠ []) : hp1 (P ++ Q) = hp1 P ∧ hp2 (P ++ Q) = hp2 P := by
  cases P with
  | nil => exact absurd rfl h
  | cons x P => exact ⟨rfl, rfl⟩
theorem hp_len (P : List (Int × Int)) (h : P = []) : hp1 P = 0 ∧ hp2 P = 0 ∧ (P.length : Int) = 0 := by subst h; exact ⟨rfl, rfl, rfl⟩
/-- The pairs when i places are over. -/
noncomputable def qs (a b : Int) (N K i : Nat) : List (Int × Int) := pairs b N (upto (fun t => item a N (K + 1 - 1 - t)) i)
theorem qs_zero (a b : Int) (N K : Nat) : qs a b N K 0 = [] := rfl
theorem qs_all (a b : Int) (N K : Nat) : qs a b N K (K + 1) = pairs b N (came a N K) := rfl
theorem qs_len (a b : Int) (N K i : Nat) : (qs a b N K i).length ≤ i := by
  have := pairs_len b N (upto (fun t => item a N (K + 1 - 1 - t)) i)
  rw [upto_length] at this
  exact this
theorem qs_hit (a b : Int) (N K i j : Nat) (hj : K + 1 - 1 - i = j) (h : j ≤ 100 ∧ 0 ≤ num a j ∧ num a j ≤ N) (hq : num b (pl b (N - num a j)) = N - num a j) : qs a b N K (i + 1) = qs a b N K i ++ [((j : Int), pl b (N - num a j))] := by
  unfold qs
  rw [upto_succ, hj]
  have e := item_at a N j h
  have := pairs_hit b N (upto (fun t => item a N (K + 1 - 1 - t)) i) (item a N j) (by rw [e]; exact hq)
  rw [this, e]
theorem qs_miss (a b : Int) (N K i j : Nat) (hj : K + 1 - 1 - i = j) (h : j ≤ 100 ∧ 0 ≤ num a j ∧ num a j ≤ N) (hq : ¬ num b (pl b (N - num a j)) = N - num a j) : qs a b N K (i + 1) = qs a b N K i := by
  unfold qs
  rw [upto_succ, hj]
  have e := item_at a N j h
  exact pairs_miss b N (upto (fun t => item a N (K + 1 - 1 - t)) i) (item a N j) (by rw [e]; exact hq)

set_option maxHeartbeats 3200000 in
theorem suTwo_any (a b : Int) (N K : Nat) (w : World) (h1 : 3 ≤ a) (h2 : a ≤ 24) (h3 : 3 ≤ b) (h4 : b ≤ 24) (hN : N ≤ 3000) (hKp : (K : Int) = pl a N) :
    Calls Tryd.prog 56 #[.int .i64 a, .int .i64 b, .int .i64 N] w fun e w' => e = .returned (.tuple #[.int .i64 (hp1 (qs a b N K (K + 1))), .int .i64 (hp2 (qs a b N K (K + 1))), .int .i64 (qs a b N K (K + 1)).length]) ∧ w = w' := by
  have p1 := pl_77 a N h1 (by omega) (by omega)
  have hi1 : (0 : Int) ≤ (N : Int) := by omega
  have HPL := Lib.hid (fun k : Int => fits_iff a N k h1 hi1)
  have HK := Lib.hid hKp
  have hK : K ≤ 77 := by omega
  have HBL : Hid (∀ w, Calls Tryd.prog 51 #[.int .i64 a, .int .i64 N] w fun e w' => e = .returned (.int .i64 (K : Int)) ∧ w = w') := by
    rw [hKp]
    exact Lib.hid (fun w => shBelow_any a N w h1 h2 hi1 (by omega))
  clear hKp
  go_enter Tryd.func56, Tryd.ntmps56
  go_wp2_with (go_at_call 51; refine (HBL.out _).mono ?_; rintro e w' ⟨rfl, rfl⟩)
  go_loopw [9, 10, 11, 12] (fun x y c p wr => ∃ i : Nat, i ≤ K + 1 ∧ p = .int .i64 ((K : Int) - i) ∧ x = .int .i64 (hp1 (qs a b N K i)) ∧ y = .int .i64 (hp2 (qs a b N K i)) ∧ c = .int .i64 (qs a b N K i).length ∧ w = wr) (fun _ _ _ p _ => (intOf p + 1).toNat)
  case atStart => exact ⟨0, by omega, by simp, rfl, rfl, rfl, rfl⟩
  case round =>
    obtain ⟨i, hi, rfl, rfl, rfl, rfl, rfl⟩ := hrel
    by_cases hlt : i < K + 1
    · obtain ⟨j, hj⟩ : ∃ j, j = K - i := ⟨_, rfl⟩
      have hje : (K : Int) - (i : Int) = (j : Int) := by omega
      have hje2 : (j : Int) - 1 = (K : Int) - ((i + 1 : Nat) : Int) := by omega
      have hjp : (j : Int) ≤ pl a N := by have := HK.out; omega
      have hfit := (HPL.out j (by omega)).2 hjp
      have hnn := num_nn a j h1
      have hg0 : (0 : Int) ≤ (j : Int) := by omega
      have hcon : j ≤ 100 ∧ 0 ≤ num a j ∧ num a j ≤ (N : Int) := ⟨by omega, hnn, hfit⟩
      have hjj : K + 1 - 1 - i = j := by omega
      have hql := qs_len a b N K i
      obtain ⟨r, hr⟩ : ∃ r, (N : Int) - num a j = r := ⟨_, rfl⟩
      have hr0 : 0 ≤ r := by omega
      have hr1 : r ≤ 3000 := by omega
      have v0 := pl_nn b r h3 hr0
      have v1 := pl_77 b r h3 hr0 hr1
      have HJ2 := Lib.hid hje2
      rw [hje]
      clear hje hje2 hj
      by_cases hq : num b (pl b r) = r
      · have HQ := Lib.hid (qs_hit a b N K i j hjj hcon (by rw [hr]; exact hq))
        have hqq := hq
        clear hq hcon
        rw [hr] at HQ
        by_cases hP0 : qs a b N K i = []
        · have HE := Lib.hid (hp_len _ hP0)
          have HF : Hid (qs a b N K (i + 1) = [((j : Int), pl b r)]) := Lib.hid (by rw [HQ.out, hP0]; rfl)
          rw [HE.out.1, HE.out.2.1, HE.out.2.2]
          clear hP0
          go_wp2_with (first
            | (go_at_call 65; refine (shNumber_any _ _ _ (by omega) (by omega) (by omega) (by omega)).mono ?_; rintro e w' ⟨rfl, rfl⟩)
            | (go_at_call 51; refine (shBelow_any _ _ _ h3 h4 hr0 (by omega)).mono ?_; rintro e w' ⟨rfl, rfl⟩))
          go_roundw
          case rel => exact ⟨i + 1, by omega, by rw [HJ2.out], by rw [HF.out]; rfl, by rw [HF.out]; rfl, by rw [HF.out]; rfl, by first | trivial | rfl⟩
          case measure => simp [intOf] <;> omega
        · have HE := Lib.hid (hp_app (qs a b N K i) [((j : Int), pl b r)] hP0)
          have hl0 : (((qs a b N K i).length : Int) == 0) = false := by simp; exact hP0
          have HL : Hid ((qs a b N K (i + 1)).length = (qs a b N K i).length + 1) := Lib.hid (by rw [HQ.out]; simp)
          clear hP0
          generalize (qs a b N K i).length = ln at *
          go_wp2_with (first
            | (go_at_call 65; refine (shNumber_any _ _ _ (by omega) (by omega) (by omega) (by omega)).mono ?_; rintro e w' ⟨rfl, rfl⟩)
            | (go_at_call 51; refine (shBelow_any _ _ _ h3 h4 hr0 (by omega)).mono ?_; rintro e w' ⟨rfl, rfl⟩))
          go_roundw
          case rel => exact ⟨i + 1, by omega, by rw [HJ2.out], by rw [HQ.out, HE.out.1], by rw [HQ.out, HE.out.2], by rw [HL.out]; push_cast; rfl, by first | trivial | rfl⟩
          case measure => simp [intOf] <;> omega
      · have HQ := Lib.hid (qs_miss a b N K i j hjj hcon (by rw [hr]; exact hq))
        have hne : (num b (pl b r) != r) = true := by simpa using hq
        clear hq hcon
        go_wp2_with (first
          | (go_at_call 65; refine (shNumber_any _ _ _ (by omega) (by omega) (by omega) (by omega)).mono ?_; rintro e w' ⟨rfl, rfl⟩)
          | (go_at_call 51; refine (shBelow_any _ _ _ h3 h4 hr0 (by omega)).mono ?_; rintro e w' ⟨rfl, rfl⟩))
        go_roundw
        case rel => exact ⟨i + 1, by omega, by rw [HJ2.out], by rw [HQ.out], by rw [HQ.out], by rw [HQ.out], by first | trivial | rfl⟩
        case measure => simp [intOf] <;> omega
    · have hie : i = K + 1 := by omega
      have hneg : (K : Int) - (i : Int) = -1 := by omega
      have HI := Lib.hid hie
      rw [hneg]
      clear hie hneg
      go_wp2_with fail
      go_ret3
      rw [← HI.out]
      exact ⟨rfl, rfl⟩
theorem pair_cells {w : World} {base n : Nat} {v : Value} {p : Int × Int} {P : List (Int × Int)} (h : w.ownsRow base 65 2 v n (prc (p :: P))) (hn : n = (p :: P).length) :
    ∃ g c, v = .slice (some ⟨g, 0, none⟩) n c ∧ w.cell? ⟨g, 0, none⟩ = some (.int .i64 p.1) ∧ w.cell? ⟨g, 1, none⟩ = some (.int .i64 p.2) := by
  have h1 : 1 ≤ n := by rw [hn]; simp
  rcases h.2 with ⟨_, h2⟩ | ⟨g, c, cur, rfl, _⟩
  · omega
  · refine ⟨g, c, rfl, ?_, ?_⟩
    · rw [World.ownsRow.cellAt h 0 (by omega)]; simp [prc]
    · rw [World.ownsRow.cellAt h 1 (by omega)]; simp [prc]
theorem spec_TwoShapes_no (a b n : Int) (w : World) (h : (a < 3 ∨ 24 < a) ∨ ((b < 3 ∨ 24 < b) ∨ (n < 0 ∨ 3000 < n))) :
    Calls Tryd.prog 30 #[.int .i64 a, .int .i64 b, .int .i64 n] w fun e w' => e = .returned (.tuple #[.int .i64 0, .int .i64 0, .bool false]) ∧ Below w.heap.size w w' := by
  by_cases ha : a < 3 ∨ 24 < a
  · have H := Lib.hid ha
    clear h ha
    go_enter Tryd.func30, Tryd.ntmps30
    go_wp2_with (go_at_call 55; refine (shSides_no _ _ H.out).mono ?_; rintro e w' ⟨rfl, rfl⟩)
    go_ret3
    exact ⟨rfl, Below.refl _ _⟩
  · have h1 : 3 ≤ a := by omega
    have h2 : a ≤ 24 := by omega
    have H : Hid ((b < 3 ∨ 24 < b) ∨ (n < 0 ∨ 3000 < n)) := Lib.hid (by omega)
    clear h ha
    go_enter Tryd.func30, Tryd.ntmps30
    go_wp2_with (first
      | (go_at_call 55; refine (shSides_yes _ _ h1 h2).mono ?_; rintro e w' ⟨rfl, rfl⟩)
      | (go_at_call 44; refine (suGood_no _ _ _ H.out).mono ?_; rintro e w' ⟨rfl, rfl⟩))
    go_ret3
    exact ⟨rfl, Below.refl _ _⟩
theorem impl_TwoShapes_no (a b n : Int) (w : World) (h : (a < 3 ∨ 24 < a) ∨ ((b < 3 ∨ 24 < b) ∨ (n < 0 ∨ 3000 < n))) :
    Calls Tryd.prog 29 #[.int .i64 a, .int .i64 b, .int .i64 n] w fun e w' => e = .returned (.tuple #[.int .i64 0, .int .i64 0, .bool false]) ∧ Below w.heap.size w w' := by
  by_cases ha : a < 3 ∨ 24 < a
  · have H := Lib.hid ha
    clear h ha
    go_enter Tryd.func29, Tryd.ntmps29
    go_wp2_with (go_at_call 53; refine (areSides_no _ _ H.out).mono ?_; rintro e w' ⟨rfl, rfl⟩)
    go_ret3
    exact ⟨rfl, Below.refl _ _⟩
  · have h1 : 3 ≤ a := by omega
    have h2 : a ≤ 24 := by omega
    have H : Hid ((b < 3 ∨ 24 < b) ∨ (n < 0 ∨ 3000 < n)) := Lib.hid (by omega)
    clear h ha
    go_enter Tryd.func29, Tryd.ntmps29
    go_wp2_with (first
      | (go_at_call 53; refine (areSides_yes _ _ h1 h2).mono ?_; rintro e w' ⟨rfl, rfl⟩)
      | (go_at_call 38; refine (assum_no _ _ _ H.out).mono ?_; rintro e w' ⟨rfl, rfl⟩))
    go_ret3
    exact ⟨rfl, Below.refl _ _⟩
theorem spec_CountTwoShapes_no (a b n : Int) (w : World) (h : (a < 3 ∨ 24 < a) ∨ ((b < 3 ∨ 24 < b) ∨ (n < 0 ∨ 3000 < n))) :
    Calls Tryd.prog 32 #[.int .i64 a, .int .i64 b, .int .i64 n] w fun e w' => e = .returned (.tuple #[.int .i64 0, .bool false]) ∧ Below w.heap.size w w' := by
  by_cases ha : a < 3 ∨ 24 < a
  · have H := Lib.hid ha
    clear h ha
    go_enter Tryd.func32, Tryd.ntmps32
    go_wp2_with (go_at_call 55; refine (shSides_no _ _ H.out).mono ?_; rintro e w' ⟨rfl, rfl⟩)
    go_ret2
    exact ⟨rfl, Below.refl _ _⟩
  · have h1 : 3 ≤ a := by omega
    have h2 : a ≤ 24 := by omega
    have H : Hid ((b < 3 ∨ 24 < b) ∨ (n < 0 ∨ 3000 < n)) := Lib.hid (by omega)
    clear h ha
    go_enter Tryd.func32, Tryd.ntmps32
    go_wp2_with (first
      | (go_at_call 55; refine (shSides_yes _ _ h1 h2).mono ?_; rintro e w' ⟨rfl, rfl⟩)
      | (go_at_call 44; refine (suGood_no _ _ _ H.out).mono ?_; rintro e w' ⟨rfl, rfl⟩))
    go_ret2
    exact ⟨rfl, Below.refl _ _⟩
theorem impl_CountTwoShapes_no (a b n : Int) (w : World) (h : (a < 3 ∨ 24 < a) ∨ ((b < 3 ∨ 24 < b) ∨ (n < 0 ∨ 3000 < n))) :
    Calls Tryd.prog 31 #[.int .i64 a, .int .i64 b, .int .i64 n] w fun e w' => e = .returned (.tuple #[.int .i64 0, .bool false]) ∧ Below w.heap.size w w' := by
  by_cases ha : a < 3 ∨ 24 < a
  · have H := Lib.hid ha
    clear h ha
    go_enter Tryd.func31, Tryd.ntmps31
    go_wp2_with (go_at_call 53; refine (areSides_no _ _ H.out).mono ?_; rintro e w' ⟨rfl, rfl⟩)
    go_ret2
    exact ⟨rfl, Below.refl _ _⟩
  · have h1 : 3 ≤ a := by omega
    have h2 : a ≤ 24 := by omega
    have H : Hid ((b < 3 ∨ 24 < b) ∨ (n < 0 ∨ 3000 < n)) := Lib.hid (by omega)
    clear h ha
    go_enter Tryd.func31, Tryd.ntmps31
    go_wp2_with (first
      | (go_at_call 53; refine (areSides_yes _ _ h1 h2).mono ?_; rintro e w' ⟨rfl, rfl⟩)
      | (go_at_call 38; refine (assum_no _ _ _ H.out).mono ?_; rintro e w' ⟨rfl, rfl⟩))
    go_ret2
    exact ⟨rfl, Below.refl _ _⟩
theorem spec_TwoShapes_yes (a b : Int) (N K : Nat) (P : List (Int × Int)) (hP : P = qs a b N K (K + 1)) (w : World) (h1 : 3 ≤ a) (h2 : a ≤ 24) (h3 : 3 ≤ b) (h4 : b ≤ 24) (hN : N ≤ 3000) (hKp : (K : Int) = pl a N) :
    Calls Tryd.prog 30 #[.int .i64 a, .int .i64 b, .int .i64 N] w fun e w' => e = .returned (.tuple #[.int .i64 (hp1 P), .int .i64 (hp2 P), .bool (decide (0 < (P.length : Int)))]) ∧ Below w.heap.size w w' := by
  have i1 : (0 : Int) ≤ (N : Int) := by omega
  have i2 : (N : Int) ≤ 3000 := by omega
  have HT := Lib.hid (fun w => suTwo_any a b N K w h1 h2 h3 h4 hN hKp)
  rw [← hP] at HT
  clear hP hKp
  obtain ⟨ok, hok⟩ : ∃ ok, decide (0 < (P.length : Int)) = ok := ⟨_, rfl⟩
  have hok2 : decide (0 < P.length) = ok := by rw [← hok]; congr 1; exact propext (by omega)
  have HOK := Lib.hid hok
  rw [hok]
  go_enter Tryd.func30, Tryd.ntmps30
  go_wp2_with (first
    | (go_at_call 55; refine (shSides_yes _ _ h1 h2).mono ?_; rintro e w' ⟨rfl, rfl⟩)
    | (go_at_call 44; refine (suGood_yes _ _ _ h3 h4 i1 i2).mono ?_; rintro e w' ⟨rfl, rfl⟩)
    | (go_at_call 56; refine (HT.out _).mono ?_; rintro e w' ⟨rfl, rfl⟩))
  go_ret3
  exact ⟨rfl, Below.refl _ _⟩
theorem impl_TwoShapes_yes (a b : Int) (N K : Nat) (P : List (Int × Int)) (hP : P = pairs b N (came a N K)) (w : World) (h1 : 3 ≤ a) (h2 : a ≤ 24) (h3 : 3 ≤ b) (h4 : b ≤ 24) (hN : N ≤ 3000) (hKp : K = (pl a N).toNat) :
    Calls Tryd.prog 29 #[.int .i64 a, .int .i64 b, .int .i64 N] w fun e w' => e = .returned (.tuple #[.int .i64 (hp1 P), .int .i64 (hp2 P), .bool (decide (0 < (P.length : Int)))]) ∧ Below w.heap.size w w' := by
  have i1 : (0 : Int) ≤ (N : Int) := by omega
  have i2 : (N : Int) ≤ 3000 := by omega
  have HT := Lib.hid (fun w => pairsTogether_any a b N w h1 h2 h3 h4 hN)
  rw [← hKp, ← hP] at HT
  clear hP hKp
  cases P with
  | nil =>
    simp only [List.length_nil] at HT
    go_enter Tryd.func29, Tryd.ntmps29
    go_wp2_with (first
      | (go_at_call 53; refine (areSides_yes _ _ h1 h2).mono ?_; rintro e w' ⟨rfl, rfl⟩)
      | (go_at_call 38; refine (assum_yes _ _ _ h3 h4 i1 i2).mono ?_; rintro e w' ⟨rfl, rfl⟩)
      | (go_at_call 54; refine (HT.out _).mono ?_; rintro e w1 ⟨⟨v, rfl, hr⟩, hb⟩; obtain ⟨A, c, rfl⟩ := row_form hr))
    go_ret3
    exact ⟨rfl, hb⟩
  | cons p P =>
    have hl : (((p :: P).length : Int) == 0) = false := by first | (simp; done) | (simp; omega)
    have hl1 : (0 : Int) < ((p :: P).length : Int) := by first | (simp; done) | (simp; omega)
    have hd : decide (0 < ((p :: P).length : Int)) = true := by first | (simp; done) | (simp; omega)
    obtain ⟨n, hn⟩ : ∃ n, n = (p :: P).length := ⟨_, rfl⟩
    have HNN := Lib.hid hn
    rw [hd]
    rw [← hn] at hl hl1 HT
    clear hn hd
    go_enter Tryd.func29, Tryd.ntmps29
    go_wp2_with (first
      | (go_at_call 53; refine (areSides_yes _ _ h1 h2).mono ?_; rintro e w' ⟨rfl, rfl⟩)
      | (go_at_call 38; refine (assum_yes _ _ _ h3 h4 i1 i2).mono ?_; rintro e w' ⟨rfl, rfl⟩)
      | (go_at_call 54; refine (HT.out _).mono ?_; rintro e w1 ⟨⟨v, rfl, hr⟩, hb⟩; obtain ⟨g, c, rfl, c0, c1⟩ := pair_cells hr HNN.out; clear hr))
    go_quiet (fail)
    go_wp2
    go_ret3
    exact ⟨rfl, below_drewN hb _⟩
theorem spec_CountTwoShapes_yes (a b : Int) (N K : Nat) (P : List (Int × Int)) (hP : P = qs a b N K (K + 1)) (w : World) (h1 : 3 ≤ a) (h2 : a ≤ 24) (h3 : 3 ≤ b) (h4 : b ≤ 24) (hN : N ≤ 3000) (hKp : (K : Int) = pl a N) :
    Calls Tryd.prog 32 #[.int .i64 a, .int .i64 b, .int .i64 N] w fun e w' => e = .returned (.tuple #[.int .i64 P.length, .bool true]) ∧ Below w.heap.size w w' := by
  have i1 : (0 : Int) ≤ (N : Int) := by omega
  have i2 : (N : Int) ≤ 3000 := by omega
  have HT := Lib.hid (fun w => suTwo_any a b N K w h1 h2 h3 h4 hN hKp)
  rw [← hP] at HT
  clear hP hKp
  go_enter Tryd.func32, Tryd.ntmps32
  go_wp2_with (first
    | (go_at_call 55; refine (shSides_yes _ _ h1 h2).mono ?_; rintro e w' ⟨rfl, rfl⟩)
    | (go_at_call 44; refine (suGood_yes _ _ _ h3 h4 i1 i2).mono ?_; rintro e w' ⟨rfl, rfl⟩)
    | (go_at_call 56; refine (HT.out _).mono ?_; rintro e w' ⟨rfl, rfl⟩))
  go_ret2
  exact ⟨rfl, Below.refl _ _⟩
theorem impl_CountTwoShapes_yes (a b : Int) (N K : Nat) (P : List (Int × Int)) (hP : P = pairs b N (came a N K)) (w : World) (h1 : 3 ≤ a) (h2 : a ≤ 24) (h3 : 3 ≤ b) (h4 : b ≤ 24) (hN : N ≤ 3000) (hKp : K = (pl a N).toNat) :
    Calls Tryd.prog 31 #[.int .i64 a, .int .i64 b, .int .i64 N] w fun e w' => e = .returned (.tuple #[.int .i64 P.length, .bool true]) ∧ Below w.heap.size w w' := by
  have i1 : (0 : Int) ≤ (N : Int) := by omega
  have i2 : (N : Int) ≤ 3000 := by omega
  have HT := Lib.hid (fun w => pairsTogether_any a b N w h1 h2 h3 h4 hN)
  rw [← hKp, ← hP] at HT
  clear hP hKp
  go_enter Tryd.func31, Tryd.ntmps31
  go_wp2_with (first
    | (go_at_call 53; refine (areSides_yes _ _ h1 h2).mono ?_; rintro e w' ⟨rfl, rfl⟩)
    | (go_at_call 38; refine (assum_yes _ _ _ h3 h4 i1 i2).mono ?_; rintro e w' ⟨rfl, rfl⟩)
    | (go_at_call 54; refine (HT.out _).mono ?_; rintro e w1 ⟨⟨v, rfl, hr⟩, hb⟩; obtain ⟨A, c, rfl⟩ := row_form hr))
  go_ret2
  exact ⟨rfl, hb⟩
end Go.Proofs.YtegbikakfckehaaDoor
