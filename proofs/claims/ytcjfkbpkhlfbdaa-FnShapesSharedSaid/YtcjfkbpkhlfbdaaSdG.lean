/- Chapter 4: the next shared number: the mathematics and the specification's side. -/
import Derived.Test.YtcjfkbpkhlfbdaaSdF
namespace Go.Proofs.Ytcjfkbpkhlfbdaa
open Go.ChangeShapes Go.WideShapes Go.ChangeAt Go.RowKit

/-- m is the least shared number beyond n, up to top. -/
def NextIs (top a b n m : Int) : Prop := n < m ∧ m ≤ top ∧ isP a m = true ∧ isP b m = true ∧ ∀ x, n < x → isP a x = true → isP b x = true → m ≤ x
def NoNext (top a b n : Int) : Prop := ∀ x, n < x → x ≤ top → isP a x = true → isP b x = true → False
theorem NextIs.swap {top a b n m : Int} (h : NextIs top a b n m) : NextIs top b a n m := ⟨h.1, h.2.1, h.2.2.2.1, h.2.2.1, fun x h1 h2 h3 => h.2.2.2.2 x h1 h3 h2⟩
theorem NoNext.swap {top a b n : Int} (h : NoNext top a b n) : NoNext top b a n := fun x h1 h2 h3 h4 => h x h1 h2 h4 h3
theorem next_least (top a b n : Int) (d : Nat) (hd : ∃ m, n < m ∧ m ≤ n + d ∧ m ≤ top ∧ isP a m = true ∧ isP b m = true) : ∃ m, NextIs top a b n m := by
  induction d with
  | zero => obtain ⟨m, h1, h2, _⟩ := hd; omega
  | succ d ih =>
    by_cases h : ∃ m, n < m ∧ m ≤ n + d ∧ m ≤ top ∧ isP a m = true ∧ isP b m = true
    · exact ih h
    · obtain ⟨m, h1, h2, h3, h4, h5⟩ := hd
      refine ⟨m, h1, h3, h4, h5, fun x x1 x2 x3 => ?_⟩
      rcases Int.lt_or_le x m with hx | hx
      · exact absurd ⟨x, x1, by omega, by omega, x2, x3⟩ h
      · exact hx
theorem next_or (top a b n : Int) : (∃ m, NextIs top a b n m) ∨ NoNext top a b n := by
  by_cases h : ∃ m, n < m ∧ m ≤ top ∧ isP a m = true ∧ isP b m = true
  · obtain ⟨m, h1, h2, h3, h4⟩ := h
    exact .inl (next_least top a b n (m - n).toNat ⟨m, h1, by omega, h2, h3, h4⟩)
  · exact .inr fun x h1 h2 h3 h4 => h ⟨x, h1, h2, h3, h4⟩
theorem pl_le_pl (s n t : Int) (hs : 3 ≤ s) (h0 : 0 ≤ n) (h : n ≤ t) : pl s n ≤ pl s t :=
  (fits_iff s t (pl s n) hs (by omega) (pl_nn s n hs h0)).1 (by have := (pl_is s n hs h0).2.1; omega)
theorem past_pl (s n k : Int) (hs : 3 ≤ s) (h0 : 0 ≤ n) (hk : pl s n < k) : n < num s k := by
  rcases Int.lt_or_le n (num s k) with h | h
  · exact h
  · have := (fits_iff s n k hs h0 (by have := pl_nn s n hs h0; omega)).1 h
    omega
/-- Nothing is shared at the places before k: the next is no less than the number of k. -/
theorem next_past {top a b n m : Int} (h : NextIs top a b n m) (ha : 3 ≤ a) (h0 : 0 ≤ n) (k : Int) (hinv : ∀ j, pl a n < j → j < k → isP b (num a j) = false) (hk : 0 ≤ k) : num a k ≤ m := by
  have hm : num a (pl a m) = m := by simpa [isP] using h.2.2.1
  have p0 := pl_nn a m ha (by have := h.1; omega)
  rcases Int.lt_or_le (pl a m) k with hlt | hle
  · have hpl : pl a n < pl a m := by
      rcases Int.lt_or_le (pl a n) (pl a m) with h1 | h1
      · exact h1
      · have h2 := num_mono_le a ha p0 h1
        have h3 := (pl_is a n ha h0).2.1
        have := h.1
        omega
    have := hinv (pl a m) hpl hlt
    rw [hm, h.2.2.2.1] at this
    cases this
  · have := num_mono_le a ha hk hle
    omega
theorem next_at {top a b n m : Int} (h : NextIs top a b n m) (ha : 3 ≤ a) (h0 : 0 ≤ n) (k : Int) (hinv : ∀ j, pl a n < j → j < k → isP b (num a j) = false) (hk : pl a n < k) (hb : isP b (num a k) = true) : num a k = m := by
  have p0 := pl_nn a n ha h0
  have h1 := next_past h ha h0 k hinv (by omega)
  have h2 := h.2.2.2.2 (num a k) (past_pl a n k ha h0 hk) (isP_num a k ha (by omega)) hb
  omega
theorem inv_succ {a b n : Int} {k : Int} (hinv : ∀ j, pl a n < j → j < k → isP b (num a j) = false) (hb : isP b (num a k) = false) : ∀ j, pl a n < j → j < k + 1 → isP b (num a j) = false := fun j h1 h2 => by
  rcases Int.lt_or_le j k with h | h
  · exact hinv j h1 h
  · obtain rfl : j = k := by omega
    exact hb
theorem spec_NextShared_no (a b n : Int) (w : World) (h : ((a < 3 ∨ 24 < a) ∨ (b < 3 ∨ 24 < b) ∨ a = b) ∨ (n < 0 ∨ 1000000000 < n)) :
    Calls Try.prog 15 #[.int .i64 a, .int .i64 b, .int .i64 n] w fun e w' => e = .returned (.tuple #[.int .i64 0, .bool false]) ∧ Below w.heap.size w w' := by
  by_cases hs : (a < 3 ∨ 24 < a) ∨ (b < 3 ∨ 24 < b) ∨ a = b
  · have H : Hid ((a < 3 ∨ 24 < a) ∨ (b < 3 ∨ 24 < b) ∨ a = b) := Lib.hid hs
    clear h hs
    go_enter Try.func15, Try.ntmps15
    go_wp2_with (first
      | (go_at_call 29; refine (sdTwo_no _ _ _ H.out).mono ?_; rintro e w' ⟨rfl, rfl⟩))
    go_ret2
    exact ⟨rfl, Below.refl _ _⟩
  · skip
    have x1 : 3 ≤ a := by omega
    have x2 : a ≤ 24 := by omega
    have x3 : 3 ≤ b := by omega
    have x4 : b ≤ 24 := by omega
    have x5 : a ≠ b := by omega
    have h' := h
    clear h
    have h : n < 0 ∨ 1000000000 < n := by omega
    clear h' hs
    have H : Hid (n < 0 ∨ 1000000000 < n) := Lib.hid (by omega)
    clear h
    go_enter Try.func15, Try.ntmps15
    go_wp2_with (first
      | (go_at_call 29; refine (sdTwo_yes _ _ _ x1 x2 x3 x4 x5).mono ?_; rintro e w' ⟨rfl, rfl⟩)
      | (go_at_call 30; refine (in_no _ _ _ _ H.out).mono ?_; rintro e w' ⟨rfl, rfl⟩))
    go_ret2
    exact ⟨rfl, Below.refl _ _⟩
set_option maxHeartbeats 1600000 in
theorem spec_NextShared_found (a b n m : Int) (w : World) (h1 : 3 ≤ a) (h2 : a ≤ 24) (g1 : 3 ≤ b) (g2 : b ≤ 24) (hne : a ≠ b) (h3 : 0 ≤ n) (h4 : n ≤ 1000000000) (hm : NextIs 1000000000 a b n m) :
    Calls Try.prog 15 #[.int .i64 a, .int .i64 b, .int .i64 n] w fun e w' => e = .returned (.tuple #[.int .i64 m, .bool true]) ∧ Below w.heap.size w w' := by
  have HT := Lib.hid (two_yes a b (by omega))
  clear hne
  by_cases hab : a < b
  · have HM := Lib.hid hm.swap
    clear hm
    obtain ⟨hA1, hA2, hB1, hB2⟩ : 3 ≤ b ∧ b ≤ 24 ∧ 3 ≤ a ∧ a ≤ 24 := ⟨by omega, by omega, by omega, by omega⟩
    have p0 := pl_nn b n hA1 h3
    have p1 := pl_le b 1000000000 hA1 (by omega) (by omega)
    have p2 := pl_le_pl b n 1000000000 hA1 h3 h4
    go_enter Try.func15, Try.ntmps15
    go_wp2_with (first
      | (go_at_call 29; refine (sdTwo_any _ _ _).mono ?_; rw [HT.out]; rintro e w' ⟨rfl, rfl⟩)
      | (go_at_call 30; refine (in_yes _ _ _ _ h3 h4).mono ?_; rintro e w' ⟨rfl, rfl⟩)
      | (go_at_call 38; refine (shBelow_any _ _ _ hA1 hA2 h3 (by omega)).mono ?_; rintro e w' ⟨rfl, rfl⟩))
    go_loopw [8] (fun i wr => ∃ k : Int, i = .int .i64 k ∧ pl b n < k ∧ k ≤ pl b 1000000000 + 1 ∧ Hid (∀ j, pl b n < j → j < k → isP a (num b j) = false) ∧ wr = w) (fun i _ => (pl b 1000000000 + 1 - intOf i).toNat)
    case atStart => exact ⟨_, rfl, by omega, by omega, Lib.hid (fun j g1 g2 => by omega), rfl⟩
    case round =>
      obtain ⟨k, rfl, hk1, hk2, HI, rfl⟩ := hrel
      have hf := fits_iff b 1000000000 k hA1 (by omega) (by omega)
      have hx0 := num_nn b k hA1
      obtain ⟨x, hxe⟩ : ∃ x, x = num b k := ⟨_, rfl⟩
      rw [← hxe] at hf hx0
      have HX := Lib.hid hxe
      clear hxe
      by_cases hlt : x ≤ 1000000000
      · have hk3 := hf.1 hlt
        clear hf
        cases hp : isP a x with
        | true =>
          obtain rfl : x = m := by
            rw [HX.out]
            exact next_at HM.out hA1 h3 k HI.out hk1 (by rw [← HX.out]; exact hp)
          have HP := Lib.hid hp
          clear hp
          go_wp2_with (first
            | (go_at_call 39; refine (shNumber_any _ _ _ hA1 hA2 (by omega) (by omega)).mono ?_; rw [← HX.out]; rintro e w' ⟨rfl, rfl⟩)
            | (go_at_call 40; refine (sdIs_P _ _ _ hB1 hB2 hx0 (by omega)).mono ?_; rw [HP.out]; rintro e w' ⟨rfl, rfl⟩))
          first | (rw [Exit.noGoto_ret]; go_ret2) | go_ret2
          exact ⟨rfl, Below.refl _ _⟩
        | false =>
          have HP := Lib.hid hp
          have HJ := Lib.hid (inv_succ HI.out (by rw [← HX.out]; exact hp))
          clear hp
          go_wp2_with (first
            | (go_at_call 39; refine (shNumber_any _ _ _ hA1 hA2 (by omega) (by omega)).mono ?_; rw [← HX.out]; rintro e w' ⟨rfl, rfl⟩)
            | (go_at_call 40; refine (sdIs_P _ _ _ hB1 hB2 hx0 (by omega)).mono ?_; rw [HP.out]; rintro e w' ⟨rfl, rfl⟩))
          go_roundw
          case rel => exact ⟨k + 1, by go_num, by omega, by omega, HJ, by trivial⟩
          case measure => simp [intOf]; omega
      · clear hf
        have hpast := next_past HM.out hA1 h3 k HI.out (by omega)
        have hmax := HM.out.2.1
        rw [← HX.out] at hpast
        omega
  · have HM := Lib.hid hm
    clear hm
    obtain ⟨hA1, hA2, hB1, hB2⟩ : 3 ≤ a ∧ a ≤ 24 ∧ 3 ≤ b ∧ b ≤ 24 := ⟨by omega, by omega, by omega, by omega⟩
    have p0 := pl_nn a n hA1 h3
    have p1 := pl_le a 1000000000 hA1 (by omega) (by omega)
    have p2 := pl_le_pl a n 1000000000 hA1 h3 h4
    go_enter Try.func15, Try.ntmps15
    go_wp2_with (first
      | (go_at_call 29; refine (sdTwo_any _ _ _).mono ?_; rw [HT.out]; rintro e w' ⟨rfl, rfl⟩)
      | (go_at_call 30; refine (in_yes _ _ _ _ h3 h4).mono ?_; rintro e w' ⟨rfl, rfl⟩)
      | (go_at_call 38; refine (shBelow_any _ _ _ hA1 hA2 h3 (by omega)).mono ?_; rintro e w' ⟨rfl, rfl⟩))
    go_loopw [8] (fun i wr => ∃ k : Int, i = .int .i64 k ∧ pl a n < k ∧ k ≤ pl a 1000000000 + 1 ∧ Hid (∀ j, pl a n < j → j < k → isP b (num a j) = false) ∧ wr = w) (fun i _ => (pl a 1000000000 + 1 - intOf i).toNat)
    case atStart => exact ⟨_, rfl, by omega, by omega, Lib.hid (fun j g1 g2 => by omega), rfl⟩
    case round =>
      obtain ⟨k, rfl, hk1, hk2, HI, rfl⟩ := hrel
      have hf := fits_iff a 1000000000 k hA1 (by omega) (by omega)
      have hx0 := num_nn a k hA1
      obtain ⟨x, hxe⟩ : ∃ x, x = num a k := ⟨_, rfl⟩
      rw [← hxe] at hf hx0
      have HX := Lib.hid hxe
      clear hxe
      by_cases hlt : x ≤ 1000000000
      · have hk3 := hf.1 hlt
        clear hf
        cases hp : isP b x with
        | true =>
          obtain rfl : x = m := by
            rw [HX.out]
            exact next_at HM.out hA1 h3 k HI.out hk1 (by rw [← HX.out]; exact hp)
          have HP := Lib.hid hp
          clear hp
          go_wp2_with (first
            | (go_at_call 39; refine (shNumber_any _ _ _ hA1 hA2 (by omega) (by omega)).mono ?_; rw [← HX.out]; rintro e w' ⟨rfl, rfl⟩)
            | (go_at_call 40; refine (sdIs_P _ _ _ hB1 hB2 hx0 (by omega)).mono ?_; rw [HP.out]; rintro e w' ⟨rfl, rfl⟩))
          first | (rw [Exit.noGoto_ret]; go_ret2) | go_ret2
          exact ⟨rfl, Below.refl _ _⟩
        | false =>
          have HP := Lib.hid hp
          have HJ := Lib.hid (inv_succ HI.out (by rw [← HX.out]; exact hp))
          clear hp
          go_wp2_with (first
            | (go_at_call 39; refine (shNumber_any _ _ _ hA1 hA2 (by omega) (by omega)).mono ?_; rw [← HX.out]; rintro e w' ⟨rfl, rfl⟩)
            | (go_at_call 40; refine (sdIs_P _ _ _ hB1 hB2 hx0 (by omega)).mono ?_; rw [HP.out]; rintro e w' ⟨rfl, rfl⟩))
          go_roundw
          case rel => exact ⟨k + 1, by go_num, by omega, by omega, HJ, by trivial⟩
          case measure => simp [intOf]; omega
      · clear hf
        have hpast := next_past HM.out hA1 h3 k HI.out (by omega)
        have hmax := HM.out.2.1
        rw [← HX.out] at hpast
        omega
set_option maxHeartbeats 1600000 in
theorem spec_NextShared_none (a b n : Int) (w : World) (h1 : 3 ≤ a) (h2 : a ≤ 24) (g1 : 3 ≤ b) (g2 : b ≤ 24) (hne : a ≠ b) (h3 : 0 ≤ n) (h4 : n ≤ 1000000000) (hm : NoNext 1000000000 a b n) :
    Calls Try.prog 15 #[.int .i64 a, .int .i64 b, .int .i64 n] w fun e w' => e = .returned (.tuple #[.int .i64 0, .bool false]) ∧ Below w.heap.size w w' := by
  have HT := Lib.hid (two_yes a b (by omega))
  clear hne
  by_cases hab : a < b
  · have HM := Lib.hid hm.swap
    clear hm
    obtain ⟨hA1, hA2, hB1, hB2⟩ : 3 ≤ b ∧ b ≤ 24 ∧ 3 ≤ a ∧ a ≤ 24 := ⟨by omega, by omega, by omega, by omega⟩
    have p0 := pl_nn b n hA1 h3
    have p1 := pl_le b 1000000000 hA1 (by omega) (by omega)
    have p2 := pl_le_pl b n 1000000000 hA1 h3 h4
    go_enter Try.func15, Try.ntmps15
    go_wp2_with (first
      | (go_at_call 29; refine (sdTwo_any _ _ _).mono ?_; rw [HT.out]; rintro e w' ⟨rfl, rfl⟩)
      | (go_at_call 30; refine (in_yes _ _ _ _ h3 h4).mono ?_; rintro e w' ⟨rfl, rfl⟩)
      | (go_at_call 38; refine (shBelow_any _ _ _ hA1 hA2 h3 (by omega)).mono ?_; rintro e w' ⟨rfl, rfl⟩))
    go_loopw [8] (fun i wr => ∃ k : Int, i = .int .i64 k ∧ pl b n < k ∧ k ≤ pl b 1000000000 + 1 ∧ Hid (∀ j, pl b n < j → j < k → isP a (num b j) = false) ∧ wr = w) (fun i _ => (pl b 1000000000 + 1 - intOf i).toNat)
    case atStart => exact ⟨_, rfl, by omega, by omega, Lib.hid (fun j g1 g2 => by omega), rfl⟩
    case round =>
      obtain ⟨k, rfl, hk1, hk2, HI, rfl⟩ := hrel
      have hf := fits_iff b 1000000000 k hA1 (by omega) (by omega)
      have hx0 := num_nn b k hA1
      obtain ⟨x, hxe⟩ : ∃ x, x = num b k := ⟨_, rfl⟩
      rw [← hxe] at hf hx0
      have HX := Lib.hid hxe
      clear hxe
      by_cases hlt : x ≤ 1000000000
      · have hk3 := hf.1 hlt
        clear hf
        cases hp : isP a x with
        | true =>
          exact (HM.out x (by rw [HX.out]; exact past_pl b n k hA1 h3 hk1) hlt (by rw [HX.out]; exact isP_num b k hA1 (by omega)) hp).elim
        | false =>
          have HP := Lib.hid hp
          have HJ := Lib.hid (inv_succ HI.out (by rw [← HX.out]; exact hp))
          clear hp
          go_wp2_with (first
            | (go_at_call 39; refine (shNumber_any _ _ _ hA1 hA2 (by omega) (by omega)).mono ?_; rw [← HX.out]; rintro e w' ⟨rfl, rfl⟩)
            | (go_at_call 40; refine (sdIs_P _ _ _ hB1 hB2 hx0 (by omega)).mono ?_; rw [HP.out]; rintro e w' ⟨rfl, rfl⟩))
          go_roundw
          case rel => exact ⟨k + 1, by go_num, by omega, by omega, HJ, by trivial⟩
          case measure => simp [intOf]; omega
      · clear hf
        go_wp2_with (go_at_call 39; refine (shNumber_any _ _ _ hA1 hA2 (by omega) (by omega)).mono ?_; rw [← HX.out]; rintro e w' ⟨rfl, rfl⟩)
        go_ret2
        exact ⟨rfl, Below.refl _ _⟩
  · have HM := Lib.hid hm
    clear hm
    obtain ⟨hA1, hA2, hB1, hB2⟩ : 3 ≤ a ∧ a ≤ 24 ∧ 3 ≤ b ∧ b ≤ 24 := ⟨by omega, by omega, by omega, by omega⟩
    have p0 := pl_nn a n hA1 h3
    have p1 := pl_le a 1000000000 hA1 (by omega) (by omega)
    have p2 := pl_le_pl a n 1000000000 hA1 h3 h4
    go_enter Try.func15, Try.ntmps15
    go_wp2_with (first
      | (go_at_call 29; refine (sdTwo_any _ _ _).mono ?_; rw [HT.out]; rintro e w' ⟨rfl, rfl⟩)
      | (go_at_call 30; refine (in_yes _ _ _ _ h3 h4).mono ?_; rintro e w' ⟨rfl, rfl⟩)
      | (go_at_call 38; refine (shBelow_any _ _ _ hA1 hA2 h3 (by omega)).mono ?_; rintro e w' ⟨rfl, rfl⟩))
    go_loopw [8] (fun i wr => ∃ k : Int, i = .int .i64 k ∧ pl a n < k ∧ k ≤ pl a 1000000000 + 1 ∧ Hid (∀ j, pl a n < j → j < k → isP b (num a j) = false) ∧ wr = w) (fun i _ => (pl a 1000000000 + 1 - intOf i).toNat)
    case atStart => exact ⟨_, rfl, by omega, by omega, Lib.hid (fun j g1 g2 => by omega), rfl⟩
    case round =>
      obtain ⟨k, rfl, hk1, hk2, HI, rfl⟩ := hrel
      have hf := fits_iff a 1000000000 k hA1 (by omega) (by omega)
      have hx0 := num_nn a k hA1
      obtain ⟨x, hxe⟩ : ∃ x, x = num a k := ⟨_, rfl⟩
      rw [← hxe] at hf hx0
      have HX := Lib.hid hxe
      clear hxe
      by_cases hlt : x ≤ 1000000000
      · have hk3 := hf.1 hlt
        clear hf
        cases hp : isP b x with
        | true =>
          exact (HM.out x (by rw [HX.out]; exact past_pl a n k hA1 h3 hk1) hlt (by rw [HX.out]; exact isP_num a k hA1 (by omega)) hp).elim
        | false =>
          have HP := Lib.hid hp
          have HJ := Lib.hid (inv_succ HI.out (by rw [← HX.out]; exact hp))
          clear hp
          go_wp2_with (first
            | (go_at_call 39; refine (shNumber_any _ _ _ hA1 hA2 (by omega) (by omega)).mono ?_; rw [← HX.out]; rintro e w' ⟨rfl, rfl⟩)
            | (go_at_call 40; refine (sdIs_P _ _ _ hB1 hB2 hx0 (by omega)).mono ?_; rw [HP.out]; rintro e w' ⟨rfl, rfl⟩))
          go_roundw
          case rel => exact ⟨k + 1, by go_num, by omega, by omega, HJ, by trivial⟩
          case measure => simp [intOf]; omega
      · clear hf
        go_wp2_with (go_at_call 39; refine (shNumber_any _ _ _ hA1 hA2 (by omega) (by omega)).mono ?_; rw [← HX.out]; rintro e w' ⟨rfl, rfl⟩)
        go_ret2
        exact ⟨rfl, Below.refl _ _⟩
end Go.Proofs.Ytcjfkbpkhlfbdaa
