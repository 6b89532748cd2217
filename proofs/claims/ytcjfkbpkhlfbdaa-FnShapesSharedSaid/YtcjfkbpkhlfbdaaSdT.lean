/- Chapter 4: shared numbers: the laws PlacesShared, IsShared, SharedByThree. -/
import Derived.Test.YtcjfkbpkhlfbdaaSdS
namespace Go.Proofs.Ytcjfkbpkhlfbdaa
open Go.ChangeShapes Go.WideShapes Go.ChangeAt Go.RowKit

/-- The place of a number that comes of a rule, and whether there is one. -/
theorem placeP (s n : Int) (w : World) (h1 : 3 ≤ s) (h2 : s ≤ 24) (h3 : 0 ≤ n) (h4 : n ≤ 1000000000000) :
    Calls Try.prog 42 #[.agg #[.int .i64 0, .int .i64 (4 - s), .int .i64 (s - 2)], .int .i64 n] w fun e w' => (∃ q : Int, (isP s n = true → q = pl s n) ∧ e = .returned (.tuple #[.int .i64 q, .bool (isP s n)])) ∧ Below w.heap.size w w' := by
  by_cases hc : num s (pl s n) = n
  · have hp : isP s n = true := by simpa [isP] using hc
    refine (placeOf_yes _ _ _ _ _ _ w (poly_fits s n h1 h2 h3 h4) hc).mono ?_
    rintro e w' ⟨rfl, hb⟩
    exact ⟨⟨_, fun _ => rfl, by rw [hp]⟩, hb⟩
  · have hp : isP s n = false := by simpa [isP] using hc
    refine (placeOf_no _ _ _ _ _ _ w (poly_fits s n h1 h2 h3 h4) hc).mono ?_
    rintro e w' ⟨rfl, hb⟩
    exact ⟨⟨0, (fun h => by rw [hp] at h; cases h), by rw [hp]⟩, hb⟩
/-- There is a place of n. -/
noncomputable def pok (s n : Int) : Bool := decide (3 ≤ s ∧ s ≤ 24 ∧ 0 ≤ n ∧ n ≤ 1000000000000) && isP s n
theorem pok_no (s n : Int) (h : (s < 3 ∨ 24 < s) ∨ (n < 0 ∨ 1000000000000 < n)) : pok s n = false := by
  rw [pok, decide_eq_false (by omega), Bool.false_and]
theorem pok_in (s n : Int) (h1 : 3 ≤ s) (h2 : s ≤ 24) (h3 : 0 ≤ n) (h4 : n ≤ 1000000000000) : pok s n = isP s n := by
  rw [pok, decide_eq_true ⟨h1, h2, h3, h4⟩, Bool.true_and]
theorem impl_PlaceOf_pok (s n : Int) (w : World) :
    Calls Try.prog 32 #[.int .i64 s, .int .i64 n] w fun e w' => (∃ q : Int, (pok s n = true → q = pl s n) ∧ e = .returned (.tuple #[.int .i64 q, .bool (pok s n)])) ∧ Below w.heap.size w w' := by
  by_cases h : (s < 3 ∨ 24 < s) ∨ (n < 0 ∨ 1000000000000 < n)
  · rw [pok_no s n h]
    have H := Lib.hid h
    clear h
    go_enter Try.func32, Try.ntmps32
    go_wp2_with (go_at_call 43; refine (asat_no _ _ _ H.out).mono ?_; rintro e w' ⟨rfl, rfl⟩)
    go_ret2
    exact ⟨⟨0, (fun h => by cases h), rfl⟩, Below.refl _ _⟩
  · have h1 : 3 ≤ s := by omega
    have h2 : s ≤ 24 := by omega
    have h3 : 0 ≤ n := by omega
    have h4 : n ≤ 1000000000000 := by omega
    rw [pok_in s n h1 h2 h3 h4]
    clear h
    go_enter Try.func32, Try.ntmps32
    go_wp2_with (first
      | (go_at_call 43; refine (asat_yes _ _ _ h1 h2 h3 h4).mono ?_; rintro e w' ⟨rfl, rfl⟩)
      | (go_at_call 34; refine (polygonRule_any _ _ h1 h2).mono ?_; rintro e w1 ⟨rfl, hb1⟩)
      | (go_at_call 42; refine (placeP s n _ h1 h2 h3 h4).mono ?_; rintro e w2 ⟨⟨q, hq, rfl⟩, hb2⟩))
    go_ret2
    exact ⟨⟨q, hq, rfl⟩, hb1.trans (hb2.mono hb1.size)⟩
theorem impl_PlacesShared_fail (a b n : Int) (w : World) (h : a = b ∨ pok a n = false ∨ pok b n = false) :
    Calls Try.prog 11 #[.int .i64 a, .int .i64 b, .int .i64 n] w fun e w' => e = .returned (.tuple #[.int .i64 0, .int .i64 0, .bool false]) ∧ Below w.heap.size w w' := by
  obtain ⟨x, hx⟩ : ∃ x, x = pok a n := ⟨_, rfl⟩
  obtain ⟨y, hy⟩ : ∃ y, y = pok b n := ⟨_, rfl⟩
  obtain ⟨z, hz⟩ : ∃ z, z = (a == b) := ⟨_, rfl⟩
  have hxyz : z = true ∨ x = false ∨ y = false := by
    rcases h with h | h | h
    · left; rw [hz]; simpa using h
    · right; left; rw [hx]; exact h
    · right; right; rw [hy]; exact h
  have HX := Lib.hid hx
  have HY := Lib.hid hy
  have hzz := hz.symm
  clear h hx hy hz
  go_enter Try.func11, Try.ntmps11
  go_wp2_with fail
  refine (impl_PlaceOf_pok a n w).mono ?_
  rintro e w1 ⟨⟨q1, _, rfl⟩, hb1⟩
  rw [← HX.out]
  go_wp2_with fail
  refine (impl_PlaceOf_pok b n w1).mono ?_
  rintro e w2 ⟨⟨q2, _, rfl⟩, hb2⟩
  rw [← HY.out]
  have HB := Lib.hid (hb1.trans (hb2.mono hb1.size))
  clear hb1 hb2
  cases z <;> cases x <;> cases y <;> first
    | (exfalso; revert hxyz; decide)
    | (clear hxyz
       go_wp2
       go_ret3
       exact ⟨rfl, HB.out⟩)
theorem impl_PlacesShared_yes (a b n : Int) (w : World) (hne : a ≠ b) (ha : pok a n = true) (hb : pok b n = true) :
    Calls Try.prog 11 #[.int .i64 a, .int .i64 b, .int .i64 n] w fun e w' => e = .returned (.tuple #[.int .i64 (pl a n), .int .i64 (pl b n), .bool true]) ∧ Below w.heap.size w w' := by
  have HX := Lib.hid ha
  have HY := Lib.hid hb
  have hzz : (a == b) = false := by simpa using hne
  clear ha hb hne
  go_enter Try.func11, Try.ntmps11
  go_wp2_with fail
  refine (impl_PlaceOf_pok a n w).mono ?_
  rintro e w1 ⟨⟨q1, h1, rfl⟩, hb1⟩
  rw [h1 HX.out, HX.out]
  go_wp2_with fail
  refine (impl_PlaceOf_pok b n w1).mono ?_
  rintro e w2 ⟨⟨q2, h2, rfl⟩, hb2⟩
  rw [h2 HY.out, HY.out]
  have HB := Lib.hid (hb1.trans (hb2.mono hb1.size))
  clear hb1 hb2 h1 h2
  go_wp2
  go_ret3
  exact ⟨rfl, HB.out⟩
theorem impl_IsShared_no (a b m : Int) (w : World) (h : ((a < 3 ∨ 24 < a) ∨ (b < 3 ∨ 24 < b) ∨ a = b) ∨ (m < 0 ∨ 1000000000000 < m)) :
    Calls Try.prog 10 #[.int .i64 a, .int .i64 b, .int .i64 m] w fun e w' => e = .returned (.tuple #[.bool false, .bool false]) ∧ Below w.heap.size w w' := by
  by_cases hs : (a < 3 ∨ 24 < a) ∨ (b < 3 ∨ 24 < b) ∨ a = b
  · have HT := Lib.hid (two_no a b hs)
    clear h hs
    go_enter Try.func10, Try.ntmps10
    go_wp2_with (go_at_call 26; refine (diff_any _ _ _).mono ?_; rw [HT.out]; rintro e w' ⟨rfl, rfl⟩)
    go_ret2
    exact ⟨rfl, Below.refl _ _⟩
  · have HT := Lib.hid (two_yes a b hs)
    have H := Lib.hid (h.resolve_left hs)
    clear h hs
    go_enter Try.func10, Try.ntmps10
    go_wp2_with (first
      | (go_at_call 26; refine (diff_any _ _ _).mono ?_; rw [HT.out]; rintro e w' ⟨rfl, rfl⟩)
      | (go_at_call 27; refine (within_no _ _ _ _ H.out).mono ?_; rintro e w' ⟨rfl, rfl⟩))
    go_ret2
    exact ⟨rfl, Below.refl _ _⟩
theorem impl_IsShared_yes (a b n : Int) (w : World) (h1 : 3 ≤ a) (h2 : a ≤ 24) (g1 : 3 ≤ b) (g2 : b ≤ 24) (hne : a ≠ b) (h3 : 0 ≤ n) (h4 : n ≤ 1000000000000) :
    Calls Try.prog 10 #[.int .i64 a, .int .i64 b, .int .i64 n] w fun e w' => e = .returned (.tuple #[.bool (isP a n && isP b n), .bool true]) ∧ Below w.heap.size w w' := by
  have HT := Lib.hid (two_yes a b (by omega))
  have ea := pok_in a n h1 h2 h3 h4
  have eb := pok_in b n g1 g2 h3 h4
  have HP : ∀ w : World, Hid (Calls Try.prog 11 #[.int .i64 a, .int .i64 b, .int .i64 n] w fun e w' => (∃ x y : Int, e = .returned (.tuple #[.int .i64 x, .int .i64 y, .bool (isP a n && isP b n)])) ∧ Below w.heap.size w w') := fun w => Lib.hid (by
    cases ha : isP a n with
    | false => exact (impl_PlacesShared_fail a b n w (.inr (.inl (by rw [ea, ha])))).mono fun e w' ⟨he, hb⟩ => ⟨⟨0, 0, he⟩, hb⟩
    | true =>
      cases hb : isP b n with
      | false => exact (impl_PlacesShared_fail a b n w (.inr (.inr (by rw [eb, hb])))).mono fun e w' ⟨he, hb⟩ => ⟨⟨0, 0, he⟩, hb⟩
      | true => exact (impl_PlacesShared_yes a b n w hne (by rw [ea, ha]) (by rw [eb, hb])).mono fun e w' ⟨he, hb⟩ => ⟨⟨_, _, he⟩, hb⟩)
  clear hne ea eb
  go_enter Try.func10, Try.ntmps10
  go_wp2_with (first
    | (go_at_call 26; refine (diff_any _ _ _).mono ?_; rw [HT.out]; rintro e w' ⟨rfl, rfl⟩)
    | (go_at_call 27; refine (within_yes _ _ _ _ h3 h4).mono ?_; rintro e w' ⟨rfl, rfl⟩)
    | (go_at_call 11; refine ((HP _).out).mono ?_; rintro e w1 ⟨⟨x, y, rfl⟩, hb1⟩))
  go_ret2
  exact ⟨rfl, hb1⟩
end Go.Proofs.Ytcjfkbpkhlfbdaa
