/- Chapter 4: shared numbers up to a number, of two and of three: the specification's sides, the laws' frames. -/
import Derived.Test.YtcjfkbpkhlfbdaaSdE
import Derived.OwnWalk
namespace Go.Proofs.Ytcjfkbpkhlfbdaa
open Go.ChangeShapes Go.WideShapes Go.ChangeAt Go.RowKit

theorem rd_one (w : World) (b : Int) (t : TypeId) : Rd (w.alloc (.cells #[.int .i64 b] t)) (w.alloc (.cells #[.int .i64 b] t)).heap.size (some ⟨w.heap.size, 0, none⟩) (i64s [b]) := fun _ => by
  refine ⟨⟨w.heap.size, 0, none⟩, rfl, by simp, fun j u hu => ?_⟩
  match j, hu with
  | 0, hu => simp at hu; subst hu; simp [Addr.add]
theorem rd_two (w : World) (b c : Int) (t : TypeId) : Rd (w.alloc (.cells #[.int .i64 b, .int .i64 c] t)) (w.alloc (.cells #[.int .i64 b, .int .i64 c] t)).heap.size (some ⟨w.heap.size, 0, none⟩) (i64s [b, c]) := fun _ => by
  refine ⟨⟨w.heap.size, 0, none⟩, rfl, by simp, fun j u hu => ?_⟩
  match j, hu with
  | 0, hu => simp at hu; subst hu; simp [Addr.add]
  | 1, hu => simp at hu; subst hu; simp [Addr.add, go_sem]
/-- Two different numbers of sides. -/
def two (a b : Int) : Bool := decide (¬ ((a < 3 ∨ 24 < a) ∨ (b < 3 ∨ 24 < b) ∨ a = b))
theorem two_no (a b : Int) (h : (a < 3 ∨ 24 < a) ∨ (b < 3 ∨ 24 < b) ∨ a = b) : two a b = false := by simp only [two, h, not_true_eq_false, decide_false]
theorem two_yes (a b : Int) (h : ¬ ((a < 3 ∨ 24 < a) ∨ (b < 3 ∨ 24 < b) ∨ a = b)) : two a b = true := by simp only [two, h, not_false_eq_true, decide_true]
theorem sdTwo_any (a b : Int) (w : World) :
    Calls Try.prog 29 #[.int .i64 a, .int .i64 b] w fun e w' => e = .returned (.bool (two a b)) ∧ w = w' := by
  by_cases h : (a < 3 ∨ 24 < a) ∨ (b < 3 ∨ 24 < b) ∨ a = b
  · rw [two_no a b h]
    exact sdTwo_no a b w h
  · rw [two_yes a b h]
    exact sdTwo_yes a b w (by omega) (by omega) (by omega) (by omega) (by omega)
theorem spec_SharedUpTo_no (a b m : Int) (w : World) (h : ((a < 3 ∨ 24 < a) ∨ (b < 3 ∨ 24 < b) ∨ a = b) ∨ (m < 0 ∨ 1000000 < m)) :
    Calls Try.prog 7 #[.int .i64 a, .int .i64 b, .int .i64 m] w (ResI false [] w) := by
  by_cases hs : (a < 3 ∨ 24 < a) ∨ (b < 3 ∨ 24 < b) ∨ a = b
  · have H : Hid ((a < 3 ∨ 24 < a) ∨ (b < 3 ∨ 24 < b) ∨ a = b) := Lib.hid hs
    clear h hs
    go_enter Try.func7, Try.ntmps7
    go_wp2_with (first
      | (go_at_call 29; refine (sdTwo_no _ _ _ H.out).mono ?_; rintro e w' ⟨rfl, rfl⟩))
    go_ret2
    exact resI_nil (Below.refl _ _)
  · skip
    have x1 : 3 ≤ a := by omega
    have x2 : a ≤ 24 := by omega
    have x3 : 3 ≤ b := by omega
    have x4 : b ≤ 24 := by omega
    have x5 : a ≠ b := by omega
    have h' := h
    clear h
    have h : m < 0 ∨ 1000000 < m := by omega
    clear h' hs
    have H : Hid (m < 0 ∨ 1000000 < m) := Lib.hid (by omega)
    clear h
    go_enter Try.func7, Try.ntmps7
    go_wp2_with (first
      | (go_at_call 29; refine (sdTwo_yes _ _ _ x1 x2 x3 x4 x5).mono ?_; rintro e w' ⟨rfl, rfl⟩)
      | (go_at_call 30; refine (in_no _ _ _ _ H.out).mono ?_; rintro e w' ⟨rfl, rfl⟩))
    go_ret2
    exact resI_nil (Below.refl _ _)
theorem spec_SharedByThree_no (a b c m : Int) (w : World) (h : ((a < 3 ∨ 24 < a) ∨ (b < 3 ∨ 24 < b) ∨ a = b) ∨ ((b < 3 ∨ 24 < b) ∨ (c < 3 ∨ 24 < c) ∨ b = c) ∨ a = c ∨ (m < 0 ∨ 1000000 < m)) :
    Calls Try.prog 21 #[.int .i64 a, .int .i64 b, .int .i64 c, .int .i64 m] w (ResI false [] w) := by
  by_cases ht : (a < 3 ∨ 24 < a) ∨ (b < 3 ∨ 24 < b) ∨ a = b
  · have HT := Lib.hid (two_no a b ht)
    clear h ht
    go_enter Try.func21, Try.ntmps21
    go_wp2_with (go_at_call 29; refine (sdTwo_any _ _ _).mono ?_; rw [HT.out]; rintro e w' ⟨rfl, rfl⟩)
    go_ret2
    exact resI_nil (Below.refl _ _)
  · have HT := Lib.hid (two_yes a b ht)
    have h0 := h.resolve_left ht
    clear ht h
    by_cases hu : (b < 3 ∨ 24 < b) ∨ (c < 3 ∨ 24 < c) ∨ b = c
    · have HU := Lib.hid (two_no b c hu)
      clear h0 hu
      go_enter Try.func21, Try.ntmps21
      go_wp2_with (first
        | (go_at_call 29; refine (sdTwo_any _ _ _).mono ?_; (first | rw [HT.out] | rw [HU.out]); rintro e w' ⟨rfl, rfl⟩))
      go_ret2
      exact resI_nil (Below.refl _ _)
    · have HU := Lib.hid (two_yes b c hu)
      have h1 := h0.resolve_left hu
      clear hu h0
      by_cases he : a = c
      · subst he
        clear h1
        go_enter Try.func21, Try.ntmps21
        go_wp2_with (first
          | (go_at_call 29; refine (sdTwo_any _ _ _).mono ?_; (first | rw [HT.out] | rw [HU.out]); rintro e w' ⟨rfl, rfl⟩))
        go_ret2
        exact resI_nil (Below.refl _ _)
      · have HI := Lib.hid fun w => in_no m 0 1000000 w (h1.resolve_left he)
        have hE : (a == c) = false := by simpa using he
        clear h1 he
        go_enter Try.func21, Try.ntmps21
        go_wp2_with (first
          | (go_at_call 29; refine (sdTwo_any _ _ _).mono ?_; (first | rw [HT.out] | rw [HU.out]); rintro e w' ⟨rfl, rfl⟩)
          | (go_at_call 30; refine (HI.out _).mono ?_; rintro e w' ⟨rfl, rfl⟩))
        go_ret2
        exact resI_nil (Below.refl _ _)
set_option maxHeartbeats 800000 in
theorem spec_SharedUpTo_yes (a b m : Int) (w : World) (h1 : 3 ≤ a) (h2 : a ≤ 24) (g1 : 3 ≤ b) (g2 : b ≤ 24) (hne : a ≠ b) (h3 : 0 ≤ m) (h4 : m ≤ 1000000) :
    Calls Try.prog 7 #[.int .i64 a, .int .i64 b, .int .i64 m] w (ResI true (shr a [b] ((pl a m).toNat + 1)) w) := by
  have HT := Lib.hid (two_yes a b (by omega))
  clear hne
  go_enter Try.func7, Try.ntmps7
  go_wp2_with (first
    | (go_at_call 29; refine (sdTwo_any _ _ _).mono ?_; rw [HT.out]; rintro e w' ⟨rfl, rfl⟩)
    | (go_at_call 30; refine (in_yes _ _ _ _ h3 h4).mono ?_; rintro e w' ⟨rfl, rfl⟩))
  refine (spec_sdUpTo_any a _ 1 1 [b] m _ h1 h2 rfl (by omega) (fun i hi => by
      obtain rfl : i = 0 := by omega
      exact ⟨g1, g2⟩) h3 h4 (rd_one w b _)).mono ?_
  rintro e w2 ⟨⟨B, d, rfl, o2⟩, b2⟩
  have hz : w.heap.size ≤ (w.alloc (.cells #[.int .i64 b] 3)).heap.size := by simp
  have hb : Below w.heap.size w w2 := ((Below.refl _ _).alloc (Nat.le_refl _) _).trans (b2.mono hz)
  have ho := o2.wide hz (Nat.le_refl _)
  clear o2 b2
  go_wp2
  go_ret2
  exact ⟨B, d, rfl, ho, hb⟩
set_option maxHeartbeats 800000 in
theorem spec_SharedByThree_yes (a b c m : Int) (w : World) (h1 : 3 ≤ a) (h2 : a ≤ 24) (g1 : 3 ≤ b) (g2 : b ≤ 24) (k1 : 3 ≤ c) (k2 : c ≤ 24) (hne : a ≠ b) (hn2 : b ≠ c) (hn3 : a ≠ c) (h3 : 0 ≤ m) (h4 : m ≤ 1000000) :
    Calls Try.prog 21 #[.int .i64 a, .int .i64 b, .int .i64 c, .int .i64 m] w (ResI true (shr a [b, c] ((pl a m).toNat + 1)) w) := by
  have HT := Lib.hid (two_yes a b (by omega))
  have HU := Lib.hid (two_yes b c (by omega))
  have hE : (a == c) = false := by simpa using hn3
  clear hne hn2 hn3
  go_enter Try.func21, Try.ntmps21
  go_wp2_with (first
    | (go_at_call 29; refine (sdTwo_any _ _ _).mono ?_; (first | rw [HT.out] | rw [HU.out]); rintro e w' ⟨rfl, rfl⟩)
    | (go_at_call 30; refine (in_yes _ _ _ _ h3 h4).mono ?_; rintro e w' ⟨rfl, rfl⟩))
  refine (spec_sdUpTo_any a _ 2 2 [b, c] m _ h1 h2 rfl (by omega) (fun i hi => by
      rcases (show i = 0 ∨ i = 1 by omega) with rfl | rfl
      · exact ⟨g1, g2⟩
      · exact ⟨k1, k2⟩) h3 h4 (rd_two w b c _)).mono ?_
  rintro e w2 ⟨⟨B, d, rfl, o2⟩, b2⟩
  have hz : w.heap.size ≤ (w.alloc (.cells #[.int .i64 b, .int .i64 c] 3)).heap.size := by simp
  have hb : Below w.heap.size w w2 := ((Below.refl _ _).alloc (Nat.le_refl _) _).trans (b2.mono hz)
  have ho := o2.wide hz (Nat.le_refl _)
  clear o2 b2
  go_wp2
  go_ret2
  exact ⟨B, d, rfl, ho, hb⟩
end Go.Proofs.Ytcjfkbpkhlfbdaa
