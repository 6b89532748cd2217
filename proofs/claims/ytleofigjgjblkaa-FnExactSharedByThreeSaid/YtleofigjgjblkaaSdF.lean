/- Chapter 4: shared numbers up to a number, of two and of three: the specification's sides, the laws' frames. -/
import Derived.Test.YtleofigjgjblkaaSdE
import Derived.OwnWalk
namespace Go.Proofs.Ytleofigjgjblkaa
open Go.ChangeShapes Go.WideShapes Go.ChangeAt Go.RowKit

theorem rd_one (w : World) (b : Int) (t : TypeId) : Rd (w.alloc (.cells #[.int .i64 b] t)) (w.alloc (.cells #[.int .i64 b] t)).heap.size (some ⟨w.heap.size, 0, none⟩) (i64s [b]) := fun _ => by
  refine ⟨⟨w.heap.size, 0, none⟩, rfl, by simp, fun j u hu => ?_⟩
  match j, hu with
  | 0, hu => simp at hu; subst hu; simp [Addr.add]
theorem rd_two (w : World) (b c : Int) (t : TypeId) : Rd (w.alloc (.cells #[.int .i64 b, .int .i64 c] t)) (w.alloc (.cells #[.int .i64 b, .int .i64 c] t)).heap.size (some ⟨w.heap.size, 0, none⟩) (i64s [b, c]) := fun _ => by
  refine ⟨⟨w.heap.size, 0, none⟩, rfl, by simp, fun j u hu => ?_⟩
  match j, hu with
  | 0, hu => simp at hu; subst hu; simp [Addr.add]
  | 1, hu => simp at hu; subst hu; simp [Addr.add, go_sem]
/-- Two different numbers of sides. -/
def two (a b : Int) : Bool := decide (¬ ((a < 3 ∨ 24 < a) ∨ (b < 3 ∨ 24 < b) ∨ a = b))
theorem two_no (a b : Int) (h : (a < 3 ∨ 24 < a) ∨ (b < 3 ∨ 24 < b) ∨ a = b) : two a b = false := by simp only [two, h, not_true_eq_false, decide_false]
theorem two_yes (a b : Int) (h : ¬ ((a < 3 ∨ 24 < a) ∨ (b < 3 ∨ 24 < b) ∨ a = b)) : two a b = true := by simp only [two, h, not_false_eq_true, decide_true]
theorem sdTwo_any (a b : Int) (w : World) :
    Calls Try.prog 49 #[.int .i64 a, .int .i64 b] w fun e w' => e = .returned (.bool (two a b)) ∧ w = w' := by
  by_cases h : (a < 3 ∨ 24 < a) ∨ (b < 3 ∨ 24 < b) ∨ a = b
  · rw [two_no a b h]
    exact sdTwo_no a b w h
  · rw [two_yes a b h]
    exact sdTwo_yes a b w (by omega) (by omega) (by omega) (by omega) (by omega)
theorem spec_SharedUpTo_no (a b m : Int) (w : World) (h : ((a < 3 ∨ 24 < a) ∨ (b < 3 ∨ 24 < b) ∨ a = b) ∨ (m < 0 ∨ 1000000 < m)) :
    Calls Try.prog 17 #[.int .i64 a, .int .i64 b, .int .i64 m] w (ResI false [] w) := by
  by_cases hs : (a < 3 ∨ 24 < a) ∨ (b < 3 ∨ 24 < b) ∨ a = b
  · have H : Hid ((a < 3 ∨ 24 < a) ∨ (b < 3 ∨ 24 < b) ∨ a = b) := Lib.hid hs
    clear h hs
    go_enter Try.func17, Try.ntmps17
    go_wp2_with (first
      | (go_at_call 49; refine (sdTwo_no _ _ _ H.out).mono ?_; rintro e w' ⟨rfl, rfl⟩))
    go_ret2
    exact resI_nil (Below.refl _ _)
  · skip
    have x1 : 3 ≤ a := by omega
    have x2 : a ≤ 24 := by omega
    have x3 : 3 ≤ b := by omega
    have x4 : b ≤ 24 := by omega
    have x5 : a ≠ b := by omega
    have h' := h
    clear h
    have h : m < 0 ∨ 1000000 < m := by omega
    clear h' hs
    have H : Hid (m < 0 ∨ 1000000 < m) := Lib.hid (by omega)
    clear h
    go_enter Try.func17, Try.ntmps17
    go_wp2_with (first
      | (go_at_call 49; refine (sdTwo_yes _ _ _ x1 x2 x3 x4 x5).mono ?_; rintro e w' ⟨rfl, rfl⟩)
      | (go_at_call 50; refine (in_no _ _ _ _ H.out).mono ?_; rintro e w' ⟨rfl, rfl⟩))
    go_ret2
    exact resI_nil (Below.refl _ _)
theorem spec_SharedByThree_no (a b c m : Int) (w : World) (h : ((a < 3 ∨ 24 < a) ∨ (b < 3 ∨ 24 < b) ∨ a = b) ∨ ((b < 3 ∨ 24 < b) ∨ (c < 3 ∨ 24 < c) ∨ b = c) ∨ a = c ∨ (m < 0 ∨ 1000000 < m)) :
    Calls Try.prog 28 #[.int .i64 a, .int .i64 b, .int .i64 c, .int .i64 m] w (ResI false [] w) := by
  by_cases ht : (a < 3 ∨ 24 < a) ∨ (b < 3 ∨ 24 < b) ∨ a = b
  · have HT := Lib.hid (two_no a b ht)
    clear h ht
    go_enter Try.func28, Try.ntmps28
    go_wp2_with (go_at_call 49; refine (sdTwo_any _ _ _).mono ?_; rw [HT.out]; rintro e w' ⟨rfl, rfl⟩)
    go_ret2
    exact resI_nil (Below.refl _ _)
  · have HT := Lib.hid (two_yes a b ht)
    have h0 := h.resolve_left ht
    clear ht h
    by_cases hu : (b < 3 ∨ 24 < b) ∨ (c < 3 ∨ 24 < c) ∨ b = c
    · have HU := Lib.hid (two_no b c hu)
      clear h0 hu
      go_enter Try.func28, Try.ntmps28
      go_wp2_with (first
        | (go_at_call 49; refine (sdTwo_any _ _ _).mono ?_; (first | rw [HT.out] | rw [HU.out]); rintro e w' ⟨rfl, rfl⟩))
      go_ret2
      exact resI_nil (Below.refl _ _)
    · have HU := Lib.hid (two_yes b c hu)
      have h1 := h0.resolve_left hu
      clear hu h0
      by_cases he : a = c
      · subst he
        clear h1
        go_enter Try.func28, Try.ntmps28
        go_wp2_with (first
          | (go_at_call 49; refine (sdTwo_any _ _ _).mono ?_; (first | rw [HT.out] | rw [HU.out]); rintro e w' ⟨rfl, rfl⟩))
        go_ret2
        exact resI_nil (Below.refl _ _)
      · have HI := Lib.hid fun w => in_no m 0 1000000 w (h1.resolve_left he)
        have hE : (a == c) = false := by simpa using he
        clear h1 he
        go_enter Try.func28, Try.ntmps28
        go_wp2_with (first
          | (go_at_call 49; refine (sdTwo_any _ _ _).mono ?_; (first | rw [HT.out] | rw [HU.out]); rintro e w' ⟨rfl, rfl⟩)
          | (go_at_call 50; refine (HI.out _).mono ?_; rintro e w' ⟨rfl, rfl⟩))
        go_ret2
        exact resI_nil (Below.refl _ _)
set_option maxHeartbeats 800000 in
theorem spec_SharedUpTo_yes (a b m : Int) (w : World) (h1 : 3 ≤ a) (h2 : a ≤ 24) (g1 : 3 ≤ b) (g2 : b ≤ 24) (hne : a ≠ b) (h3 : 0 ≤ m) (h4 : m ≤ 1000000) :
    Calls Try.prog 17 #[.int .i64 a, .int .i64 b, .int .i64 m] w (ResI true (shr a [b] ((pl a m).toNat + 1)) w) := by
  have HT := Lib.hid (two_yes a b (by omega))
  clear hne
  go_enter Try.func17, Try.ntmps17
  go_wp2_with (first
    | (go_at_call 49; refine (sdTwo_any _ _ _).mono ?_; rw [HT.out]; rintro e w' ⟨rfl, rfl⟩)
    | (go_at_call 50; refine (in_yes _ _ _ _ h3 h4).mono ?_; rintro e w' ⟨rfl, rfl⟩))
  refine (spec_sdUpTo_any a _ 1 1 [b] m _ h1 h2 rfl (by omega) (fun i hi => by
      obtain rfl : i = 0 := by omega
      exact ⟨g1, g2⟩) h3 h4 (rd_one w b _)).mono ?_
  rintro e w2 ⟨⟨B, d, rfl, o2⟩, b2⟩
  have hz : w.heap.size ≤ (w.alloc (.cells #[.int .i64 b] 3)).heap.size := by simp
  have hb : Below w.heap.size w w2 := ((Below.refl _ _).alloc (Nat.le_refl _) _).trans (b2.mono hz)
  have ho := o2.wide hz (Nat.le_refl _)
  clear o2 b2
  go_wp2
  go_ret2
  exact ⟨B, d, rfl, ho, hb⟩
set_option maxHeartbeats 800000 in
theorem spec_SharedByThree_yes (a b c m : Int) (w : World) (h1 : 3 ≤ a) (h2 : a ≤ 24) (g1 : 3 ≤ b) (g2 : b ≤ 24) (k1 : 3 ≤ c) (k2 : c ≤ 24) (hne : a ≠ b) (hn2 : b ≠ c) (hn3 : a ≠ c) (h3 : 0 ≤ m) (h4 : m ≤ 1000000) :
    Calls Try.prog 28 #[.int .i64 a, .int .i64 b, .int .i64 c, .int .i64 m] w (ResI true (shr a [b, c] ((pl a m).toNat + 1)) w) := by
  have HT := Lib.hid (two_yes a b (by omega))
  have HU := Lib.hid (two_yes b c (by omega))
  have hE : (a == c) = false := by simpa using hn3
  clear hne hn2 hn3
  go_enter Try.func28, Try.ntmps28
  go_wp2_with (first
    | (go_at_call 49; refine (sdTwo_any _ _ _).mono ?_; (first | rw [HT.out] | rw [HU.out]); rintro e w' ⟨rfl, rfl⟩)
    | (go_at_call 50; refine (in_yes _ _ _ _ h3 h4).mono ?_; rintro e w' ⟨rfl, rfl⟩))
  refine (spec_sdUpTo_any a _ 2 2 [b, c] m _ h1 h2 rfl (by omega) (fun i hi => by
      rcases (show i = 0 ∨ i = 1 by omega) with rfl | rfl
      · exact ⟨g1, g2⟩
      · exact ⟨k1, k2⟩) h3 h4 (rd_two w b c _)).mono ?_
  rintro e w2 ⟨⟨B, d, rfl, o2⟩, b2⟩
  have hz : w.heap.size ≤ (w.alloc (.cells #[.int .i64 b, .int .i64 c] 3)).heap.size := by simp
  have hb : Below w.heap.size w w2 := ((Below.refl _ _).alloc (Nat.le_refl _) _).trans (b2.mono hz)
  have ho := o2.wide hz (Nat.le_refl _)
  clear o2 b2
  go_wp2
  go_ret2
  exact ⟨B, d, rfl, ho, hb⟩
set_option maxHeartbeats 800000 in
theorem lawI_SharedUpTo (a b m : Int) (ok : Bool) (xs : List Int) (hl : xs.length ≤ 1000000000) 
    (hs : ∀ w : World, Calls Try.prog 17 #[.int .i64 a, .int .i64 b, .int .i64 m] w (ResI ok xs w))
    (hi : ∀ w : World, Calls Try.prog 18 #[.int .i64 a, .int .i64 b, .int .i64 m] w (ResI ok xs w)) (w : World) :
    Calls Try.prog 3 #[.int .i64 a, .int .i64 b, .int .i64 m] w fun e w' => e = .returned (.bool true) ∧ Below w.heap.size w w' := by
  have HS := Lib.hid hs
  have HI := Lib.hid hi
  clear hs hi
  obtain ⟨n, hn⟩ : ∃ n, n = xs.length := ⟨_, rfl⟩
  have HN := Lib.hid hn.symm
  rw [← hn] at hl
  clear hn
  go_enter Try.func3, Try.ntmps3
  go_wp2_with fail
  refine (HS.out _).mono ?_
  rintro e w1 ⟨A1, c1, rfl, o1, b1⟩
  rw [HN.out]
  go_wp2_with fail
  refine (HI.out _).mono ?_
  rintro e w2 ⟨A2, c2, rfl, o2, b2⟩
  rw [HN.out]
  have o1a : Own w2 w.heap.size w1.heap.size A1 (i64s xs) := o1.below b2 (Nat.le_refl _)
  clear o1
  go_wp2_with fail
  refine (eqIntS_same A2 A1 n c2 c1 _ _ _ _ xs _ HN.out hl o2 o1a).mono ?_
  rintro e w3 ⟨rfl, q3, rfl⟩
  go_wp2_with fail
  refine (markIntS_any A2 n c2 _ _ (i64s xs) 1 _ (by simp [HN.out]) hl (by omega) (by omega) (o2.drewN _)).mono ?_
  rintro e w4 ⟨rfl, o3, b4⟩
  have o1b : Own w4 w.heap.size w1.heap.size A1 (i64s xs) := (o1a.drewN _).below b4 (Nat.le_refl _)
  clear o1a o2
  go_wp2_with fail
  refine (heldIntS_any A2 n c2 _ _ 1 _ hl (by omega) (by omega) o3).mono ?_
  rintro e w5 ⟨rfl, rfl⟩
  go_wp2_with fail
  refine (HI.out _).mono ?_
  rintro e w6 ⟨A6, c6, rfl, o6, b6⟩
  rw [HN.out]
  have o1c : Own w6 w.heap.size w1.heap.size A1 (i64s xs) := o1b.below b6 (Nat.le_trans b2.size b4.size)
  have o3c : Own w6 w1.heap.size w2.heap.size A2 (i64s (marks 1 n)) := o3.below b6 b4.size
  clear o1b o3
  go_wp2_with fail
  refine (eqIntS_same A6 A1 n c6 c1 _ _ _ _ xs _ HN.out hl o6 o1c).mono ?_
  rintro e w7 ⟨rfl, q7, rfl⟩
  go_wp2_with fail
  refine (heldIntS_any A2 n c2 _ _ 1 _ hl (by omega) (by omega) (o3c.drewN _)).mono ?_
  rintro e w8 ⟨rfl, rfl⟩
  go_wp2
  go_ret
  have s2 : w.heap.size ≤ w1.heap.size := b1.size
  have s4 : w.heap.size ≤ w4.heap.size := Nat.le_trans (Nat.le_trans b1.size b2.size) b4.size
  exact ⟨rfl, below_drewN ((b1.trans (b2.mono s2)).trans ((below_drewN (Below.refl _ _) _).trans ((b4.mono s2).trans (b6.mono s4)))) _⟩
set_option maxHeartbeats 800000 in
theorem lawI_SharedByThree (a b c m : Int) (ok : Bool) (xs : List Int) (hl : xs.length ≤ 1000000000) 
    (hs : ∀ w : World, Calls Try.prog 28 #[.int .i64 a, .int .i64 b, .int .i64 c, .int .i64 m] w (ResI ok xs w))
    (hi : ∀ w : World, Calls Try.prog 29 #[.int .i64 a, .int .i64 b, .int .i64 c, .int .i64 m] w (ResI ok xs w)) (w : World) :
    Calls Try.prog 7 #[.int .i64 a, .int .i64 b, .int .i64 c, .int .i64 m] w fun e w' => e = .returned (.bool true) ∧ Below w.heap.size w w' := by
  have HS := Lib.hid hs
  have HI := Lib.hid hi
  clear hs hi
  obtain ⟨n, hn⟩ : ∃ n, n = xs.length := ⟨_, rfl⟩
  have HN := Lib.hid hn.symm
  rw [← hn] at hl
  clear hn
  go_enter Try.func7, Try.ntmps7
  go_wp2_with fail
  refine (HS.out _).mono ?_
  rintro e w1 ⟨A1, c1, rfl, o1, b1⟩
  rw [HN.out]
  go_wp2_with fail
  refine (HI.out _).mono ?_
  rintro e w2 ⟨A2, c2, rfl, o2, b2⟩
  rw [HN.out]
  have o1a : Own w2 w.heap.size w1.heap.size A1 (i64s xs) := o1.below b2 (Nat.le_refl _)
  clear o1
  go_wp2_with fail
  refine (eqIntS_same A2 A1 n c2 c1 _ _ _ _ xs _ HN.out hl o2 o1a).mono ?_
  rintro e w3 ⟨rfl, q3, rfl⟩
  go_wp2_with fail
  refine (markIntS_any A2 n c2 _ _ (i64s xs) 1 _ (by simp [HN.out]) hl (by omega) (by omega) (o2.drewN _)).mono ?_
  rintro e w4 ⟨rfl, o3, b4⟩
  have o1b : Own w4 w.heap.size w1.heap.size A1 (i64s xs) := (o1a.drewN _).below b4 (Nat.le_refl _)
  clear o1a o2
  go_wp2_with fail
  refine (heldIntS_any A2 n c2 _ _ 1 _ hl (by omega) (by omega) o3).mono ?_
  rintro e w5 ⟨rfl, rfl⟩
  go_wp2_with fail
  refine (HI.out _).mono ?_
  rintro e w6 ⟨A6, c6, rfl, o6, b6⟩
  rw [HN.out]
  have o1c : Own w6 w.heap.size w1.heap.size A1 (i64s xs) := o1b.below b6 (Nat.le_trans b2.size b4.size)
  have o3c : Own w6 w1.heap.size w2.heap.size A2 (i64s (marks 1 n)) := o3.below b6 b4.size
  clear o1b o3
  go_wp2_with fail
  refine (eqIntS_same A6 A1 n c6 c1 _ _ _ _ xs _ HN.out hl o6 o1c).mono ?_
  rintro e w7 ⟨rfl, q7, rfl⟩
  go_wp2_with fail
  refine (heldIntS_any A2 n c2 _ _ 1 _ hl (by omega) (by omega) (o3c.drewN _)).mono ?_
  rintro e w8 ⟨rfl, rfl⟩
  go_wp2
  go_ret
  have s2 : w.heap.size ≤ w1.heap.size := b1.size
  have s4 : w.heap.size ≤ w4.heap.size := Nat.le_trans (Nat.le_trans b1.size b2.size) b4.size
  exact ⟨rfl, below_drewN ((b1.trans (b2.mono s2)).trans ((below_drewN (Below.refl _ _) _).trans ((b4.mono s2).trans (b6.mono s4)))) _⟩
end Go.Proofs.Ytleofigjgjblkaa
