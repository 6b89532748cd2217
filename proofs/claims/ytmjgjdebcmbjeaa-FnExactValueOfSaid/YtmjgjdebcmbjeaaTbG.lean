/- Chapter 8: the frames of the laws that hand back plain values; lists that are too long for a law. -/
import Derived.Test.YtmjgjdebcmbjeaaTbN
namespace Go.Proofs.Ytmjgjdebcmbjeaa
open Go.RowKit

set_option maxHeartbeats 1600000 in
theorem lawLV_DegreeOf (A : Option Addr) (n c : Nat) (xs : List Int) (r : Int) (ok : Bool) (w : World) (hn : xs.length = n) (hm : n ≤ 1048576) (ha : Rd w w.heap.size A (i64s xs))
    (hs : ∀ (B : Option Addr) (d lo : Nat) (w : World), Own w lo w.heap.size B (i64s xs) → Calls Try.prog 30 #[.slice B n d] w fun e w' => e = .returned (.tuple #[.int .i64 r, .bool ok]) ∧ Below w.heap.size w w')
    (hi : ∀ (B : Option Addr) (d lo : Nat) (w : World), Own w lo w.heap.size B (i64s xs) → Calls Try.prog 31 #[.slice B n d] w fun e w' => e = .returned (.tuple #[.int .i64 r, .bool ok]) ∧ Below w.heap.size w w') :
    Calls Try.prog 5 #[.slice A n c] w fun e w' => e = .returned (.bool true) ∧ Below w.heap.size w w' := by
  have HS := Lib.hid hs
  have HI := Lib.hid hi
  have HA := Lib.hid ha
  have HN := Lib.hid hn
  clear hs hi ha hn
  have hmi : (n : Int) ≤ 1048576 := by omega
  go_enter Try.func5, Try.ntmps5
  go_wp2_with fail
  refine (toIntS_any A n c xs _ HN.out hm HA.out).mono ?_
  rintro e w1 ⟨⟨B1, d1, rfl, o1⟩, b1⟩
  go_wp2_with fail
  refine (HS.out B1 d1 _ w1 o1).mono ?_
  rintro e w2 ⟨rfl, b2⟩
  have b02 : Below w.heap.size w w2 := b1.trans (b2.mono b1.size)
  clear o1
  go_wp2_with fail
  refine (toIntS_any A n c xs _ HN.out hm (fun h => by obtain ⟨ad, e1, e2, e3⟩ := (HA.out.below b02 (Nat.le_refl _)) h; exact ⟨ad, e1, Nat.lt_of_lt_of_le e2 b02.size, e3⟩)).mono ?_
  rintro e w3 ⟨⟨B3, d3, rfl, o3⟩, b3⟩
  have b03 : Below w.heap.size w w3 := b02.trans (b3.mono b02.size)
  go_wp2_with fail
  refine (HI.out B3 d3 _ w3 o3).mono ?_
  rintro e w4 ⟨rfl, b4⟩
  have o4 := o3.below b4 (Nat.le_refl _)
  have b04 : Below w.heap.size w w4 := b03.trans (b4.mono b03.size)
  clear o3 b1 b2 b02 b3 b03
  go_wp2_with fail
  refine (toIntS_any A n c xs _ HN.out hm (fun h => by obtain ⟨ad, e1, e2, e3⟩ := (HA.out.below b04 (Nat.le_refl _)) h; exact ⟨ad, e1, Nat.lt_of_lt_of_le e2 b04.size, e3⟩)).mono ?_
  rintro e w5 ⟨⟨B5, d5, rfl, o5⟩, b5⟩
  have o45 := o4.below b5 b4.size
  have b05 : Below w.heap.size w w5 := b04.trans (b5.mono b04.size)
  clear o4 b04 b5
  go_wp2_with fail
  refine (eqIntS_same B3 B5 n d3 d5 _ _ _ _ xs _ HN.out (by omega) o45 o5).mono ?_
  rintro e w6 ⟨rfl, q6, rfl⟩
  go_wp2
  go_ret
  exact ⟨rfl, below_drewN b05 _⟩

set_option maxHeartbeats 1600000 in
theorem lawLV_ValueOf (k : Int) (A : Option Addr) (n c : Nat) (xs : List Int) (r : Int) (ok : Bool) (w : World) (hn : xs.length = n) (hm : n ≤ 1048576) (ha : Rd w w.heap.size A (i64s xs))
    (hs : ∀ (B : Option Addr) (d lo : Nat) (w : World), Own w lo w.heap.size B (i64s xs) → Calls Try.prog 34 #[.slice B n d, .int .i64 k] w fun e w' => e = .returned (.tuple #[.int .i64 r, .bool ok]) ∧ Below w.heap.size w w')
    (hi : ∀ (B : Option Addr) (d lo : Nat) (w : World), Own w lo w.heap.size B (i64s xs) → Calls Try.prog 35 #[.slice B n d, .int .i64 k] w fun e w' => e = .returned (.tuple #[.int .i64 r, .bool ok]) ∧ Below w.heap.size w w') :
    Calls Try.prog 7 #[.slice A n c, .int .i64 k] w fun e w' => e = .returned (.bool true) ∧ Below w.heap.size w w' := by
  have HS := Lib.hid hs
  have HI := Lib.hid hi
  have HA := Lib.hid ha
  have HN := Lib.hid hn
  clear hs hi ha hn
  have hmi : (n : Int) ≤ 1048576 := by omega
  go_enter Try.func7, Try.ntmps7
  go_wp2_with fail
  refine (toIntS_any A n c xs _ HN.out hm HA.out).mono ?_
  rintro e w1 ⟨⟨B1, d1, rfl, o1⟩, b1⟩
  go_wp2_with fail
  refine (HS.out B1 d1 _ w1 o1).mono ?_
  rintro e w2 ⟨rfl, b2⟩
  have b02 : Below w.heap.size w w2 := b1.trans (b2.mono b1.size)
  clear o1
  go_wp2_with fail
  refine (toIntS_any A n c xs _ HN.out hm (fun h => by obtain ⟨ad, e1, e2, e3⟩ := (HA.out.below b02 (Nat.le_refl _)) h; exact ⟨ad, e1, Nat.lt_of_lt_of_le e2 b02.size, e3⟩)).mono ?_
  rintro e w3 ⟨⟨B3, d3, rfl, o3⟩, b3⟩
  have b03 : Below w.heap.size w w3 := b02.trans (b3.mono b02.size)
  go_wp2_with fail
  refine (HI.out B3 d3 _ w3 o3).mono ?_
  rintro e w4 ⟨rfl, b4⟩
  have o4 := o3.below b4 (Nat.le_refl _)
  have b04 : Below w.heap.size w w4 := b03.trans (b4.mono b03.size)
  clear o3 b1 b2 b02 b3 b03
  go_wp2_with fail
  refine (toIntS_any A n c xs _ HN.out hm (fun h => by obtain ⟨ad, e1, e2, e3⟩ := (HA.out.below b04 (Nat.le_refl _)) h; exact ⟨ad, e1, Nat.lt_of_lt_of_le e2 b04.size, e3⟩)).mono ?_
  rintro e w5 ⟨⟨B5, d5, rfl, o5⟩, b5⟩
  have o45 := o4.below b5 b4.size
  have b05 : Below w.heap.size w w5 := b04.trans (b5.mono b04.size)
  clear o4 b04 b5
  go_wp2_with fail
  refine (eqIntS_same B3 B5 n d3 d5 _ _ _ _ xs _ HN.out (by omega) o45 o5).mono ?_
  rintro e w6 ⟨rfl, q6, rfl⟩
  go_wp2
  go_ret
  exact ⟨rfl, below_drewN b05 _⟩

set_option maxHeartbeats 1600000 in
theorem lawLV_ShapeOfList (A : Option Addr) (n c : Nat) (xs : List Int) (r t : Int) (ok : Bool) (w : World) (hn : xs.length = n) (hm : n ≤ 1048576) (ha : Rd w w.heap.size A (i64s xs))
    (hs : ∀ (B : Option Addr) (d lo : Nat) (w : World), Own w lo w.heap.size B (i64s xs) → Calls Try.prog 54 #[.slice B n d] w fun e w' => e = .returned (.tuple #[.int .i64 r, .int .i64 t, .bool ok]) ∧ Below w.heap.size w w')
    (hi : ∀ (B : Option Addr) (d lo : Nat) (w : World), Own w lo w.heap.size B (i64s xs) → Calls Try.prog 55 #[.slice B n d] w fun e w' => e = .returned (.tuple #[.int .i64 r, .int .i64 t, .bool ok]) ∧ Below w.heap.size w w') :
    Calls Try.prog 17 #[.slice A n c] w fun e w' => e = .returned (.bool true) ∧ Below w.heap.size w w' := by
  have HS := Lib.hid hs
  have HI := Lib.hid hi
  have HA := Lib.hid ha
  have HN := Lib.hid hn
  clear hs hi ha hn
  have hmi : (n : Int) ≤ 1048576 := by omega
  go_enter Try.func17, Try.ntmps17
  go_wp2_with fail
  refine (toIntS_any A n c xs _ HN.out hm HA.out).mono ?_
  rintro e w1 ⟨⟨B1, d1, rfl, o1⟩, b1⟩
  go_wp2_with fail
  refine (HS.out B1 d1 _ w1 o1).mono ?_
  rintro e w2 ⟨rfl, b2⟩
  have b02 : Below w.heap.size w w2 := b1.trans (b2.mono b1.size)
  clear o1
  go_wp2_with fail
  refine (toIntS_any A n c xs _ HN.out hm (fun h => by obtain ⟨ad, e1, e2, e3⟩ := (HA.out.below b02 (Nat.le_refl _)) h; exact ⟨ad, e1, Nat.lt_of_lt_of_le e2 b02.size, e3⟩)).mono ?_
  rintro e w3 ⟨⟨B3, d3, rfl, o3⟩, b3⟩
  have b03 : Below w.heap.size w w3 := b02.trans (b3.mono b02.size)
  go_wp2_with fail
  refine (HI.out B3 d3 _ w3 o3).mono ?_
  rintro e w4 ⟨rfl, b4⟩
  have o4 := o3.below b4 (Nat.le_refl _)
  have b04 : Below w.heap.size w w4 := b03.trans (b4.mono b03.size)
  clear o3 b1 b2 b02 b3 b03
  go_wp2_with fail
  refine (toIntS_any A n c xs _ HN.out hm (fun h => by obtain ⟨ad, e1, e2, e3⟩ := (HA.out.below b04 (Nat.le_refl _)) h; exact ⟨ad, e1, Nat.lt_of_lt_of_le e2 b04.size, e3⟩)).mono ?_
  rintro e w5 ⟨⟨B5, d5, rfl, o5⟩, b5⟩
  have o45 := o4.below b5 b4.size
  have b05 : Below w.heap.size w w5 := b04.trans (b5.mono b04.size)
  clear o4 b04 b5
  go_wp2_with fail
  refine (eqIntS_same B3 B5 n d3 d5 _ _ _ _ xs _ HN.out (by omega) o45 o5).mono ?_
  rintro e w6 ⟨rfl, q6, rfl⟩
  go_wp2
  go_ret
  exact ⟨rfl, below_drewN b05 _⟩

theorem lawL_DifferencesOf_big (A : Option Addr) (n c : Nat) (w : World) (hm : 1048576 < n) :
    Calls Try.prog 3 #[.slice A n c] w fun e w' => e = .returned (.bool true) ∧ Below w.heap.size w w' := by
  have hm2 : 1048576 < (n : Int) := by omega
  clear hm
  go_enter Try.func3, Try.ntmps3
  go_wp2
  go_ret
  exact ⟨rfl, Below.refl _ _⟩

theorem lawL_DifferenceTable_big (A : Option Addr) (n c : Nat) (w : World) (hm : 1048576 < n) :
    Calls Try.prog 4 #[.slice A n c] w fun e w' => e = .returned (.bool true) ∧ Below w.heap.size w w' := by
  have hm2 : 1048576 < (n : Int) := by omega
  clear hm
  go_enter Try.func4, Try.ntmps4
  go_wp2
  go_ret
  exact ⟨rfl, Below.refl _ _⟩

theorem lawL_DegreeOf_big (A : Option Addr) (n c : Nat) (w : World) (hm : 1048576 < n) :
    Calls Try.prog 5 #[.slice A n c] w fun e w' => e = .returned (.bool true) ∧ Below w.heap.size w w' := by
  have hm2 : 1048576 < (n : Int) := by omega
  clear hm
  go_enter Try.func5, Try.ntmps5
  go_wp2
  go_ret
  exact ⟨rfl, Below.refl _ _⟩

theorem lawL_FormOf_big (A : Option Addr) (n c : Nat) (w : World) (hm : 1048576 < n) :
    Calls Try.prog 6 #[.slice A n c] w fun e w' => e = .returned (.bool true) ∧ Below w.heap.size w w' := by
  have hm2 : 1048576 < (n : Int) := by omega
  clear hm
  go_enter Try.func6, Try.ntmps6
  go_wp2
  go_ret
  exact ⟨rfl, Below.refl _ _⟩

theorem lawL_ValueOf_big (k : Int) (A : Option Addr) (n c : Nat) (w : World) (hm : 1048576 < n) :
    Calls Try.prog 7 #[.slice A n c, .int .i64 k] w fun e w' => e = .returned (.bool true) ∧ Below w.heap.size w w' := by
  have hm2 : 1048576 < (n : Int) := by omega
  clear hm
  go_enter Try.func7, Try.ntmps7
  go_wp2
  go_ret
  exact ⟨rfl, Below.refl _ _⟩

theorem lawL_ListOfForm_big (k : Int) (A : Option Addr) (n c : Nat) (w : World) (hm : 1048576 < n) :
    Calls Try.prog 8 #[.slice A n c, .int .i64 k] w fun e w' => e = .returned (.bool true) ∧ Below w.heap.size w w' := by
  have hm2 : 1048576 < (n : Int) := by omega
  clear hm
  go_enter Try.func8, Try.ntmps8
  go_wp2
  go_ret
  exact ⟨rfl, Below.refl _ _⟩

theorem lawL_GoOn_big (k : Int) (A : Option Addr) (n c : Nat) (w : World) (hm : 1048576 < n) :
    Calls Try.prog 9 #[.slice A n c, .int .i64 k] w fun e w' => e = .returned (.bool true) ∧ Below w.heap.size w w' := by
  have hm2 : 1048576 < (n : Int) := by omega
  clear hm
  go_enter Try.func9, Try.ntmps9
  go_wp2
  go_ret
  exact ⟨rfl, Below.refl _ _⟩

theorem lawL_SumsFrom_big (a : Int) (A : Option Addr) (n c : Nat) (w : World) (hm : 1048576 < n) :
    Calls Try.prog 10 #[.int .i64 a, .slice A n c] w fun e w' => e = .returned (.bool true) ∧ Below w.heap.size w w' := by
  have hm2 : 1048576 < (n : Int) := by omega
  clear hm
  go_enter Try.func10, Try.ntmps10
  go_wp2
  go_ret
  exact ⟨rfl, Below.refl _ _⟩

theorem lawL_FormOfSums_big (A : Option Addr) (n c : Nat) (w : World) (hm : 1048576 < n) :
    Calls Try.prog 11 #[.slice A n c] w fun e w' => e = .returned (.bool true) ∧ Below w.heap.size w w' := by
  have hm2 : 1048576 < (n : Int) := by omega
  clear hm
  go_enter Try.func11, Try.ntmps11
  go_wp2
  go_ret
  exact ⟨rfl, Below.refl _ _⟩

theorem lawL_FormBehind_big (A : Option Addr) (n c : Nat) (w : World) (hm : 1048576 < n) :
    Calls Try.prog 12 #[.slice A n c] w fun e w' => e = .returned (.bool true) ∧ Below w.heap.size w w' := by
  have hm2 : 1048576 < (n : Int) := by omega
  clear hm
  go_enter Try.func12, Try.ntmps12
  go_wp2
  go_ret
  exact ⟨rfl, Below.refl _ _⟩

theorem lawL_TransformOf_big (A : Option Addr) (n c : Nat) (w : World) (hm : 1048576 < n) :
    Calls Try.prog 13 #[.slice A n c] w fun e w' => e = .returned (.bool true) ∧ Below w.heap.size w w' := by
  have hm2 : 1048576 < (n : Int) := by omega
  clear hm
  go_enter Try.func13, Try.ntmps13
  go_wp2
  go_ret
  exact ⟨rfl, Below.refl _ _⟩

theorem lawL_UndoTransform_big (A : Option Addr) (n c : Nat) (w : World) (hm : 1048576 < n) :
    Calls Try.prog 14 #[.slice A n c] w fun e w' => e = .returned (.bool true) ∧ Below w.heap.size w w' := by
  have hm2 : 1048576 < (n : Int) := by omega
  clear hm
  go_enter Try.func14, Try.ntmps14
  go_wp2
  go_ret
  exact ⟨rfl, Below.refl _ _⟩

theorem lawL_TimesPlace_big (A : Option Addr) (n c : Nat) (w : World) (hm : 1048576 < n) :
    Calls Try.prog 15 #[.slice A n c] w fun e w' => e = .returned (.bool true) ∧ Below w.heap.size w w' := by
  have hm2 : 1048576 < (n : Int) := by omega
  clear hm
  go_enter Try.func15, Try.ntmps15
  go_wp2
  go_ret
  exact ⟨rfl, Below.refl _ _⟩

theorem lawL_ShapeOfList_big (A : Option Addr) (n c : Nat) (w : World) (hm : 1048576 < n) :
    Calls Try.prog 17 #[.slice A n c] w fun e w' => e = .returned (.bool true) ∧ Below w.heap.size w w' := by
  have hm2 : 1048576 < (n : Int) := by omega
  clear hm
  go_enter Try.func17, Try.ntmps17
  go_wp2
  go_ret
  exact ⟨rfl, Below.refl _ _⟩

end Go.Proofs.Ytmjgjdebcmbjeaa
