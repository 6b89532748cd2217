/- The texts XDtV XDtX XDtWg XDtY XDtZ XDtZa joined. -/
import Derived.Test.YtbcgidgjdedkiaaDoorMtF
import Derived.BigRegion
import Derived.OneCell
import Derived.Deep.AppendLies
import Derived.Laws.BytesArg
/- Chapter 7: the frames of the laws. -/
namespace Go.Proofs.YtbcgidgjdedkiaaDoor
open Go.ChangeShapes Go.WideShapes Go.ChangeAt Go.RowKit

set_option maxHeartbeats 800000 in
theorem lawP_IsPicture (s : ByteArray) (ok : Bool) (hz : s.size ≤ 1048576)
    (hs : ∀ w : World, Calls Tryd.prog 15 #[.string s] w fun e w' => e = .returned (.bool ok) ∧ Below w.heap.size w w')
    (hi : ∀ w : World, Calls Tryd.prog 16 #[.string s] w fun e w' => e = .returned (.bool ok) ∧ Below w.heap.size w w') (w : World) :
    Calls Tryd.prog 3 #[.string s] w fun e w' => e = .returned (.bool true) ∧ Below w.heap.size w w' := by
  have HS := Lib.hid hs
  have HI := Lib.hid hi
  clear hs hi
  go_enter Tryd.func3, Tryd.ntmps3
  go_wp2_with (first
    | (go_at_call 15; refine (HS.out _).mono ?_; rintro e w1 ⟨rfl, hb1⟩)
    | (go_at_call 16; refine (HI.out _).mono ?_; rintro e w2 ⟨rfl, hb2⟩))
  go_ret
  exact ⟨rfl, hb1.trans (hb2.mono hb1.size)⟩
theorem lawP_IsPicture_big0 (s : ByteArray) (hz : 1048576 < s.size) (w : World) :
    Calls Tryd.prog 3 #[.string s] w fun e w' => e = .returned (.bool true) ∧ Below w.heap.size w w' := by
  go_enter Tryd.func3, Tryd.ntmps3
  go_wp2
  go_ret
  exact ⟨rfl, Below.refl _ _⟩
set_option maxHeartbeats 800000 in
theorem lawP_CountDots (s : ByteArray) (n : Int) (ok : Bool) (hz : s.size ≤ 1048576)
    (hs : ∀ w : World, Calls Tryd.prog 17 #[.string s] w fun e w' => e = .returned (.tuple #[.int .i64 n, .bool ok]) ∧ Below w.heap.size w w')
    (hi : ∀ w : World, Calls Tryd.prog 18 #[.string s] w fun e w' => e = .returned (.tuple #[.int .i64 n, .bool ok]) ∧ Below w.heap.size w w') (w : World) :
    Calls Tryd.prog 4 #[.string s] w fun e w' => e = .returned (.bool true) ∧ Below w.heap.size w w' := by
  have HS := Lib.hid hs
  have HI := Lib.hid hi
  clear hs hi
  go_enter Tryd.func4, Tryd.ntmps4
  go_wp2_with (first
    | (go_at_call 17; refine (HS.out _).mono ?_; rintro e w1 ⟨rfl, hb1⟩)
    | (go_at_call 18; refine (HI.out _).mono ?_; rintro e w2 ⟨rfl, hb2⟩))
  go_ret
  exact ⟨rfl, hb1.trans (hb2.mono hb1.size)⟩
theorem lawP_CountDots_big0 (s : ByteArray) (hz : 1048576 < s.size) (w : World) :
    Calls Tryd.prog 4 #[.string s] w fun e w' => e = .returned (.bool true) ∧ Below w.heap.size w w' := by
  go_enter Tryd.func4, Tryd.ntmps4
  go_wp2
  go_ret
  exact ⟨rfl, Below.refl _ _⟩
set_option maxHeartbeats 800000 in
theorem lawP_SizeOfPicture (s : ByteArray) (a b : Int) (ok : Bool) (hz : s.size ≤ 1048576)
    (hs : ∀ w : World, Calls Tryd.prog 19 #[.string s] w fun e w' => e = .returned (.tuple #[.int .i64 a, .int .i64 b, .bool ok]) ∧ Below w.heap.size w w')
    (hi : ∀ w : World, Calls Tryd.prog 20 #[.string s] w fun e w' => e = .returned (.tuple #[.int .i64 a, .int .i64 b, .bool ok]) ∧ Below w.heap.size w w') (w : World) :
    Calls Tryd.prog 5 #[.string s] w fun e w' => e = .returned (.bool true) ∧ Below w.heap.size w w' := by
  have HS := Lib.hid hs
  have HI := Lib.hid hi
  clear hs hi
  go_enter Tryd.func5, Tryd.ntmps5
  go_wp2_with (first
    | (go_at_call 19; refine (HS.out _).mono ?_; rintro e w1 ⟨rfl, hb1⟩)
    | (go_at_call 20; refine (HI.out _).mono ?_; rintro e w2 ⟨rfl, hb2⟩))
  go_ret
  exact ⟨rfl, hb1.trans (hb2.mono hb1.size)⟩
theorem lawP_SizeOfPicture_big0 (s : ByteArray) (hz : 1048576 < s.size) (w : World) :
    Calls Tryd.prog 5 #[.string s] w fun e w' => e = .returned (.bool true) ∧ Below w.heap.size w w' := by
  go_enter Tryd.func5, Tryd.ntmps5
  go_wp2
  go_ret
  exact ⟨rfl, Below.refl _ _⟩
set_option maxHeartbeats 800000 in
theorem lawP_TurnPicture (s : ByteArray) (t : ByteArray) (ok : Bool) (hz : s.size ≤ 1048576)
    (hs : ∀ w : World, Calls Tryd.prog 21 #[.string s] w fun e w' => e = .returned (.tuple #[.string t, .bool ok]) ∧ Below w.heap.size w w')
    (hi : ∀ w : World, Calls Tryd.prog 22 #[.string s] w fun e w' => e = .returned (.tuple #[.string t, .bool ok]) ∧ Below w.heap.size w w') (w : World) :
    Calls Tryd.prog 6 #[.string s] w fun e w' => e = .returned (.bool true) ∧ Below w.heap.size w w' := by
  have HS := Lib.hid hs
  have HI := Lib.hid hi
  clear hs hi
  go_enter Tryd.func6, Tryd.ntmps6
  go_wp2_with (first
    | (go_at_call 21; refine (HS.out _).mono ?_; rintro e w1 ⟨rfl, hb1⟩)
    | (go_at_call 22; refine (HI.out _).mono ?_; rintro e w2 ⟨rfl, hb2⟩))
  go_ret
  exact ⟨rfl, hb1.trans (hb2.mono hb1.size)⟩
theorem lawP_TurnPicture_big0 (s : ByteArray) (hz : 1048576 < s.size) (w : World) :
    Calls Tryd.prog 6 #[.string s] w fun e w' => e = .returned (.bool true) ∧ Below w.heap.size w w' := by
  go_enter Tryd.func6, Tryd.ntmps6
  go_wp2
  go_ret
  exact ⟨rfl, Below.refl _ _⟩
set_option maxHeartbeats 800000 in
theorem lawP_MirrorPicture (s : ByteArray) (t : ByteArray) (ok : Bool) (hz : s.size ≤ 1048576)
    (hs : ∀ w : World, Calls Tryd.prog 23 #[.string s] w fun e w' => e = .returned (.tuple #[.string t, .bool ok]) ∧ Below w.heap.size w w')
    (hi : ∀ w : World, Calls Tryd.prog 24 #[.string s] w fun e w' => e = .returned (.tuple #[.string t, .bool ok]) ∧ Below w.heap.size w w') (w : World) :
    Calls Tryd.prog 7 #[.string s] w fun e w' => e = .returned (.bool true) ∧ Below w.heap.size w w' := by
  have HS := Lib.hid hs
  have HI := Lib.hid hi
  clear hs hi
  go_enter Tryd.func7, Tryd.ntmps7
  go_wp2_with (first
    | (go_at_call 23; refine (HS.out _).mono ?_; rintro e w1 ⟨rfl, hb1⟩)
    | (go_at_call 24; refine (HI.out _).mono ?_; rintro e w2 ⟨rfl, hb2⟩))
  go_ret
  exact ⟨rfl, hb1.trans (hb2.mono hb1.size)⟩
theorem lawP_MirrorPicture_big0 (s : ByteArray) (hz : 1048576 < s.size) (w : World) :
    Calls Tryd.prog 7 #[.string s] w fun e w' => e = .returned (.bool true) ∧ Below w.heap.size w w' := by
  go_enter Tryd.func7, Tryd.ntmps7
  go_wp2
  go_ret
  exact ⟨rfl, Below.refl _ _⟩
set_option maxHeartbeats 800000 in
theorem lawP_OtherDots (s : ByteArray) (t : ByteArray) (ok : Bool) (hz : s.size ≤ 1048576)
    (hs : ∀ w : World, Calls Tryd.prog 29 #[.string s] w fun e w' => e = .returned (.tuple #[.string t, .bool ok]) ∧ Below w.heap.size w w')
    (hi : ∀ w : World, Calls Tryd.prog 30 #[.string s] w fun e w' => e = .returned (.tuple #[.string t, .bool ok]) ∧ Below w.heap.size w w') (w : World) :
    Calls Tryd.prog 10 #[.string s] w fun e w' => e = .returned (.bool true) ∧ Below w.heap.size w w' := by
  have HS := Lib.hid hs
  have HI := Lib.hid hi
  clear hs hi
  go_enter Tryd.func10, Tryd.ntmps10
  go_wp2_with (first
    | (go_at_call 29; refine (HS.out _).mono ?_; rintro e w1 ⟨rfl, hb1⟩)
    | (go_at_call 30; refine (HI.out _).mono ?_; rintro e w2 ⟨rfl, hb2⟩))
  go_ret
  exact ⟨rfl, hb1.trans (hb2.mono hb1.size)⟩
theorem lawP_OtherDots_big0 (s : ByteArray) (hz : 1048576 < s.size) (w : World) :
    Calls Tryd.prog 10 #[.string s] w fun e w' => e = .returned (.bool true) ∧ Below w.heap.size w w' := by
  go_enter Tryd.func10, Tryd.ntmps10
  go_wp2
  go_ret
  exact ⟨rfl, Below.refl _ _⟩
set_option maxHeartbeats 800000 in
theorem lawP_BorderDots (s : ByteArray) (t : ByteArray) (ok : Bool) (hz : s.size ≤ 1048576)
    (hs : ∀ w : World, Calls Tryd.prog 36 #[.string s] w fun e w' => e = .returned (.tuple #[.string t, .bool ok]) ∧ Below w.heap.size w w')
    (hi : ∀ w : World, Calls Tryd.prog 37 #[.string s] w fun e w' => e = .returned (.tuple #[.string t, .bool ok]) ∧ Below w.heap.size w w') (w : World) :
    Calls Tryd.prog 12 #[.string s] w fun e w' => e = .returned (.bool true) ∧ Below w.heap.size w w' := by
  have HS := Lib.hid hs
  have HI := Lib.hid hi
  clear hs hi
  go_enter Tryd.func12, Tryd.ntmps12
  go_wp2_with (first
    | (go_at_call 36; refine (HS.out _).mono ?_; rintro e w1 ⟨rfl, hb1⟩)
    | (go_at_call 37; refine (HI.out _).mono ?_; rintro e w2 ⟨rfl, hb2⟩))
  go_ret
  exact ⟨rfl, hb1.trans (hb2.mono hb1.size)⟩
theorem lawP_BorderDots_big0 (s : ByteArray) (hz : 1048576 < s.size) (w : World) :
    Calls Tryd.prog 12 #[.string s] w fun e w' => e = .returned (.bool true) ∧ Below w.heap.size w w' := by
  go_enter Tryd.func12, Tryd.ntmps12
  go_wp2
  go_ret
  exact ⟨rfl, Below.refl _ _⟩
set_option maxHeartbeats 800000 in
theorem lawP_TakeBorder (s : ByteArray) (t : ByteArray) (ok : Bool) (hz : s.size ≤ 1048576)
    (hs : ∀ w : World, Calls Tryd.prog 38 #[.string s] w fun e w' => e = .returned (.tuple #[.string t, .bool ok]) ∧ Below w.heap.size w w')
    (hi : ∀ w : World, Calls Tryd.prog 39 #[.string s] w fun e w' => e = .returned (.tuple #[.string t, .bool ok]) ∧ Below w.heap.size w w') (w : World) :
    Calls Tryd.prog 13 #[.string s] w fun e w' => e = .returned (.bool true) ∧ Below w.heap.size w w' := by
  have HS := Lib.hid hs
  have HI := Lib.hid hi
  clear hs hi
  go_enter Tryd.func13, Tryd.ntmps13
  go_wp2_with (first
    | (go_at_call 38; refine (HS.out _).mono ?_; rintro e w1 ⟨rfl, hb1⟩)
    | (go_at_call 39; refine (HI.out _).mono ?_; rintro e w2 ⟨rfl, hb2⟩))
  go_ret
  exact ⟨rfl, hb1.trans (hb2.mono hb1.size)⟩
theorem lawP_TakeBorder_big0 (s : ByteArray) (hz : 1048576 < s.size) (w : World) :
    Calls Tryd.prog 13 #[.string s] w fun e w' => e = .returned (.bool true) ∧ Below w.heap.size w w' := by
  go_enter Tryd.func13, Tryd.ntmps13
  go_wp2
  go_ret
  exact ⟨rfl, Below.refl _ _⟩
set_option maxHeartbeats 800000 in
theorem lawP_BesidePicture (s p : ByteArray) (t : ByteArray) (ok : Bool) (hz : s.size ≤ 1048576) (hy : p.size ≤ 1048576)
    (hs : ∀ w : World, Calls Tryd.prog 25 #[.string s, .string p] w fun e w' => e = .returned (.tuple #[.string t, .bool ok]) ∧ Below w.heap.size w w')
    (hi : ∀ w : World, Calls Tryd.prog 26 #[.string s, .string p] w fun e w' => e = .returned (.tuple #[.string t, .bool ok]) ∧ Below w.heap.size w w') (w : World) :
    Calls Tryd.prog 8 #[.string s, .string p] w fun e w' => e = .returned (.bool true) ∧ Below w.heap.size w w' := by
  have HS := Lib.hid hs
  have HI := Lib.hid hi
  clear hs hi
  go_enter Tryd.func8, Tryd.ntmps8
  go_wp2_with (first
    | (go_at_call 25; refine (HS.out _).mono ?_; rintro e w1 ⟨rfl, hb1⟩)
    | (go_at_call 26; refine (HI.out _).mono ?_; rintro e w2 ⟨rfl, hb2⟩))
  go_ret
  exact ⟨rfl, hb1.trans (hb2.mono hb1.size)⟩
theorem lawP_BesidePicture_big0 (s p : ByteArray) (hz : 1048576 < s.size) (w : World) :
    Calls Tryd.prog 8 #[.string s, .string p] w fun e w' => e = .returned (.bool true) ∧ Below w.heap.size w w' := by
  go_enter Tryd.func8, Tryd.ntmps8
  go_wp2
  go_ret
  exact ⟨rfl, Below.refl _ _⟩
theorem lawP_BesidePicture_big1 (s p : ByteArray) (hz : s.size ≤ 1048576) (hy : 1048576 < p.size) (w : World) :
    Calls Tryd.prog 8 #[.string s, .string p] w fun e w' => e = .returned (.bool true) ∧ Below w.heap.size w w' := by
  go_enter Tryd.func8, Tryd.ntmps8
  go_wp2
  go_ret
  exact ⟨rfl, Below.refl _ _⟩
set_option maxHeartbeats 800000 in
theorem lawP_BelowPicture (s p : ByteArray) (t : ByteArray) (ok : Bool) (hz : s.size ≤ 1048576) (hy : p.size ≤ 1048576)
    (hs : ∀ w : World, Calls Tryd.prog 27 #[.string s, .string p] w fun e w' => e = .returned (.tuple #[.string t, .bool ok]) ∧ Below w.heap.size w w')
    (hi : ∀ w : World, Calls Tryd.prog 28 #[.string s, .string p] w fun e w' => e = .returned (.tuple #[.string t, .bool ok]) ∧ Below w.heap.size w w') (w : World) :
    Calls Tryd.prog 9 #[.string s, .string p] w fun e w' => e = .returned (.bool true) ∧ Below w.heap.size w w' := by
  have HS := Lib.hid hs
  have HI := Lib.hid hi
  clear hs hi
  go_enter Tryd.func9, Tryd.ntmps9
  go_wp2_with (first
    | (go_at_call 27; refine (HS.out _).mono ?_; rintro e w1 ⟨rfl, hb1⟩)
    | (go_at_call 28; refine (HI.out _).mono ?_; rintro e w2 ⟨rfl, hb2⟩))
  go_ret
  exact ⟨rfl, hb1.trans (hb2.mono hb1.size)⟩
theorem lawP_BelowPicture_big0 (s p : ByteArray) (hz : 1048576 < s.size) (w : World) :
    Calls Tryd.prog 9 #[.string s, .string p] w fun e w' => e = .returned (.bool true) ∧ Below w.heap.size w w' := by
  go_enter Tryd.func9, Tryd.ntmps9
  go_wp2
  go_ret
  exact ⟨rfl, Below.refl _ _⟩
theorem lawP_BelowPicture_big1 (s p : ByteArray) (hz : s.size ≤ 1048576) (hy : 1048576 < p.size) (w : World) :
    Calls Tryd.prog 9 #[.string s, .string p] w fun e w' => e = .returned (.bool true) ∧ Below w.heap.size w w' := by
  go_enter Tryd.func9, Tryd.ntmps9
  go_wp2
  go_ret
  exact ⟨rfl, Below.refl _ _⟩
set_option maxHeartbeats 800000 in
theorem lawI_LayersOfPicture (s : ByteArray) (ok : Bool) (xs : List Int) (hl : xs.length ≤ 1000000000) (hz : s.size ≤ 1048576)
    (hs : ∀ w : World, Calls Tryd.prog 40 #[.string s] w (ResI ok xs w))
    (hi : ∀ w : World, Calls Tryd.prog 41 #[.string s] w (ResI ok xs w)) (w : World) :
    Calls Tryd.prog 14 #[.string s] w fun e w' => e = .returned (.bool true) ∧ Below w.heap.size w w' := by
  have HS := Lib.hid hs
  have HI := Lib.hid hi
  clear hs hi
  obtain ⟨n, hn⟩ : ∃ n, n = xs.length := ⟨_, rfl⟩
  have HN := Lib.hid hn.symm
  rw [← hn] at hl
  clear hn
  go_enter Tryd.func14, Tryd.ntmps14
  go_wp2_with fail
  refine (HS.out _).mono ?_
  rintro e w1 ⟨A1, c1, rfl, o1, b1⟩
  rw [HN.out]
  go_wp2_with fail
  refine (HI.out _).mono ?_
  rintro e w2 ⟨A2, c2, rfl, o2, b2⟩
  rw [HN.out]
  have o1a : Own w2 w.heap.size w1.heap.size A1 (i64s xs) := o1.below b2 (Nat.le_refl _)
  clear o1
  go_wp2_with fail
  refine (eqIntS_same A2 A1 n c2 c1 _ _ _ _ xs _ HN.out hl o2 o1a).mono ?_
  rintro e w3 ⟨rfl, q3, rfl⟩
  go_wp2_with fail
  refine (markIntS_any A2 n c2 _ _ (i64s xs) 1 _ (by simp [HN.out]) hl (by omega) (by omega) (o2.drewN _)).mono ?_
  rintro e w4 ⟨rfl, o3, b4⟩
  have o1b : Own w4 w.heap.size w1.heap.size A1 (i64s xs) := (o1a.drewN _).below b4 (Nat.le_refl _)
  clear o1a o2
  go_wp2_with fail
  refine (heldIntS_any A2 n c2 _ _ 1 _ hl (by omega) (by omega) o3).mono ?_
  rintro e w5 ⟨rfl, rfl⟩
  go_wp2_with fail
  refine (HI.out _).mono ?_
  rintro e w6 ⟨A6, c6, rfl, o6, b6⟩
  rw [HN.out]
  have o1c : Own w6 w.heap.size w1.heap.size A1 (i64s xs) := o1b.below b6 (Nat.le_trans b2.size b4.size)
  have o3c : Own w6 w1.heap.size w2.heap.size A2 (i64s (marks 1 n)) := o3.below b6 b4.size
  clear o1b o3
  go_wp2_with fail
  refine (eqIntS_same A6 A1 n c6 c1 _ _ _ _ xs _ HN.out hl o6 o1c).mono ?_
  rintro e w7 ⟨rfl, q7, rfl⟩
  go_wp2_with fail
  refine (heldIntS_any A2 n c2 _ _ 1 _ hl (by omega) (by omega) (o3c.drewN _)).mono ?_
  rintro e w8 ⟨rfl, rfl⟩
  go_wp2
  go_ret
  have s2 : w.heap.size ≤ w1.heap.size := b1.size
  have s4 : w.heap.size ≤ w4.heap.size := Nat.le_trans (Nat.le_trans b1.size b2.size) b4.size
  exact ⟨rfl, below_drewN ((b1.trans (b2.mono s2)).trans ((below_drewN (Below.refl _ _) _).trans ((b4.mono s2).trans (b6.mono s4)))) _⟩
end Go.Proofs.YtbcgidgjdedkiaaDoor
/- Chapter 7: the specification's pieces: what a flood has in memory. -/
namespace Go.Proofs.YtbcgidgjdedkiaaDoor
open Go.ChangeShapes Go.WideShapes Go.ChangeAt Go.RowKit

theorem grownBy_far {w w1 w2 : World} {row : Option Nat} {q : Nat} (h : w.grownBy w1 row) (k : w1.grownBy w2 (some q)) (hq : w.heap.size ≤ q) : w.grownBy w2 row :=
  ⟨k.os.trans h.os, k.tape.trans h.tape, k.output.trans h.output, Nat.le_trans h.size k.size, fun i hi hr => (k.block i (Nat.lt_of_lt_of_le hi h.size) (fun e => by cases e; omega)).trans (h.block i hi hr)⟩
theorem grownBy_set_new {w w1 : World} {row : Option Nat} {p j : Nat} (h : w.grownBy w1 row) (hp : w.heap.size ≤ p) (v : Value) : w.grownBy (w1.setCell ⟨p, j, none⟩ v) row :=
  grownBy_far h (q := p) (grownBy_set ⟨rfl, rfl, rfl, Nat.le_refl _, fun _ _ _ => rfl⟩ v) hp
theorem Marks.other {w : World} {base g n c b j : Nat} {d : Nat → Bool} (h : Marks w base g n c d) (hb : g ≠ b) (v : Value) : Marks (w.setCell ⟨b, j, none⟩ v) base g n c d :=
  ownsRow_setCell_other h (by simpa [Value.ownBlock] using hb) v
/-- What a flood has: the dots left, the piece, the queue; nothing else of what was there is touched. -/
structure Fld (w0 w : World) (g2 c2 B n p q qc : Nat) (rest : Nat → Bool) (Q : List Nat) : Prop where
  dots : Marks w B g2 n c2 (fun i => rest i && !decide (i ∈ Q))
  piece : Marks w p p n n (fun i => decide (i ∈ Q))
  queue : w.ownsRow (p + 1) 3 1 (.slice (some ⟨q, 0, none⟩) Q.length qc) Q.length (i64s (ofN Q))
  far : w0.grownBy w (some g2)
  z0 : w0.heap.size = p
  z1 : g2 < p
  z2 : p + 1 ≤ w.heap.size
theorem Fld.q_lt {w0 w : World} {g2 c2 B n p q qc : Nat} {rest : Nat → Bool} {Q : List Nat} (h : Fld w0 w g2 c2 B n p q qc rest Q) : p + 1 ≤ q ∧ q < w.heap.size := World.ownsRow.lt h.queue q rfl
/-- One place more. -/
theorem Fld.push {w0 w : World} {g2 c2 B n p q qc : Nat} {rest : Nat → Bool} {Q : List Nat} (h : Fld w0 w g2 c2 B n p q qc rest Q) (j : Nat) {q' qc' : Nat} {w' : World}
    (hw : w'.ownsRow (p + 1) 3 1 (.slice (some ⟨q', 0, none⟩) (Q.length + 1) qc') (Q.length + 1) (i64s (ofN Q) ++ [.int .i64 (j : Int)]))
    (hg : ((w.setCell ⟨g2, j, none⟩ (.bool false)).setCell ⟨p, j, none⟩ (.bool true)).grownBy w' (some q)) : Fld w0 w' g2 c2 B n p q' qc' rest (Q ++ [j]) := by
  have hq := h.q_lt
  have d1 := ((h.dots.set j false).other (b := p) (j := j) (by have := h.z1; omega) (.bool true)).kept hg (fun e => by cases e; have := h.z1; omega)
  have p1 := ((h.piece.put (b := g2) (j := j) h.z1 (.bool false)).set j true).kept hg (fun e => by cases e; omega)
  refine ⟨d1.congr fun m _ => ?_, p1.congr fun m _ => ?_, ?_, grownBy_far (grownBy_set_new (grownBy_set h.far _) (by have := h.z0; omega) _) hg (by have := h.z0; omega), h.z0, h.z1, ?_⟩
  · unfold updB
    by_cases e : m = j
    · subst e
      simp
    · rw [if_neg e]
      simp [e]
  · unfold updB
    by_cases e : m = j
    · subst e
      simp
    · rw [if_neg e]
      simp [e]
  · rw [List.length_append]
    rw [show i64s (ofN (Q ++ [j])) = i64s (ofN Q) ++ [.int .i64 (j : Int)] by simp [i64s, ofN]]
    exact hw
  · have := hg.size
    have h2 := h.z2
    simp at this
    omega
/-- The row of the places beside one, apart from what the flood touches. -/
def NRow (w : World) (A : Option Addr) (N : List Nat) (g2 p q : Nat) : Prop :=
  ∀ k, k < N.length → ∃ b o, A = some ⟨b, o, none⟩ ∧ b < w.heap.size ∧ b ≠ g2 ∧ b ≠ p ∧ b ≠ q ∧ w.cell? ⟨b, o + k, none⟩ = some (.int .i64 (N.getD k 0 : Nat))
theorem NRow.push {w w' : World} {A : Option Addr} {N : List Nat} {g2 p q q' j : Nat} (h : NRow w A N g2 p q) (hg : ((w.setCell ⟨g2, j, none⟩ (.bool false)).setCell ⟨p, j, none⟩ (.bool true)).grownBy w' (some q)) (hq : q' = q ∨ w.heap.size ≤ q') : NRow w' A N g2 p q' := by
  intro k hk
  obtain ⟨b, o, hA, b1, b2, b3, b4, b5⟩ := h k hk
  refine ⟨b, o, hA, ?_, b2, b3, ?_, ?_⟩
  · have := hg.size
    simp at this
    omega
  · rcases hq with rfl | hq
    · exact b4
    · omega
  · refine hg.cell ?_ (fun e => b4 (by cases e; rfl))
    rw [World.cell?_setCell_other, World.cell?_setCell_other]
    · exact b5
    · exact fun e => b2 (congrArg Addr.block e).symm
    · exact fun e => b3 (congrArg Addr.block e).symm
theorem NRow.of {w w0 : World} {A : Option Addr} {N : List Nat} {c g2 p q : Nat} (h : w0.ownsRow w.heap.size 3 1 (.slice A (ofN N).length c) (ofN N).length (i64s (ofN N))) (h1 : g2 < w.heap.size) (h2 : p < w.heap.size) (h3 : q < w.heap.size) : NRow w0 A N g2 p q := by
  intro k hk
  obtain ⟨b, o, hA, b1, b2, b3, _⟩ := (own_of_row h).at_ (k := k) (by simp [i64s, ofN]; exact hk)
  refine ⟨b, o, hA, b2, by omega, by omega, by omega, ?_⟩
  rw [b3]
  simp [i64s, ofN, List.getD, hk]
theorem Fld.under {w0 w w' : World} {g2 c2 B n p q qc : Nat} {rest : Nat → Bool} {Q : List Nat} (h : Fld w0 w g2 c2 B n p q qc rest Q) (hb : Below w.heap.size w w') : Fld w0 w' g2 c2 B n p q qc rest Q :=
  ⟨h.dots.below hb (Nat.le_refl _), h.piece.below hb (Nat.le_refl _), row_below h.queue hb (Nat.le_refl _), grownBy_far (q := w.heap.size) h.far (grownBy_of_below hb _) h.far.size, h.z0, h.z1, Nat.le_trans h.z2 hb.size⟩
theorem app_queue {ops : Array Oper} {rest : List Oper} {o : Oper} {a : Act} {X : Exit → Act → World → Prop} (base : Nat) (w : World) (hgd : o.guard = none) (s x : Operand)
    (ho : o.op = .call { callee := .builtin .append, args := #[s, x], argTypes := #[36, 36] }) (q m c : Nat) (Q : List Nat) (hs : a.eval s = .slice (some ⟨q, 0, none⟩) m c) (hG : w.ownsRow base 3 1 (.slice (some ⟨q, 0, none⟩) m c) m (i64s (ofN Q))) (hB : base ≤ w.heap.size) (z : Int)
    (hx : a.eval x = .slice (some ⟨w.heap.size, 0, none⟩) 1 1) (hl : m ≤ 100000)
    (h : ∀ g cap w', w'.ownsRow base 3 1 (.slice (some ⟨g, 0, none⟩) (m + 1) cap) (m + 1) (i64s (ofN Q) ++ [.int .i64 z]) → w.grownBy w' (some q) → (g = q ∨ w.heap.size ≤ g) → wpList Tryd.prog ops X rest (a.put o.dst (.slice (some ⟨g, 0, none⟩) (m + 1) cap)) w') : wpList Tryd.prog ops X (o :: rest) a (w.alloc (.cells #[.int .i64 z] 3)) := by
  obtain ⟨i0, hi0, hz0, hz1, hz2⟩ := info_parts infoInt7
  refine wpList_append_lies _ hgd s x 36 ho base 3 i0 (.int .i64 0) 1 8 Tryd.underlying36 hi0 hz0 hz1 hz2 rfl (by decide) _ _ _ hs (hG.alloc _) ⟨w.heap.size, 0, none⟩ 1 1 [.int .i64 z] hx rfl ?c1 ?c2 (by omega) ?c3 ?c4 ?c5 _ rfl ?_
  case c1 =>
    intro j u hj
    match j, hj with
    | 0, hj => simp at hj; subst hj; simp [Addr.add]
  case c2 => intro u hu; simp at hu; subst hu; rfl
  case c3 => unfold maxLen; omega
  case c4 => omega
  case c5 => simp; omega
  · intro g cap w4 hown' hgrow hat hlt
    refine h g cap w4 hown' (grownBy_trans (World.grownBy_alloc w _ _) hgrow) ?_
    rcases hat with hat | hat
    · left
      have : q = g := by simpa [Value.ownBlock] using hat
      exact this.symm
    · right
      rw [hat]
      simp
theorem alloc_at (w : World) (o : Obj) : (w.alloc o).heap[w.heap.size]? = some o := by
  show (w.heap.push o)[w.heap.size]? = some o
  simp
/-- The flood's begin. -/
theorem Fld.start {w0 wA : World} {g2 c2 B n a : Nat} {rest : Nat → Bool} (hd : Marks w0 B g2 n c2 rest) (hp : Marks wA w0.heap.size w0.heap.size n n (fun _ => false)) (hg : w0.grownBy wA none) :
    Fld w0 (((wA.setCell ⟨w0.heap.size, a, none⟩ (.bool true)).setCell ⟨g2, a, none⟩ (.bool false)).alloc (.cells #[.int .i64 (a : Int)] 3)) g2 c2 B n w0.heap.size wA.heap.size 1 rest [a] := by
  have hl := hd.lt
  have hpl := hp.lt
  have d1 := ((hd.kept hg (by simp)).other (b := w0.heap.size) (j := a) (by omega) (.bool true)).set a false
  have p1 := (hp.set a true).put (b := g2) (j := a) hl.2 (.bool false)
  have hsz : ((wA.setCell ⟨w0.heap.size, a, none⟩ (.bool true)).setCell ⟨g2, a, none⟩ (.bool false)).heap.size = wA.heap.size := by simp
  refine ⟨World.ownsRow.alloc (d1.congr fun m _ => ?_) _, World.ownsRow.alloc (p1.congr fun m _ => ?_) _, ?_, ?_, rfl, hl.2, ?_⟩
  · unfold updB
    by_cases e : m = a
    · subst e
      simp
    · rw [if_neg e]
      simp [e]
  · unfold updB
    by_cases e : m = a
    · subst e
      simp
    · rw [if_neg e]
      simp [e]
  · refine ⟨rfl, .inr ⟨wA.heap.size, 1, #[.int .i64 (a : Int)], rfl, by omega, ?_, Nat.le_refl _, by decide, rfl, rfl⟩⟩
    have k := alloc_at ((wA.setCell ⟨w0.heap.size, a, none⟩ (.bool true)).setCell ⟨g2, a, none⟩ (.bool false)) (.cells #[.int .i64 (a : Int)] 3)
    rw [hsz] at k
    exact k
  · exact grownBy_trans (grownBy_set (grownBy_set_new ⟨hg.os, hg.tape, hg.output, hg.size, fun i hi _ => hg.block i hi (by simp)⟩ (Nat.le_refl _) _) _) (World.grownBy_alloc _ _ _)
  · simp
    omega
end Go.Proofs.YtbcgidgjdedkiaaDoor
/- Plain facts of chapter 7, 6: a flood's queue. No program in sight. -/
namespace Go.Proofs.YtbcgidgjdedkiaaDoor

theorem nodup_len (n : Nat) : ∀ Q : List Nat, Q.Nodup → (∀ i, i ∈ Q → i < n) → Q.length ≤ n := by
  induction n with
  | zero =>
    intro Q _ h
    cases Q with
    | nil => simp
    | cons x xs => have := h x (by simp); omega
  | succ n ih =>
    intro Q hd h
    by_cases hm : n ∈ Q
    · have h1 := ih (Q.erase n) (hd.erase n) (fun i hi => by
        have h2 := h i (List.mem_of_mem_erase hi)
        have h3 : i ≠ n := fun e => by subst e; exact hd.not_mem_erase hi
        omega)
      rw [List.length_erase_of_mem hm] at h1
      omega
    · have h1 := ih Q hd (fun i hi => by
        have h2 := h i hi
        have h3 : i ≠ n := fun e => hm (by rw [← e]; exact hi)
        omega)
      omega
theorem getD_of (N : List Nat) (s : Nat) (h : s < N.length) : N.getD s 0 = N[s] := by simp [List.getD, h]
/-- What a flood's queue is: all hang together with its begin, none twice; what lies beside its first k, and beside the next one's first t places beside, is in it. -/
structure Gd (W H : Nat) (d : Nat → Bool) (a : Nat) (Q : List Nat) (k t : Nat) : Prop where
  st : a ∈ Q
  cn : ∀ i, i ∈ Q → Conn W H d a i
  nd : Q.Nodup
  cl : ∀ i, i < k → ∀ j, j ∈ nbs W H (Q.getD i 0) → d j = true → j ∈ Q
  pt : ∀ s, s < t → s < (nbs W H (Q.getD k 0)).length → d ((nbs W H (Q.getD k 0)).getD s 0) = true → (nbs W H (Q.getD k 0)).getD s 0 ∈ Q
  kl : k ≤ Q.length
section
variable {W H : Nat} {d : Nat → Bool} {a : Nat} {Q : List Nat} {k t : Nat}
theorem gd_start (h : d a = true) : Gd W H d a [a] 0 0 :=
  ⟨by simp, fun i hi => by simp at hi; subst hi; exact .here h, by simp, fun i hi => by omega, fun s hs => by omega, by simp⟩
theorem gd_at (h : k < Q.length) : Q.getD k 0 ∈ Q := by
  have e : Q.getD k 0 = Q[k] := by simp [List.getD, h]
  rw [e]
  exact List.getElem_mem h
theorem gd_app (j i : Nat) (h : i < Q.length) : (Q ++ [j]).getD i 0 = Q.getD i 0 := by
  simp [List.getD, List.getElem?_append, h]
theorem gd_yes (h : Gd W H d a Q k t) (hk : k < Q.length) (ht : t < (nbs W H (Q.getD k 0)).length) (hd : d ((nbs W H (Q.getD k 0)).getD t 0) = true) (hn : (nbs W H (Q.getD k 0)).getD t 0 ∉ Q) : Gd W H d a (Q ++ [(nbs W H (Q.getD k 0)).getD t 0]) k (t + 1) := by
  have hm : (nbs W H (Q.getD k 0)).getD t 0 ∈ nbs W H (Q.getD k 0) := gd_at ht
  refine ⟨by simp [h.st], fun i hi => ?_, ?_, fun i hi j hj hdj => ?_, fun s hs hs2 hds => ?_, by simp; omega⟩
  · rw [List.mem_append, List.mem_singleton] at hi
    rcases hi with hi | rfl
    · exact h.cn i hi
    · exact .step (h.cn _ (gd_at hk)) hm hd
  · rw [List.nodup_append]
    refine ⟨h.nd, by simp, ?_⟩
    intro x hx y hy
    rw [List.mem_singleton] at hy
    exact fun e => hn (by rw [← hy, ← e]; exact hx)
  · rw [gd_app _ i (by omega)] at hj
    exact List.mem_append_left _ (h.cl i hi j hj hdj)
  · rw [gd_app _ k hk] at hs2 hds ⊢
    rcases Nat.lt_or_ge s t with h1 | h1
    · exact List.mem_append_left _ (h.pt s h1 hs2 hds)
    · obtain rfl : s = t := by omega
      simp
theorem gd_no (ha : a < W * H) (hf : fstP W H d a) (h : Gd W H d a Q k t) (hk : k < Q.length) (ht : t < (nbs W H (Q.getD k 0)).length) (hn : (rem W H d a ((nbs W H (Q.getD k 0)).getD t 0) && !decide ((nbs W H (Q.getD k 0)).getD t 0 ∈ Q)) = false) : Gd W H d a Q k (t + 1) := by
  refine ⟨h.st, h.cn, h.nd, h.cl, fun s hs hs2 hds => ?_, h.kl⟩
  rcases Nat.lt_or_ge s t with h1 | h1
  · exact h.pt s h1 hs2 hds
  · obtain rfl : s = t := by omega
    have hc : Conn W H d a ((nbs W H (Q.getD k 0)).getD s 0) := .step (h.cn _ (gd_at hk)) (gd_at ht) hds
    have hr := rem_of_conn ha hf hc
    rw [hr] at hn
    simpa using hn
theorem gd_next (h : Gd W H d a Q k t) (hk : k < Q.length) (ht : (nbs W H (Q.getD k 0)).length ≤ t) : Gd W H d a Q (k + 1) 0 := by
  refine ⟨h.st, h.cn, h.nd, fun i hi j hj hdj => ?_, fun s hs => by omega, by omega⟩
  rcases Nat.lt_or_ge i k with h1 | h1
  · exact h.cl i h1 j hj hdj
  · obtain rfl : i = k := by omega
    obtain ⟨s, hs, rfl⟩ := List.getElem_of_mem hj
    have e : (nbs W H (Q.getD i 0)).getD s 0 = (nbs W H (Q.getD i 0))[s] := getD_of _ s hs
    have k2 := h.pt s (by omega) hs
    rw [e] at k2
    exact k2 hdj
theorem gd_end (h : Gd W H d a Q k t) (hk : Q.length ≤ k) : ∀ i, pce W H d a i = decide (i ∈ Q) := by
  refine conn_list Q h.st h.cn fun i hi j hj hdj => ?_
  obtain ⟨s, hs, rfl⟩ := List.getElem_of_mem hi
  have e : Q.getD s 0 = Q[s] := by simp [List.getD, hs]
  exact h.cl s (by omega) j (by rw [e]; exact hj) hdj
theorem gd_lt (h : Gd W H d a Q k t) (ha : a < W * H) : ∀ i, i ∈ Q → i < W * H := fun i hi => conn_lt ha (h.cn i hi)
theorem gd_len (h : Gd W H d a Q k t) (ha : a < W * H) : Q.length ≤ W * H := nodup_len _ Q h.nd (gd_lt h ha)
end
end Go.Proofs.YtbcgidgjdedkiaaDoor
/- Chapter 7: the specification's pieces. -/
namespace Go.Proofs.YtbcgidgjdedkiaaDoor
open Go.ChangeShapes Go.WideShapes Go.ChangeAt Go.RowKit

/-- What a function hands back that answers texts: the slice of texts is its own. -/
def ResT (ok : Bool) (xs : List (List UInt8)) (w : World) (e : Ending) (w' : World) : Prop :=
  ∃ A c, e = .returned (.tuple #[.slice A xs.length c, .bool ok]) ∧ Own w' w.heap.size w'.heap.size A (strs xs) ∧ Below w.heap.size w w'
theorem app_text {ops : Array Oper} {rest : List Oper} {o : Oper} {a : Act} {X : Exit → Act → World → Prop} (base : Nat) (w : World) (hgd : o.guard = none) (s x : Operand)
    (ho : o.op = .call { callee := .builtin .append, args := #[s, x], argTypes := #[31, 31] }) (v : Value) (xs : List (List UInt8)) (hs : a.eval s = v) (hG : w.ownsRow base 9 1 v xs.length (strs xs)) (hB : base ≤ w.heap.size) (z : List UInt8)
    (hx : a.eval x = .slice (some ⟨w.heap.size, 0, none⟩) 1 1) (hl : xs.length ≤ 100000)
    (h : ∀ v' w', w'.ownsRow base 9 1 v' (xs ++ [z]).length (strs (xs ++ [z])) → w.grownBy w' v.ownBlock → wpList Tryd.prog ops X rest (a.put o.dst v') w') : wpList Tryd.prog ops X (o :: rest) a (w.alloc (.cells #[.string (bt z)] 9)) := by
  obtain ⟨i0, hi0, hz0, hz1, hz2⟩ := info_parts infoStr
  refine wpList_append_own _ hgd s x 31 ho base 9 i0 (.string ⟨#[]⟩) 1 16 Tryd.underlying31 hi0 hz0 hz1 hz2 rfl (by decide) v _ _ hs (hG.alloc _) ⟨w.heap.size, 0, none⟩ 1 1 [.string (bt z)] hx rfl ?c1 ?c2 ?c3 ?c4 ?c5 ?_
  case c1 =>
    intro j u hj
    match j, hj with
    | 0, hj => simp at hj; subst hj; simp [Addr.add]
  case c2 => intro u hu; simp at hu; subst hu; rfl
  case c3 => unfold maxLen; omega
  case c4 => omega
  case c5 => simp; omega
  · intro v' w4 hown' hgrow _
    refine h v' w4 ?_ (grownBy_trans (World.grownBy_alloc w _ _) hgrow)
    rw [List.length_append, ← strs_app]
    exact hown'
set_option maxRecDepth 8000 in
set_option maxHeartbeats 3200000 in
theorem spec_PiecesOfPicture_yes (s : ByteArray) (W H n : Nat) (d : Nat → Bool) (w : World) (hp : IsP s W H n d) :
    Calls Tryd.prog 31 #[.string s] w (ResT true (pcs W H d n) w) := by
  obtain ⟨w0, w1, h0, h1, hn, HR⟩ := hp
  obtain ⟨i0, hi0, hz0, hz1, hz2⟩ := info_parts infoBool
  obtain ⟨is, his, hs0, hs1, hs2⟩ := info_parts infoStr
  have HRR := Lib.hid HR
  have HMM := Lib.hid fun g c lo w' (a : H ≤ c) (b : RowsAt w' lo g H (gRows W H d)) => doMarks_n g W H n c lo d w' hn w0 (by omega) h0 (by omega) a b
  have HMK := Lib.hid fun g c lo w' d' (b : Marks w' lo g n c d') => make_of b hn w0 w1 h0 h1
  have HBE := Lib.hid fun i w' (h : i < n) => doBeside_any W H i w' w0 (by omega) h0 (by omega) (by rw [← hn]; exact h)
  have hn2 : n ≤ 2500 := by
    rw [hn]
    exact Nat.mul_le_mul (n₁ := W) (n₂ := 50) (m₁ := H) (m₂ := 50) (by omega) (by omega)
  have HN := Lib.hid hn
  have HR0 := Lib.hid fun i => rem_zero W H d i
  have HPL := Lib.hid fun a => pcs_len W H d a
  clear HR hn
  generalize gRows W H d = R at *
  go_enter Tryd.func31, Tryd.ntmps31
  go_wp2_with (first
    | (go_at_call 45; refine (HRR.out _).mono ?_; rintro e w1 ⟨g, c, rfl, hc, hr, hb1⟩)
    | (go_at_call 58; refine (HMM.out g c _ _ hc hr).mono ?_; rintro e w2 ⟨g2, c2, rfl, hm, hb2⟩))
  have HM : Hid (Marks w2 w1.heap.size g2 n c2 (rem W H d 0)) := Lib.hid (hm.congr fun m _ => HR0.out m)
  have HB : Hid (Below w.heap.size w w2) := Lib.hid (hb1.trans (below_weak hb2 hb1.size))
  have HZ : Hid (w.heap.size ≤ w1.heap.size ∧ w1.heap.size ≤ g2 ∧ g2 < w2.heap.size) := Lib.hid ⟨hb1.size, hm.lt.1, hm.lt.2⟩
  have HO : Hid (w2.ownsRow w2.heap.size 9 1 (.slice none 0 0) (pcs W H d 0).length (strs (pcs W H d 0))) := Lib.hid (World.ownsRow_nil _ _ _ _)
  clear hm hb1 hb2 hr
  generalize w1.heap.size = B at *
  obtain ⟨C, hC⟩ : ∃ C, w2.heap.size = C := ⟨_, rfl⟩
  rw [hC] at HO HZ
  have HC : Hid (C ≤ w2.heap.size) := Lib.hid (by omega)
  clear hC
  go_loopw [9, 31] (fun v i wr => ∃ a : Nat, a ≤ n ∧ i = .int .i64 (a : Int) ∧ Hid (Marks wr B g2 n c2 (rem W H d a)) ∧ Hid (wr.ownsRow C 9 1 v (pcs W H d a).length (strs (pcs W H d a))) ∧ Hid (Below w.heap.size w wr) ∧ Hid (C ≤ wr.heap.size)) (fun _ i _ => n - (intOf i).toNat)
  case atStart => exact ⟨0, by omega, by simp, HM, HO, HB, HC⟩
  case round =>
    obtain ⟨a, ha, rfl, hm, hown, hb, hS⟩ := hrel
    clear HM HO HB HC
    by_cases hlt : a < n
    · have hlt2 : (a : Int) < (n : Int) := by omega
      have ha0 : (0 : Int) ≤ (a : Int) := by omega
      have cd := hm.out.cell hlt
      cases hra : rem W H d a a
      · rw [hra] at cd
        have hnf : ¬ fstP W H d a := fun h => by rw [rem_fst.2 h] at hra; cases hra
        have HM2 : Hid (Marks wr B g2 n c2 (rem W H d (a + 1))) := Lib.hid (hm.out.congr fun m _ => rem_no hnf)
        have HP2 : Hid (pcs W H d (a + 1) = pcs W H d a) := Lib.hid (by rw [pcs, if_neg hnf, List.append_nil])
        clear hra hnf hm
        go_wp2
        go_roundw
        case rel => exact ⟨a + 1, by omega, by go_num, HM2, by rw [HP2.out]; exact hown, hb, hS⟩
        case measure => simp [intOf]; omega
      · rw [hra] at cd
        have hf : Hid (fstP W H d a) := Lib.hid (rem_fst.1 hra)
        have hpp : Hid (pcs W H d (a + 1) = pcs W H d a ++ [gText W H (pce W H d a)]) := Lib.hid (by rw [pcs, if_pos hf.out])
        have hst : Hid (rem W H d a a = true) := Lib.hid hra
        clear hra
        have fd := hm.out.frozen a
        go_wp2_with (at_make; refine wpList_make_full _ rfl _ _ 59 rfl wr.heap.size 4 i0 (.bool false) 1 Tryd.underlying59 hi0 hz0 hz1 _ _ _ _ n rfl rfl rfl rfl (by rw [hz2]; omega) (by unfold maxLen; omega) (Nat.le_refl _) ?_; intro wA hownA hgrowA; have hpa := marks_made hownA; have cpa := hpa.cell hlt; have fpa := hpa.frozen a; have cda := ((hm.out.kept hgrowA (by simp)).other (b := wr.heap.size) (j := a) (by have := hm.out.lt; omega) (.bool true)).cell hlt; have fda := ((hm.out.kept hgrowA (by simp)).other (b := wr.heap.size) (j := a) (by have := hm.out.lt; omega) (.bool true)).frozen a)
        have HF0 := Lib.hid (Fld.start (a := a) hm.out hpa hgrowA)
        have HG0 : Hid (Gd W H d a [a] 0 0) := Lib.hid (gd_start hf.out.1)
        have HOW : Hid (wr.ownsRow C 9 1 u9 (pcs W H d a).length (strs (pcs W H d a))) := hown
        clear hownA hgrowA hpa cpa fpa cda fda cd fd hown
        have hWA : wA.heap.size = wA.heap.size := rfl
        generalize hwD : ((wA.setCell ⟨wr.heap.size, a, none⟩ (.bool true)).setCell ⟨g2, a, none⟩ (.bool false)).alloc (.cells #[.int .i64 (a : Int)] 3) = wD at *
        have HP0 : Hid (Marks wr B g2 n c2 (rem W H d a)) := hm
        have HPZ : Hid (wr.heap.size < wA.heap.size) := Lib.hid (by have h1 := HF0.out.q_lt; omega)
        clear hm hWA hwD
        obtain ⟨wo, hwo⟩ : ∃ wo, wo = wr := ⟨_, rfl⟩
        subst hwo
        generalize hp0 : wo.heap.size = p at *
        have HP := Lib.hid hp0
        clear hp0
        go_loopw [12, 13] (fun v i w3 => ∃ (Q : List Nat) (k q qc : Nat), i = .int .i64 (k : Int) ∧ v = .slice (some ⟨q, 0, none⟩) Q.length qc ∧ Hid (Gd W H d a Q k 0) ∧ Hid (Fld wo w3 g2 c2 B n p q qc (rem W H d a) Q)) (fun _ i _ => n + 1 - (intOf i).toNat)
        case atStart => exact ⟨[a], 0, wA.heap.size, 1, rfl, rfl, HG0, HF0⟩
        case round =>
          obtain ⟨Q, k, q, qc, rfl, rfl, hG, hF⟩ := hrel
          clear HG0 HF0
          have hkl := hG.out.kl
          have hql : Q.length ≤ n := by have := gd_len hG.out (by rw [← HN.out]; exact hlt); rw [← HN.out] at this; exact this
          by_cases hk : k < Q.length
          · have hk2 : (k : Int) < (Q.length : Int) := by omega
            have hk0 : (0 : Int) ≤ (k : Int) := by omega
            have cq : wr.cell? ⟨q, k, none⟩ = some (.int .i64 ((Q.getD k 0 : Nat) : Int)) := by
              rw [World.ownsRow.cellAt hF.out.queue k (by omega)]
              simp [i64s, ofN, List.getD, hk]
            have hx : Q.getD k 0 < n := by rw [HN.out]; exact gd_lt hG.out (by rw [← HN.out]; exact hlt) _ (gd_at hk)
            obtain ⟨x, hxq⟩ : ∃ x, x = Q.getD k 0 := ⟨_, rfl⟩
            have HXQ := Lib.hid hxq
            rw [← hxq] at cq hx
            clear hxq
            have HBX := Lib.hid (HBE.out x wr hx)
            obtain ⟨l0, hl0⟩ : ∃ l, l = Q.length := ⟨_, rfl⟩
            have HL0 := Lib.hid hl0
            rw [← hl0] at hql hkl hk hk2 ⊢
            clear hl0
            go_wp2_with (go_at_call 61; refine HBX.out.mono ?_; rintro e w4 ⟨v4, rfl, HGr⟩; obtain ⟨A, cc, rfl⟩ := row_form HGr.row)
            have HF1 := Lib.hid (hF.out.under HGr.below)
            have HN1 : Hid (NRow w4 A (nbs W H x) g2 p q) := Lib.hid (NRow.of HGr.row (by have h1 := hF.out.q_lt; have h2 := hF.out.z1; omega) (by have h1 := hF.out.q_lt; omega) (hF.out.q_lt).2)
            have HLN : Hid ((ofN (nbs W H x)).length = (nbs W H x).length) := Lib.hid (by simp [ofN])
            have HG1 := hG
            rw [HLN.out]
            clear hF hG HGr cq HBX
            have hl4 : (nbs W H x).length ≤ 4 := by
              unfold nbs
              simp only [List.length_append]
              (repeat' split) <;> simp
            generalize hLL : (nbs W H x).length = L at *
            have HLL := Lib.hid hLL
            clear hLL
            go_wp2
            go_loopw [12, 64] (fun v i w5 => ∃ (Q2 : List Nat) (t q2 qc2 : Nat), t ≤ L ∧ i = .int .i64 (t : Int) ∧ v = .slice (some ⟨q2, 0, none⟩) Q2.length qc2 ∧ Hid (Gd W H d a Q2 k t) ∧ Hid (Fld wo w5 g2 c2 B n p q2 qc2 (rem W H d a) Q2) ∧ Hid (NRow w5 A (nbs W H x) g2 p q2) ∧ Hid (x = Q2.getD k 0) ∧ k < Q2.length) (fun _ i _ => L - (intOf i).toNat)
            case atStart => exact ⟨Q, 0, q, qc, by omega, by simp, by rw [HL0.out], HG1, HF1, HN1, HXQ, by rw [← HL0.out]; exact hk⟩
            case round =>
              clear HF1 HN1 HG1
              obtain ⟨Q2, t, q2, qc2, ht, rfl, rfl, hG, hF, hN, hxq, hk3⟩ := hrel
              by_cases htl : t < L
              · have htl2 : (t : Int) < (L : Int) := by omega
                obtain ⟨b, o, rfl, _, _, _, _, cn⟩ := hN.out t (by rw [HLL.out]; exact htl)
                have hjm : (nbs W H x).getD t 0 ∈ nbs W H x := gd_at (by rw [HLL.out]; exact htl)
                have hj : (nbs W H x).getD t 0 < n := by rw [HN.out] at hx ⊢; exact nbs_lt hx hjm
                obtain ⟨j, hjq⟩ : ∃ j, j = (nbs W H x).getD t 0 := ⟨_, rfl⟩
                have HJQ := Lib.hid hjq
                rw [← hjq] at cn hj
                clear hjm hjq
                have hj0 : (0 : Int) ≤ (j : Int) := by omega
                have hj1 : (j : Int) < (n : Int) := by omega
                have cj := hF.out.dots.cell hj
                have fj := hF.out.dots.frozen j
                obtain ⟨l2, hl2⟩ : ∃ l, l = Q2.length := ⟨_, rfl⟩
                have HL2 := Lib.hid hl2
                have hq3 : l2 ≤ n := by
                  have := gd_len hG.out (by rw [← HN.out]; exact hlt)
                  rw [← HN.out] at this
                  omega
                rw [← hl2] at hk3 ⊢
                clear hl2
                cases hrj : (rem W H d a j && !decide (j ∈ Q2))
                · rw [hrj] at cj
                  have HG2 : Hid (Gd W H d a Q2 k (t + 1)) := Lib.hid (by
                    have h1 := hG.out
                    refine gd_no (by rw [← HN.out]; exact hlt) hf.out h1 (by rw [← HL2.out]; exact hk3) (by rw [← hxq.out, HLL.out]; exact htl) ?_
                    rw [← hxq.out, ← HJQ.out]
                    exact hrj)
                  clear hrj hG
                  go_wp2
                  go_roundw
                  case rel => exact ⟨Q2, t + 1, q2, qc2, by omega, by go_num, by rw [HL2.out], HG2, hF, hN, hxq, by rw [← HL2.out]; exact hk3⟩
                  case measure => simp [intOf]; omega
                · rw [hrj] at cj
                  have hrj2 : d j = true ∧ rem W H d a j = true ∧ j ∉ Q2 := by
                    rw [Bool.and_eq_true] at hrj
                    refine ⟨(rem_iff.1 hrj.1).1, hrj.1, ?_⟩
                    simpa using hrj.2
                  have HG2 : Hid (Gd W H d a (Q2 ++ [j]) k (t + 1)) := Lib.hid (by
                    have h1 := gd_yes hG.out (by rw [← HL2.out]; exact hk3) (by rw [← hxq.out, HLL.out]; exact htl) (by rw [← hxq.out, ← HJQ.out]; exact hrj2.1) (by rw [← hxq.out, ← HJQ.out]; exact hrj2.2.2)
                    rw [← hxq.out, ← HJQ.out] at h1
                    exact h1)
                  have HXQ2 : Hid (x = (Q2 ++ [j]).getD k 0) := Lib.hid (by rw [gd_app j k (by rw [← HL2.out]; exact hk3)]; exact hxq.out)
                  have hp1 := hF.out.piece.put (b := g2) (j := j) hF.out.z1 (.bool false)
                  have cp1 := hp1.cell hj
                  have fp1 := hp1.frozen j
                  have hQ : Hid (((wr.setCell ⟨g2, j, none⟩ (.bool false)).setCell ⟨p, j, none⟩ (.bool true)).ownsRow (p + 1) 3 1 (.slice (some ⟨q2, 0, none⟩) l2 qc2) l2 (i64s (ofN Q2))) := Lib.hid (by
                    rw [HL2.out]
                    exact ownsRow_setCell_below (ownsRow_setCell_below hF.out.queue (a := ⟨g2, j, none⟩) (by have := hF.out.z1; show g2 < p + 1; omega) _) (a := ⟨p, j, none⟩) (Nat.lt_succ_self p) _)
                  have hB : Hid (p + 1 ≤ ((wr.setCell ⟨g2, j, none⟩ (.bool false)).setCell ⟨p, j, none⟩ (.bool true)).heap.size) := Lib.hid (by have := hF.out.z2; simp; omega)
                  have hl5 : l2 ≤ 100000 := by omega
                  clear hrj hG hrj2 hp1
                  go_wp2_with (at_builtin; refine app_queue (p + 1) _ rfl _ _ rfl q2 l2 qc2 Q2 rfl hQ.out hB.out _ (by simp [Act.eval]) hl5 ?_; intro q4 qc4 w6 hw6 hg6 hat6)
                  have HF6 : Hid (Fld wo w6 g2 c2 B n p q4 qc4 (rem W H d a) (Q2 ++ [j])) := Lib.hid (hF.out.push j (by rw [← HL2.out]; exact hw6) hg6)
                  have HN6 : Hid (NRow w6 (some ⟨b, o, none⟩) (nbs W H x) g2 p q4) := Lib.hid (hN.out.push hg6 (by simpa using hat6))
                  clear hw6 hg6 hat6 hF hN hQ hB cp1 fp1 cj fj cn
                  go_wp2
                  go_roundw
                  case rel => exact ⟨Q2 ++ [j], t + 1, q4, qc4, by omega, by go_num, by rw [HL2.out]; simp, HG2, HF6, HN6, HXQ2, by rw [HL2.out] at hk3; simp; omega⟩
                  case measure => simp [intOf]; omega
              · obtain rfl : t = L := by omega
                have HG2 : Hid (Gd W H d a Q2 (k + 1) 0) := Lib.hid (gd_next hG.out hk3 (by rw [← hxq.out, HLL.out]; exact Nat.le_refl _))
                clear hG hN
                go_wp2
                go_roundw
                case rel => exact ⟨Q2, k + 1, q2, qc2, by go_num, rfl, HG2, hF⟩
                case measure => simp [intOf]; omega
          · have hkq : Q.length ≤ k := by omega
            have hkn : k = Q.length := by omega
            have HPC := Lib.hid (gd_end hG.out hkq)
            have HPI : Hid (Marks wr p p n n (pce W H d a)) := Lib.hid (hF.out.piece.congr fun m _ => (HPC.out m).symm)
            have hk2 : ¬ (k : Int) < (Q.length : Int) := by omega
            have HDT : Hid (Marks wr B g2 n c2 (rem W H d (a + 1))) := Lib.hid (hF.out.dots.congr fun m _ => by rw [rem_yes hf.out, HPC.out])
            have HFAR := Lib.hid hF.out.far
            have HZZ : Hid (p + 1 ≤ wr.heap.size) := Lib.hid hF.out.z2
            have HOW2 : Hid (wr.ownsRow C 9 1 u9 (pcs W H d a).length (strs (pcs W H d a))) := Lib.hid (HOW.out.kept HFAR.out (.inr fun e => by have h1 := HOW.out.lt _ e; have := HZ.out; omega))
            have HB2 : Hid (Below w.heap.size w wr) := Lib.hid (hb.out.grown HFAR.out (by have := HZ.out; have := hS.out; have := HP.out; omega) (fun k hk => by cases hk; have := HZ.out; omega))
            have HK := Lib.hid (HMK.out p n _ wr _ HPI.out)
            have hpl := HPL.out a
            clear hG hF HOW HPI HPC hb
            generalize gText W H (pce W H d a) = tx at *
            have hpl2 : (pcs W H d a).length ≤ 100000 := by omega
            have hSC : Hid (C ≤ wr.heap.size) := Lib.hid (by have := hS.out; have := HP.out; have := HZZ.out; omega)
            go_wp2_with (first
              | (go_at_call 59; refine HK.out.mono ?_; rintro e w4 ⟨rfl, hb4⟩)
              | (at_builtin; refine app_text C _ rfl _ _ rfl _ _ rfl (row_below HOW2.out hb4 (Nat.le_refl _)) (Nat.le_trans hSC.out hb4.size) _ (by simp [Act.eval]) hpl2 ?_; intro v6 w6 hw6 hg6))
            have HU : Hid (∀ k, u9.ownBlock = some k → C ≤ k) := Lib.hid fun k hk => (HOW2.out.lt k hk).1
            have HM6 : Hid (Marks w6 B g2 n c2 (rem W H d (a + 1))) := Lib.hid ((HDT.out.below hb4 (Nat.le_refl _)).kept hg6 fun e => by have := HU.out _ e; have := HZ.out; omega)
            have HO6 : Hid (w6.ownsRow C 9 1 v6 (pcs W H d (a + 1)).length (strs (pcs W H d (a + 1)))) := Lib.hid (by rw [hpp.out]; exact hw6)
            have HB6 : Hid (Below w.heap.size w w6) := Lib.hid ((HB2.out.trans (below_weak hb4 HB2.out.size)).grown hg6 (by have := hb4.size; have := HB2.out.size; omega) (fun k hk => by have := HU.out k hk; have := HZ.out; omega))
            have HS6 : Hid (C ≤ w6.heap.size) := Lib.hid (by have h1 := hg6.size; have h2 := hb4.size; have h3 := hSC.out; omega)
            clear hw6 hg6 hb4 HOW2 HDT HB2
            go_wp2
            go_roundw
            case rel => exact ⟨a + 1, by omega, by go_num, HM6, HO6, HB6, HS6⟩
            case measure => simp [intOf]; omega
    · obtain rfl : a = n := by omega
      obtain ⟨A, cc, rfl⟩ := row_form hown.out
      clear hm
      go_wp2
      go_ret2
      exact ⟨A, cc, rfl, (own_of_row hown.out).wide (by have := HZ.out; omega) (Nat.le_refl _), hb.out⟩
end Go.Proofs.YtbcgidgjdedkiaaDoor
/- Chapter 7: slices of texts that are alike. -/
namespace Go.Proofs.YtbcgidgjdedkiaaDoor
open Go.ChangeShapes Go.WideShapes Go.ChangeAt Go.RowKit

set_option maxHeartbeats 400000 in
theorem eqStringS_same (A B : Option Addr) (n c d l1 h1 l2 h2 : Nat) (xs : List (List UInt8)) (w : World) (hn : xs.length = n) (hm : n ≤ 1000000000)
    (ha : Own w l1 h1 A (strs xs)) (hb : Own w l2 h2 B (strs xs)) :
    Calls Tryd.prog 33 #[.slice A n c, .slice B n d] w fun e w' => e = .returned (.bool true) ∧ ∃ q, w' = w.drewN q := by
  have HA := Lib.hid ha
  have HB := Lib.hid hb
  have HN := Lib.hid hn
  clear ha hb hn
  go_enter Tryd.func33, Tryd.ntmps33
  go_wp2
  go_loopw [5] (fun i wr => ∃ k q : Nat, k ≤ n ∧ i = .int .i64 k ∧ wr = w.drewN q) (fun i _ => n - (intOf i).toNat)
  case atStart => exact ⟨0, 0, Nat.zero_le _, rfl, rfl⟩
  case round =>
    obtain ⟨k, q, hk, rfl, rfl⟩ := hrel
    by_cases hlt : k < n
    · obtain ⟨g, o, rfl, _, _, hca, _⟩ := HA.out.at_ (k := k) (by simp [strs_len, HN.out]; omega)
      obtain ⟨g', o', rfl, _, _, hcb, _⟩ := HB.out.at_ (k := k) (by simp [strs_len, HN.out]; omega)
      have hcx : w.cell? ⟨g, o + k, none⟩ = some (.string (bt (xs[k]'(by rw [HN.out]; exact hlt)))) := by simpa [strs] using hca
      have hcy : w.cell? ⟨g', o' + k, none⟩ = some (.string (bt (xs[k]'(by rw [HN.out]; exact hlt)))) := by simpa [strs] using hcb
      generalize bt (xs[k]'(by rw [HN.out]; exact hlt)) = z at hcx hcy
      clear hca hcb
      have hi : (k : Int) < (n : Int) := by omega
      go_wp2
      go_quiet (fail)
      go_wp2
      go_roundw
      case rel => exact ⟨k + 1, _, by omega, by go_num, rfl⟩
      case measure => simp [intOf]; omega
    · go_wp2
      go_ret
      exact ⟨rfl, q, rfl⟩
end Go.Proofs.YtbcgidgjdedkiaaDoor
/- Chapter 7: the law's marks as texts. -/
namespace Go.Proofs.YtbcgidgjdedkiaaDoor
open Go.ChangeShapes Go.WideShapes Go.ChangeAt Go.RowKit

theorem conv_one7 (W : World) (b : Nat) (x : Int) (cap : Nat) (hc : W.cell? ⟨b, 0, none⟩ = some (.int .u8 x)) :
    (convert 90 9 (.slice (some ⟨b, 0, none⟩) 1 cap)).run Tryd.prog W = .ok (.string (bt [UInt8.ofNat x.toNat])) W := by
  have h := run_convert_bytes_arg (P := Tryd.prog) W 90 5 Tryd.underlying90 Tryd.underlying5 b 0 1 cap [x] rfl
    (fun i hi => by
      have : i = 0 := by omega
      subst this
      simpa using hc) 9 Tryd.underlying9
  rw [h]
  rfl
/-- A number's signs, ahead of others. -/
def sgs : Nat → Nat → List UInt8 → List UInt8
  | 0, _, l => l
  | f + 1, m, l => if m = 0 then l else sgs f (m / 10) (UInt8.ofNat (48 + m % 10) :: l)
theorem sgs_len (f : Nat) : ∀ m l, (sgs f m l).length ≤ f + l.length := by
  induction f with
  | zero => intro m l; simp [sgs]
  | succ f ih =>
    intro m l
    rw [sgs]
    split
    · omega
    · have := ih (m / 10) (UInt8.ofNat (48 + m % 10) :: l)
      rw [List.length_cons] at this
      omega
/-- The text of a mark. -/
def mkt (m : Nat) : List UInt8 := 109 :: sgs (m + 1) m []
set_option maxHeartbeats 800000 in
theorem markText_any (m : Nat) (w : World) (h0 : 1 ≤ m) (h1 : m ≤ 100000) :
    Calls Tryd.prog 67 #[.int .i64 (m : Int)] w fun e w' => e = .returned (.string (bt (mkt m))) ∧ Below w.heap.size w w' := by
  have HM : Hid (mkt m = 109 :: sgs (m + 1) m []) := Lib.hid rfl
  generalize mkt m = A at *
  have kc : ∀ (W : World) (x : Int) (c : Nat), (convert 90 9 (.slice (some ⟨W.heap.size, 0, none⟩) 1 c)).run Tryd.prog (W.alloc (.cells #[.int .u8 x] 5)) = .ok (.string (bt [UInt8.ofNat x.toNat])) (W.alloc (.cells #[.int .u8 x] 5)) := fun W x c => conv_one7 _ _ x c (by simp [go_sem])
  go_enter Tryd.func67, Tryd.ntmps67
  go_wp2
  go_loopw [0, 3] (fun v s wr => ∃ (u f : Nat) (l : List UInt8), v = .int .i64 (u : Int) ∧ s = .string (bt l) ∧ Hid (sgs (m + 1) m [] = sgs f u l) ∧ u < f ∧ u ≤ 100000 ∧ l.length + f ≤ 100002 ∧ Hid (Below w.heap.size w wr)) (fun v _ _ => (intOf v).toNat)
  case atStart => exact ⟨m, m + 1, [], rfl, by simp [bt], Lib.hid rfl, by omega, by omega, by simp; omega, Lib.hid (Below.refl _ _)⟩
  case round =>
    obtain ⟨u, f, l, rfl, rfl, hs, hu, hu2, hl, hb⟩ := hrel
    by_cases hu0 : u = 0
    · subst hu0
      have hz : sgs f 0 l = l := by
        obtain ⟨f, rfl⟩ : ∃ f', f = f' + 1 := ⟨f - 1, by omega⟩
        simp [sgs]
      have HA : Hid (A = 109 :: l) := Lib.hid (by rw [HM.out, hs.out, hz])
      have k := cat7 ⟨#[109]⟩ (bt l) (by simp [bt, ByteArray.size]; omega)
      rw [show (⟨#[109]⟩ : ByteArray) ++ bt l = bt A from by rw [HA.out, show (⟨#[109]⟩ : ByteArray) = bt [109] from rfl, bt_app]; rfl] at k
      clear hz
      go_wp2
      go_ret
      exact ⟨rfl, hb.out⟩
    · obtain ⟨f, rfl⟩ : ∃ f', f = f' + 1 := ⟨f - 1, by omega⟩
      have t2 : (u : Int).tmod 10 = ((u % 10 : Nat) : Int) := by
        rw [Int.tmod_eq_emod_of_nonneg (by omega)]
        rfl
      have t3 : (u : Int).tdiv 10 = ((u / 10 : Nat) : Int) := by
        rw [Int.tdiv_eq_ediv_of_nonneg (by omega)]
        rfl
      have h9 : u % 10 < 10 := Nat.mod_lt _ (by omega)
      have h8 : u / 10 < u := Nat.div_lt_self (by omega) (by omega)
      have hs2 : Hid (sgs (m + 1) m [] = sgs f (u / 10) (UInt8.ofNat (48 + u % 10) :: l)) := Lib.hid (by rw [hs.out, sgs, if_neg hu0])
      generalize u % 10 = r at *
      generalize u / 10 = v at *
      have hui : (u : Int) > 0 := by omega
      have hk : UInt8.ofNat ((48 : Int) + (r : Int)).toNat = UInt8.ofNat (48 + r) := by
        congr 1
      obtain ⟨c8, hc8⟩ : ∃ c, c = UInt8.ofNat (48 + r) := ⟨_, rfl⟩
      have hs3 : Hid (sgs (m + 1) m [] = sgs f v (c8 :: l)) := Lib.hid (by rw [hs2.out, hc8])
      have k := cat7 (bt [c8]) (bt l) (by simp [bt, ByteArray.size]; omega)
      rw [bt_app] at k
      have kd : ∀ (W : World) (c : Nat), (convert 90 9 (.slice (some ⟨W.heap.size, 0, none⟩) 1 c)).run Tryd.prog (W.alloc (.cells #[.int .u8 ((48 : Int) + (r : Int))] 5)) = .ok (.string (bt [c8])) (W.alloc (.cells #[.int .u8 ((48 : Int) + (r : Int))] 5)) := fun W c => by rw [kc, hk, hc8]
      have HB4 := Lib.hid (hb.out.alloc hb.out.size (.cells #[.int .u8 ((48 : Int) + (r : Int))] 5))
      clear kc hs hk hb hs2 hc8
      go_wp2
      go_roundw
      case rel => exact ⟨v, f, c8 :: l, rfl, rfl, hs3, by omega, by omega, by simp; omega, HB4⟩
      case measure => simp [intOf]; omega
end Go.Proofs.YtbcgidgjdedkiaaDoor
