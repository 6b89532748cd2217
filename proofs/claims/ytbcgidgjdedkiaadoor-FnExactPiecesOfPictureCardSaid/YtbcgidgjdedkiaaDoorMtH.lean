/- The texts XDtZb XDtZc XDuX XDuD XDuG XDuE XDuJ joined. -/
import Derived.Test.YtbcgidgjdedkiaaDoorMtG
import Derived.BigRegion
/- Chapter 7: slices of texts marked and held. -/
namespace Go.Proofs.YtbcgidgjdedkiaaDoor
open Go.ChangeShapes Go.WideShapes Go.ChangeAt Go.RowKit

/-- The texts of the marks m, m + 1, .., n of them. -/
def mks (m n : Nat) : List (List UInt8) := (List.range n).map fun j => mkt (m + j)
theorem mks_len (m n : Nat) : (mks m n).length = n := by simp [mks]
theorem mks_get (m n k : Nat) (h : k < n) : (strs (mks m n))[k]? = some (.string (bt (mkt (m + k)))) := by simp [strs, mks, h]
theorem mks_set (m : Nat) (cs : List Value) (k : Nat) (h : k < cs.length) : (strs (mks m k) ++ cs.drop k).set k (.string (bt (mkt (m + k)))) = strs (mks m (k + 1)) ++ cs.drop (k + 1) := by
  rw [List.set_append_right _ _ (by simp [strs_len, mks_len])]
  simp only [strs_len, mks_len, Nat.sub_self]
  rw [List.drop_eq_getElem_cons h, List.set_cons_zero]
  simp [strs, mks, List.range_succ]
set_option maxHeartbeats 800000 in
theorem markStringS_any (A : Option Addr) (n c lo hi : Nat) (cs : List Value) (m : Nat) (w : World) (hn : cs.length = n) (hm : n ≤ 10000) (m0 : 1 ≤ m) (m1 : m ≤ 10000)
    (ha : Own w lo hi A cs) (hh : hi ≤ w.heap.size) (hlo : lo ≤ w.heap.size) :
    Calls Tryd.prog 34 #[.slice A n c, .int .i64 (m : Int)] w fun e w' => e = .returned (.int .i64 ((m + n : Nat) : Int)) ∧ Own w' lo hi A (strs (mks m n)) ∧ Below lo w w' := by
  have HA := Lib.hid ha
  have HN := Lib.hid hn
  have HT := Lib.hid fun k W (a : m + k ≤ 100000) => markText_any (m + k) W (by omega) a
  clear ha hn
  go_enter Tryd.func34, Tryd.ntmps34
  go_wp2
  go_loopw [1, 5] (fun v i wr => ∃ k : Nat, k ≤ n ∧ i = .int .i64 (k : Int) ∧ v = .int .i64 ((m + k : Nat) : Int) ∧ Hid (Own wr lo hi A (strs (mks m k) ++ cs.drop k)) ∧ Hid (Below lo w wr)) (fun _ i _ => n - (intOf i).toNat)
  case atStart => exact ⟨0, Nat.zero_le _, rfl, by simp, by simpa [mks, strs] using HA, Lib.hid (Below.refl _ _)⟩
  case round =>
    obtain ⟨k, hk, rfl, rfl, HO, hb⟩ := hrel
    by_cases hlt : k < n
    · have hi2 : (k : Int) < (n : Int) := by omega
      have hk0 : (0 : Int) ≤ (k : Int) := by omega
      have HK := Lib.hid (HT.out k wr (by omega))
      have hms := Lib.hid (mks_set m cs k (by rw [HN.out]; exact hlt))
      have hlen : Hid (k < (strs (mks m k) ++ cs.drop k).length) := Lib.hid (by simp [strs_len, mks_len, HN.out]; omega)
      have hz : Hid (hi ≤ wr.heap.size) := Lib.hid (Nat.le_trans hh hb.out.size)
      obtain ⟨z, hzz⟩ : ∃ z : Nat, z = m + k := ⟨_, rfl⟩
      rw [← hzz] at HK hms ⊢
      have HZ := Lib.hid hzz
      clear hzz
      generalize bt (mkt z) = tz at *
      go_wp2_with (go_at_call 67; refine HK.out.mono ?_; rintro e w2 ⟨rfl, hb2⟩; obtain ⟨g, o, rfl, hg1, hg2, hca, hfa⟩ := (HO.out.below hb2 hz.out).at_ hlen.out; generalize (strs (mks m k) ++ cs.drop k)[k]'hlen.out = zc at hca)
      have HO2 : Hid (Own (w2.setCell ⟨g, o + k, none⟩ (.string tz)) lo hi (some ⟨g, o, none⟩) (strs (mks m (k + 1)) ++ cs.drop (k + 1))) := Lib.hid (by
        have h1 := (HO.out.below hb2 hz.out).set_ k hlen.out (.string tz)
        rw [hms.out] at h1
        exact h1)
      have HB2 : Hid (Below lo w (w2.setCell ⟨g, o + k, none⟩ (.string tz))) := Lib.hid ((hb.out.trans (below_weak hb2 (Nat.le_trans hlo hb.out.size))).setCell (p := ⟨g, o + k, none⟩) hg1 _)
      have hz1 : z + 1 = m + (k + 1) := by have := HZ.out; omega
      have hz2 : z ≤ 20000 := by have := HZ.out; omega
      have HZ1 := Lib.hid hz1
      have hw : IntKind.i64.wrap ((z : Int) + 1) = ((z + 1 : Nat) : Int) := by rw [IntWalk.i64_in] <;> omega
      clear hb2 HO hb hca hfa hz1
      go_wp2
      go_roundw
      case rel => exact ⟨k + 1, by omega, by go_num, by rw [← HZ1.out, ← IntWalk.i64_left]; exact congrArg (Value.int .i64) hw, HO2, HB2⟩
      case measure => simp [intOf]; omega
    · obtain rfl : k = n := by omega
      have hO := HO.out
      rw [List.drop_eq_nil_of_le (by rw [HN.out]; exact Nat.le_refl _), List.append_nil] at hO
      have HO3 := Lib.hid hO
      clear hO
      go_wp2
      go_ret
      exact ⟨rfl, HO3.out, hb.out⟩
set_option maxHeartbeats 800000 in
theorem heldStringS_any (A : Option Addr) (n c lo hi : Nat) (m : Nat) (w : World) (hm : n ≤ 10000) (m0 : 1 ≤ m) (m1 : m ≤ 10000)
    (ha : Own w lo hi A (strs (mks m n))) (hh : hi ≤ w.heap.size) :
    Calls Tryd.prog 35 #[.slice A n c, .int .i64 (m : Int)] w fun e w' => e = .returned (.int .i64 ((m + n : Nat) : Int)) ∧ Below w.heap.size w w' := by
  have HA := Lib.hid ha
  have HT := Lib.hid fun k W (a : m + k ≤ 100000) => markText_any (m + k) W (by omega) a
  clear ha
  go_enter Tryd.func35, Tryd.ntmps35
  go_wp2
  go_loopw [1, 5] (fun v i wr => ∃ k : Nat, k ≤ n ∧ i = .int .i64 (k : Int) ∧ v = .int .i64 ((m + k : Nat) : Int) ∧ Hid (Below w.heap.size w wr)) (fun _ i _ => n - (intOf i).toNat)
  case atStart => exact ⟨0, Nat.zero_le _, rfl, by simp, Lib.hid (Below.refl _ _)⟩
  case round =>
    obtain ⟨k, hk, rfl, rfl, hb⟩ := hrel
    by_cases hlt : k < n
    · have hi2 : (k : Int) < (n : Int) := by omega
      have hk0 : (0 : Int) ≤ (k : Int) := by omega
      have HK := Lib.hid fun W => HT.out k W (by omega)
      have HO := Lib.hid (HA.out.below hb.out hh)
      obtain ⟨g, o, rfl, hg1, hg2, hca, _⟩ := HO.out.at_ (k := k) (by simp [strs_len, mks_len]; exact hlt)
      have hcx : wr.cell? ⟨g, o + k, none⟩ = some (.string (bt (mkt (m + k)))) := by
        rw [hca]
        simp [strs, mks]
      have hgz : g < wr.heap.size := by have := hb.out.size; omega
      obtain ⟨z, hzz⟩ : ∃ z : Nat, z = m + k := ⟨_, rfl⟩
      rw [← hzz] at HK hcx ⊢
      have HZ := Lib.hid hzz
      clear hzz hca
      generalize bt (mkt z) = tz at *
      have hz1 : Hid (z + 1 = m + (k + 1)) := Lib.hid (by have := HZ.out; omega)
      have hz2 : z ≤ 20000 := by have := HZ.out; omega
      have hw : IntKind.i64.wrap ((z : Int) + 1) = ((z + 1 : Nat) : Int) := by rw [IntWalk.i64_in] <;> omega
      go_wp2
      go_region_held3 (fun w' => w'.cell? ⟨g, o + k, none⟩ = some (.string tz))
        (first | exact hcx | exact (hb1.cell (p := ⟨g, o + k, none⟩) hgz).trans hcx)
        (first | (go_at_call 67; refine (HK.out _).mono ?_; rintro e w1 ⟨rfl, hb1⟩))
      have HB1 : Hid (Below w.heap.size w w1) := Lib.hid (hb.out.drew.trans (below_weak hb1 hb.out.size))
      clear hb hb1 hcx HO HK
      go_wp2
      go_roundw
      case rel => exact ⟨k + 1, by omega, by go_num, by rw [← hz1.out]; first | rfl | exact congrArg (Value.int .i64) hw, HB1⟩
      case measure => simp [intOf]; omega
    · obtain rfl : k = n := by omega
      go_wp2
      go_ret
      exact ⟨rfl, hb.out⟩
end Go.Proofs.YtbcgidgjdedkiaaDoor
/- Chapter 7: the frame of the law of PiecesOfPicture. -/
namespace Go.Proofs.YtbcgidgjdedkiaaDoor
open Go.ChangeShapes Go.WideShapes Go.ChangeAt Go.RowKit

set_option maxHeartbeats 1600000 in
theorem lawT_PiecesOfPicture (s : ByteArray) (ok : Bool) (xs : List (List UInt8)) (hl : xs.length ≤ 10000) (hz : s.size ≤ 1048576)
    (hs : ∀ w : World, Calls Tryd.prog 31 #[.string s] w (ResT ok xs w))
    (hi : ∀ w : World, Calls Tryd.prog 32 #[.string s] w (ResT ok xs w)) (w : World) :
    Calls Tryd.prog 11 #[.string s] w fun e w' => e = .returned (.bool true) ∧ Below w.heap.size w w' := by
  have HS := Lib.hid hs
  have HI := Lib.hid hi
  clear hs hi
  obtain ⟨n, hn⟩ : ∃ n, n = xs.length := ⟨_, rfl⟩
  have HN := Lib.hid hn.symm
  rw [← hn] at hl
  clear hn
  go_enter Tryd.func11, Tryd.ntmps11
  go_wp2_with fail
  refine (HS.out _).mono ?_
  rintro e w1 ⟨A1, c1, rfl, o1, b1⟩
  rw [HN.out]
  go_wp2_with fail
  refine (HI.out _).mono ?_
  rintro e w2 ⟨A2, c2, rfl, o2, b2⟩
  rw [HN.out]
  have o1a : Own w2 w.heap.size w1.heap.size A1 (strs xs) := o1.below b2 (Nat.le_refl _)
  clear o1
  go_wp2_with fail
  refine (eqStringS_same A2 A1 n c2 c1 _ _ _ _ xs _ HN.out (by omega) o2 o1a).mono ?_
  rintro e w3 ⟨rfl, q3, rfl⟩
  go_wp2_with fail
  refine (markStringS_any A2 n c2 _ _ (strs xs) 1 _ (by simp [strs_len, HN.out]) hl (by omega) (by omega) (o2.drewN _) (Nat.le_refl _) b2.size).mono ?_
  rintro e w4 ⟨rfl, o3, b4⟩
  have o1b : Own w4 w.heap.size w1.heap.size A1 (strs xs) := (o1a.drewN _).below b4 (Nat.le_refl _)
  clear o1a o2
  go_wp2_with fail
  refine (heldStringS_any A2 n c2 _ _ 1 _ hl (by omega) (by omega) o3 b4.size).mono ?_
  rintro e w5 ⟨rfl, b5⟩
  have s4 : w2.heap.size ≤ w4.heap.size := b4.size
  have o1c : Own w5 w.heap.size w1.heap.size A1 (strs xs) := o1b.below b5 (Nat.le_trans b2.size s4)
  have o3b : Own w5 w1.heap.size w2.heap.size A2 (strs (mks 1 n)) := o3.below b5 s4
  clear o1b o3
  go_wp2_with fail
  refine (HI.out _).mono ?_
  rintro e w6 ⟨A6, c6, rfl, o6, b6⟩
  rw [HN.out]
  have o1d : Own w6 w.heap.size w1.heap.size A1 (strs xs) := o1c.below b6 (Nat.le_trans (Nat.le_trans b2.size s4) b5.size)
  have o3c : Own w6 w1.heap.size w2.heap.size A2 (strs (mks 1 n)) := o3b.below b6 (Nat.le_trans s4 b5.size)
  clear o1c o3b
  go_wp2_with fail
  refine (eqStringS_same A6 A1 n c6 c1 _ _ _ _ xs _ HN.out (by omega) o6 o1d).mono ?_
  rintro e w7 ⟨rfl, q7, rfl⟩
  go_wp2_with fail
  refine (heldStringS_any A2 n c2 _ _ 1 _ hl (by omega) (by omega) (o3c.drewN _) (Nat.le_trans (Nat.le_trans s4 b5.size) b6.size)).mono ?_
  rintro e w8 ⟨rfl, b8⟩
  go_wp2
  go_ret
  refine ⟨rfl, ?_⟩
  have t2 : w.heap.size ≤ w1.heap.size := b1.size
  have t4 : w.heap.size ≤ w2.heap.size := Nat.le_trans t2 b2.size
  have t5 : w.heap.size ≤ w4.heap.size := Nat.le_trans t4 s4
  have t6 : w.heap.size ≤ w5.heap.size := Nat.le_trans t5 b5.size
  have t7 : w.heap.size ≤ w6.heap.size := Nat.le_trans t6 b6.size
  exact (b1.trans (below_weak b2 t2)).trans (((below_drewN (Below.refl _ _) _).trans (below_weak b4 t2)).trans ((below_weak b5 t5).trans ((below_weak b6 t6).trans ((below_drewN (Below.refl _ _) _).trans (below_weak b8 t7)))))
end Go.Proofs.YtbcgidgjdedkiaaDoor
/- Chapter 7: the laws' frames over texts, where the program asks the library's variable. -/
namespace Go.Proofs.YtbcgidgjdedkiaaDoor
open Go.ChangeShapes Go.WideShapes Go.ChangeAt Go.RowKit

theorem MaxL.upto {w0 w w' : World} {B : Nat} (h0 : MaxL w0) (h : MaxL w) (hb : Below B w w') (hB : w0.heap.size ≤ B) : MaxL w' := by
  obtain ⟨_, h0⟩ := h0
  obtain ⟨m, h⟩ := h
  exact ⟨m, (hb.cell (p := ⟨0, 0, none⟩) (Nat.lt_of_lt_of_le (World.block_lt_of_cell? _ _ h0) hB)).trans h⟩
theorem MaxL.drewN {w : World} (h : MaxL w) (n : Nat) : MaxL (w.drewN n) := h
set_option maxHeartbeats 800000 in
theorem lawP_IsPicture_m (s : ByteArray) (ok : Bool) (hz : s.size ≤ 1048576)
    (hs : ∀ w : World, Calls Tryd.prog 15 #[.string s] w fun e w' => e = .returned (.bool ok) ∧ Below w.heap.size w w')
    (hi : ∀ w : World, MaxL w → Calls Tryd.prog 16 #[.string s] w fun e w' => e = .returned (.bool ok) ∧ Below w.heap.size w w') (w : World) (hM : MaxL w) :
    Calls Tryd.prog 3 #[.string s] w fun e w' => e = .returned (.bool true) ∧ Below w.heap.size w w' := by
  have HS := Lib.hid hs
  have HI := Lib.hid hi
  clear hs hi
  go_enter Tryd.func3, Tryd.ntmps3
  go_wp2_with (first
    | (go_at_call 15; refine (HS.out _).mono ?_; rintro e w1 ⟨rfl, hb1⟩)
    | (go_at_call 16; refine (HI.out _ (hM.below hb1)).mono ?_; rintro e w2 ⟨rfl, hb2⟩))
  go_ret
  exact ⟨rfl, hb1.trans (hb2.mono hb1.size)⟩
set_option maxHeartbeats 800000 in
theorem lawP_CountDots_m (s : ByteArray) (n : Int) (ok : Bool) (hz : s.size ≤ 1048576)
    (hs : ∀ w : World, Calls Tryd.prog 17 #[.string s] w fun e w' => e = .returned (.tuple #[.int .i64 n, .bool ok]) ∧ Below w.heap.size w w')
    (hi : ∀ w : World, MaxL w → Calls Tryd.prog 18 #[.string s] w fun e w' => e = .returned (.tuple #[.int .i64 n, .bool ok]) ∧ Below w.heap.size w w') (w : World) (hM : MaxL w) :
    Calls Tryd.prog 4 #[.string s] w fun e w' => e = .returned (.bool true) ∧ Below w.heap.size w w' := by
  have HS := Lib.hid hs
  have HI := Lib.hid hi
  clear hs hi
  go_enter Tryd.func4, Tryd.ntmps4
  go_wp2_with (first
    | (go_at_call 17; refine (HS.out _).mono ?_; rintro e w1 ⟨rfl, hb1⟩)
    | (go_at_call 18; refine (HI.out _ (hM.below hb1)).mono ?_; rintro e w2 ⟨rfl, hb2⟩))
  go_ret
  exact ⟨rfl, hb1.trans (hb2.mono hb1.size)⟩
set_option maxHeartbeats 800000 in
theorem lawP_SizeOfPicture_m (s : ByteArray) (a b : Int) (ok : Bool) (hz : s.size ≤ 1048576)
    (hs : ∀ w : World, Calls Tryd.prog 19 #[.string s] w fun e w' => e = .returned (.tuple #[.int .i64 a, .int .i64 b, .bool ok]) ∧ Below w.heap.size w w')
    (hi : ∀ w : World, MaxL w → Calls Tryd.prog 20 #[.string s] w fun e w' => e = .returned (.tuple #[.int .i64 a, .int .i64 b, .bool ok]) ∧ Below w.heap.size w w') (w : World) (hM : MaxL w) :
    Calls Tryd.prog 5 #[.string s] w fun e w' => e = .returned (.bool true) ∧ Below w.heap.size w w' := by
  have HS := Lib.hid hs
  have HI := Lib.hid hi
  clear hs hi
  go_enter Tryd.func5, Tryd.ntmps5
  go_wp2_with (first
    | (go_at_call 19; refine (HS.out _).mono ?_; rintro e w1 ⟨rfl, hb1⟩)
    | (go_at_call 20; refine (HI.out _ (hM.below hb1)).mono ?_; rintro e w2 ⟨rfl, hb2⟩))
  go_ret
  exact ⟨rfl, hb1.trans (hb2.mono hb1.size)⟩
set_option maxHeartbeats 800000 in
theorem lawP_TurnPicture_m (s : ByteArray) (t : ByteArray) (ok : Bool) (hz : s.size ≤ 1048576)
    (hs : ∀ w : World, Calls Tryd.prog 21 #[.string s] w fun e w' => e = .returned (.tuple #[.string t, .bool ok]) ∧ Below w.heap.size w w')
    (hi : ∀ w : World, MaxL w → Calls Tryd.prog 22 #[.string s] w fun e w' => e = .returned (.tuple #[.string t, .bool ok]) ∧ Below w.heap.size w w') (w : World) (hM : MaxL w) :
    Calls Tryd.prog 6 #[.string s] w fun e w' => e = .returned (.bool true) ∧ Below w.heap.size w w' := by
  have HS := Lib.hid hs
  have HI := Lib.hid hi
  clear hs hi
  go_enter Tryd.func6, Tryd.ntmps6
  go_wp2_with (first
    | (go_at_call 21; refine (HS.out _).mono ?_; rintro e w1 ⟨rfl, hb1⟩)
    | (go_at_call 22; refine (HI.out _ (hM.below hb1)).mono ?_; rintro e w2 ⟨rfl, hb2⟩))
  go_ret
  exact ⟨rfl, hb1.trans (hb2.mono hb1.size)⟩
set_option maxHeartbeats 800000 in
theorem lawP_MirrorPicture_m (s : ByteArray) (t : ByteArray) (ok : Bool) (hz : s.size ≤ 1048576)
    (hs : ∀ w : World, Calls Tryd.prog 23 #[.string s] w fun e w' => e = .returned (.tuple #[.string t, .bool ok]) ∧ Below w.heap.size w w')
    (hi : ∀ w : World, MaxL w → Calls Tryd.prog 24 #[.string s] w fun e w' => e = .returned (.tuple #[.string t, .bool ok]) ∧ Below w.heap.size w w') (w : World) (hM : MaxL w) :
    Calls Tryd.prog 7 #[.string s] w fun e w' => e = .returned (.bool true) ∧ Below w.heap.size w w' := by
  have HS := Lib.hid hs
  have HI := Lib.hid hi
  clear hs hi
  go_enter Tryd.func7, Tryd.ntmps7
  go_wp2_with (first
    | (go_at_call 23; refine (HS.out _).mono ?_; rintro e w1 ⟨rfl, hb1⟩)
    | (go_at_call 24; refine (HI.out _ (hM.below hb1)).mono ?_; rintro e w2 ⟨rfl, hb2⟩))
  go_ret
  exact ⟨rfl, hb1.trans (hb2.mono hb1.size)⟩
set_option maxHeartbeats 800000 in
theorem lawP_OtherDots_m (s : ByteArray) (t : ByteArray) (ok : Bool) (hz : s.size ≤ 1048576)
    (hs : ∀ w : World, Calls Tryd.prog 29 #[.string s] w fun e w' => e = .returned (.tuple #[.string t, .bool ok]) ∧ Below w.heap.size w w')
    (hi : ∀ w : World, MaxL w → Calls Tryd.prog 30 #[.string s] w fun e w' => e = .returned (.tuple #[.string t, .bool ok]) ∧ Below w.heap.size w w') (w : World) (hM : MaxL w) :
    Calls Tryd.prog 10 #[.string s] w fun e w' => e = .returned (.bool true) ∧ Below w.heap.size w w' := by
  have HS := Lib.hid hs
  have HI := Lib.hid hi
  clear hs hi
  go_enter Tryd.func10, Tryd.ntmps10
  go_wp2_with (first
    | (go_at_call 29; refine (HS.out _).mono ?_; rintro e w1 ⟨rfl, hb1⟩)
    | (go_at_call 30; refine (HI.out _ (hM.below hb1)).mono ?_; rintro e w2 ⟨rfl, hb2⟩))
  go_ret
  exact ⟨rfl, hb1.trans (hb2.mono hb1.size)⟩
set_option maxHeartbeats 800000 in
theorem lawP_BorderDots_m (s : ByteArray) (t : ByteArray) (ok : Bool) (hz : s.size ≤ 1048576)
    (hs : ∀ w : World, Calls Tryd.prog 36 #[.string s] w fun e w' => e = .returned (.tuple #[.string t, .bool ok]) ∧ Below w.heap.size w w')
    (hi : ∀ w : World, MaxL w → Calls Tryd.prog 37 #[.string s] w fun e w' => e = .returned (.tuple #[.string t, .bool ok]) ∧ Below w.heap.size w w') (w : World) (hM : MaxL w) :
    Calls Tryd.prog 12 #[.string s] w fun e w' => e = .returned (.bool true) ∧ Below w.heap.size w w' := by
  have HS := Lib.hid hs
  have HI := Lib.hid hi
  clear hs hi
  go_enter Tryd.func12, Tryd.ntmps12
  go_wp2_with (first
    | (go_at_call 36; refine (HS.out _).mono ?_; rintro e w1 ⟨rfl, hb1⟩)
    | (go_at_call 37; refine (HI.out _ (hM.below hb1)).mono ?_; rintro e w2 ⟨rfl, hb2⟩))
  go_ret
  exact ⟨rfl, hb1.trans (hb2.mono hb1.size)⟩
set_option maxHeartbeats 800000 in
theorem lawP_TakeBorder_m (s : ByteArray) (t : ByteArray) (ok : Bool) (hz : s.size ≤ 1048576)
    (hs : ∀ w : World, Calls Tryd.prog 38 #[.string s] w fun e w' => e = .returned (.tuple #[.string t, .bool ok]) ∧ Below w.heap.size w w')
    (hi : ∀ w : World, MaxL w → Calls Tryd.prog 39 #[.string s] w fun e w' => e = .returned (.tuple #[.string t, .bool ok]) ∧ Below w.heap.size w w') (w : World) (hM : MaxL w) :
    Calls Tryd.prog 13 #[.string s] w fun e w' => e = .returned (.bool true) ∧ Below w.heap.size w w' := by
  have HS := Lib.hid hs
  have HI := Lib.hid hi
  clear hs hi
  go_enter Tryd.func13, Tryd.ntmps13
  go_wp2_with (first
    | (go_at_call 38; refine (HS.out _).mono ?_; rintro e w1 ⟨rfl, hb1⟩)
    | (go_at_call 39; refine (HI.out _ (hM.below hb1)).mono ?_; rintro e w2 ⟨rfl, hb2⟩))
  go_ret
  exact ⟨rfl, hb1.trans (hb2.mono hb1.size)⟩
set_option maxHeartbeats 800000 in
theorem lawP_BesidePicture_m (s p : ByteArray) (t : ByteArray) (ok : Bool) (hz : s.size ≤ 1048576) (hy : p.size ≤ 1048576)
    (hs : ∀ w : World, Calls Tryd.prog 25 #[.string s, .string p] w fun e w' => e = .returned (.tuple #[.string t, .bool ok]) ∧ Below w.heap.size w w')
    (hi : ∀ w : World, MaxL w → Calls Tryd.prog 26 #[.string s, .string p] w fun e w' => e = .returned (.tuple #[.string t, .bool ok]) ∧ Below w.heap.size w w') (w : World) (hM : MaxL w) :
    Calls Tryd.prog 8 #[.string s, .string p] w fun e w' => e = .returned (.bool true) ∧ Below w.heap.size w w' := by
  have HS := Lib.hid hs
  have HI := Lib.hid hi
  clear hs hi
  go_enter Tryd.func8, Tryd.ntmps8
  go_wp2_with (first
    | (go_at_call 25; refine (HS.out _).mono ?_; rintro e w1 ⟨rfl, hb1⟩)
    | (go_at_call 26; refine (HI.out _ (hM.below hb1)).mono ?_; rintro e w2 ⟨rfl, hb2⟩))
  go_ret
  exact ⟨rfl, hb1.trans (hb2.mono hb1.size)⟩
set_option maxHeartbeats 800000 in
theorem lawP_BelowPicture_m (s p : ByteArray) (t : ByteArray) (ok : Bool) (hz : s.size ≤ 1048576) (hy : p.size ≤ 1048576)
    (hs : ∀ w : World, Calls Tryd.prog 27 #[.string s, .string p] w fun e w' => e = .returned (.tuple #[.string t, .bool ok]) ∧ Below w.heap.size w w')
    (hi : ∀ w : World, MaxL w → Calls Tryd.prog 28 #[.string s, .string p] w fun e w' => e = .returned (.tuple #[.string t, .bool ok]) ∧ Below w.heap.size w w') (w : World) (hM : MaxL w) :
    Calls Tryd.prog 9 #[.string s, .string p] w fun e w' => e = .returned (.bool true) ∧ Below w.heap.size w w' := by
  have HS := Lib.hid hs
  have HI := Lib.hid hi
  clear hs hi
  go_enter Tryd.func9, Tryd.ntmps9
  go_wp2_with (first
    | (go_at_call 27; refine (HS.out _).mono ?_; rintro e w1 ⟨rfl, hb1⟩)
    | (go_at_call 28; refine (HI.out _ (hM.below hb1)).mono ?_; rintro e w2 ⟨rfl, hb2⟩))
  go_ret
  exact ⟨rfl, hb1.trans (hb2.mono hb1.size)⟩
set_option maxHeartbeats 800000 in
theorem lawI_LayersOfPicture_m (s : ByteArray) (ok : Bool) (xs : List Int) (hl : xs.length ≤ 1000000000) (hz : s.size ≤ 1048576)
    (hs : ∀ w : World, Calls Tryd.prog 40 #[.string s] w (ResI ok xs w))
    (hi : ∀ w : World, MaxL w → Calls Tryd.prog 41 #[.string s] w (ResI ok xs w)) (w : World) (hM : MaxL w) :
    Calls Tryd.prog 14 #[.string s] w fun e w' => e = .returned (.bool true) ∧ Below w.heap.size w w' := by
  have HS := Lib.hid hs
  have HI := Lib.hid hi
  clear hs hi
  obtain ⟨n, hn⟩ : ∃ n, n = xs.length := ⟨_, rfl⟩
  have HN := Lib.hid hn.symm
  rw [← hn] at hl
  clear hn
  go_enter Tryd.func14, Tryd.ntmps14
  go_wp2_with fail
  refine (HS.out _).mono ?_
  rintro e w1 ⟨A1, c1, rfl, o1, b1⟩
  rw [HN.out]
  go_wp2_with fail
  refine (HI.out _ (hM.below b1)).mono ?_
  rintro e w2 ⟨A2, c2, rfl, o2, b2⟩
  rw [HN.out]
  have o1a : Own w2 w.heap.size w1.heap.size A1 (i64s xs) := o1.below b2 (Nat.le_refl _)
  clear o1
  go_wp2_with fail
  refine (eqIntS_same A2 A1 n c2 c1 _ _ _ _ xs _ HN.out hl o2 o1a).mono ?_
  rintro e w3 ⟨rfl, q3, rfl⟩
  go_wp2_with fail
  refine (markIntS_any A2 n c2 _ _ (i64s xs) 1 _ (by simp [HN.out]) hl (by omega) (by omega) (o2.drewN _)).mono ?_
  rintro e w4 ⟨rfl, o3, b4⟩
  have o1b : Own w4 w.heap.size w1.heap.size A1 (i64s xs) := (o1a.drewN _).below b4 (Nat.le_refl _)
  clear o1a o2
  go_wp2_with fail
  refine (heldIntS_any A2 n c2 _ _ 1 _ hl (by omega) (by omega) o3).mono ?_
  rintro e w5 ⟨rfl, rfl⟩
  go_wp2_with fail
  refine (HI.out _ (hM.upto (((hM.below b1).below b2).drewN _) b4 b1.size)).mono ?_
  rintro e w6 ⟨A6, c6, rfl, o6, b6⟩
  rw [HN.out]
  have o1c : Own w6 w.heap.size w1.heap.size A1 (i64s xs) := o1b.below b6 (Nat.le_trans b2.size b4.size)
  have o3c : Own w6 w1.heap.size w2.heap.size A2 (i64s (marks 1 n)) := o3.below b6 b4.size
  clear o1b o3
  go_wp2_with fail
  refine (eqIntS_same A6 A1 n c6 c1 _ _ _ _ xs _ HN.out hl o6 o1c).mono ?_
  rintro e w7 ⟨rfl, q7, rfl⟩
  go_wp2_with fail
  refine (heldIntS_any A2 n c2 _ _ 1 _ hl (by omega) (by omega) (o3c.drewN _)).mono ?_
  rintro e w8 ⟨rfl, rfl⟩
  go_wp2
  go_ret
  have s2 : w.heap.size ≤ w1.heap.size := b1.size
  have s4 : w.heap.size ≤ w4.heap.size := Nat.le_trans (Nat.le_trans b1.size b2.size) b4.size
  exact ⟨rfl, below_drewN ((b1.trans (b2.mono s2)).trans ((below_drewN (Below.refl _ _) _).trans ((b4.mono s2).trans (b6.mono s4)))) _⟩
set_option maxHeartbeats 1600000 in
theorem lawT_PiecesOfPicture_m (s : ByteArray) (ok : Bool) (xs : List (List UInt8)) (hl : xs.length ≤ 10000) (hz : s.size ≤ 1048576)
    (hs : ∀ w : World, Calls Tryd.prog 31 #[.string s] w (ResT ok xs w))
    (hi : ∀ w : World, MaxL w → Calls Tryd.prog 32 #[.string s] w (ResT ok xs w)) (w : World) (hM : MaxL w) :
    Calls Tryd.prog 11 #[.string s] w fun e w' => e = .returned (.bool true) ∧ Below w.heap.size w w' := by
  have HS := Lib.hid hs
  have HI := Lib.hid hi
  clear hs hi
  obtain ⟨n, hn⟩ : ∃ n, n = xs.length := ⟨_, rfl⟩
  have HN := Lib.hid hn.symm
  rw [← hn] at hl
  clear hn
  go_enter Tryd.func11, Tryd.ntmps11
  go_wp2_with fail
  refine (HS.out _).mono ?_
  rintro e w1 ⟨A1, c1, rfl, o1, b1⟩
  rw [HN.out]
  go_wp2_with fail
  refine (HI.out _ (hM.below b1)).mono ?_
  rintro e w2 ⟨A2, c2, rfl, o2, b2⟩
  rw [HN.out]
  have o1a : Own w2 w.heap.size w1.heap.size A1 (strs xs) := o1.below b2 (Nat.le_refl _)
  clear o1
  go_wp2_with fail
  refine (eqStringS_same A2 A1 n c2 c1 _ _ _ _ xs _ HN.out (by omega) o2 o1a).mono ?_
  rintro e w3 ⟨rfl, q3, rfl⟩
  go_wp2_with fail
  refine (markStringS_any A2 n c2 _ _ (strs xs) 1 _ (by simp [strs_len, HN.out]) hl (by omega) (by omega) (o2.drewN _) (Nat.le_refl _) b2.size).mono ?_
  rintro e w4 ⟨rfl, o3, b4⟩
  have o1b : Own w4 w.heap.size w1.heap.size A1 (strs xs) := (o1a.drewN _).below b4 (Nat.le_refl _)
  clear o1a o2
  go_wp2_with fail
  refine (heldStringS_any A2 n c2 _ _ 1 _ hl (by omega) (by omega) o3 b4.size).mono ?_
  rintro e w5 ⟨rfl, b5⟩
  have s4 : w2.heap.size ≤ w4.heap.size := b4.size
  have o1c : Own w5 w.heap.size w1.heap.size A1 (strs xs) := o1b.below b5 (Nat.le_trans b2.size s4)
  have o3b : Own w5 w1.heap.size w2.heap.size A2 (strs (mks 1 n)) := o3.below b5 s4
  clear o1b o3
  go_wp2_with fail
  refine (HI.out _ ((hM.upto (((hM.below b1).below b2).drewN _) b4 b1.size).below b5)).mono ?_
  rintro e w6 ⟨A6, c6, rfl, o6, b6⟩
  rw [HN.out]
  have o1d : Own w6 w.heap.size w1.heap.size A1 (strs xs) := o1c.below b6 (Nat.le_trans (Nat.le_trans b2.size s4) b5.size)
  have o3c : Own w6 w1.heap.size w2.heap.size A2 (strs (mks 1 n)) := o3b.below b6 (Nat.le_trans s4 b5.size)
  clear o1c o3b
  go_wp2_with fail
  refine (eqStringS_same A6 A1 n c6 c1 _ _ _ _ xs _ HN.out (by omega) o6 o1d).mono ?_
  rintro e w7 ⟨rfl, q7, rfl⟩
  go_wp2_with fail
  refine (heldStringS_any A2 n c2 _ _ 1 _ hl (by omega) (by omega) (o3c.drewN _) (Nat.le_trans (Nat.le_trans s4 b5.size) b6.size)).mono ?_
  rintro e w8 ⟨rfl, b8⟩
  go_wp2
  go_ret
  refine ⟨rfl, ?_⟩
  have t2 : w.heap.size ≤ w1.heap.size := b1.size
  have t4 : w.heap.size ≤ w2.heap.size := Nat.le_trans t2 b2.size
  have t5 : w.heap.size ≤ w4.heap.size := Nat.le_trans t4 s4
  have t6 : w.heap.size ≤ w5.heap.size := Nat.le_trans t5 b5.size
  have t7 : w.heap.size ≤ w6.heap.size := Nat.le_trans t6 b6.size
  exact (b1.trans (below_weak b2 t2)).trans (((below_drewN (Below.refl _ _) _).trans (below_weak b4 t2)).trans ((below_weak b5 t5).trans ((below_weak b6 t6).trans ((below_drewN (Below.refl _ _) _).trans (below_weak b8 t7)))))
end Go.Proofs.YtbcgidgjdedkiaaDoor
/- Chapter 7: what a border and the dots beside others hold while they are gathered; plain facts. -/
namespace Go.Proofs.YtbcgidgjdedkiaaDoor

def tlS (T L : Int → Int → Bool) (x y : Int) : Bool := T x y && !L x y
/-- The border, as far as dots have come, and of the dot at hand the first places. -/
def brF (S L : Int → Int → Bool) (x y : Int) (l : List (Int × Int)) (u v : Int) : Bool := (bS S u v && !L u v) || ((decide (u = x) && decide (v = y)) && l.any fun p => !S p.1 p.2)
theorem bsd_any (x y : Int) (f : Int × Int → Bool) : (bsd x y).any f = (f (x + 1, y) || f (x, y + 1) || f (x - 1, y) || f (x, y - 1)) := by
  simp only [bsd, stp, List.map, List.any_cons, List.any_nil, Bool.or_false, Int.add_zero, Int.add_neg_eq_sub, Bool.or_assoc]
theorem br_start {S : Int → Int → Bool} (u v : Int) : false = (bS S u v && !S u v) := by
  unfold bS
  cases S u v <;> simp
theorem br_in (S L : Int → Int → Bool) (x y u v : Int) : (bS S u v && !L u v) = brF S L x y [] u v := by simp [brF]
theorem br_yes {S L : Int → Int → Bool} {x y : Int} {l : List (Int × Int)} {p : Int × Int} (h : S p.1 p.2 = false) (u v : Int) : aS (brF S L x y l) x y u v = brF S L x y (l ++ [p]) u v := by
  unfold aS brF
  simp only [List.any_append, List.any_cons, List.any_nil, h]
  cases (decide (u = x) && decide (v = y)) <;> simp
theorem br_no {S L : Int → Int → Bool} {x y : Int} {l : List (Int × Int)} {p : Int × Int} (h : S p.1 p.2 = true) (u v : Int) : brF S L x y l u v = brF S L x y (l ++ [p]) u v := by
  unfold brF
  simp only [List.any_append, List.any_cons, List.any_nil, h]
  simp
theorem br_out {S L : Int → Int → Bool} {x y : Int} (hS : S x y = true) (u v : Int) : brF S L x y (bsd x y) u v = (bS S u v && !rS L x y u v) := by
  unfold brF rS
  by_cases e : u = x ∧ v = y
  · obtain ⟨rfl, rfl⟩ := e
    rw [bsd_any]
    unfold bS
    rw [hS]
    simp only [decide_true, Bool.true_and, Bool.and_self, Bool.not_true, Bool.and_false, Bool.not_false, Bool.and_true]
    cases S (u - 1) v <;> cases S (u + 1) v <;> cases S u (v - 1) <;> cases S u (v + 1) <;> simp
  · rw [pick_at e]
    simp
theorem br_end {S L : Int → Int → Bool} (h : ∀ x y, L x y = false) (u v : Int) : (bS S u v && !L u v) = bS S u v := by rw [h]; simp
/-- The dots beside others, as far as those have come, and of the one at hand the first places. -/
def nbF (S T L : Int → Int → Bool) (l : List (Int × Int)) (u v : Int) : Bool := nbS S (tlS T L) u v || (S u v && l.any fun p => decide (u = p.1) && decide (v = p.2))
theorem nb_start {S T : Int → Int → Bool} (u v : Int) : false = nbS S (tlS T T) u v := by
  have h : ∀ a b, tlS T T a b = false := fun a b => by unfold tlS; cases T a b <;> rfl
  unfold nbS nS
  simp [h]
theorem nb_in (S T L : Int → Int → Bool) (u v : Int) : nbS S (tlS T L) u v = nbF S T L [] u v := by simp [nbF]
theorem nb_yes {S T L : Int → Int → Bool} {l : List (Int × Int)} {p : Int × Int} (h : S p.1 p.2 = true) (u v : Int) : aS (nbF S T L l) p.1 p.2 u v = nbF S T L (l ++ [p]) u v := by
  unfold aS nbF
  simp only [List.any_append, List.any_cons, List.any_nil, Bool.or_false]
  by_cases e : u = p.1 ∧ v = p.2
  · rw [e.1, e.2, h]
    simp
  · rw [pick_at e]
    simp
theorem nb_no {S T L : Int → Int → Bool} {l : List (Int × Int)} {p : Int × Int} (h : S p.1 p.2 = false) (u v : Int) : nbF S T L l u v = nbF S T L (l ++ [p]) u v := by
  unfold nbF
  simp only [List.any_append, List.any_cons, List.any_nil, Bool.or_false]
  by_cases e : u = p.1 ∧ v = p.2
  · rw [e.1, e.2, h]
    simp
  · rw [pick_at e]
    simp
theorem nb_out {S T L : Int → Int → Bool} {x y : Int} (hT : T x y = true) (u v : Int) : nbF S T L (bsd x y) u v = nbS S (tlS T (rS L x y)) u v := by
  have h : ∀ a b, tlS T (rS L x y) a b = (tlS T L a b || (decide (a = x) && decide (b = y))) := fun a b => by
    unfold tlS rS
    by_cases e : a = x ∧ b = y
    · obtain ⟨rfl, rfl⟩ := e
      simp [hT]
    · rw [pick_at e]
      simp
  unfold nbF nbS nS
  rw [bsd_any, h, h, h, h]
  have e1 : (decide (u = x + 1) && decide (v = y)) = (decide (u - 1 = x) && decide (v = y)) := by
    rw [show decide (u = x + 1) = decide (u - 1 = x) from decide_eq_decide.2 (by omega)]
  have e2 : (decide (u = x) && decide (v = y + 1)) = (decide (u = x) && decide (v - 1 = y)) := by
    rw [show decide (v = y + 1) = decide (v - 1 = y) from decide_eq_decide.2 (by omega)]
  have e3 : (decide (u = x - 1) && decide (v = y)) = (decide (u + 1 = x) && decide (v = y)) := by
    rw [show decide (u = x - 1) = decide (u + 1 = x) from decide_eq_decide.2 (by omega)]
  have e4 : (decide (u = x) && decide (v = y - 1)) = (decide (u = x) && decide (v + 1 = y)) := by
    rw [show decide (v = y - 1) = decide (v + 1 = y) from decide_eq_decide.2 (by omega)]
  simp only [e1, e2, e3, e4]
  generalize (decide (u - 1 = x) && decide (v = y)) = a1
  generalize (decide (u = x) && decide (v - 1 = y)) = a2
  generalize (decide (u + 1 = x) && decide (v = y)) = a3
  generalize (decide (u = x) && decide (v + 1 = y)) = a4
  cases S u v <;> cases tlS T L (u - 1) v <;> cases tlS T L (u + 1) v <;> cases tlS T L u (v - 1) <;> cases tlS T L u (v + 1) <;> cases a1 <;> cases a2 <;> cases a3 <;> cases a4 <;> rfl
theorem nb_end {S T L : Int → Int → Bool} (h : ∀ x y, L x y = false) (u v : Int) : nbS S (tlS T L) u v = nbS S T u v := by
  have h2 : ∀ a b, tlS T L a b = T a b := fun a b => by unfold tlS; rw [h]; simp
  unfold nbS nS
  rw [h2, h2, h2, h2]
theorem bsd_at (x y : Int) (j : Nat) (h : j < 4) : (bsd x y).take (j + 1) = (bsd x y).take j ++ [((bsd x y)[j]'(by rw [bsd_len]; exact h))] := List.take_succ_eq_append_getElem (by rw [bsd_len]; exact h)
theorem bsd_bds (x y : Int) (j : Nat) (h : j < 4) : x - 1 ≤ ((bsd x y)[j]'(by rw [bsd_len]; exact h)).1 ∧ ((bsd x y)[j]'(by rw [bsd_len]; exact h)).1 ≤ x + 1 ∧ y - 1 ≤ ((bsd x y)[j]'(by rw [bsd_len]; exact h)).2 ∧ ((bsd x y)[j]'(by rw [bsd_len]; exact h)).2 ≤ y + 1 := by
  match j, h with
  | 0, _ => simp [bsd, stp]; omega
  | 1, _ => simp [bsd, stp]; omega
  | 2, _ => simp [bsd, stp]; omega
  | 3, _ => simp [bsd, stp]; omega
end Go.Proofs.YtbcgidgjdedkiaaDoor
/- Chapter 7: the program's sets of dots moved by whatever function moves places apart. -/
namespace Go.Proofs.YtbcgidgjdedkiaaDoor
open Go.ChangeShapes Go.WideShapes Go.ChangeAt Go.RowKit Go.Maps

/-- What is moved already, by the places to which dots are moved: g tells whence. -/
def mvL (S L : Int → Int → Bool) (g1 g2 : Int → Int → Int) (u v : Int) : Bool := S (g1 u v) (g2 u v) && !L (g1 u v) (g2 u v)
theorem mv_start {S : Int → Int → Bool} {g1 g2 : Int → Int → Int} (u v : Int) : false = mvL S S g1 g2 u v := by
  unfold mvL
  cases S (g1 u v) (g2 u v) <;> rfl
theorem mv_end {S L : Int → Int → Bool} {g1 g2 : Int → Int → Int} (h : ∀ x y, L x y = false) (u v : Int) : mvL S L g1 g2 u v = S (g1 u v) (g2 u v) := by
  unfold mvL
  rw [h]
  simp
theorem mv_step {S L : Int → Int → Bool} {g1 g2 : Int → Int → Int} {x y p q : Int} (hS : S x y = true) (hg : ∀ u v, (u = p ∧ v = q) ↔ (g1 u v = x ∧ g2 u v = y)) (u v : Int) : aS (mvL S L g1 g2) p q u v = mvL S (rS L x y) g1 g2 u v := by
  unfold aS mvL rS
  by_cases e : u = p ∧ v = q
  · obtain ⟨a, b⟩ := (hg u v).1 e
    obtain ⟨rfl, rfl⟩ := e
    rw [a, b, hS]
    simp
  · rw [pick_at e, pick_at (fun e2 => e ((hg u v).2 e2))]
    simp
/-- A function value that moves the dots of S by f, in worlds that have grown from w. -/
structure Mv (F K : Nat) (S : Int → Int → Bool) (f1 f2 g1 g2 : Int → Int → Int) (w : World) : Prop where
  cf : ∀ (args : Array Value) (W : World), (callFunc F args).run Tryd.prog W = .ok (.enter F args) W
  mv : ∀ x y W, S x y = true → w.grownBy W none → Calls Tryd.prog F #[.agg #[.int .i64 x, .int .i64 y], .pointer (some ⟨K, 0, none⟩)] W fun e w' => e = .returned (.agg #[.int .i64 (f1 x y), .int .i64 (f2 x y)]) ∧ Below W.heap.size W w'
  inv : ∀ x y, S x y = true → ∀ u v, (u = f1 x y ∧ v = f2 x y) ↔ (g1 u v = x ∧ g2 u v = y)
  bd : ∀ x y, S x y = true → 0 ≤ f1 x y ∧ f1 x y < 100 ∧ 0 ≤ f2 x y ∧ f2 x y < 100
set_option maxRecDepth 4000 in
set_option maxHeartbeats 1600000 in
theorem moved_any (b F K : Nat) (S : Int → Int → Bool) (f1 f2 g1 g2 : Int → Int → Int) (w : World) (h : Ds w b S) (hm : Mv F K S f1 f2 g1 g2 w) :
    Calls Tryd.prog 80 #[.map (some b), .func (.func F) #[] #[.pointer (some ⟨K, 0, none⟩)]] w fun e w' => (∃ c, e = .returned (.map (some c)) ∧ w.heap.size ≤ c ∧ Ds w' c (fun u v => S (g1 u v) (g2 u v))) ∧ Below w.heap.size w w' := by
  have hmm := @run_makeMap Tryd.prog
  have hbl := h.lt
  have HBD := Lib.hid h.bd
  have HM := Lib.hid hm
  have hcf := hm.cf
  have HH := Lib.hid h
  clear h hm
  go_enter Tryd.func80, Tryd.ntmps80
  go_wp2_with (at_range; refine dots_range vkey _ rfl _ 42 84 rfl Tryd.underlying42 b S rfl (HH.out.alloc _) ?_; intro w0 hr0 hg0 hs0)
  go_frame
  have er : (w.alloc (.map #[] 0)).heap.size = w.heap.size + 1 := by simp
  rw [er] at hr0 hs0
  simp only [er]
  have HR0 := Lib.hid hr0
  have HD0 := Lib.hid (((Dots.made (P := Tryd.prog) (k := 58) w).kept hg0 (by simp)).congr (mv_start (S := S) (g1 := g1) (g2 := g2)))
  have HB0 := Lib.hid (((Below.refl w.heap.size w).alloc (Nat.le_refl _) (.map #[] 0)).grown hg0 (by simp) (by simp))
  clear hr0 hg0 hs0 er HH
  go_loopw [6] (fun _ wr => ∃ L, Hid (Rs wr b (w.heap.size + 1) S L) ∧ Hid (Ds wr w.heap.size (mvL S L g1 g2)) ∧ Hid (Below w.heap.size w wr)) (fun _ wr => wr.rangeLeft b (w.heap.size + 1))
  case atStart => exact ⟨S, HR0, HD0, HB0⟩
  case round =>
    obtain ⟨L, HR, HD, HB⟩ := hrel
    go_wp2_with (at_next; refine dots_next vkey _ rfl _ rfl b (w.heap.size + 1) S L rfl HR.out ?_ ?_)
    · intro h0
      have HE := Lib.hid (HD.out.congr (mv_end h0))
      clear h0
      go_wp2
      go_ret
      exact ⟨⟨_, rfl, Nat.le_refl _, HE.out⟩, HB.out⟩
    · intro x y w2 hL hr2 hlt hg2 hs2 hen
      have hS := HR.out.sub hL
      have HR2 := Lib.hid hr2
      have HD2 := Lib.hid (HD.out.kept hg2 (by simp))
      have HB2 := Lib.hid (HB.out.grown hg2 HB.out.size (by intro j hj; cases hj; omega))
      have HLT := Lib.hid hlt
      have HSS := Lib.hid hS
      have hbx := HBD.out x y hS
      have HIN := Lib.hid fun u v => mv_step (L := L) hS (HM.out.inv x y hS) u v
      have hbf := HM.out.bd x y hS
      clear hr2 hlt hL hS hg2 hs2
      have hz2 : w.heap.size + 1 < w2.heap.size := HR2.out.lt
      have HMV := Lib.hid (HM.out.mv x y _ HSS.out (grown_of_below (HB2.out.alloc HB2.out.size (.cells #[.int .i64 x, .int .i64 y] 58)) (Nat.le_refl _)))
      generalize f1 x y = p at *
      generalize f2 x y = q at *
      go_wp2_with (first
        | (refine (HMV.out).mono ?_; rintro e w3 ⟨rfl, hb3⟩; have HG3 := Lib.hid ((World.grownBy_alloc w2 (.cells #[.int .i64 x, .int .i64 y] 58) none).andThen (grown_of_below hb3 (Nat.le_refl _)) (by simp)); have HD3 := Lib.hid (HD2.out.kept HG3.out (by simp)); clear hb3)
        | (go_at_call 93; refine (add_any _ _ _ _ _ HD3.out hbf).mono ?_; rintro e w6 ⟨rfl, hd6, hg6⟩))
      have HD6 := Lib.hid (hd6.congr HIN.out)
      have HR6 := Lib.hid ((HR2.out.kept HG3.out (by simp) (by simp)).kept hg6 (by simp; omega) (by simp))
      have HL6 := Lib.hid ((HR2.out.kept HG3.out (by simp) (by simp)).left hg6 (by simp; omega) (by simp))
      have HL3 := Lib.hid (HR2.out.left HG3.out (by simp) (by simp))
      have HB6 := Lib.hid ((HB2.out.grown HG3.out HB2.out.size (by simp)).grown hg6 (HB2.out.grown HG3.out HB2.out.size (by simp)).size (by intro j hj; cases hj; exact Nat.le_refl _))
      clear hd6 hg6
      go_wp2
      go_roundw
      case rel => exact ⟨_, HR6, HD6, HB6⟩
      case measure => rw [HL6.out, HL3.out]; exact HLT.out
end Go.Proofs.YtbcgidgjdedkiaaDoor
/- Chapter 7: the border of the program's sets of dots. -/
namespace Go.Proofs.YtbcgidgjdedkiaaDoor
open Go.ChangeShapes Go.WideShapes Go.ChangeAt Go.RowKit Go.Maps

set_option maxRecDepth 4000 in
set_option maxHeartbeats 1600000 in
theorem border_any (b : Nat) (S : Int → Int → Bool) (w : World) (h : Ds w b S) :
    Calls Tryd.prog 72 #[.map (some b)] w fun e w' => (∃ c, e = .returned (.map (some c)) ∧ w.heap.size ≤ c ∧ Ds w' c (bS S)) ∧ Below w.heap.size w w' := by
  have hmm := @run_makeMap Tryd.prog
  have HBD := Lib.hid h.bd
  have hbl := h.lt
  have HP := Lib.hid fun x y W (hs : S x y = true) => placesBeside_any x y W (by have := HBD.out x y hs; omega) (by have := HBD.out x y hs; omega) (by have := HBD.out x y hs; omega) (by have := HBD.out x y hs; omega)
  have HH := Lib.hid h
  clear h
  go_enter Tryd.func72, Tryd.ntmps72
  go_wp2_with (at_range; refine dots_range vkey _ rfl _ 42 84 rfl Tryd.underlying42 b S rfl (HH.out.alloc _) ?_; intro w0 hr0 hg0 hs0)
  go_frame
  have er : (w.alloc (.map #[] 0)).heap.size = w.heap.size + 1 := by simp
  rw [er] at hr0 hs0
  simp only [er]
  have HR0 := Lib.hid hr0
  have HD0 := Lib.hid (((Dots.made (P := Tryd.prog) (k := 58) w).kept hg0 (by simp)).congr (br_start (S := S)))
  have HB0 := Lib.hid (((Below.refl w.heap.size w).alloc (Nat.le_refl _) (.map #[] 0)).grown hg0 (by simp) (by simp))
  clear hr0 hg0 hs0 er HH
  go_loopw [4] (fun _ wr => ∃ L, Hid (Rs wr b (w.heap.size + 1) S L) ∧ Hid (Ds wr w.heap.size (fun u v => bS S u v && !L u v)) ∧ Hid (Below w.heap.size w wr)) (fun _ wr => wr.rangeLeft b (w.heap.size + 1))
  case atStart => exact ⟨S, HR0, HD0, HB0⟩
  case round =>
    obtain ⟨L, HR, HD, HB⟩ := hrel
    go_wp2_with (at_next; refine dots_next vkey _ rfl _ rfl b (w.heap.size + 1) S L rfl HR.out ?_ ?_)
    · intro h0
      have HE := Lib.hid (HD.out.congr (br_end h0))
      clear h0
      go_wp2
      go_ret
      exact ⟨⟨_, rfl, Nat.le_refl _, HE.out⟩, HB.out⟩
    · intro x y w2 hL hr2 hlt hg2 hs2 hen
      have hS := HR.out.sub hL
      have HR2 := Lib.hid hr2
      have HD2 := Lib.hid (HD.out.kept hg2 (by simp))
      have HB2 := Lib.hid (HB.out.grown hg2 HB.out.size (by intro j hj; cases hj; omega))
      have HLT := Lib.hid hlt
      have HSS := Lib.hid hS
      have hbx := HBD.out x y hS
      have HIN := Lib.hid fun u v => br_in S L x y u v
      clear hr2 hlt hL hS hg2 hs2
      have hz2 : w.heap.size + 1 < w2.heap.size := HR2.out.lt
      go_wp2_with (go_at_call 92; refine (HP.out x y _ HSS.out).mono ?_; rintro e w3 ⟨⟨A, c, rfl, ho3⟩, hb3⟩)
      obtain ⟨g, o, rfl, hg0, hg1, hcs⟩ := ho3 (by rw [prs_len, bsd_len]; omega)
      have hza : (w2.alloc (.cells #[.int .i64 x, .int .i64 y] 58)).heap.size = w2.heap.size + 1 := by simp
      rw [hza] at hg0 hb3
      have d0 : w3.cell? ⟨w2.heap.size, 0, none⟩ = some (.int .i64 x) := (hb3.cell (p := ⟨w2.heap.size, 0, none⟩) (Nat.lt_succ_self _)).trans (by simp [go_sem])
      have d1 : w3.cell? ⟨w2.heap.size, 1, none⟩ = some (.int .i64 y) := (hb3.cell (p := ⟨w2.heap.size, 1, none⟩) (Nat.lt_succ_self _)).trans (by simp [go_sem])
      have hg3 : w2.grownBy w3 none := (World.grownBy_alloc w2 _ none).andThen (grown_of_below hb3 (by simp)) (by simp)
      have HR3 := Lib.hid (HR2.out.kept hg3 (by simp) (by simp))
      have HL3 := Lib.hid (HR2.out.left hg3 (by simp) (by simp))
      have HD3 := Lib.hid ((HD2.out.kept hg3 (by simp)).congr HIN.out)
      have HB3 := Lib.hid (HB2.out.grown hg3 (by omega) (by simp))
      have HCS := Lib.hid hcs
      have hz3 : w2.heap.size < w3.heap.size := by omega
      clear ho3 hb3 hcs hg3 hza
      go_loopw [17] (fun i wr => ∃ j : Nat, j ≤ 4 ∧ i = .int .i64 (j : Int) ∧ Hid (Ds wr w.heap.size (brF S L x y ((bsd x y).take j))) ∧ Hid (w3.grownBy wr (some w.heap.size))) (fun i _ => 4 - (intOf i).toNat)
      case atStart => exact ⟨0, by omega, by simp, HD3, Lib.hid (grown_refl _ _)⟩
      case round =>
        obtain ⟨j, hj, rfl, HDj, HGj⟩ := hrel
        have hzr : w3.heap.size ≤ wr.heap.size := HGj.out.size
        by_cases hlt : j < 4
        · have hj4 : (j : Int) < 4 := by omega
          have hp := prs_get (bsd x y) j (by rw [bsd_len]; exact hlt)
          have s0 := HGj.out.cell (HCS.out _ _ hp.1).1 (by simp; omega)
          have s1 := HGj.out.cell (HCS.out _ _ hp.2).1 (by simp; omega)
          have b0 := HGj.out.cell d0 (by simp; omega)
          have b1 := HGj.out.cell d1 (by simp; omega)
          have ht := bsd_at x y j hlt
          have hbb := bsd_bds x y j hlt
          generalize hpq : (bsd x y)[j]'(by rw [bsd_len]; exact hlt) = pq at *
          obtain ⟨p, q⟩ := pq
          simp only at s0 s1 hbb
          rw [Nat.mul_comm 2 j] at s0 s1
          rw [← Nat.add_assoc] at s1
          have HRj := Lib.hid (HR3.out.kept HGj.out (by simp; omega) (by simp))
          have HHAS := Lib.hid fun W (h : Ds W b S) => has_any b S p q W h (wf2_of (by omega) (by omega) (by omega) (by omega))
          have HT := Lib.hid ht
          clear hp ht hpq hbb
          cases hc : S p q with
          | true =>
            rw [hc] at HHAS
            have HE := Lib.hid (HDj.out.congr (br_no (p := (p, q)) hc))
            clear hc
            go_wp2_with (go_at_call 63; refine (HHAS.out _ (HRj.out.dots.alloc _)).mono ?_; rintro e w5 ⟨rfl, hb5⟩)
            have HG5 := Lib.hid ((HGj.out.andThen (World.grownBy_alloc _ (.cells #[.int .i64 p, .int .i64 q] 58) none) (by simp)).andThen (grown_of_below hb5 (Nat.le_refl _)) (by simp))
            have HE5 := Lib.hid ((HE.out.alloc (.cells #[.int .i64 p, .int .i64 q] 58)).below hb5)
            clear hb5
            go_wp2
            go_roundw
            case rel => exact ⟨j + 1, by omega, by go_num, by rw [HT.out]; exact HE5, HG5⟩
            case measure => simp [intOf]; omega
          | false =>
            rw [hc] at HHAS
            have HE := Lib.hid fun u v => br_yes (S := S) (L := L) (x := x) (y := y) (l := (bsd x y).take j) (p := (p, q)) hc u v
            clear hc
            go_wp2_with (first
              | (go_at_call 63; refine (HHAS.out _ (HRj.out.dots.alloc _)).mono ?_; rintro e w5 ⟨rfl, hb5⟩; have HG5 := Lib.hid ((HGj.out.andThen (World.grownBy_alloc _ (.cells #[.int .i64 p, .int .i64 q] 58) none) (by simp)).andThen (grown_of_below hb5 (Nat.le_refl _)) (by simp)); have HD5 := Lib.hid ((HDj.out.alloc (.cells #[.int .i64 p, .int .i64 q] 58)).below hb5); have e0 := HG5.out.cell d0 (by simp; omega); have e1 := HG5.out.cell d1 (by simp; omega); clear hb5)
              | (go_at_call 93; refine (add_any _ _ _ _ _ HD5.out (by omega)).mono ?_; rintro e w6 ⟨rfl, hd6, hg6⟩))
            have HG6 := Lib.hid (grown_tr HG5.out hg6)
            have HD6 := Lib.hid (hd6.congr HE.out)
            clear hd6 hg6
            go_wp2
            go_roundw
            case rel => exact ⟨j + 1, by omega, by go_num, by rw [HT.out]; exact HD6, HG6⟩
            case measure => simp [intOf]; omega
        · obtain rfl : j = 4 := by omega
          have ht4 : (bsd x y).take 4 = bsd x y := rfl
          rw [ht4] at HDj
          have HD7 := Lib.hid (HDj.out.congr (br_out HSS.out))
          have HR7 := Lib.hid (HR3.out.kept HGj.out (by simp; omega) (by simp))
          have HL7 := Lib.hid (HR3.out.left HGj.out (by simp; omega) (by simp))
          have HB7 := Lib.hid (HB3.out.grown HGj.out HB3.out.size (by intro j hj; cases hj; exact Nat.le_refl _))
          go_wp2
          go_roundw
          case rel => exact ⟨_, HR7, HD7, HB7⟩
          case measure => rw [HL7.out, HL3.out]; exact HLT.out
end Go.Proofs.YtbcgidgjdedkiaaDoor
/- Chapter 7: the program's pictures: limits, places. -/
namespace Go.Proofs.YtbcgidgjdedkiaaDoor
open Go.ChangeShapes Go.WideShapes Go.ChangeAt Go.RowKit Go.Maps

/-- A picture of W columns and H rows, its dots in block b. -/
abbrev picV (W H : Int) (b : Nat) : Value := .agg #[.int .i64 W, .int .i64 H, .map (some b)]
def limB (W H : Int) : Bool := betr W 1 24 && betr H 1 24
set_option maxRecDepth 4000 in
theorem limits_any (W H : Int) (b : Nat) (w : World) :
    Calls Tryd.prog 77 #[.agg #[.int .i64 W, .int .i64 H, .map (some b)]] w fun e w' => e = .returned (.bool (limB W H)) ∧ Below w.heap.size w w' := by
  have HL : Hid (limB W H = (betr W 1 24 && betr H 1 24)) := Lib.hid rfl
  rw [HL.out]
  clear HL
  have HB := Lib.hid (show Below w.heap.size w (w.alloc (.cells #[.int .i64 W, .int .i64 H, .map (some b)] 44)) from (Below.refl _ _).alloc (Nat.le_refl _) _)
  cases h1 : betr W 1 24 <;> cases h2 : betr H 1 24
  all_goals
    go_enter Tryd.func77, Tryd.ntmps77
    go_wp2_with (go_at_call 95; refine (rwithin_any _ _ _ _).mono ?_; (first | rw [h1] | rw [h2]); rintro e w1 ⟨rfl, rfl⟩)
    go_ret
    exact ⟨rfl, HB.out⟩

/-- The first n places of a picture of W columns, row by row. -/
def plcs (W n : Nat) : List (Int × Int) := (List.range n).map fun i => (((i % W : Nat) : Int), ((i / W : Nat) : Int))
theorem plcs_len (W n : Nat) : (plcs W n).length = n := by simp [plcs]
theorem plcs_at (W n k : Nat) (h : k < n) : (plcs W n)[k]'(by rw [plcs_len]; exact h) = (((k % W : Nat) : Int), ((k / W : Nat) : Int)) := by simp [plcs]
theorem plcs_succ (W n : Nat) : plcs W (n + 1) = plcs W n ++ [(((n % W : Nat) : Int), ((n / W : Nat) : Int))] := by simp [plcs, List.range_succ]
set_option maxRecDepth 4000 in
set_option maxHeartbeats 1600000 in
theorem places_any (W H n b : Nat) (w : World) (hn : n = W * H) (hW : W ≤ 100) (hH : H ≤ 100) :
    Calls Tryd.prog 62 #[.agg #[.int .i64 (W : Int), .int .i64 (H : Int), .map (some b)]] w fun e w' => (∃ A c base, e = .returned (.slice A n c) ∧ w.heap.size < base ∧ w'.ownsRow base 58 2 (.slice A n c) n (prs (plcs W n))) ∧ Below w.heap.size w w' := by
  have HS : Hid (∀ x y, x < W → plcs W (y * W + x + 1) = plcs W (y * W + x) ++ [((x : Int), (y : Int))]) := Lib.hid fun x y hx => by rw [plcs_succ, place_x hx, place_y hx]
  have HL := Lib.hid fun k => plcs_len W k
  have HM : Hid (∀ y, y ≤ H → y * W ≤ 10000) := Lib.hid fun y hy => Nat.mul_le_mul (n₁ := y) (n₂ := 100) (m₁ := W) (m₂ := 100) (by omega) hW
  have HN : Hid (H * W = n) := Lib.hid (by rw [hn, Nat.mul_comm])
  have HU : Hid (∀ y, (y + 1) * W = y * W + W) := Lib.hid fun y => Nat.succ_mul y W
  clear hn
  generalize plcs W = pl at *
  have hB : Below w.heap.size w (w.alloc (.cells #[.int .i64 (W : Int), .int .i64 (H : Int), .map (some b)] 44)) := (Below.refl _ _).alloc (Nat.le_refl _) _
  have hz : w.heap.size < (w.alloc (.cells #[.int .i64 (W : Int), .int .i64 (H : Int), .map (some b)] 44)).heap.size := by simp
  have c0 : (w.alloc (.cells #[.int .i64 (W : Int), .int .i64 (H : Int), .map (some b)] 44)).cell? ⟨w.heap.size, 0, none⟩ = some (.int .i64 (W : Int)) := by simp [go_sem]
  have c1 : (w.alloc (.cells #[.int .i64 (W : Int), .int .i64 (H : Int), .map (some b)] 44)).cell? ⟨w.heap.size, 1, none⟩ = some (.int .i64 (H : Int)) := by simp [go_sem]
  go_enter Tryd.func62, Tryd.ntmps62
  go_wp2
  generalize w.alloc (.cells #[.int .i64 (W : Int), .int .i64 (H : Int), .map (some b)] 44) = wa at *
  have HB := Lib.hid hB
  clear hB
  go_loopw [3, 8] (fun v i wr => ∃ y : Nat, y ≤ H ∧ i = .int .i64 (y : Int) ∧ Hid (wr.ownsRow wa.heap.size 58 2 v (y * W) (prs (pl (y * W)))) ∧ Hid (Below wa.heap.size wa wr)) (fun _ i _ => H - (intOf i).toNat)
  case atStart => exact ⟨0, by omega, by simp, Lib.hid (by have := HL.out 0; rw [Nat.zero_mul, List.eq_nil_of_length_eq_zero this]; exact World.ownsRow_nil _ _ _ _), Lib.hid (Below.refl _ _)⟩
  case round =>
    obtain ⟨y, hy, rfl, hown, hb⟩ := hrel
    have d0 : wr.cell? ⟨w.heap.size, 0, none⟩ = some (.int .i64 (W : Int)) := (hb.out.cell (p := ⟨w.heap.size, 0, none⟩) hz).trans c0
    by_cases hlt : y < H
    · have hy2 : (y : Int) < (H : Int) := by omega
      go_wp2
      go_loopw [3, 13] (fun v i wr => ∃ x : Nat, x ≤ W ∧ i = .int .i64 (x : Int) ∧ Hid (wr.ownsRow wa.heap.size 58 2 v (y * W + x) (prs (pl (y * W + x)))) ∧ Hid (Below wa.heap.size wa wr)) (fun _ i _ => W - (intOf i).toNat)
      case atStart => exact ⟨0, by omega, by simp, by rw [Nat.add_zero]; exact hown, hb⟩
      case round =>
        obtain ⟨x, hx, rfl, hown1, hb1⟩ := hrel
        by_cases hlx : x < W
        · have hx2 : (x : Int) < (W : Int) := by omega
          have hm : y * W + x ≤ 10100 := by have := HM.out y hy; omega
          have hl := HL.out (y * W + x)
          have hs := HS.out x y hlx
          have hbz := hb1.out.size
          obtain ⟨k, hk⟩ : ∃ k, k = y * W + x := ⟨_, rfl⟩
          rw [← hk] at hm hl hs hown1
          have HK := Lib.hid hk
          clear hk
          have HSK := Lib.hid hs
          have HLK := Lib.hid hl
          clear hs hl
          go_wp2_with (at_builtin; refine app_vec wa.heap.size _ rfl _ _ rfl _ k (pl k) rfl hown1.out HLK.out hbz _ _ rfl (by omega) ?_; intro v' w4 ho4 hg4)
          have HO4 := Lib.hid ho4
          have HB4 := Lib.hid (hb1.out.grown hg4 hbz fun g hg => (hown1.out.lt g hg).1)
          clear ho4 hg4
          go_wp2
          go_roundw
          case rel => exact ⟨x + 1, by omega, by go_num, by rw [show y * W + (x + 1) = k + 1 by have := HK.out; omega, HSK.out]; exact HO4, HB4⟩
          case measure => simp [intOf]; omega
        · obtain rfl : x = W := by omega
          go_wp2
          go_roundw
          case rel => exact ⟨y + 1, by omega, by go_num, by rw [HU.out]; exact hown1, hb1⟩
          case measure => simp [intOf]; omega
    · obtain rfl : y = H := by omega
      obtain ⟨A, c, rfl⟩ := row_form hown.out
      have HO := Lib.hid hown.out
      rw [HN.out] at HO
      go_wp2
      go_ret
      exact ⟨⟨A, c, _, (by first | rfl | (rw [HN.out]; rfl)), hz, HO.out⟩, HB.out.trans (hb.out.mono HB.out.size)⟩
end Go.Proofs.YtbcgidgjdedkiaaDoor
