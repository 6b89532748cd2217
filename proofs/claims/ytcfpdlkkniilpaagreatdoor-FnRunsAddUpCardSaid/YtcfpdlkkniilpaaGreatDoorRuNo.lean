/- Chapter 5: the law NoRunUpTo: numbers without a run of two or more, the powers of 2: by bits, and by binary texts. -/
import Derived.Test.YtcfpdlkkniilpaaGreatDoorRuO
import Derived.OwnWalk
import Derived.Laws.Bits64b
namespace Go.Proofs.YtcfpdlkkniilpaaGreatDoor
open Go.ChangeShapes Go.WideShapes Go.ChangeAt Go.RowKit

set_option maxRecDepth 4000 in
theorem infoInt : (Tryz.prog.info? 3).map (fun i => (i.zero, i.size, i.bytes)) = some (some (.int .i64 0), 1, 8) := by kernel_rfl
set_option maxRecDepth 4000 in
theorem bits_and_i64_nat (a b : Nat) (ha : a < 4611686018427387904) (hb : b < 4611686018427387904) :
    bits .and .i64 (a : Int) (b : Int) = ((a &&& b : Nat) : Int) := by
  have hx : a &&& b ≤ a := Nat.and_le_left
  have h1 : (BitVec.ofInt 64 (a : Int)).toNat = a := by
    rw [BitVec.ofInt_natCast, BitVec.toNat_ofNat]; exact Nat.mod_eq_of_lt (by omega)
  have h2 : (BitVec.ofInt 64 (b : Int)).toNat = b := by
    rw [BitVec.ofInt_natCast, BitVec.toNat_ofNat]; exact Nat.mod_eq_of_lt (by omega)
  show IntKind.i64.wrap ((BitVec.ofInt 64 (a : Int) &&& BitVec.ofInt 64 (b : Int)).toNat : Int) = _
  rw [BitVec.toNat_and, h1, h2]
  rw [IntKind.wrap_i64]
  omega
/-- The powers of 2 up to k. -/
def pows (k : Nat) : List Int := sel fW k
set_option maxRecDepth 4000 in
theorem pows_len (k : Nat) : (pows k).length ≤ k := sel_len fW k
set_option maxRecDepth 4000 in
theorem pows_yes (k : Nat) (h : pcf 13 (k + 1) = 1) : pows (k + 1) = pows k ++ [(k : Int) + 1] := sel_some fW k (by
  rw [fW, show ((k : Int) + 1).toNat = k + 1 by omega, if_pos h])
set_option maxRecDepth 4000 in
theorem pows_no (k : Nat) (h : ¬ pcf 13 (k + 1) = 1) : pows (k + 1) = pows k := sel_none fW k (by
  rw [fW, show ((k : Int) + 1).toNat = k + 1 by omega, if_neg h])
set_option maxRecDepth 4000 in
theorem pows_app (k : Nat) (h : pcf 13 (k + 1) = 1) : i64s (pows k) ++ [.int .i64 ((k : Int) + 1)] = i64s (pows (k + 1)) := by simp [pows_yes k h]
set_option maxRecDepth 4000 in
theorem pows_app_len (k : Nat) (h : pcf 13 (k + 1) = 1) : (pows k).length + 1 = (pows (k + 1)).length := by simp [pows_yes k h]
set_option maxRecDepth 4000 in
/-- The specification's test. -/
theorem spec_bits (k : Nat) (h : k < 5000) : bits BinOp.and IntKind.i64 ((k : Int) + 1) (k : Int) = (((k + 1) &&& k : Nat) : Int) ∧ ((k + 1) &&& k = 0 ↔ pcf 13 (k + 1) = 1) := by
  refine ⟨?_, ?_⟩
  · exact bits_and_i64_nat (k + 1) k (by omega) (by omega)
  · have p := pow_two (k + 1) (by omega) (by omega)
    rw [Nat.add_sub_cancel] at p
    rw [← beq_iff_eq, ← beq_iff_eq (a := pcf 13 (k + 1)), p]

set_option maxRecDepth 4000 in
theorem spec_NoRunUpTo_no (n : Int) (w : World) (h : n < 0 ∨ 5000 < n) :
    Calls Tryz.prog 21 #[.int .i64 n] w (ResI false [] w) := by
  have HA := Lib.hid (betr_no h)
  clear h
  go_enter Tryz.func21, Tryz.ntmps21
  go_wp2_with (go_at_call 46; refine (rin_any _ _ _ _).mono ?_; rw [HA.out]; rintro e w' ⟨rfl, rfl⟩)
  go_ret2
  exact resI_nil (Below.refl _ _)
set_option maxRecDepth 4000 in
theorem impl_NoRunUpTo_no (n : Int) (w : World) (h : n < 0 ∨ 5000 < n) :
    Calls Tryz.prog 20 #[.int .i64 n] w (ResI false [] w) := by
  have HA := Lib.hid (betr_no h)
  clear h
  go_enter Tryz.func20, Tryz.ntmps20
  go_wp2_with (go_at_call 43; refine (rwithin_any _ _ _ _).mono ?_; rw [HA.out]; rintro e w' ⟨rfl, rfl⟩)
  go_ret2
  exact resI_nil (Below.refl _ _)

set_option maxRecDepth 4000 in
set_option maxHeartbeats 1600000 in
theorem spec_NoRunUpTo_yes (n : Int) (w : World) (h0 : 0 ≤ n) (h1 : n ≤ 5000) :
    Calls Tryz.prog 21 #[.int .i64 n] w (ResI true (pows n.toNat) w) := by
  obtain ⟨i0, hi0, hz0, hz1, hz2⟩ := info_parts infoInt
  have HA := Lib.hid (betr_yes h0 h1)
  go_enter Tryz.func21, Tryz.ntmps21
  go_wp2_with (go_at_call 46; refine (rin_any _ _ _ _).mono ?_; rw [HA.out]; rintro e w' ⟨rfl, rfl⟩)
  go_loopw [4, 5] (fun v i wr => ∃ k : Nat, (k : Int) ≤ n ∧ i = .int .i64 ((k : Int) + 1) ∧ Hid (wr.ownsRow w.heap.size 3 1 v (pows k).length (i64s (pows k))) ∧ Below w.heap.size w wr) (fun _ i _ => (n + 1 - intOf i).toNat)
  case atStart => exact ⟨0, h0, by simp, Lib.hid (World.ownsRow_nil _ _ _ _), Below.refl _ _⟩
  case round =>
    obtain ⟨k, hk, rfl, hown, hb⟩ := hrel
    have hlen := pows_len k
    by_cases hlt : (k : Int) + 1 ≤ n
    · obtain ⟨hbt, hpw⟩ := spec_bits k (by omega)
      generalize hq : (k + 1) &&& k = q at hbt hpw
      clear hq
      by_cases hz : q = 0
      · subst hz
        have HP := Lib.hid (hpw.1 rfl)
        clear hpw
        go_wp2_with (at_builtin; refine wpList_append_own _ rfl _ _ 40 rfl w.heap.size 3 i0 (.int .i64 0) 1 8 Tryz.underlying40 hi0 hz0 hz1 hz2 rfl (by decide) _ _ _ rfl (hown.out.alloc _) ⟨wr.heap.size, 0, none⟩ 1 1 [.int .i64 ((k : Int) + 1)] rfl rfl ?c1 ?c2 ?c3 ?c4 ?c5 ?_)
        case c1 =>
          intro j u hj
          match j, hj with
          | 0, hj => simp at hj; subst hj; simp [Addr.add]
        case c2 => intro u hu; simp at hu; subst hu; rfl
        case c3 => unfold maxLen; omega
        case c4 => omega
        case c5 => have := hb.size; simp; omega
        · intro v' w1 hown' hgrow _
          rw [pows_app k HP.out, pows_app_len k HP.out] at hown'
          have hb1 : Below w.heap.size w w1 := (hb.alloc hb.size _).grown hgrow (by have := hb.size; simp; omega) fun g hg => (hown.out.lt g hg).1
          have HO := Lib.hid hown'
          clear hown' hown hgrow hb
          go_wp2
          go_roundw
          case rel => exact ⟨k + 1, by omega, by go_num, HO, hb1⟩
          case measure => simp [intOf]; omega
      · have HP : Hid (¬ pcf 13 (k + 1) = 1) := Lib.hid fun h => hz (hpw.2 h)
        clear hpw
        have hz2 : ¬ (q : Int) = 0 := by omega
        go_wp2
        go_roundw
        case rel => exact ⟨k + 1, by omega, by go_num, by rw [pows_no k HP.out]; exact hown, hb⟩
        case measure => simp [intOf]; omega
    · have hke : n.toNat = k := by omega
      have HK := Lib.hid hke
      clear hke
      obtain ⟨A, c, rfl⟩ := row_form hown.out
      go_wp2
      go_ret2
      rw [HK.out]
      exact ⟨A, c, rfl, (own_of_row hown.out), hb⟩

set_option maxRecDepth 4000 in
set_option maxHeartbeats 1600000 in
theorem impl_NoRunUpTo_yes (n : Int) (w : World) (h0 : 0 ≤ n) (h1 : n ≤ 5000) (hT : TabOne w) (hg : 2 < w.heap.size) :
    Calls Tryz.prog 20 #[.int .i64 n] w (ResI true (pows n.toNat) w) := by
  obtain ⟨i0, hi0, hz0, hz1, hz2⟩ := info_parts infoInt
  have HA := Lib.hid (betr_yes h0 h1)
  have HI : Hid (∀ (k : Nat) (W : World), k + 1 < 8192 → Below w.heap.size w W → Calls Tryz.prog 45 #[.int .i64 ((k : Int) + 1)] W fun e w' => e = .returned (.bool (decide (pcf 13 (k + 1) = 1))) ∧ Below W.heap.size W w') := Lib.hid fun k W hk hb => by
    have h := isPower_any ((k : Int) + 1) W (by omega) (by omega) (hT.below hb hg) (Nat.lt_of_lt_of_le hg hb.size)
    rw [show ((k : Int) + 1).toNat = k + 1 by omega] at h
    exact h
  clear hT
  go_enter Tryz.func20, Tryz.ntmps20
  go_wp2_with (go_at_call 43; refine (rwithin_any _ _ _ _).mono ?_; rw [HA.out]; rintro e w' ⟨rfl, rfl⟩)
  go_loopw [4, 5] (fun v i wr => ∃ k : Nat, (k : Int) ≤ n ∧ i = .int .i64 ((k : Int) + 1) ∧ Hid (wr.ownsRow w.heap.size 3 1 v (pows k).length (i64s (pows k))) ∧ Below w.heap.size w wr) (fun _ i _ => (n + 1 - intOf i).toNat)
  case atStart => exact ⟨0, h0, by simp, Lib.hid (World.ownsRow_nil _ _ _ _), Below.refl _ _⟩
  case round =>
    obtain ⟨k, hk, rfl, hown, hb⟩ := hrel
    have hlen := pows_len k
    by_cases hlt : (k : Int) + 1 ≤ n
    · by_cases hp : pcf 13 (k + 1) = 1
      · have HP := Lib.hid hp
        clear hp
        go_wp2_with (first
          | (go_at_call 45; refine (HI.out k _ (by omega) hb).mono ?_; rw [decide_eq_true HP.out]; rintro e w1 ⟨rfl, hb8⟩; have hown1 := Lib.hid (row_below hown.out hb8 (Nat.le_refl _)); have hb9 := hb.trans (hb8.mono hb.size); clear hown hb)
          | (at_builtin; refine wpList_append_own _ rfl _ _ 40 rfl w.heap.size 3 i0 (.int .i64 0) 1 8 Tryz.underlying40 hi0 hz0 hz1 hz2 rfl (by decide) _ _ _ rfl (hown1.out.alloc _) ⟨w1.heap.size, 0, none⟩ 1 1 [.int .i64 ((k : Int) + 1)] rfl rfl ?c1 ?c2 ?c3 ?c4 ?c5 ?_))
        case c1 =>
          intro j u hj
          match j, hj with
          | 0, hj => simp at hj; subst hj; simp [Addr.add]
        case c2 => intro u hu; simp at hu; subst hu; rfl
        case c3 => unfold maxLen; omega
        case c4 => omega
        case c5 => have := hb9.size; simp; omega
        · intro v' w2 hown' hgrow _
          rw [pows_app k HP.out, pows_app_len k HP.out] at hown'
          have hb1 : Below w.heap.size w w2 := (hb9.alloc hb9.size _).grown hgrow (by have := hb9.size; simp; omega) fun g hg => (hown1.out.lt g hg).1
          have HO := Lib.hid hown'
          clear hown' hown1 hgrow hb9
          go_wp2
          go_roundw
          case rel => exact ⟨k + 1, by omega, by go_num, HO, hb1⟩
          case measure => simp [intOf]; omega
      · have HP := Lib.hid hp
        clear hp
        go_wp2_with (go_at_call 45; refine (HI.out k _ (by omega) hb).mono ?_; rw [decide_eq_false HP.out]; rintro e w1 ⟨rfl, hb8⟩; have hown1 := Lib.hid (row_below hown.out hb8 (Nat.le_refl _)); have hb9 := hb.trans (hb8.mono hb.size); clear hown hb)
        go_roundw
        case rel => exact ⟨k + 1, by omega, by go_num, by rw [pows_no k HP.out]; exact hown1, hb9⟩
        case measure => simp [intOf]; omega
    · have hke : n.toNat = k := by omega
      have HK := Lib.hid hke
      clear hke
      obtain ⟨A, c, rfl⟩ := row_form hown.out
      go_wp2
      go_ret2
      rw [HK.out]
      exact ⟨A, c, rfl, (own_of_row hown.out), hb⟩
end Go.Proofs.YtcfpdlkkniilpaaGreatDoor
