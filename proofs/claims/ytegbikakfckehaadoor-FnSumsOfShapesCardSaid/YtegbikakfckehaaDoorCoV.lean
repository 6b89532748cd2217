/- The fewest parts, and the numbers that need most: the program's answers are the specification's. -/
import Derived.Test.YtegbikakfckehaaDoorCoU
namespace Go.Proofs.YtegbikakfckehaaDoor
open Go.ChangeShapes Go.WideShapes Go.ChangeAt Go.RowKit Go.Maps

theorem look_need (s : Int) (k j : Nat) (h : j < k) {c : Int} (hat : (ND s k).atKey (.int .i64 (j : Int)) (.lit (.int .i64 0)) = .lit (.int .i64 c)) : c = (need s j : Int) := by
  rw [nd_at s k j h] at hat
  injection hat with hat
  injection hat with _ hat
  exact hat.symm
theorem impl_FewestParts_no (s n : Int) (w : World) (h : (s < 3 ∨ 24 < s) ∨ (n < 0 ∨ 3000 < n)) :
    Calls Tryd.prog 27 #[.int .i64 s, .int .i64 n] w fun e w' => e = .returned (.tuple #[.int .i64 0, .bool false]) ∧ Below w.heap.size w w' := by
  have H := Lib.hid h
  clear h
  go_enter Tryd.func27, Tryd.ntmps27
  go_wp2_with (go_at_call 38; refine (assum_no _ _ _ H.out).mono ?_; rintro e w' ⟨rfl, rfl⟩)
  go_ret2
  exact ⟨rfl, Below.refl _ _⟩

theorem impl_FewestParts_yes (s : Int) (N : Nat) (w : World) (h1 : 3 ≤ s) (h2 : s ≤ 24) (hN : N ≤ 3000) (ht : Tabd w) :
    Calls Tryd.prog 27 #[.int .i64 s, .int .i64 N] w fun e w' => e = .returned (.tuple #[.int .i64 (need s N), .bool true]) ∧ Below w.heap.size w w' := by
  have i1 : (0 : Int) ≤ (N : Int) := by omega
  have i2 : (N : Int) ≤ 3000 := by omega
  have HTB := Lib.hid ht
  have HNP := Lib.hid fun w => numbersByPlace_any s N w h1 h2 hN
  have HNU := Lib.hid fun (base0 g0 c0 : Nat) (w : World) hnb hT hg => needsUpTo_any s N base0 g0 c0 w h1 h2 hN hnb hT hg
  generalize (pl s N).toNat = K at *
  go_enter Tryd.func27, Tryd.ntmps27
  go_wp2_with (first
    | (go_at_call 38; refine (assum_yes _ _ _ h1 h2 i1 i2).mono ?_; rintro e w' ⟨rfl, rfl⟩)
    | (go_at_call 40; refine (HNP.out _).mono ?_; rintro e wn ⟨⟨gn, cn, rfl, hrn⟩, hbn⟩; have HRn := Lib.hid hrn; clear hrn)
    | (go_at_call 43; refine (HNU.out _ _ _ _ HRn.out (HTB.out.below hbn).tab (HTB.out.below hbn).lt).mono ?_; rintro e w1 ⟨⟨b, rfl, hle0, hm⟩, hbx⟩; have hb := hbn.trans (hbx.mono hbn.size); have hle := Nat.le_trans hbn.size hle0; have HM := Lib.hid hm; have HR1 := Lib.hid (HRn.out.below hbx (Nat.le_refl _)); clear hm hle0)
    | (at_lookup; refine wpList_lookup_own_int _ rfl _ _ 54 rfl 3 3 .i64 keyI Tryd.underlying54 Tryd.underlying3 (zeroI _) b (N + 1) _ rfl HM.out _ _ rfl (keyOf_int_mk Tryd.underlying3 (wf64 _ (by omega) (by omega))) ?_; intro c hat hwc; have hce := look_need s (N + 1) N (by omega) hat; have HCE := Lib.hid hce; clear hat hwc hce))
  go_ret2
  rw [← HCE.out]
  exact ⟨rfl, hb⟩
theorem spec_NeedMost_no (s n : Int) (w : World) (h : (s < 3 ∨ 24 < s) ∨ (n < 0 ∨ 3000 < n)) :
    Calls Tryd.prog 17 #[.int .i64 s, .int .i64 n] w (ResI false [] w) := by
  have H := Lib.hid h
  clear h
  go_enter Tryd.func17, Tryd.ntmps17
  go_wp2_with (go_at_call 44; refine (suGood_no _ _ _ H.out).mono ?_; rintro e w' ⟨rfl, rfl⟩)
  go_ret2
  exact resI_nil (Below.refl _ _)
theorem impl_NeedMost_no (s n : Int) (w : World) (h : (s < 3 ∨ 24 < s) ∨ (n < 0 ∨ 3000 < n)) :
    Calls Tryd.prog 16 #[.int .i64 s, .int .i64 n] w (ResI false [] w) := by
  have H := Lib.hid h
  clear h
  go_enter Tryd.func16, Tryd.ntmps16
  go_wp2_with (go_at_call 38; refine (assum_no _ _ _ H.out).mono ?_; rintro e w' ⟨rfl, rfl⟩)
  go_ret2
  exact resI_nil (Below.refl _ _)

/-- The numbers in 1, .., k - 1 that need as many parts as there are sides. -/
noncomputable def nl (s : Int) : Nat → List Int
  | 0 => []
  | k + 1 => if 0 < k ∧ (need s k : Int) = s then nl s k ++ [(k : Int)] else nl s k
theorem nl_one (s : Int) : nl s 1 = [] := by rw [nl, if_neg (by omega)]; rfl
theorem nl_len (s : Int) (k : Nat) : (nl s k).length ≤ k := by
  induction k with
  | zero => simp [nl]
  | succ k ih =>
    rw [nl]
    split
    · simp; omega
    · omega
theorem nl_hit (s : Int) (k : Nat) (h1 : 0 < k) (h2 : (need s k : Int) = s) : nl s (k + 1) = nl s k ++ [(k : Int)] := by rw [nl, if_pos ⟨h1, h2⟩]
theorem nl_miss (s : Int) (k : Nat) (h : ¬ (0 < k ∧ (need s k : Int) = s)) : nl s (k + 1) = nl s k := by rw [nl, if_neg h]

set_option maxHeartbeats 1600000 in
theorem spec_NeedMost_yes (s : Int) (N : Nat) (w : World) (h1 : 3 ≤ s) (h2 : s ≤ 24) (hN : N ≤ 3000) :
    Calls Tryd.prog 17 #[.int .i64 s, .int .i64 N] w (ResI true (nl s (N + 1)) w) := by
  obtain ⟨i0, hi0, hz0, hz1, hz2⟩ := info_parts infoInt
  have i1 : (0 : Int) ≤ (N : Int) := by omega
  have i2 : (N : Int) ≤ 3000 := by omega
  go_enter Tryd.func17, Tryd.ntmps17
  go_wp2_with (first
    | (go_at_call 44; refine (suGood_yes _ _ _ h1 h2 i1 i2).mono ?_; rintro e w' ⟨rfl, rfl⟩)
    | (go_at_call 45; refine (suFewest_any _ _ _ h1 h2 hN).mono ?_; rintro e w1 ⟨⟨g, c, rfl, hr⟩, hb⟩))
  have HR := Lib.hid hr
  clear hr
  go_loopw [6, 17] (fun v i wr => ∃ k : Nat, k ≤ N + 1 ∧ i = .int .i64 k ∧ Hid (wr.ownsRow w1.heap.size 3 1 v (nl s k).length (i64s (nl s k))) ∧ Below w1.heap.size w1 wr) (fun _ i _ => N + 1 - (intOf i).toNat)
  case atStart => exact ⟨0, Nat.zero_le _, rfl, Lib.hid (World.ownsRow_nil _ _ _ _), Below.refl _ _⟩
  case round =>
    obtain ⟨k, hk, rfl, hown, hb2⟩ := hrel
    have hlz := nl_len s k
    by_cases hlt : k < N + 1
    · have hi : (k : Int) < (N : Int) + 1 := by omega
      have hc := (HR.out.below hb2 (Nat.le_refl _)).cell (j := k) hlt
      by_cases hz : 0 < k ∧ (need s k : Int) = s
      · have HZ := Lib.hid (nl_hit s k hz.1 hz.2)
        have hk0 : (0 : Int) < (k : Int) := by omega
        rw [hz.2] at hc
        clear hz
        go_wp2_with (at_builtin; refine wpList_append_own _ rfl _ _ 25 rfl w1.heap.size 3 i0 (.int .i64 0) 1 8 Tryd.underlying25 hi0 hz0 hz1 hz2 rfl (by decide) _ _ _ rfl (hown.out.alloc _) ⟨wr.heap.size, 0, none⟩ 1 1 [.int .i64 (k : Int)] rfl rfl ?c1 ?c2 ?c3 ?c4 ?c5 ?_)
        case c1 =>
          intro j u hj
          match j, hj with
          | 0, hj => simp at hj; subst hj; simp [Addr.add]
        case c2 => intro u hu; simp at hu; subst hu; rfl
        case c3 => unfold maxLen; omega
        case c4 => omega
        case c5 => have := hb2.size; simp; omega
        · intro v' w5 hown' hgrow _
          rw [snoc_i64] at hown'
          have hb5 : Below w1.heap.size w1 w5 := (hb2.alloc hb2.size _).grown hgrow (by have := hb2.size; simp; omega) fun g hg => (hown.out.lt g hg).1
          have HO : Hid (w5.ownsRow w1.heap.size 3 1 v' (nl s (k + 1)).length (i64s (nl s (k + 1)))) := Lib.hid (by rw [HZ.out]; simpa using hown')
          clear hown' hgrow hown hb2 hc
          go_wp2
          go_roundw
          case rel => exact ⟨k + 1, by omega, by go_num, HO, hb5⟩
          case measure => simp [intOf] <;> omega
      · have HO : Hid (wr.ownsRow w1.heap.size 3 1 u6 (nl s (k + 1)).length (i64s (nl s (k + 1)))) := Lib.hid (by rw [nl_miss s k hz]; exact hown.out)
        by_cases hk0 : k = 0
        · subst hk0
          clear hown hz
          go_wp2
          go_roundw
          case rel => exact ⟨0 + 1, by omega, by go_num, HO, hb2⟩
          case measure => simp [intOf] <;> omega
        · have hkp : (0 : Int) < (k : Int) := by omega
          have hne : ((need s k : Int) == s) = false := by
            have : ¬ (need s k : Int) = s := fun h => hz ⟨by omega, h⟩
            simpa using this
          generalize (need s k : Int) = x at *
          clear hown hz hk0
          go_wp2
          go_roundw
          case rel => exact ⟨k + 1, by omega, by go_num, HO, hb2⟩
          case measure => simp [intOf] <;> omega
    · obtain rfl : k = N + 1 := by omega
      obtain ⟨A, c, rfl⟩ := row_form hown.out
      go_wp2
      go_ret2
      exact ⟨A, c, rfl, (own_of_row hown.out).wide hb.size (Nat.le_refl _), hb.trans (hb2.mono hb.size)⟩

set_option maxHeartbeats 1600000 in
theorem impl_NeedMost_yes (s : Int) (N : Nat) (w : World) (h1 : 3 ≤ s) (h2 : s ≤ 24) (hN : N ≤ 3000) (ht : Tabd w) :
    Calls Tryd.prog 16 #[.int .i64 s, .int .i64 N] w (ResI true (nl s (N + 1)) w) := by
  obtain ⟨i0, hi0, hz0, hz1, hz2⟩ := info_parts infoInt
  have i1 : (0 : Int) ≤ (N : Int) := by omega
  have i2 : (N : Int) ≤ 3000 := by omega
  have HTB := Lib.hid ht
  have HNP := Lib.hid fun w => numbersByPlace_any s N w h1 h2 hN
  have HNU := Lib.hid fun (base0 g0 c0 : Nat) (w : World) hnb hT hg => needsUpTo_any s N base0 g0 c0 w h1 h2 hN hnb hT hg
  generalize (pl s N).toNat = K at *
  go_enter Tryd.func16, Tryd.ntmps16
  go_wp2_with (first
    | (go_at_call 38; refine (assum_yes _ _ _ h1 h2 i1 i2).mono ?_; rintro e w' ⟨rfl, rfl⟩)
    | (go_at_call 40; refine (HNP.out _).mono ?_; rintro e wn ⟨⟨gn, cn, rfl, hrn⟩, hbn⟩; have HRn := Lib.hid hrn; clear hrn)
    | (go_at_call 43; refine (HNU.out _ _ _ _ HRn.out (HTB.out.below hbn).tab (HTB.out.below hbn).lt).mono ?_; rintro e w1 ⟨⟨b, rfl, hle0, hm⟩, hbx⟩; have hb := hbn.trans (hbx.mono hbn.size); have hle := Nat.le_trans hbn.size hle0; have HM := Lib.hid hm; have HR1 := Lib.hid (HRn.out.below hbx (Nat.le_refl _)); clear hm hle0))
  have hbl := HM.out.lt
  go_loopw [7, 8] (fun v i wr => ∃ k : Nat, 1 ≤ k ∧ k ≤ N + 1 ∧ i = .int .i64 k ∧ Hid (wr.ownsRow w1.heap.size 3 1 v (nl s k).length (i64s (nl s k))) ∧ Below w1.heap.size w1 wr) (fun _ i _ => N + 1 - (intOf i).toNat)
  case atStart => exact ⟨1, Nat.le_refl _, by omega, rfl, Lib.hid (by rw [nl_one]; exact World.ownsRow_nil _ _ _ _), Below.refl _ _⟩
  case round =>
    obtain ⟨k, hk1, hk, rfl, hown, hb2⟩ := hrel
    have hlz := nl_len s k
    by_cases hlt : k < N + 1
    · have hi : (k : Int) ≤ (N : Int) := by omega
      have HMr := Lib.hid (HM.out.kept (row := none) ⟨hb2.os, hb2.tape, hb2.output, hb2.size, fun i hi _ => hb2.block i hi⟩ (by simp))
      by_cases hz : (need s k : Int) = s
      · have HZ := Lib.hid (nl_hit s k (by omega) hz)
        have HZ2 := Lib.hid hz
        clear hz
        go_wp2_with (first
          | (at_lookup; refine wpList_lookup_own_int _ rfl _ _ 54 rfl 3 3 .i64 keyI Tryd.underlying54 Tryd.underlying3 (zeroI _) b (N + 1) _ rfl HMr.out _ _ rfl (keyOf_int_mk Tryd.underlying3 (wf64 _ (by omega) (by omega))) ?_; intro c hat hwc; obtain rfl : c = s := (look_need s (N + 1) k hlt hat).trans HZ2.out; clear hat hwc)
          | (at_builtin; refine wpList_append_own _ rfl _ _ 25 rfl w1.heap.size 3 i0 (.int .i64 0) 1 8 Tryd.underlying25 hi0 hz0 hz1 hz2 rfl (by decide) _ _ _ rfl (hown.out.alloc _) ⟨wr.heap.size, 0, none⟩ 1 1 [.int .i64 (k : Int)] rfl rfl ?c1 ?c2 ?c3 ?c4 ?c5 ?_))
        case c1 =>
          intro j u hj
          match j, hj with
          | 0, hj => simp at hj; subst hj; simp [Addr.add]
        case c2 => intro u hu; simp at hu; subst hu; rfl
        case c3 => unfold maxLen; omega
        case c4 => omega
        case c5 => have := hb2.size; simp; omega
        · intro v' w5 hown' hgrow _
          rw [snoc_i64] at hown'
          have hb5 : Below w1.heap.size w1 w5 := (hb2.alloc hb2.size _).grown hgrow (by have := hb2.size; simp; omega) fun g hg => (hown.out.lt g hg).1
          have HO : Hid (w5.ownsRow w1.heap.size 3 1 v' (nl c (k + 1)).length (i64s (nl c (k + 1)))) := Lib.hid (by rw [HZ.out]; simpa using hown')
          clear hown' hgrow hown hb2
          go_wp2
          go_roundw
          case rel => exact ⟨k + 1, by omega, by omega, by go_num, HO, hb5⟩
          case measure => simp [intOf] <;> omega
      · have HO : Hid (wr.ownsRow w1.heap.size 3 1 u7 (nl s (k + 1)).length (i64s (nl s (k + 1)))) := Lib.hid (by rw [nl_miss s k (fun h => hz h.2)]; exact hown.out)
        have HZ2 := Lib.hid hz
        clear hown hz
        go_wp2_with (at_lookup; refine wpList_lookup_own_int _ rfl _ _ 54 rfl 3 3 .i64 keyI Tryd.underlying54 Tryd.underlying3 (zeroI _) b (N + 1) _ rfl HMr.out _ _ rfl (keyOf_int_mk Tryd.underlying3 (wf64 _ (by omega) (by omega))) ?_; intro c hat hwc; have hcne : (c == s) = false := (by (rw [look_need s (N + 1) k hlt hat]; simpa using HZ2.out)); clear hat hwc)
        go_roundw
        case rel => exact ⟨k + 1, by omega, by omega, by go_num, HO, hb2⟩
        case measure => simp [intOf] <;> omega
    · obtain rfl : k = N + 1 := by omega
      obtain ⟨A, c, rfl⟩ := row_form hown.out
      go_wp2
      go_ret2
      exact ⟨A, c, rfl, (own_of_row hown.out).wide hb.size (Nat.le_refl _), hb.trans (hb2.mono hb.size)⟩
end Go.Proofs.YtegbikakfckehaaDoor
