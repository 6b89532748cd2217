/- The law FnExactGreatestNeed: the greatest of the needs, whichever way the map is ranged over. No condition. -/
import Derived.Test.YtegbikakfckehaaDoorCoV
import Derived.Maps.RangeWalk
namespace Go.Proofs.YtegbikakfckehaaDoor
open Go.ChangeShapes Go.WideShapes Go.ChangeAt Go.RowKit Go.Maps

noncomputable def GN (s : Int) : Nat → Int
  | 0 => 0
  | k + 1 => max (GN s k) (need s k)
theorem gn_nn (s : Int) (k : Nat) : 0 ≤ GN s k := by
  induction k with
  | zero => simp [GN]
  | succ k ih => rw [GN]; omega
theorem gn_ge (s : Int) (k j : Nat) (h : j < k) : (need s j : Int) ≤ GN s k := by
  induction k with
  | zero => omega
  | succ k ih =>
    rw [GN]
    by_cases e : j = k
    · subst e; omega
    · have := ih (by omega); omega
theorem gn_le (s : Int) (k : Nat) (g : Int) (h0 : 0 ≤ g) (h : ∀ j : Nat, j < k → (need s j : Int) ≤ g) : GN s k ≤ g := by
  induction k with
  | zero => simpa [GN] using h0
  | succ k ih =>
    rw [GN]
    have := ih (fun j hj => h j (by omega))
    have := h k (by omega)
    omega
theorem gn_top (s : Int) (k : Nat) (h1 : 3 ≤ s) (h2 : s ≤ 24) (hk : k ≤ 3001) : GN s k ≤ 24 := gn_le s k 24 (by omega) fun j hj => by
  have := need_sides s j h1 h2 (by omega) (by omega)
  omega
theorem nd_out (s : Int) (k : Nat) (kl : Lit) (z : DataW Unit) (h : ∀ j : Nat, j < k → kl ≠ .int .i64 (j : Int)) : (ND s k).atKey kl z = z := by
  induction k with
  | zero => rfl
  | succ k ih =>
    rw [ND, atKey_put_other (h k (by omega))]
    exact ih fun j hj => h j (by omega)
theorem nd_in (s : Int) (k : Nat) (x c : Int) (h : ∀ zd : DataW Unit, (ND s k).atKey (.int .i64 x) zd = .lit (.int .i64 c)) : ∃ j : Nat, j < k ∧ x = j ∧ c = need s j := by
  by_cases hx : ∃ j : Nat, j < k ∧ x = j
  · obtain ⟨j, hj, rfl⟩ := hx
    have h1 := h (.lit (.int .i64 0))
    rw [nd_at s k j hj] at h1
    injection h1 with h1
    injection h1 with _ h1
    exact ⟨j, hj, rfl, h1.symm⟩
  · have h1 := h (.map [])
    rw [nd_out s k _ _ (fun j hj he => hx ⟨j, hj, by injection he⟩)] at h1
    cases h1
theorem nd_has (s : Int) (k j : Nat) (h : j < k) : Maps.has (ND s k) (.int .i64 (j : Int)) = true := has_true_of_atKey (fun z => nd_at s k j h z)
theorem same_int (x y : Int) (h : (!(Lit.int .i64 x).sameKey (.int .i64 y)) = false) : x = y := by
  simpa [Lit.sameKey] using h

theorem l1Most_any (a b : Int) (w : World) :
    Calls Tryd.prog 46 #[.int .i64 a, .int .i64 b] w fun e w' => e = .returned (.int .i64 (max a b)) ∧ w = w' := by
  by_cases h : a > b
  · have e : max a b = a := by omega
    have H := Lib.hid e
    clear e
    go_enter Tryd.func46, Tryd.ntmps46
    go_wp2
    go_ret
    exact ⟨by rw [H.out]; rfl, rfl⟩
  · have e : max a b = b := by omega
    have H := Lib.hid e
    clear e
    go_enter Tryd.func46, Tryd.ntmps46
    go_wp2
    go_ret
    exact ⟨by rw [H.out]; rfl, rfl⟩
theorem spec_GreatestNeed_yes (s : Int) (N : Nat) (w : World) (h1 : 3 ≤ s) (h2 : s ≤ 24) (hN : N ≤ 3000) :
    Calls Tryd.prog 19 #[.int .i64 s, .int .i64 N] w fun e w' => e = .returned (.tuple #[.int .i64 (GN s (N + 1)), .bool true]) ∧ Below w.heap.size w w' := by
  have i1 : (0 : Int) ≤ (N : Int) := by omega
  have i2 : (N : Int) ≤ 3000 := by omega
  go_enter Tryd.func19, Tryd.ntmps19
  go_wp2_with (first
    | (go_at_call 44; refine (suGood_yes _ _ _ h1 h2 i1 i2).mono ?_; rintro e w' ⟨rfl, rfl⟩)
    | (go_at_call 45; refine (suFewest_any _ _ _ h1 h2 hN).mono ?_; rintro e w1 ⟨⟨g, c, rfl, hr⟩, hb⟩))
  have HR := Lib.hid hr
  clear hr
  go_loopw [6, 17] (fun v i wr => ∃ k : Nat, k ≤ N + 1 ∧ i = .int .i64 k ∧ v = .int .i64 (GN s k) ∧ w1 = wr) (fun _ i _ => N + 1 - (intOf i).toNat)
  case atStart => exact ⟨0, Nat.zero_le _, rfl, rfl, rfl⟩
  case round =>
    obtain ⟨k, hk, rfl, rfl, rfl⟩ := hrel
    by_cases hlt : k < N + 1
    · have hi : (k : Int) < (N : Int) + 1 := by omega
      have hc := HR.out.cell (j := k) hlt
      have HG : Hid (GN s (k + 1) = max (GN s k) (need s k)) := Lib.hid rfl
      generalize GN s (k + 1) = g2 at *
      go_wp2_with (go_at_call 46; refine (l1Most_any _ _ _).mono ?_; rw [← HG.out]; rintro e w' ⟨rfl, rfl⟩)
      go_roundw
      case rel => exact ⟨k + 1, by omega, by go_num, by rw [HG.out]; rfl, by first | rfl | trivial⟩
      case measure => simp [intOf]; omega
    · obtain rfl : k = N + 1 := by omega
      rw [show ((N + 1 : Nat) : Int) = (N : Int) + 1 by omega]
      go_wp2
      go_ret2
      exact ⟨rfl, hb⟩
set_option maxHeartbeats 1600000 in
theorem impl_GreatestNeed_yes (s : Int) (N : Nat) (w : World) (h1 : 3 ≤ s) (h2 : s ≤ 24) (hN : N ≤ 3000) (ht : Tabd w) :
    Calls Tryd.prog 18 #[.int .i64 s, .int .i64 N] w fun e w' => e = .returned (.tuple #[.int .i64 (GN s (N + 1)), .bool true]) ∧ Below w.heap.size w w' := by
  have i1 : (0 : Int) ≤ (N : Int) := by omega
  have i2 : (N : Int) ≤ 3000 := by omega
  have HIN := Lib.hid (fun x c h => nd_in s (N + 1) x c h)
  have HHAS := Lib.hid (fun j h => nd_has s (N + 1) j h)
  have HGE := Lib.hid (fun j h => gn_ge s (N + 1) j h)
  have HLE := Lib.hid (fun g h0 h => gn_le s (N + 1) g h0 h)
  have g0 := gn_nn s (N + 1)
  have gt := gn_top s (N + 1) h1 h2 (by omega)
  generalize GN s (N + 1) = G at *
  have HTB := Lib.hid ht
  have HNP := Lib.hid fun w => numbersByPlace_any s N w h1 h2 hN
  have HNU := Lib.hid fun (base0 g0 c0 : Nat) (w : World) hnb hT hg => needsUpTo_any s N base0 g0 c0 w h1 h2 hN hnb hT hg
  generalize ND s (N + 1) = DD at *
  go_enter Tryd.func18, Tryd.ntmps18
  go_wp2_with (first
    | (go_at_call 38; refine (assum_yes _ _ _ h1 h2 i1 i2).mono ?_; rintro e w' ⟨rfl, rfl⟩)
    | (go_at_call 40; refine (HNP.out _).mono ?_; rintro e wn ⟨⟨gn, cn, rfl, hrn⟩, hbn⟩; have HRn := Lib.hid hrn; clear hrn)
    | (go_at_call 43; refine (HNU.out _ _ _ _ HRn.out (HTB.out.below hbn).tab (HTB.out.below hbn).lt).mono ?_; rintro e w1 ⟨⟨b, rfl, hle0, hm⟩, hbx⟩; have hb := hbn.trans (hbx.mono hbn.size); have hle := Nat.le_trans hbn.size hle0; have HM := Lib.hid hm; have HR1 := Lib.hid (HRn.out.below hbx (Nat.le_refl _)); clear hm hle0)
    | (at_range; refine wpList_range_own _ rfl _ 54 rfl 3 3 keyI Tryd.underlying54 _ b (N + 1) _ rfl HM.out ?_; intro w0 hrg0 hg0 hs0))
  go_frame
  have hb0 : Below w.heap.size w w0 := hb.grown hg0 hb.size (fun j hj => by cases hj)
  have HRG0 := Lib.hid hrg0
  have hws := hb.size
  clear hrg0 hg0
  go_loopw [6, 8] (fun g _ wr => ∃ (v : Int) (left : Lit → Bool) (cnt : Nat), g = .int .i64 v ∧ 0 ≤ v ∧ v ≤ G ∧ Hid (wr.ranges Tryd.prog 3 (plainElem (H := Unit) Tryd.prog 3) b w1.heap.size (N + 1) DD left cnt) ∧ Hid (∀ j : Nat, j < N + 1 → left (.int .i64 (j : Int)) = false → (need s j : Int) ≤ v) ∧ Below w.heap.size w wr)
    (fun _ _ wr => wr.rangeLeft b w1.heap.size)
  case atStart => exact ⟨0, _, _, rfl, Int.le_refl _, g0, HRG0, Lib.hid (fun j hj h => by rw [HHAS.out j hj] at h; cases h), hb0⟩
  case round =>
    obtain ⟨v, left, cnt, rfl, hv0, hv1, HRG, HDN, hb2⟩ := hrel
    go_wp2_with (at_next; refine wpList_next_ranges_ii _ rfl _ rfl 3 3 .i64 .i64 keyI Tryd.underlying3 Tryd.underlying3 b w1.heap.size (N + 1) _ _ _ rfl HRG.out ?_ ?_)
    · intro hc0 hl0
      have hE : v = G := by
        have := HLE.out v hv0 (fun j hj => HDN.out j hj (hl0 _))
        omega
      subst hE
      clear hl0
      go_wp2
      go_ret2
      exact ⟨rfl, hb2⟩
    · intro x c w2 cnt1 hwx hwc hlx hat hrg1 hlt hg1 hs1 hen
      obtain ⟨j, hj, rfl, hc⟩ := HIN.out x c hat
      have hcG : c ≤ G := by have := HGE.out j hj; omega
      have hc0 : 0 ≤ c := by omega
      have hm0 : 0 ≤ max v c := by omega
      have hm1 : max v c ≤ G := by omega
      have hb3 : Below w.heap.size w w2 := hb2.grown hg1 hb2.size (fun j hj => by cases hj; omega)
      have HR1 := Lib.hid hrg1
      have hml := hrg1.left_eq
      have hml0 := HRG.out.left_eq
      have HML := Lib.hid (show w2.rangeLeft b w1.heap.size < wr.rangeLeft b w1.heap.size by rw [hml, hml0]; omega)
      have HD1 : Hid (∀ i : Nat, i < N + 1 → (left (.int .i64 (i : Int)) && !(Lit.int .i64 (i : Int)).sameKey (.int .i64 (j : Int))) = false → (need s i : Int) ≤ max v c) := Lib.hid (fun i hi h => by
        cases hl : left (.int .i64 (i : Int)) with
        | false => have := HDN.out i hi hl; omega
        | true =>
          rw [hl, Bool.true_and] at h
          have := same_int _ _ h
          have e : i = j := by omega
          subst e
          omega)
      clear hat hrg1 hg1 hml hml0 hlx hwx hwc hc
      obtain ⟨g2, hg2⟩ : ∃ g2, g2 = max v c := ⟨_, rfl⟩
      go_wp2_with fail
      go_roundw
      case rel => exact ⟨max v c, _, _, by rw [show (if v < c then c else v) = max v c by split <;> omega], hm0, hm1, HR1, HD1, hb3⟩
      case measure => exact HML.out
theorem spec_GreatestNeed_no (s n : Int) (w : World) (h : (s < 3 ∨ 24 < s) ∨ (n < 0 ∨ 3000 < n)) :
    Calls Tryd.prog 19 #[.int .i64 s, .int .i64 n] w fun e w' => e = .returned (.tuple #[.int .i64 0, .bool false]) ∧ Below w.heap.size w w' := by
  have H := Lib.hid h
  clear h
  go_enter Tryd.func19, Tryd.ntmps19
  go_wp2_with (go_at_call 44; refine (suGood_no _ _ _ H.out).mono ?_; rintro e w' ⟨rfl, rfl⟩)
  go_ret2
  exact ⟨rfl, Below.refl _ _⟩
theorem impl_GreatestNeed_no (s n : Int) (w : World) (h : (s < 3 ∨ 24 < s) ∨ (n < 0 ∨ 3000 < n)) :
    Calls Tryd.prog 18 #[.int .i64 s, .int .i64 n] w fun e w' => e = .returned (.tuple #[.int .i64 0, .bool false]) ∧ Below w.heap.size w w' := by
  have H := Lib.hid h
  clear h
  go_enter Tryd.func18, Tryd.ntmps18
  go_wp2_with (go_at_call 38; refine (assum_no _ _ _ H.out).mono ?_; rintro e w' ⟨rfl, rfl⟩)
  go_ret2
  exact ⟨rfl, Below.refl _ _⟩
end Go.Proofs.YtegbikakfckehaaDoor
