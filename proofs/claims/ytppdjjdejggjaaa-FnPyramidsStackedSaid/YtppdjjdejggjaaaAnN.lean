/- The law FnPyramidsStacked, walked: whatever the bytes it answers true. No condition. -/
import Derived.Test.YtppdjjdejggjaaaBase
import Derived.Test.YtppdjjdejggjaaaAnI
import Derived.Test.YtppdjjdejggjaaaDrE
import Derived.Lib.Hide
import Derived.Deep.Cut
import Derived.Deep.DeepCutAuto
namespace Go.Proofs.Ytppdjjdejggjaaa
open Go.ChangeShapes Go.WideShapes Go.ChangeAt Go.RowKit

set_option maxRecDepth 4000 in
set_option maxHeartbeats 16000000 in
theorem walk_PyramidsStacked (A' : Option Addr) (n' a' : Nat) (B' : Option Addr) (m' c' : Nat) (w : World) (hn : n' ≤ 9223372036854775807) (hx' : Bys w A' n') (hm' : m' ≤ 9223372036854775807) (hy' : Bys w B' m') :
    Calls Try.prog 9 #[.slice A' n' a', .slice B' m' c'] w fun e w' => e = .returned (.bool true) ∧ Below w.heap.size w w' := by
  rcases Bool.eq_false_or_eq_true (bgB n' m') with hg | hg
  · go_enter Try.func9, Try.ntmps9
    go_wp2_with (go_at_call 37; refine (big_any _ _ _ _ _ _ _ hn hm').mono ?_; rintro e w' ⟨rfl, rfl⟩)
    go_ret
    exact ⟨rfl, Below.refl _ _⟩
  obtain ⟨gg1, gg2⟩ := bg_no hg
  go_enter Try.func9, Try.ntmps9
  go_wp2_with (go_at_call 37; refine (big_any _ _ _ _ _ _ _ hn hm').mono ?_; rintro e w' ⟨rfl, rfl⟩)
  refine (DrawPyramidNumber_any A' n' a' _ hx' (by omega)).mono ?_
  rintro e w1 ⟨⟨s, l, rfl⟩, hb1⟩
  have HB := hb1
  clear hb1
  go_upto_if 89 with (first
      | (go_at_call 53; refine (impl_PyramidNumber_any _ _ _).mono ?_; rintro e w1 ⟨rfl, hb1⟩; replace HB := HB.trans (hb1.mono HB.size); clear hb1)
      | (go_at_call 61; refine (spec_PyramidNumber_any _ _ _).mono ?_; rintro e w1 ⟨rfl, hb1⟩; replace HB := HB.trans (hb1.mono HB.size); clear hb1))
  go_cut [4, 8, 10] (fun r _ _ wx => r = .bool false ∧ Below w.heap.size w wx)
  case first =>
    rcases Bool.eq_false_or_eq_true (pyB s l) with hy | hy
    · simp only [hy]
      obtain ⟨a1, a2, a3, a4, a5, a6, a7, a8⟩ := pyd_of hy
      rcases Int.lt_or_le 0 l with h0 | h0
      · obtain ⟨q1, q2, q3, q4, q5, q6, q7⟩ := pyt_of hy h0
        rcases Int.lt_or_le 200 l with h2 | h2
        · as_aux_lemma =>
          go_wp2_with (first
      | (go_at_call 62; refine (impl_LayersOfPyramid_any _ _ _).mono ?_; rintro e w1 ⟨rfl, hb1⟩; replace HB := HB.trans (hb1.mono HB.size); clear hb1)
      | (go_at_call 63; refine (impl_IsPyramidal_any _ _ _).mono ?_; rintro e w1 ⟨rfl, hb1⟩; replace HB := HB.trans (hb1.mono HB.size); clear hb1)
      | (go_at_call 53; refine (impl_PyramidNumber_any _ _ _).mono ?_; rintro e w1 ⟨rfl, hb1⟩; replace HB := HB.trans (hb1.mono HB.size); clear hb1)
      | (go_at_call 30; refine (impl_PolygonNumber_any _ _ _).mono ?_; rintro e w1 ⟨rfl, hb1⟩; replace HB := HB.trans (hb1.mono HB.size); clear hb1))
          go_meet
          exact ⟨rfl, HB⟩
        · obtain ⟨l1, l2, l3', l4, l5⟩ := pyl_few hy h2
          have l3 : (llL s l).length ≤ 1000000000 := by omega
          as_aux_lemma =>
          go_wp2_with (first
      | (go_at_call 62; refine (impl_LayersOfPyramid_any _ _ _).mono ?_; rintro e w1 ⟨rfl, hb1⟩; replace HB := HB.trans (hb1.mono HB.size); clear hb1)
      | (go_at_call 63; refine (impl_IsPyramidal_any _ _ _).mono ?_; rintro e w1 ⟨rfl, hb1⟩; replace HB := HB.trans (hb1.mono HB.size); clear hb1)
      | (go_at_call 53; refine (impl_PyramidNumber_any _ _ _).mono ?_; rintro e w1 ⟨rfl, hb1⟩; replace HB := HB.trans (hb1.mono HB.size); clear hb1)
      | (go_at_call 30; refine (impl_PolygonNumber_any _ _ _).mono ?_; rintro e w1 ⟨rfl, hb1⟩; replace HB := HB.trans (hb1.mono HB.size); clear hb1)
      | (go_at_call 64; refine (impl_LayerList_any _ _ _).mono ?_; rintro e w1 ⟨A1, c1, rfl, o1, b1⟩; replace HB := HB.trans (b1.mono HB.size); clear b1)
      | (go_at_call 65; refine (hSum_any A1 _ c1 _ _ _ _ rfl l3 o1 l5).mono ?_; rintro e w' ⟨rfl, rfl⟩))
          go_meet
          exact ⟨rfl, HB⟩
      · obtain ⟨l1, l2, l3', l4, l5⟩ := pyl_few hy (by omega)
        have l3 : (llL s l).length ≤ 1000000000 := by omega
        as_aux_lemma =>
        go_wp2_with (first
      | (go_at_call 62; refine (impl_LayersOfPyramid_any _ _ _).mono ?_; rintro e w1 ⟨rfl, hb1⟩; replace HB := HB.trans (hb1.mono HB.size); clear hb1)
      | (go_at_call 63; refine (impl_IsPyramidal_any _ _ _).mono ?_; rintro e w1 ⟨rfl, hb1⟩; replace HB := HB.trans (hb1.mono HB.size); clear hb1)
      | (go_at_call 53; refine (impl_PyramidNumber_any _ _ _).mono ?_; rintro e w1 ⟨rfl, hb1⟩; replace HB := HB.trans (hb1.mono HB.size); clear hb1)
      | (go_at_call 30; refine (impl_PolygonNumber_any _ _ _).mono ?_; rintro e w1 ⟨rfl, hb1⟩; replace HB := HB.trans (hb1.mono HB.size); clear hb1)
      | (go_at_call 64; refine (impl_LayerList_any _ _ _).mono ?_; rintro e w1 ⟨A1, c1, rfl, o1, b1⟩; replace HB := HB.trans (b1.mono HB.size); clear b1)
      | (go_at_call 65; refine (hSum_any A1 _ c1 _ _ _ _ rfl l3 o1 l5).mono ?_; rintro e w' ⟨rfl, rfl⟩))
        go_meet
        exact ⟨rfl, HB⟩
    · simp only [hy]
      go_wp2_with (fail)
      go_meet
      exact ⟨rfl, HB⟩
  case rest =>
    obtain ⟨rfl, HB⟩ := hcut
    as_aux_lemma =>
    go_wp2_with (fail)
    refine (DrawLayersOfPyramid_any B' m' c' _ (hy'.below HB (Nat.le_refl _)) (by omega)).mono ?_
    rintro e wv ⟨⟨s2, n, rfl⟩, hbv⟩
    replace HB := HB.trans (hbv.mono HB.size)
    clear hbv
    go_upto_region 27 with (first
      | (go_at_call 62; refine (impl_LayersOfPyramid_any _ _ _).mono ?_; rintro e w1 ⟨rfl, hb1⟩; replace HB := HB.trans (hb1.mono HB.size); clear hb1)
      | (go_at_call 66; refine (spec_LayersOfPyramid_any _ _ _).mono ?_; rintro e w1 ⟨rfl, hb1⟩; replace HB := HB.trans (hb1.mono HB.size); clear hb1)
      | (go_at_call 63; refine (impl_IsPyramidal_any _ _ _).mono ?_; rintro e w1 ⟨rfl, hb1⟩; replace HB := HB.trans (hb1.mono HB.size); clear hb1)
      | (go_at_call 67; refine (spec_IsPyramidal_any _ _ _).mono ?_; rintro e w1 ⟨rfl, hb1⟩; replace HB := HB.trans (hb1.mono HB.size); clear hb1))
    go_cut [221, 24, 26, 27, 28, 29, 30] (fun r _ _ _ _ _ _ wx => r = .bool false ∧ Below w.heap.size w wx)
    case first =>
      rcases Bool.eq_false_or_eq_true (tsB s2 n) with ht | ht
      · rcases Bool.eq_false_or_eq_true (lpB s2 n) with hl | hl
        · simp only [ht, hl]
          go_wp2_with (fail)
          go_meet
          exact ⟨rfl, HB⟩
        · simp only [ht, hl]
          go_wp2_with (fail)
          go_meet
          exact ⟨rfl, HB⟩
      · have hl : lpB s2 n = false := by simp [lpB, ht]
        simp only [ht, hl]
        go_wp2_with (fail)
        go_meet
        exact ⟨rfl, HB⟩
    case rest =>
      obtain ⟨rfl, HB⟩ := hcut
      as_aux_lemma =>
      go_wp2_with (fail)
      refine (DrawFrustumNumber_any B' m' c' _ (hy'.below HB (Nat.le_refl _)) (by omega)).mono ?_
      rintro e wv ⟨⟨t, f, o, rfl⟩, hbv⟩
      replace HB := HB.trans (hbv.mono HB.size)
      clear hbv
      go_wp2_with (first
      | (go_at_call 68; refine (impl_FrustumNumber_any _ _ _ _).mono ?_; rintro e w1 ⟨rfl, hb1⟩; replace HB := HB.trans (hb1.mono HB.size); clear hb1)
      | (go_at_call 69; refine (spec_FrustumNumber_any _ _ _ _).mono ?_; rintro e w1 ⟨rfl, hb1⟩; replace HB := HB.trans (hb1.mono HB.size); clear hb1))
      refine (DrawLayerList_any B' m' c' _ (hy'.below HB (Nat.le_refl _)) (by omega)).mono ?_
      rintro e wv ⟨⟨u, k, rfl⟩, hbv⟩
      replace HB := HB.trans (hbv.mono HB.size)
      clear hbv
      go_wp2_with (fail)
      refine (impl_LayerList_any u k _).mono ?_
      rintro e wa ⟨A2, c2, rfl, o2, b2⟩
      replace HB := HB.trans (b2.mono HB.size)
      go_wp2_with (fail)
      refine (spec_LayerList_any u k _).mono ?_
      rintro e wb ⟨A3, c3, rfl, o3, b3⟩
      replace HB := HB.trans (b3.mono HB.size)
      have o2b := o2.below b3 (Nat.le_refl _)
      go_wp2_with (fail)
      refine (DrawCannonballs_any B' m' c' _ (hy'.below HB (Nat.le_refl _)) (by omega)).mono ?_
      rintro e wq ⟨⟨a, b, m, rfl⟩, bq⟩
      replace HB := HB.trans (bq.mono HB.size)
      replace o2b := o2b.below bq b3.size
      replace o3 := o3.below bq (Nat.le_refl _)
      go_wp2_with (fail)
      refine (impl_Cannonballs_any a b m _).mono ?_
      rintro e wd ⟨A4, c4, rfl, o4, b4⟩
      replace HB := HB.trans (b4.mono HB.size)
      have o2c := o2b.below b4 (Nat.le_trans b3.size bq.size)
      have o3c := o3.below b4 bq.size
      go_wp2_with (fail)
      refine (spec_Cannonballs_any a b m _).mono ?_
      rintro e we ⟨A5, c5, rfl, o5, b5⟩
      replace HB := HB.trans (b5.mono HB.size)
      have o2d := o2c.below b5 (Nat.le_trans (Nat.le_trans b3.size bq.size) b4.size)
      have o3d := o3c.below b5 (Nat.le_trans bq.size b4.size)
      have o4d := o4.below b5 (Nat.le_refl _)
      have hhi : wd.heap.size ≤ we.heap.size := b5.size
      clear o2 o3 o4 o2b o2c o3c b2 b3 b4 b5 bq
      go_wp2_with (fail)
      refine (hSame_same A2 A3 _ c2 c3 _ _ _ _ _ _ rfl (ll_len u k) o2d o3d).mono ?_
      rintro e wf ⟨rfl, qa, rfl⟩
      clear o2d o3d
      go_wp2_with (fail)
      refine (hSame_same A4 A5 _ c4 c5 _ _ _ _ _ _ rfl (cb_len a b m) (o4d.drewN _) (o5.drewN _)).mono ?_
      rintro e wf ⟨rfl, qb, rfl⟩
      clear o5
      have HE : Below we.heap.size we ((we.drewN qa).drewN qb) := below_drewN (below_drewN (Below.refl _ _) _) _
      have HW := HB
      replace HB := HE
      clear HE
      go_upto_region 40 with (fail)
      have HD : Below we.heap.size we (we.drewN (qa + qb)) := below_drewN (Below.refl _ _) _
      go_cut [314, 35, 37] (fun r _ _ wx => r = .bool (frB t f o && decide (f ≤ o)) ∧ Below we.heap.size we wx)
      case first =>
        rcases Bool.eq_false_or_eq_true (frB t f o) with hf | hf
        · simp only [hf]
          by_cases hc : f ≤ o
          · as_aux_lemma =>
            go_wp2_with (fail)
            go_meet
            exact ⟨by simp [hc, hf], HD⟩
          · as_aux_lemma =>
            go_wp2_with (fail)
            go_meet
            exact ⟨by simp [hc], HD⟩
        · as_aux_lemma =>
          simp only [hf]
          go_wp2_with (fail)
          go_meet
          exact ⟨by simp [hf], HD⟩
      case rest =>
        obtain ⟨rfl, HB⟩ := hcut
        as_aux_lemma =>
        go_upto_if 314 with (fail)
        go_cut [4] (fun r wx => r = .bool false ∧ Below we.heap.size we wx)
        case first =>
          rcases Bool.eq_false_or_eq_true (frB t f o && decide (f ≤ o)) with hf | hf
          · simp only [hf]
            simp only [Bool.and_eq_true, decide_eq_true_eq] at hf
            obtain ⟨f1, f2, f3, f4, f9, f5, f6, f7, f8⟩ := frs_of hf.1 hf.2
            clear hf
            as_aux_lemma =>
            go_wp2_with (first
      | (go_at_call 53; refine (impl_PyramidNumber_any _ _ _).mono ?_; rintro e w1 ⟨rfl, hb1⟩; replace HB := HB.trans (hb1.mono HB.size); clear hb1))
            go_meet
            exact ⟨rfl, HB⟩
          · as_aux_lemma =>
            simp only [hf]
            go_wp2_with (fail)
            go_meet
            exact ⟨rfl, HB⟩
        case rest =>
          obtain ⟨rfl, HB⟩ := hcut
          as_aux_lemma =>
          have o4e := o4d.below HB hhi
          have HZ := HW.trans (HB.mono HW.size)
          have hh2 : wd.heap.size ≤ wc.heap.size := Nat.le_trans hhi HB.size
          clear HW HB o4d
          go_upto_if 341 with (fail)
          rcases Bool.eq_false_or_eq_true (cbB a b m) with hb | hb
          · simp only [hb]
            have len := cb_len a b m
            have HO := Lib.hid o4e
            have hris := Lib.hid (cbl_ris hb)
            have hfac := Lib.hid (cbl_fact hb)
            have hone := Lib.hid (cbl_one hb)
            obtain ⟨xs, hx⟩ : ∃ xs, xs = cbL a b m := ⟨_, rfl⟩
            rw [← hx] at HO hris hfac hone len
            have HX : Hid (xs = cbL a b m) := Lib.hid hx
            simp only [← hx]
            clear hx o4e
            rcases Int.lt_or_le 0 m with hm | hm
            · obtain ⟨z1, z2⟩ := hone.out hm
              obtain ⟨g1, o1, rfl, hc0⟩ := HO.out.num (k := 0) z1
              rw [z2, Nat.add_zero] at hc0
              have hz : (0 : Int) < (xs.length : Int) := by omega
              clear z1 z2
              go_wp2_with (go_at_call 74; refine (hRises_any _ _ c4 _ _ xs _ rfl len HO.out hris.out).mono ?_; rintro e wr ⟨rfl, q, rfl⟩)
              go_loopw [362] (fun i wr => ∃ j : Nat, j ≤ xs.length ∧ i = .int .i64 j ∧ Below wc.heap.size wc wr) (fun i _ => xs.length - (intOf i).toNat)
              case atStart => exact ⟨0, Nat.zero_le _, rfl, below_drewN (Below.refl _ _) _⟩
              case round =>
                obtain ⟨j, hj, rfl, HB⟩ := hrel
                by_cases hlt : j < xs.length
                · obtain ⟨g2, o2, e2, hc2⟩ := (HO.out.below HB hh2).num hlt
                  injection e2 with e2
                  injection e2 with e3 e4 _
                  subst e3
                  subst e4
                  obtain ⟨y1, y2, y3, y4⟩ := hfac.out j hlt
                  generalize xs.getD j 0 = x at *
                  have hi : (j : Int) < (xs.length : Int) := by omega
                  as_aux_lemma =>
                  go_wp2_with (first
      | (go_at_call 53; refine (impl_PyramidNumber_any _ _ _).mono ?_; rintro e w1 ⟨rfl, hb1⟩; replace HB := HB.trans (hb1.mono HB.size); clear hb1)
      | (go_at_call 19; refine (impl_IsPolygonal_any _ _ _).mono ?_; rintro e w1 ⟨rfl, hb1⟩; replace HB := HB.trans (hb1.mono HB.size); clear hb1))
                  go_roundw
                  case rel => exact ⟨j + 1, by omega, by go_num, HB⟩
                  case measure => simp [intOf]; omega
                · as_aux_lemma =>
                  go_wp2
                  go_ret
                  exact ⟨rfl, HZ.trans (HB.mono HZ.size)⟩
            · go_wp2_with (go_at_call 74; refine (hRises_any _ _ c4 _ _ xs _ rfl len HO.out hris.out).mono ?_; rintro e wr ⟨rfl, q, rfl⟩)
              go_loopw [362] (fun i wr => ∃ j : Nat, j ≤ xs.length ∧ i = .int .i64 j ∧ Below wc.heap.size wc wr) (fun i _ => xs.length - (intOf i).toNat)
              case atStart => exact ⟨0, Nat.zero_le _, rfl, below_drewN (Below.refl _ _) _⟩
              case round =>
                obtain ⟨j, hj, rfl, HB⟩ := hrel
                by_cases hlt : j < xs.length
                · obtain ⟨g2, o2, e2, hc2⟩ := (HO.out.below HB hh2).num hlt
                  subst e2
                  obtain ⟨y1, y2, y3, y4⟩ := hfac.out j hlt
                  generalize xs.getD j 0 = x at *
                  have hi : (j : Int) < (xs.length : Int) := by omega
                  as_aux_lemma =>
                  go_wp2_with (first
      | (go_at_call 53; refine (impl_PyramidNumber_any _ _ _).mono ?_; rintro e w1 ⟨rfl, hb1⟩; replace HB := HB.trans (hb1.mono HB.size); clear hb1)
      | (go_at_call 19; refine (impl_IsPolygonal_any _ _ _).mono ?_; rintro e w1 ⟨rfl, hb1⟩; replace HB := HB.trans (hb1.mono HB.size); clear hb1))
                  go_roundw
                  case rel => exact ⟨j + 1, by omega, by go_num, HB⟩
                  case measure => simp [intOf]; omega
                · as_aux_lemma =>
                  go_wp2
                  go_ret
                  exact ⟨rfl, HZ.trans (HB.mono HZ.size)⟩
          · as_aux_lemma =>
            simp only [hb]
            go_wp2
            go_ret
            exact ⟨rfl, HZ⟩
end Go.Proofs.Ytppdjjdejggjaaa
