/- Chapter 6: the program's side: windows. -/
import Derived.Test.YthnjjpiofgbngaaSjB
import Derived.Test.YthnjjpiofgbngaaSiG
namespace Go.Proofs.Ythnjjpiofgbngaa
open Go.ChangeShapes Go.WideShapes Go.ChangeAt Go.RowKit

theorem impl_WindowOf_no (x y wd hg : Int) (w : World) (h : wnOk x y wd hg = false) :
    Calls Try.prog 42 #[.agg #[.int .i64 x, .int .i64 y], .int .i64 wd, .int .i64 hg] w (ResSS false [] w) := by
  have HB : Hid (Below w.heap.size w (w.alloc (.cells #[.int .i64 x, .int .i64 y] 23))) := Lib.hid ((Below.refl _ _).alloc (Nat.le_refl _) _)
  cases hx : isSpot x y
  · have HX := Lib.hid hx
    clear h hx
    go_enter Try.func42, Try.ntmps42
    go_wp2_with (go_at_call 70; refine (imSpot_any _ _ _).mono ?_; rw [HX.out]; rintro e w1 ⟨rfl, hb1⟩; have HB := Lib.hid (HB.out.trans (hb1.mono HB.out.size)); clear hb1)
    go_ret2
    exact resSS_nil HB.out
  · cases hy : betr wd 0 20
    · have HX := Lib.hid hx
      have HY := Lib.hid hy
      clear h hx hy
      go_enter Try.func42, Try.ntmps42
      go_wp2_with (first
        | (go_at_call 70; refine (imSpot_any _ _ _).mono ?_; rw [HX.out]; rintro e w1 ⟨rfl, hb1⟩; have HB := Lib.hid (HB.out.trans (hb1.mono HB.out.size)); clear hb1)
        | (go_at_call 76; refine (rwithin_any _ _ _ _).mono ?_; (first | rw [HY.out]); rintro e w' ⟨rfl, rfl⟩))
      go_ret2
      exact resSS_nil HB.out
    · have HN : Hid (betr hg 0 20 = false) := Lib.hid (by simpa [wnOk, hx, hy] using h)
      have HX := Lib.hid hx
      have HY := Lib.hid hy
      clear h hx hy
      go_enter Try.func42, Try.ntmps42
      go_wp2_with (first
        | (go_at_call 70; refine (imSpot_any _ _ _).mono ?_; rw [HX.out]; rintro e w1 ⟨rfl, hb1⟩; have HB := Lib.hid (HB.out.trans (hb1.mono HB.out.size)); clear hb1)
        | (go_at_call 76; refine (rwithin_any _ _ _ _).mono ?_; (first | rw [HY.out] | rw [HN.out]); rintro e w' ⟨rfl, rfl⟩))
      go_ret2
      exact resSS_nil HB.out
theorem Box2.put {W : World} {B Q o : Nat} {a b v : Value} (h : Box2 W B a b) (hne : B ≠ Q) : Box2 (W.setCell ⟨Q, o, none⟩ v) B a b :=
  ⟨put_far h.c0 (fun e => hne e.1), put_far h.c1 (fun e => hne e.1), by simpa using h.z⟩
theorem keptw {W w1 : World} {a b : Value} {t R : Nat} (hb : Below (W.alloc (.cells #[a, b] t)).drew.heap.size (W.alloc (.cells #[a, b] t)).drew w1) (hR : W.heap.size = R) : BoxW w1 R a b := by
  subst hR
  exact (boxw_new W a b t).drew.below hb
theorem keptv {W w1 : World} {a b : Value} {t R : Nat} (hb : Below (W.alloc (.cells #[a, b] t)).heap.size (W.alloc (.cells #[a, b] t)) w1) (hR : W.heap.size = R) : BoxW w1 R a b := by
  subst hR
  exact (boxw_new W a b t).below hb
set_option maxRecDepth 4000 in
set_option maxHeartbeats 1600000 in
theorem impl_WindowOf_yes (x y wd hg : Int) (w : World) (h : wnOk x y wd hg = true) :
    Calls Try.prog 42 #[.agg #[.int .i64 x, .int .i64 y], .int .i64 wd, .int .i64 hg] w (ResSS true (wnd x y wd.toNat hg.toNat) w) := by
  obtain ⟨ir, hir, hzr0, hzr1, hzr2⟩ := info_parts infoRow2
  obtain ⟨hs, d0, d1, g0, g1⟩ := wnOk_bds h
  obtain ⟨x0, x1, y0, y1⟩ := isSpot_bds hs
  have HX := Lib.hid hs
  have HY := Lib.hid (betr_yes d0 d1)
  have HN := Lib.hid (betr_yes g0 g1)
  clear h hs
  obtain ⟨D, rfl⟩ := Int.eq_ofNat_of_zero_le d0
  obtain ⟨G, rfl⟩ := Int.eq_ofNat_of_zero_le g0
  rw [show (D : Int).toNat = D by omega, show (G : Int).toNat = G by omega]
  have HV : Hid (∀ (j R lo hi : Nat) (W : World), j < G → Own W lo hi (some ⟨R, 0, none⟩) (prs sqK.ss) → hi ≤ W.heap.size → Calls Try.prog 83 #[.agg #[.slice (some ⟨R, 0, none⟩) 4 4, .int .i64 2, .func (.func 96) #[] #[]], .agg #[.int .i64 x, .int .i64 (y - (j : Int))], .agg #[.int .i64 1, .int .i64 0], .int .i64 (D : Int)] W fun e w' => (∃ A c, e = .returned (.slice A D c) ∧ w'.ownsRow W.heap.size 3 1 (.slice A D c) D (i64s (wro x (y - (j : Int)) D))) ∧ Below W.heap.size W w') := Lib.hid fun j R lo hi W hj h hh => by
    have e : wro x (y - (j : Int)) D = rl (fun i => nu (x + (i : Int) * 1) (y - (j : Int) + (i : Int) * 0)) D := by simp [wro, rl]
    rw [e]
    refine numbersAlong_any R _ 4 D 2 x (y - (j : Int)) 1 0 _ W (by omega) (by omega) (by omega) (by omega) (by omega) (by omega) (by omega) (by omega) (by omega) fun i W2 hi hW => ?_
    exact sqNum (h.below hW hh) (Nat.le_trans hh hW.size) _ _ (by omega) (by omega) (by omega) (by omega)
  have HLD : Hid (∀ (j : Nat) (W : World), j < G → Calls Try.prog 84 #[.agg #[.int .i64 x, .int .i64 y], .agg #[.int .i64 0, .int .i64 (-1)], .int .i64 (j : Int)] W fun e w' => e = .returned (.agg #[.int .i64 x, .int .i64 (y - (j : Int))]) ∧ Below W.heap.size W w') := Lib.hid fun j W hj =>
    ledBy_any x y 0 (-1) j x (y - (j : Int)) W (led_small _ _ _ _ _ (by omega) (by omega) (by omega) (by omega) (by omega) (by omega) (by omega) (by omega) (by omega) (by omega)) (by omega) (by omega)
  have hg0 : (0 : Int) ≤ (G : Int) := by omega
  have hG : G ≤ 20 := by omega
  clear x0 x1 y0 y1 d0 d1 g0 g1
  have HB : Hid (Below w.heap.size w (w.alloc (.cells #[.int .i64 x, .int .i64 y] 23))) := Lib.hid ((Below.refl _ _).alloc (Nat.le_refl _) _)
  have HP := Lib.hid (box2_new w (.int .i64 x) (.int .i64 y) 23)
  go_enter Try.func42, Try.ntmps42
  go_wp2_with (first
    | (go_at_call 70; refine (imSpot_any _ _ _).mono ?_; rw [HX.out]; rintro e w1 ⟨rfl, hb1⟩; have HP := Lib.hid (HP.out.below hb1); have HB := Lib.hid (HB.out.trans (hb1.mono HB.out.size)); clear hb1)
    | (go_at_call 76; refine (rwithin_any _ _ _ _).mono ?_; (first | rw [HY.out] | rw [HN.out]); rintro e w' ⟨rfl, rfl⟩))
  have hB := (HB.out.alloc HB.out.size (.cells #[.int .i64 1, .int .i64 0] 53)).alloc (by have := HB.out.size; simp; omega) (.cells #[.int .i64 0, .int .i64 (-1)] 53)
  have hP := (HP.out.alloc (.cells #[.int .i64 1, .int .i64 0] 53)).alloc (.cells #[.int .i64 0, .int .i64 (-1)] 53)
  have hE := (box2_new w1 (.int .i64 1) (.int .i64 0) 53).alloc (.cells #[.int .i64 0, .int .i64 (-1)] 53)
  have hS := box2_new (w1.alloc (.cells #[.int .i64 1, .int .i64 0] 53)) (.int .i64 0) (.int .i64 (-1)) 53
  rw [show (w1.alloc (.cells #[.int .i64 1, .int .i64 0] 53)).heap.size = w1.heap.size + 1 by simp] at hS
  generalize (w1.alloc (.cells #[.int .i64 1, .int .i64 0] 53)).alloc (.cells #[.int .i64 0, .int .i64 (-1)] 53) = wb at *
  have HB0 := Lib.hid hB
  have HP0 := Lib.hid hP
  have HE0 := Lib.hid hE
  have HS0 := Lib.hid hS
  clear hB hP hE hS HB HP
  generalize w1.heap.size = Q1 at *
  go_loopw [29, 10] (fun i v wr => ∃ (k : Nat) (rs : List Value), k ≤ G ∧ i = .int .i64 (k : Int) ∧ rs.length ≤ k ∧ Hid (Lists wr wb.heap.size v rs (wnd x y D k)) ∧ Hid (Below wb.heap.size wb wr)) (fun i _ _ => G - (intOf i).toNat)
  case atStart => exact ⟨0, [], by omega, by simp, by simp, Lib.hid (Lists.nil _ _), Lib.hid (Below.refl _ _)⟩
  case round =>
    obtain ⟨k, rs, hk, rfl, hrk, HL, hb⟩ := hrel
    by_cases hlt : k < G
    · have hlt2 : (k : Int) < (G : Int) := by omega
      have HVk := Lib.hid fun R lo hi W h hh => HV.out k R lo hi W hlt h hh
      have HLk := Lib.hid fun W => HLD.out k W hlt
      go_upto_region 8 with fail
      have HPr := Lib.hid (HP0.out.below hb.out)
      have HSr := Lib.hid (HS0.out.below hb.out)
      go_cut [12] (fun s12 wx => ∃ Q, s12 = .pointer (some ⟨Q, 0, none⟩) ∧ Hid (wr.heap.size ≤ Q ∧ Below wr.heap.size wr wx ∧ Box2 wx Q (.int .i64 x) (.int .i64 (y - (k : Int)))))
      case first =>
        have HBr := Lib.hid (Below.refl wr.heap.size wr)
        have HNP := Lib.hid (Nat.ne_of_lt HPr.out.z)
        have HNS := Lib.hid (Nat.ne_of_lt HSr.out.z)
        have HQ := Lib.hid (Nat.le_refl wr.heap.size)
        go_region_held3 (fun w' => (w'.cell? ⟨w.heap.size, 0, none⟩ = some (.int .i64 x) ∧ w'.cell? ⟨w.heap.size, 1, none⟩ = some (.int .i64 y)) ∧ (w'.cell? ⟨Q1 + 1, 0, none⟩ = some (.int .i64 0) ∧ w'.cell? ⟨Q1 + 1, 1, none⟩ = some (.int .i64 (-1))))
          (first | with_reducible exact ⟨HPr.out.pair, HSr.out.pair⟩ | with_reducible exact ⟨HPr.out.drew.pair, HSr.out.drew.pair⟩ | with_reducible exact ⟨(HPr.out.alloc _).pair, (HSr.out.alloc _).pair⟩ | with_reducible exact ⟨(HPr.out.alloc _).drew.pair, (HSr.out.alloc _).drew.pair⟩ | with_reducible exact ⟨((HPr.out.put HNP.out).put HNP.out).pair, ((HSr.out.put HNS.out).put HNS.out).pair⟩)
          (first
            | (go_at_call 72; refine (vectorTo_any _ _ _).mono ?_; rintro e w2 ⟨rfl, hb2⟩;
                (first | (have HK := Lib.hid (keptw (R := wr.heap.size) hb2 rfl)) | skip);
                have HPr := Lib.hid (show Box2 w2 _ _ _ from (by first | with_reducible exact HPr.out.drew.below hb2 | with_reducible exact (HPr.out.alloc _).drew.below hb2));
                have HSr := Lib.hid (show Box2 w2 _ _ _ from (by first | with_reducible exact HSr.out.drew.below hb2 | with_reducible exact (HSr.out.alloc _).drew.below hb2));
                have HBr := Lib.hid (show Below wr.heap.size wr w2 from (by first | with_reducible exact HBr.out.drew.trans (hb2.mono HBr.out.drew.size) | with_reducible exact (HBr.out.alloc HBr.out.size _).drew.trans (hb2.mono (HBr.out.alloc HBr.out.size _).drew.size)));
                clear hb2)
            | (go_at_call 84; refine (HLk.out _).mono ?_; rintro e w3 ⟨rfl, hb3⟩;
                (first | (have HK := Lib.hid (HK.out.below hb3)) | (have HK := Lib.hid (keptv (R := w2.heap.size) hb3 rfl); have HNP := Lib.hid (Nat.ne_of_lt HPr.out.z); have HNS := Lib.hid (Nat.ne_of_lt HSr.out.z); have HQ := Lib.hid HBr.out.size) | skip);
                (first | (have k0 := HK.out.c0; have g0 := HK.out.f0; have k1 := HK.out.c1; have g1 := HK.out.f1) | skip);
                have HPr := Lib.hid (show Box2 w3 _ _ _ from (by first | with_reducible exact HPr.out.below hb3 | with_reducible exact (HPr.out.alloc _).below hb3));
                have HSr := Lib.hid (show Box2 w3 _ _ _ from (by first | with_reducible exact HSr.out.below hb3 | with_reducible exact (HSr.out.alloc _).below hb3));
                have HBr := Lib.hid (show Below wr.heap.size wr w3 from (by first | with_reducible exact HBr.out.trans (hb3.mono HBr.out.size) | with_reducible exact (HBr.out.alloc HBr.out.size _).trans (hb3.mono (HBr.out.alloc HBr.out.size _).size)));
                clear hb3))
        all_goals
          go_wp2_with fail
          go_meet
          first
            | exact ⟨_, rfl, Lib.hid ⟨HQ.out, (HBr.out.setCell HQ.out _).setCell HQ.out _, (put2 k0 k1 _ _).1, (put2 k0 k1 _ _).2, by simpa using HK.out.z⟩⟩
            | exact ⟨_, rfl, Lib.hid ⟨HBr.out.size, HBr.out.alloc HBr.out.size _, box2_new _ _ _ _⟩⟩
      case rest =>
      obtain ⟨Q, rfl, hw⟩ := hcut
      have HW := Lib.hid hw.out.2.1
      have HQb := Lib.hid hw.out.2.2
      have HE := Lib.hid ((HE0.out.below hb.out).below hw.out.2.1)
      have HNQ : Hid (some Q ≠ u10.ownBlock) := Lib.hid fun e => by have := (HL.out.2.1.lt _ e.symm).2; have := hw.out.1; omega
      have HNE : Hid (some Q1 ≠ u10.ownBlock) := Lib.hid fun e => by have := (HL.out.2.1.lt _ e.symm).1; have := HE0.out.z; omega
      clear hw HPr HSr HLk
      go_wp2_with fail
      go_region_held3 (fun w' => (w'.cell? ⟨Q, 0, none⟩ = some (.int .i64 x) ∧ w'.cell? ⟨Q, 1, none⟩ = some (.int .i64 (y - (k : Int)))) ∧ (w'.cell? ⟨Q1, 0, none⟩ = some (.int .i64 1) ∧ w'.cell? ⟨Q1, 1, none⟩ = some (.int .i64 0)))
        (first | with_reducible exact ⟨HQb.out.pair, HE.out.pair⟩ | with_reducible exact ⟨HQb.out.drew.pair, HE.out.drew.pair⟩ | with_reducible exact ⟨(HQb.out.alloc _).pair, (HE.out.alloc _).pair⟩)
        (first
          | (go_at_call 65; refine (squareSpiral_any _).mono ?_; rintro e w4 ⟨⟨R, rfl, hO⟩, hb4⟩; have HO := Lib.hid hO; have HQb := Lib.hid (HQb.out.drew.below hb4); have HE := Lib.hid (HE.out.drew.below hb4); have HW := Lib.hid (HW.out.drew.trans (hb4.mono HW.out.drew.size)); clear hO hb4)
          | (go_at_call 83; refine (HVk.out _ _ _ _ HO.out (Nat.le_refl _)).mono ?_; rintro e w5 ⟨⟨A, c, rfl, hrow⟩, hb5⟩; have HR := Lib.hid (hrow.mono HW.out.size); have HQb := Lib.hid (HQb.out.below hb5); have HE := Lib.hid (HE.out.below hb5); have HW := Lib.hid (HW.out.trans (hb5.mono HW.out.size)); have HLW := Lib.hid ((HL.out.below HW.out (Nat.le_refl _)).2.1.alloc (.cells #[.slice A D c] 36)); clear hrow hb5)
          | (refine step_append_lies _ rfl (.tmp 37) (.tmp 43) 45 rfl wb.heap.size 36 ir (.slice none 0 0) 1 24 Try.underlying45 hir hzr0 hzr1 hzr2 rfl (by decide) u10 rs.length rs (by simp [Act.eval]) HLW.out ⟨w5.heap.size, 0, none⟩ 1 1 [.slice A D c] (by simp [Act.eval]) rfl (sj_new w5 _ _) (by intro u hu; simp at hu; subst hu; rfl) (by omega) (by unfold maxLen; omega) (by omega) (by have := HW.out.size; have := hb.out.size; simp; omega) _ rfl ?_; intro g' cap w6 hown' hgrow hat hlt6; have HO6 := Lib.hid hown'; have HG6 := Lib.hid hgrow; have HQb := Lib.hid ((HQb.out.alloc _).far hgrow HNQ.out); have HE := Lib.hid ((HE.out.alloc _).far hgrow HNE.out); clear hown' hgrow hat))
      have HL2 : Hid (Lists w6 wb.heap.size (.slice (some ⟨g', 0, none⟩) (rs.length + 1) cap) (rs ++ [.slice A D c]) (wnd x y D (k + 1))) := Lib.hid (by
        rw [wnd_succ]
        exact HL.out.app HW.out hb.out.size (by rw [wro_len]; exact HR.out) HO6.out HG6.out)
      have HB6 : Hid (Below wb.heap.size wb w6) := Lib.hid (((hb.out.trans (HW.out.mono hb.out.size)).alloc (Nat.le_trans hb.out.size HW.out.size) _).grown HG6.out (by have := hb.out.size; have := HW.out.size; simp; omega) fun g hg => (HL.out.2.1.lt g hg).1)
      clear HQb HE HLW HW HR HO6 HG6 HL hb
      go_wp2
      go_roundw
      case rel => exact ⟨k + 1, _, by omega, by go_num, by simp; omega, HL2, HB6⟩
      case measure => simp [intOf]; omega
    · obtain rfl : k = G := by omega
      go_wp2
      go_ret2
      exact siSS_of (HL.out.wide HB0.out.size) (HB0.out.trans (hb.out.mono HB0.out.size))
end Go.Proofs.Ythnjjpiofgbngaa
