/- HexBeside's list and its capacity. No condition. -/
import Derived.Test.YtkhjeleoppdjgacCapA
import Derived.Test.YtkhjeleoppdjgacAnU
namespace Go.Proofs.Ytkhjeleoppdjgac
open Go.ChangeShapes Go.WideShapes Go.ChangeAt Go.RowKit
set_option maxRecDepth 4000 in
set_option maxHeartbeats 1600000 in
theorem numbersBeside_cap (K : Kd) (R Fn m : Nat) (u s nn x y : Int) (F : Nat → Int) (w : World) (lo hi : Nat) (h : IsSp K R m u s w lo hi) (x0 : -100000 ≤ x) (x1 : x ≤ 100000) (y0 : -100000 ≤ y) (y1 : y ≤ 100000)
    (hV : ∀ W : World, Below w.heap.size w W → Calls Try.prog 85 #[.agg #[.slice (some ⟨R, 0, none⟩) m m, .int .i64 u, .func (.func Fn) #[] #[]], .int .i64 nn] W fun e w' => e = .returned (.agg #[.int .i64 x, .int .i64 y]) ∧ Below W.heap.size W w')
    (hN : ∀ (j : Nat) (W : World), j < m → Below w.heap.size w W → Calls Try.prog 95 #[.agg #[.slice (some ⟨R, 0, none⟩) m m, .int .i64 u, .func (.func Fn) #[] #[]], .agg #[.int .i64 (x + (K.st j).1), .int .i64 (y + (K.st j).2)]] W fun e w' => e = .returned (.int .i64 (F j)) ∧ Below W.heap.size W w') :
    Calls Try.prog 92 #[.agg #[.slice (some ⟨R, 0, none⟩) m m, .int .i64 u, .func (.func Fn) #[] #[]], .int .i64 nn] w fun e w' => (∃ A c, m ≤ c ∧ e = .returned (.slice A m c) ∧ Own w' w.heap.size w'.heap.size A (i64s (rl F m))) ∧ Below w.heap.size w w' := by
  obtain ⟨i0, hi0, hz0, hz1, hz2⟩ := info_parts sjInfo
  have HV := Lib.hid hV
  have HN := Lib.hid hN
  have hm := h.good.m0
  rw [h.hm] at hm
  obtain ⟨m4, m6⟩ := hm
  have HL : Hid (∀ (j : Nat) (W : World), Calls Try.prog 109 #[.agg #[.int .i64 x, .int .i64 y], .agg #[.int .i64 (K.st j).1, .int .i64 (K.st j).2], .int .i64 1] W fun e w' => e = .returned (.agg #[.int .i64 (x + (K.st j).1), .int .i64 (y + (K.st j).2)]) ∧ Below W.heap.size W w') := Lib.hid fun j W => by
    obtain ⟨s0, s1, s2, s3⟩ := h.good.st j
    exact ledBy_any x y _ _ 1 _ _ W (led_small _ _ _ _ _ (by omega) (by omega) (by omega) (by omega) s0 s1 s2 s3 (by omega) (by omega)) (by omega) (by omega)
  have HS : Hid (∀ W : World, Below w.heap.size w W → ∀ j, j < m → W.cell? ⟨R, j * 2, none⟩ = some (.int .i64 (K.st j).1) ∧ W.cell? ⟨R, j * 2 + 1, none⟩ = some (.int .i64 (K.st j).2) ∧ R < w.heap.size) := Lib.hid fun W hW j hj => by
    have hjl : j < K.ss.length := by have := h.hm; unfold Kd.m at this; omega
    obtain ⟨g, o, hA, hg1, hg2, q0, q1⟩ := (h.own.below hW h.hi).pair_ hjl
    obtain ⟨eg, rfl⟩ : g = R ∧ o = 0 := by simp at hA; omega
    subst eg
    have e : K.ss[j] = K.st j := by simp [Kd.st, List.getD, hjl]
    rw [Nat.zero_add] at q0 q1
    rw [e] at q0 q1
    have := h.hi
    exact ⟨q0, q1, by omega⟩
  clear hV hN x0 x1 y0 y1 h
  go_enter Try.func92, Try.ntmps92
  go_wp2_with fail
  have hB : Below w.heap.size w (w.alloc (.cells #[.slice (some ⟨R, 0, none⟩) m m, .int .i64 u, .func (.func Fn) #[] #[]] 69)) := (Below.refl _ _).alloc (Nat.le_refl _) _
  have hT := box3_new w (.slice (some ⟨R, 0, none⟩) m m) (.int .i64 u) (.func (.func Fn) #[] #[]) 69
  generalize w.alloc (.cells #[.slice (some ⟨R, 0, none⟩) m m, .int .i64 u, .func (.func Fn) #[] #[]] 69) = wa at *
  have HBa := Lib.hid hB
  have HTa := Lib.hid hT
  clear hB hT
  refine (HV.out _ HBa.out).mono ?_
  rintro e w1 ⟨rfl, hb1⟩
  have HT1 := Lib.hid (HTa.out.below hb1)
  have HB1 := Lib.hid (HBa.out.trans (hb1.mono HBa.out.size))
  clear hb1
  have d0 := HT1.out.c0
  go_upto_region 3 with fail
  have hP := box2_new w1 (.int .i64 x) (.int .i64 y) 65
  have hT := HT1.out.alloc (.cells #[.int .i64 x, .int .i64 y] 65)
  have hB := HB1.out.alloc HB1.out.size (.cells #[.int .i64 x, .int .i64 y] 65)
  generalize w1.alloc (.cells #[.int .i64 x, .int .i64 y] 65) = wb at *
  have HB := Lib.hid hB
  have HT := Lib.hid hT
  have HP := Lib.hid hP
  clear hB hT hP d0
  generalize w1.heap.size = Q at *
  have d0 := HT.out.c0
  go_wp2_with fail
  go_loopw [15, 6] (fun i v wr => ∃ j : Nat, j ≤ m ∧ i = .int .i64 (j : Int) ∧ Hid (wr.ownsRow wb.heap.size 3 1 v j (i64s (rl F j))) ∧ Hid (Below wb.heap.size wb wr)) (fun i _ _ => m - (intOf i).toNat)
  case atStart => exact ⟨0, by omega, by simp, Lib.hid (World.ownsRow_nil _ _ _ _), Lib.hid (Below.refl _ _)⟩
  case round =>
    obtain ⟨j, hj, rfl, hown, hb⟩ := hrel
    by_cases hlt : j < m
    · have hlt2 : (j : Int) < (m : Int) := by omega
      have HLj := Lib.hid fun W => HL.out j W
      have HNj := Lib.hid fun W hW => HN.out j W hlt hW
      have HA := Lib.hid (rl_app F j)
      have hBw := HB.out.trans (hb.out.mono HB.out.size)
      obtain ⟨q0, q1, hRz⟩ := HS.out wr hBw j hlt
      generalize F j = q at *
      generalize hpx : x + (K.st j).1 = px at *
      generalize hpy : y + (K.st j).2 = py at *
      generalize (K.st j).1 = sx at *
      generalize (K.st j).2 = sy at *
      clear hpx hpy
      go_upto_region 6 with fail
      have HTr := Lib.hid ((HT.out.below hb.out).alloc (.cells #[.int .i64 sx, .int .i64 sy] 65))
      have HPr := Lib.hid ((HP.out.below hb.out).alloc (.cells #[.int .i64 sx, .int .i64 sy] 65))
      have HSr := Lib.hid (box2_new wr (.int .i64 sx) (.int .i64 sy) 65)
      have HBw := Lib.hid (hBw.alloc hBw.size (.cells #[.int .i64 sx, .int .i64 sy] 65))
      have HBb := Lib.hid (hb.out.alloc hb.out.size (.cells #[.int .i64 sx, .int .i64 sy] 65))
      have HO := Lib.hid (row_below hown.out ((Below.refl wr.heap.size wr).alloc (Nat.le_refl _) (.cells #[.int .i64 sx, .int .i64 sy] 65)) (Nat.le_refl _))
      have HNE : Hid (some wr.heap.size ≠ u6.ownBlock) := Lib.hid fun e => by have := (hown.out.lt _ e.symm).2; omega
      clear hb hown hBw q0 q1 hRz
      generalize wr.alloc (.cells #[.int .i64 sx, .int .i64 sy] 65) = w0 at *
      generalize wr.heap.size = Z at *
      go_region_held3 (fun w' => (w'.cell? ⟨w.heap.size, 0, none⟩ = some (.slice (some ⟨R, 0, none⟩) m m) ∧ w'.cell? ⟨w.heap.size, 1, none⟩ = some (.int .i64 u) ∧ w'.cell? ⟨w.heap.size, 2, none⟩ = some (.func (.func Fn) #[] #[])) ∧ (w'.cell? ⟨Q, 0, none⟩ = some (.int .i64 x) ∧ w'.cell? ⟨Q, 1, none⟩ = some (.int .i64 y)) ∧ (w'.cell? ⟨Z, 0, none⟩ = some (.int .i64 sx) ∧ w'.cell? ⟨Z, 1, none⟩ = some (.int .i64 sy)))
        (first | with_reducible exact ⟨HTr.out.all, HPr.out.pair, HSr.out.pair⟩ | with_reducible exact ⟨HTr.out.drew.all, HPr.out.drew.pair, HSr.out.drew.pair⟩ | with_reducible exact ⟨(HTr.out.alloc _).all, (HPr.out.alloc _).pair, (HSr.out.alloc _).pair⟩)
        (first
          | (go_at_call 109; refine (HLj.out _).mono ?_; rintro e w1' ⟨rfl, hb1⟩; have HTr := Lib.hid (HTr.out.drew.below hb1); have HPr := Lib.hid (HPr.out.drew.below hb1); have HSr := Lib.hid (HSr.out.drew.below hb1); have HBw := Lib.hid (HBw.out.drew.trans (hb1.mono HBw.out.drew.size)); have HBb := Lib.hid (HBb.out.drew.trans (hb1.mono HBb.out.drew.size)); have HO := Lib.hid (row_below (row_below HO.out (Below.refl _ _).drew (Nat.le_refl _)) hb1 (Nat.le_refl _)); clear hb1)
          | (go_at_call 95; refine (HNj.out _ HBw.out).mono ?_; rintro e w2 ⟨rfl, hb2⟩; have HTr := Lib.hid (HTr.out.below hb2); have HPr := Lib.hid (HPr.out.below hb2); have HSr := Lib.hid (HSr.out.below hb2); have HBb := Lib.hid (HBb.out.trans (hb2.mono HBb.out.size)); have HO := Lib.hid (row_below HO.out hb2 (Nat.le_refl _)); have HLW := Lib.hid (HO.out.alloc (.cells #[.int .i64 q] 3)); clear hb2)
          | (refine step_append_lies _ rfl (.tmp 19) (.tmp 25) 31 rfl wb.heap.size 3 i0 (.int .i64 0) 1 8 Try.underlying31 hi0 hz0 hz1 hz2 rfl (by decide) u6 j (i64s (rl F j)) (by simp [Act.eval]) HLW.out ⟨w2.heap.size, 0, none⟩ 1 1 [.int .i64 q] (by simp [Act.eval]) rfl (sj_new w2 _ _) (by intro u hu; simp at hu; subst hu; rfl) (by omega) (by unfold maxLen; omega) (by omega) (by have := HBb.out.size; simp; omega) _ rfl ?_; intro g' cap w4 hown' hgrow hat hlt4; have HB4 := Lib.hid (((Below.refl wb.heap.size w2).alloc HBb.out.size (.cells #[.int .i64 q] 3)).grown hgrow (by have := HBb.out.size; simp; omega) fun g hg => (HLW.out.lt g hg).1); have HO4 := Lib.hid hown'; have HTr := Lib.hid (HTr.out.under HB4.out HT.out.z); have HPr := Lib.hid (HPr.out.under HB4.out HP.out.z); have HSr := Lib.hid ((HSr.out.alloc _).far hgrow HNE.out); clear hown' hgrow hat))
      have HO5 := Lib.hid (HA.out ▸ HO4.out)
      have HBB5 := Lib.hid (HBb.out.trans HB4.out)
      clear HO4 HB4 HTr HPr HSr HO HLW
      go_wp2
      go_roundw
      case rel => exact ⟨j + 1, by omega, by go_num, HO5, HBB5⟩
      case measure => simp [intOf]; omega
    · obtain rfl : j = m := by omega
      obtain ⟨A, c, rfl⟩ := row_form hown.out
      go_wp2
      go_ret
      exact ⟨⟨A, c, row_cap hown.out, rfl, (own_of_row hown.out).wide HB.out.size (Nat.le_refl _)⟩, HB.out.trans (hb.out.mono HB.out.size)⟩
set_option maxHeartbeats 800000 in
theorem impl_HexBeside_cap (n : Int) (w : World) (h0 : 0 ≤ n) (h1 : n ≤ 1000000) :
    Calls Try.prog 41 #[.int .i64 n] w (ResC true (hbe (hp n).1 (hp n).2 6) w) := by
  have HA := Lib.hid (betr_yes h0 h1)
  obtain ⟨b0, b1, b2, b3⟩ := hp_600 n h0 (by omega)
  have HV : Hid (∀ (R lo hi : Nat) (W : World), Own W lo hi (some ⟨R, 0, none⟩) (prs hxK.ss) → hi ≤ W.heap.size → Calls Try.prog 92 #[.agg #[.slice (some ⟨R, 0, none⟩) 6 6, .int .i64 1, .func (.func 116) #[] #[]], .int .i64 n] W fun e w' => (∃ A c, 6 ≤ c ∧ e = .returned (.slice A 6 c) ∧ Own w' W.heap.size w'.heap.size A (i64s (hbe (hp n).1 (hp n).2 6))) ∧ Below W.heap.size W w') := Lib.hid fun R lo hi W h hh => by
    have e : hbe (hp n).1 (hp n).2 6 = rl (fun j => hn ((hp n).1 + (hxK.st j).1) ((hp n).2 + (hxK.st j).2)) 6 := by rfl
    rw [e]
    have hs := hx_sp h hh
    refine numbersBeside_cap hxK R _ 6 1 6 n _ _ _ W lo hi hs (by omega) (by omega) (by omega) (by omega) (fun W2 hW => hxVec _ (h.below hW hh) (Nat.le_trans hh hW.size) n h0 (by omega)) fun j W2 hj hW => ?_
    obtain ⟨s0, s1, s2, s3⟩ := hs.good.st j
    exact hxNum (h.below hW hh) (Nat.le_trans hh hW.size) _ _ (by omega) (by omega) (by omega) (by omega)
  have HLN : Hid ((hbe (hp n).1 (hp n).2 6).length = 6) := Lib.hid (by rfl)
  clear h0 h1 b0 b1 b2 b3
  generalize hbe (hp n).1 (hp n).2 6 = xs at *
  have HB := Lib.hid (Below.refl w.heap.size w)
  go_enter Try.func41, Try.ntmps41
  go_wp2_with (first
    | (go_at_call 83; refine (isOn_any _ _).mono ?_; rw [HA.out]; rintro e w' ⟨rfl, rfl⟩)
    | (go_at_call 112; refine (hexagonSpiral_any _).mono ?_; rintro e w1 ⟨⟨R, rfl, hO⟩, hb1⟩; have HO := Lib.hid hO; have HB := Lib.hid (HB.out.trans (hb1.mono HB.out.size)); clear hO hb1)
    | (go_at_call 92; refine (HV.out _ _ _ _ HO.out (Nat.le_refl _)).mono ?_; rintro e w2 ⟨⟨A, c, hc6, rfl, hO2⟩, hb2⟩; have HC6 := Lib.hid hc6; clear hc6; have HR := Lib.hid hO2; have HB2 := Lib.hid (HB.out.trans (hb2.mono HB.out.size)); have HZ := Lib.hid HB.out.size; clear hO2 hb2))
  go_ret2
  exact ⟨A, c, by rw [HLN.out]; exact HC6.out, by rw [HLN.out]; rfl, HR.out.wide HZ.out (Nat.le_refl _), HB2.out⟩
theorem impl_HexBeside_c (n : Int) (w : World) : Calls Try.prog 41 #[.int .i64 n] w (ResC (n6B n) (hbV n) w) := by
  rcases Bool.eq_false_or_eq_true (n6B n) with h | h
  · have h0 := n6_iff.1 h
    simp only [hbV, h, cond_true]
    exact impl_HexBeside_cap n w h0.1 h0.2
  · simp only [hbV, h, cond_false]
    exact (impl_HexBeside_no n w (n6_no h)).mono fun _ _ h => resC_nil h
end Go.Proofs.Ytkhjeleoppdjgac
