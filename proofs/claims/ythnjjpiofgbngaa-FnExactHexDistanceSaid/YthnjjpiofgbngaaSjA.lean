/- Chapter 6: numbers at spots in a row, by the program. -/
import Derived.Test.YthnjjpiofgbngaaSiZ
import Derived.Test.YthnjjpiofgbngaaRuL
import Derived.Deep.AppendLies
import Derived.Deep.Onto
namespace Go.Proofs.Ythnjjpiofgbngaa
open Go.ChangeShapes Go.WideShapes Go.ChangeAt Go.RowKit

theorem sjInfo : (Try.prog.info? 3).map (fun i => (i.zero, i.size, i.bytes)) = some (some (.int .i64 0), 1, 8) := by kernel_rfl
theorem sj_new (w : World) (a : Value) (t : TypeId) : ∀ j u, [a][j]? = some u → (w.alloc (.cells #[a] t)).cell? ((⟨w.heap.size, 0, none⟩ : Addr).add j) = some u := by
  intro j u hj
  match j, hj with
  | 0, hj => simp at hj; subst hj; simp [Addr.add]
/-- The first values of a function. -/
def rl (F : Nat → Int) (k : Nat) : List Int := (List.range k).map F
theorem rl_app (F : Nat → Int) (k : Nat) : i64s (rl F k) ++ [.int .i64 (F k)] = i64s (rl F (k + 1)) := by simp [rl, List.range_succ]
theorem rl_len (F : Nat → Int) (k : Nat) : (rl F k).length = k := by simp [rl]
theorem Box2.pair {W : World} {B : Nat} {a b : Value} (h : Box2 W B a b) : W.cell? ⟨B, 0, none⟩ = some a ∧ W.cell? ⟨B, 1, none⟩ = some b := ⟨h.c0, h.c1⟩
set_option maxRecDepth 4000 in
set_option maxHeartbeats 1600000 in
theorem numbersAlong_any (R Fn m n : Nat) (u fx fy dx dy : Int) (F : Nat → Int) (w : World) (x0 : -100000 ≤ fx) (x1 : fx ≤ 100000) (y0 : -100000 ≤ fy) (y1 : fy ≤ 100000) (u0 : -1 ≤ dx) (u1 : dx ≤ 1) (v0 : -1 ≤ dy) (v1 : dy ≤ 1) (hn : n ≤ 400)
    (hN : ∀ (j : Nat) (W : World), j < n → Below w.heap.size w W → Calls Try.prog 71 #[.agg #[.slice (some ⟨R, 0, none⟩) m m, .int .i64 u, .func (.func Fn) #[] #[]], .agg #[.int .i64 (fx + (j : Int) * dx), .int .i64 (fy + (j : Int) * dy)]] W fun e w' => e = .returned (.int .i64 (F j)) ∧ Below W.heap.size W w') :
    Calls Try.prog 83 #[.agg #[.slice (some ⟨R, 0, none⟩) m m, .int .i64 u, .func (.func Fn) #[] #[]], .agg #[.int .i64 fx, .int .i64 fy], .agg #[.int .i64 dx, .int .i64 dy], .int .i64 (n : Int)] w fun e w' => (∃ A c, e = .returned (.slice A n c) ∧ w'.ownsRow w.heap.size 3 1 (.slice A n c) n (i64s (rl F n))) ∧ Below w.heap.size w w' := by
  obtain ⟨i0, hi0, hz0, hz1, hz2⟩ := info_parts sjInfo
  have HN := Lib.hid hN
  have HL : Hid (∀ (j : Nat) (W : World), j < n → Calls Try.prog 84 #[.agg #[.int .i64 fx, .int .i64 fy], .agg #[.int .i64 dx, .int .i64 dy], .int .i64 (j : Int)] W fun e w' => e = .returned (.agg #[.int .i64 (fx + (j : Int) * dx), .int .i64 (fy + (j : Int) * dy)]) ∧ Below W.heap.size W w') := Lib.hid fun j W hj =>
    ledBy_any fx fy dx dy j _ _ W (led_small _ _ _ _ _ (by omega) (by omega) (by omega) (by omega) u0 u1 v0 v1 (by omega) (by omega)) rfl rfl
  clear hN x0 x1 y0 y1 u0 u1 v0 v1
  have hn0 : (0 : Int) ≤ (n : Int) := by omega
  go_enter Try.func83, Try.ntmps83
  go_wp2_with fail
  have hB := bl3 w (.cells #[.slice (some ⟨R, 0, none⟩) m m, .int .i64 u, .func (.func Fn) #[] #[]] 57) (.cells #[.int .i64 fx, .int .i64 fy] 53) (.cells #[.int .i64 dx, .int .i64 dy] 53)
  have hT := ((box3_new w (.slice (some ⟨R, 0, none⟩) m m) (.int .i64 u) (.func (.func Fn) #[] #[]) 57).alloc (.cells #[.int .i64 fx, .int .i64 fy] 53)).alloc (.cells #[.int .i64 dx, .int .i64 dy] 53)
  have hP := (box2_new (w.alloc (.cells #[.slice (some ⟨R, 0, none⟩) m m, .int .i64 u, .func (.func Fn) #[] #[]] 57)) (.int .i64 fx) (.int .i64 fy) 53).alloc (.cells #[.int .i64 dx, .int .i64 dy] 53)
  have hS := box2_new ((w.alloc (.cells #[.slice (some ⟨R, 0, none⟩) m m, .int .i64 u, .func (.func Fn) #[] #[]] 57)).alloc (.cells #[.int .i64 fx, .int .i64 fy] 53)) (.int .i64 dx) (.int .i64 dy) 53
  rw [show (w.alloc (.cells #[.slice (some ⟨R, 0, none⟩) m m, .int .i64 u, .func (.func Fn) #[] #[]] 57)).heap.size = w.heap.size + 1 by simp] at hP
  rw [show ((w.alloc (.cells #[.slice (some ⟨R, 0, none⟩) m m, .int .i64 u, .func (.func Fn) #[] #[]] 57)).alloc (.cells #[.int .i64 fx, .int .i64 fy] 53)).heap.size = w.heap.size + 1 + 1 by simp] at hS
  generalize ((w.alloc (.cells #[.slice (some ⟨R, 0, none⟩) m m, .int .i64 u, .func (.func Fn) #[] #[]] 57)).alloc (.cells #[.int .i64 fx, .int .i64 fy] 53)).alloc (.cells #[.int .i64 dx, .int .i64 dy] 53) = wb at *
  have HB := Lib.hid hB
  have HT := Lib.hid hT
  have HP := Lib.hid hP
  have HS := Lib.hid hS
  clear hB hT hP hS
  go_loopw [12, 9] (fun i v wr => ∃ j : Nat, j ≤ n ∧ i = .int .i64 (j : Int) ∧ Hid (wr.ownsRow wb.heap.size 3 1 v j (i64s (rl F j))) ∧ Hid (Below wb.heap.size wb wr)) (fun i _ _ => n - (intOf i).toNat)
  case atStart => exact ⟨0, by omega, by simp, Lib.hid (World.ownsRow_nil _ _ _ _), Lib.hid (Below.refl _ _)⟩
  case round =>
    obtain ⟨j, hj, rfl, hown, hb⟩ := hrel
    by_cases hlt : j < n
    · have hlt2 : (j : Int) < (n : Int) := by omega
      have HTr := Lib.hid (HT.out.below hb.out)
      have HPr := Lib.hid (HP.out.below hb.out)
      have HSr := Lib.hid (HS.out.below hb.out)
      have HLj := Lib.hid fun W => HL.out j W hlt
      have HNj := Lib.hid fun W hW => HN.out j W hlt hW
      have HA := Lib.hid (rl_app F j)
      have HBw := Lib.hid (HB.out.trans (hb.out.mono HB.out.size))
      have HBb := hb
      have HO := hown
      generalize F j = q at *
      generalize fx + (j : Int) * dx = px at *
      generalize fy + (j : Int) * dy = py at *
      clear hb hown
      go_wp2_with fail
      go_region_held3 (fun w' => (w'.cell? ⟨w.heap.size, 0, none⟩ = some (.slice (some ⟨R, 0, none⟩) m m) ∧ w'.cell? ⟨w.heap.size, 1, none⟩ = some (.int .i64 u) ∧ w'.cell? ⟨w.heap.size, 2, none⟩ = some (.func (.func Fn) #[] #[])) ∧ (w'.cell? ⟨w.heap.size + 1, 0, none⟩ = some (.int .i64 fx) ∧ w'.cell? ⟨w.heap.size + 1, 1, none⟩ = some (.int .i64 fy)) ∧ (w'.cell? ⟨w.heap.size + 1 + 1, 0, none⟩ = some (.int .i64 dx) ∧ w'.cell? ⟨w.heap.size + 1 + 1, 1, none⟩ = some (.int .i64 dy)))
        (first | with_reducible exact ⟨HTr.out.all, HPr.out.pair, HSr.out.pair⟩ | with_reducible exact ⟨HTr.out.drew.all, HPr.out.drew.pair, HSr.out.drew.pair⟩ | with_reducible exact ⟨(HTr.out.alloc _).all, (HPr.out.alloc _).pair, (HSr.out.alloc _).pair⟩)
        (first
          | (go_at_call 84; refine (HLj.out _).mono ?_; rintro e w1 ⟨rfl, hb1⟩; have HTr := Lib.hid (HTr.out.drew.below hb1); have HPr := Lib.hid (HPr.out.drew.below hb1); have HSr := Lib.hid (HSr.out.drew.below hb1); have HBw := Lib.hid (HBw.out.drew.trans (hb1.mono HBw.out.drew.size)); have HBb := Lib.hid (HBb.out.drew.trans (hb1.mono HBb.out.drew.size)); have HO := Lib.hid (row_below (row_below HO.out (Below.refl _ _).drew (Nat.le_refl _)) hb1 (Nat.le_refl _)); clear hb1)
          | (go_at_call 71; refine (HNj.out _ HBw.out).mono ?_; rintro e w2 ⟨rfl, hb2⟩; have HTr := Lib.hid (HTr.out.below hb2); have HPr := Lib.hid (HPr.out.below hb2); have HSr := Lib.hid (HSr.out.below hb2); have HBb := Lib.hid (HBb.out.trans (hb2.mono HBb.out.size)); have HO := Lib.hid (row_below HO.out hb2 (Nat.le_refl _)); have HLW := Lib.hid (HO.out.alloc (.cells #[.int .i64 q] 3)); clear hb2)
          | (refine step_append_lies _ rfl (.tmp 15) (.tmp 22) 36 rfl wb.heap.size 3 i0 (.int .i64 0) 1 8 Try.underlying36 hi0 hz0 hz1 hz2 rfl (by decide) u9 j (i64s (rl F j)) (by simp [Act.eval]) HLW.out ⟨w2.heap.size, 0, none⟩ 1 1 [.int .i64 q] (by simp [Act.eval]) rfl (sj_new w2 _ _) (by intro u hu; simp at hu; subst hu; rfl) (by omega) (by unfold maxLen; omega) (by omega) (by have := HBb.out.size; simp; omega) _ rfl ?_; intro g' cap w4 hown' hgrow hat hlt4; have HB4 := Lib.hid (((Below.refl wb.heap.size w2).alloc HBb.out.size (.cells #[.int .i64 q] 3)).grown hgrow (by have := HBb.out.size; simp; omega) fun g hg => (HLW.out.lt g hg).1); have HO4 := Lib.hid hown'; have HTr := Lib.hid (HTr.out.under HB4.out HT.out.z); have HPr := Lib.hid (HPr.out.under HB4.out HP.out.z); have HSr := Lib.hid (HSr.out.under HB4.out HS.out.z); clear hown' hgrow hat))
      have HO5 := Lib.hid (HA.out ▸ HO4.out)
      have HBB5 := Lib.hid (HBb.out.trans HB4.out)
      clear HO4 HB4 HTr HPr HSr HO HLW
      go_wp2
      go_roundw
      case rel => exact ⟨j + 1, by omega, by go_num, HO5, HBB5⟩
      case measure => simp [intOf]; omega
    · obtain rfl : j = n := by omega
      obtain ⟨A, c, rfl⟩ := row_form hown.out
      go_wp2
      go_ret
      exact ⟨⟨A, c, rfl, hown.out.mono HB.out.size⟩, HB.out.trans (hb.out.mono HB.out.size)⟩
theorem Box2.far {W W' : World} {B : Nat} {a b : Value} {row : Option Nat} (h : Box2 W B a b) (hg : W.grownBy W' row) (hr : some B ≠ row) : Box2 W' B a b :=
  ⟨(hg.cell_far ⟨B, 0, none⟩ h.z hr).trans h.c0, (hg.cell_far ⟨B, 1, none⟩ h.z hr).trans h.c1, Nat.lt_of_lt_of_le h.z hg.size⟩
set_option maxRecDepth 4000 in
set_option maxHeartbeats 1600000 in
theorem numbersBeside_any (K : Kd) (R Fn m : Nat) (u s nn x y : Int) (F : Nat → Int) (w : World) (lo hi : Nat) (h : IsSp K R m u s w lo hi) (x0 : -100000 ≤ x) (x1 : x ≤ 100000) (y0 : -100000 ≤ y) (y1 : y ≤ 100000)
    (hV : ∀ W : World, Below w.heap.size w W → Calls Try.prog 66 #[.agg #[.slice (some ⟨R, 0, none⟩) m m, .int .i64 u, .func (.func Fn) #[] #[]], .int .i64 nn] W fun e w' => e = .returned (.agg #[.int .i64 x, .int .i64 y]) ∧ Below W.heap.size W w')
    (hN : ∀ (j : Nat) (W : World), j < m → Below w.heap.size w W → Calls Try.prog 71 #[.agg #[.slice (some ⟨R, 0, none⟩) m m, .int .i64 u, .func (.func Fn) #[] #[]], .agg #[.int .i64 (x + (K.st j).1), .int .i64 (y + (K.st j).2)]] W fun e w' => e = .returned (.int .i64 (F j)) ∧ Below W.heap.size W w') :
    Calls Try.prog 79 #[.agg #[.slice (some ⟨R, 0, none⟩) m m, .int .i64 u, .func (.func Fn) #[] #[]], .int .i64 nn] w fun e w' => (∃ A c, e = .returned (.slice A m c) ∧ Own w' w.heap.size w'.heap.size A (i64s (rl F m))) ∧ Below w.heap.size w w' := by
  obtain ⟨i0, hi0, hz0, hz1, hz2⟩ := info_parts sjInfo
  have HV := Lib.hid hV
  have HN := Lib.hid hN
  have hm := h.good.m0
  rw [h.hm] at hm
  obtain ⟨m4, m6⟩ := hm
  have HL : Hid (∀ (j : Nat) (W : World), Calls Try.prog 84 #[.agg #[.int .i64 x, .int .i64 y], .agg #[.int .i64 (K.st j).1, .int .i64 (K.st j).2], .int .i64 1] W fun e w' => e = .returned (.agg #[.int .i64 (x + (K.st j).1), .int .i64 (y + (K.st j).2)]) ∧ Below W.heap.size W w') := Lib.hid fun j W => by
    obtain ⟨s0, s1, s2, s3⟩ := h.good.st j
    exact ledBy_any x y _ _ 1 _ _ W (led_small _ _ _ _ _ (by omega) (by omega) (by omega) (by omega) s0 s1 s2 s3 (by omega) (by omega)) (by omega) (by omega)
  have HS : Hid (∀ W : World, Below w.heap.size w W → ∀ j, j < m → W.cell? ⟨R, j * 2, none⟩ = some (.int .i64 (K.st j).1) ∧ W.cell? ⟨R, j * 2 + 1, none⟩ = some (.int .i64 (K.st j).2) ∧ R < w.heap.size) := Lib.hid fun W hW j hj => by
    have hjl : j < K.ss.length := by have := h.hm; unfold Kd.m at this; omega
    obtain ⟨g, o, hA, hg1, hg2, q0, q1⟩ := (h.own.below hW h.hi).pair_ hjl
    obtain ⟨eg, rfl⟩ : g = R ∧ o = 0 := by simp at hA; omega
    subst eg
    have e : K.ss[j] = K.st j := by simp [Kd.st, List.getD, hjl]
    rw [Nat.zero_add] at q0 q1
    rw [e] at q0 q1
    have := h.hi
    exact ⟨q0, q1, by omega⟩
  clear hV hN x0 x1 y0 y1 h
  go_enter Try.func79, Try.ntmps79
  go_wp2_with fail
  have hB : Below w.heap.size w (w.alloc (.cells #[.slice (some ⟨R, 0, none⟩) m m, .int .i64 u, .func (.func Fn) #[] #[]] 57)) := (Below.refl _ _).alloc (Nat.le_refl _) _
  have hT := box3_new w (.slice (some ⟨R, 0, none⟩) m m) (.int .i64 u) (.func (.func Fn) #[] #[]) 57
  generalize w.alloc (.cells #[.slice (some ⟨R, 0, none⟩) m m, .int .i64 u, .func (.func Fn) #[] #[]] 57) = wa at *
  have HBa := Lib.hid hB
  have HTa := Lib.hid hT
  clear hB hT
  refine (HV.out _ HBa.out).mono ?_
  rintro e w1 ⟨rfl, hb1⟩
  have HT1 := Lib.hid (HTa.out.below hb1)
  have HB1 := Lib.hid (HBa.out.trans (hb1.mono HBa.out.size))
  clear hb1
  have d0 := HT1.out.c0
  go_upto_region 3 with fail
  have hP := box2_new w1 (.int .i64 x) (.int .i64 y) 53
  have hT := HT1.out.alloc (.cells #[.int .i64 x, .int .i64 y] 53)
  have hB := HB1.out.alloc HB1.out.size (.cells #[.int .i64 x, .int .i64 y] 53)
  generalize w1.alloc (.cells #[.int .i64 x, .int .i64 y] 53) = wb at *
  have HB := Lib.hid hB
  have HT := Lib.hid hT
  have HP := Lib.hid hP
  clear hB hT hP d0
  generalize w1.heap.size = Q at *
  have d0 := HT.out.c0
  go_wp2_with fail
  go_loopw [15, 6] (fun i v wr => ∃ j : Nat, j ≤ m ∧ i = .int .i64 (j : Int) ∧ Hid (wr.ownsRow wb.heap.size 3 1 v j (i64s (rl F j))) ∧ Hid (Below wb.heap.size wb wr)) (fun i _ _ => m - (intOf i).toNat)
  case atStart => exact ⟨0, by omega, by simp, Lib.hid (World.ownsRow_nil _ _ _ _), Lib.hid (Below.refl _ _)⟩
  case round =>
    obtain ⟨j, hj, rfl, hown, hb⟩ := hrel
    by_cases hlt : j < m
    · have hlt2 : (j : Int) < (m : Int) := by omega
      have HLj := Lib.hid fun W => HL.out j W
      have HNj := Lib.hid fun W hW => HN.out j W hlt hW
      have HA := Lib.hid (rl_app F j)
      have hBw := HB.out.trans (hb.out.mono HB.out.size)
      obtain ⟨q0, q1, hRz⟩ := HS.out wr hBw j hlt
      generalize F j = q at *
      generalize hpx : x + (K.st j).1 = px at *
      generalize hpy : y + (K.st j).2 = py at *
      generalize (K.st j).1 = sx at *
      generalize (K.st j).2 = sy at *
      clear hpx hpy
      go_upto_region 6 with fail
      have HTr := Lib.hid ((HT.out.below hb.out).alloc (.cells #[.int .i64 sx, .int .i64 sy] 53))
      have HPr := Lib.hid ((HP.out.below hb.out).alloc (.cells #[.int .i64 sx, .int .i64 sy] 53))
      have HSr := Lib.hid (box2_new wr (.int .i64 sx) (.int .i64 sy) 53)
      have HBw := Lib.hid (hBw.alloc hBw.size (.cells #[.int .i64 sx, .int .i64 sy] 53))
      have HBb := Lib.hid (hb.out.alloc hb.out.size (.cells #[.int .i64 sx, .int .i64 sy] 53))
      have HO := Lib.hid (row_below hown.out ((Below.refl wr.heap.size wr).alloc (Nat.le_refl _) (.cells #[.int .i64 sx, .int .i64 sy] 53)) (Nat.le_refl _))
      have HNE : Hid (some wr.heap.size ≠ u6.ownBlock) := Lib.hid fun e => by have := (hown.out.lt _ e.symm).2; omega
      clear hb hown hBw q0 q1 hRz
      generalize wr.alloc (.cells #[.int .i64 sx, .int .i64 sy] 53) = w0 at *
      generalize wr.heap.size = Z at *
      go_region_held3 (fun w' => (w'.cell? ⟨w.heap.size, 0, none⟩ = some (.slice (some ⟨R, 0, none⟩) m m) ∧ w'.cell? ⟨w.heap.size, 1, none⟩ = some (.int .i64 u) ∧ w'.cell? ⟨w.heap.size, 2, none⟩ = some (.func (.func Fn) #[] #[])) ∧ (w'.cell? ⟨Q, 0, none⟩ = some (.int .i64 x) ∧ w'.cell? ⟨Q, 1, none⟩ = some (.int .i64 y)) ∧ (w'.cell? ⟨Z, 0, none⟩ = some (.int .i64 sx) ∧ w'.cell? ⟨Z, 1, none⟩ = some (.int .i64 sy)))
        (first | with_reducible exact ⟨HTr.out.all, HPr.out.pair, HSr.out.pair⟩ | with_reducible exact ⟨HTr.out.drew.all, HPr.out.drew.pair, HSr.out.drew.pair⟩ | with_reducible exact ⟨(HTr.out.alloc _).all, (HPr.out.alloc _).pair, (HSr.out.alloc _).pair⟩)
        (first
          | (go_at_call 84; refine (HLj.out _).mono ?_; rintro e w1' ⟨rfl, hb1⟩; have HTr := Lib.hid (HTr.out.drew.below hb1); have HPr := Lib.hid (HPr.out.drew.below hb1); have HSr := Lib.hid (HSr.out.drew.below hb1); have HBw := Lib.hid (HBw.out.drew.trans (hb1.mono HBw.out.drew.size)); have HBb := Lib.hid (HBb.out.drew.trans (hb1.mono HBb.out.drew.size)); have HO := Lib.hid (row_below (row_below HO.out (Below.refl _ _).drew (Nat.le_refl _)) hb1 (Nat.le_refl _)); clear hb1)
          | (go_at_call 71; refine (HNj.out _ HBw.out).mono ?_; rintro e w2 ⟨rfl, hb2⟩; have HTr := Lib.hid (HTr.out.below hb2); have HPr := Lib.hid (HPr.out.below hb2); have HSr := Lib.hid (HSr.out.below hb2); have HBb := Lib.hid (HBb.out.trans (hb2.mono HBb.out.size)); have HO := Lib.hid (row_below HO.out hb2 (Nat.le_refl _)); have HLW := Lib.hid (HO.out.alloc (.cells #[.int .i64 q] 3)); clear hb2)
          | (refine step_append_lies _ rfl (.tmp 19) (.tmp 25) 36 rfl wb.heap.size 3 i0 (.int .i64 0) 1 8 Try.underlying36 hi0 hz0 hz1 hz2 rfl (by decide) u6 j (i64s (rl F j)) (by simp [Act.eval]) HLW.out ⟨w2.heap.size, 0, none⟩ 1 1 [.int .i64 q] (by simp [Act.eval]) rfl (sj_new w2 _ _) (by intro u hu; simp at hu; subst hu; rfl) (by omega) (by unfold maxLen; omega) (by omega) (by have := HBb.out.size; simp; omega) _ rfl ?_; intro g' cap w4 hown' hgrow hat hlt4; have HB4 := Lib.hid (((Below.refl wb.heap.size w2).alloc HBb.out.size (.cells #[.int .i64 q] 3)).grown hgrow (by have := HBb.out.size; simp; omega) fun g hg => (HLW.out.lt g hg).1); have HO4 := Lib.hid hown'; have HTr := Lib.hid (HTr.out.under HB4.out HT.out.z); have HPr := Lib.hid (HPr.out.under HB4.out HP.out.z); have HSr := Lib.hid ((HSr.out.alloc _).far hgrow HNE.out); clear hown' hgrow hat))
      have HO5 := Lib.hid (HA.out ▸ HO4.out)
      have HBB5 := Lib.hid (HBb.out.trans HB4.out)
      clear HO4 HB4 HTr HPr HSr HO HLW
      go_wp2
      go_roundw
      case rel => exact ⟨j + 1, by omega, by go_num, HO5, HBB5⟩
      case measure => simp [intOf]; omega
    · obtain rfl : j = m := by omega
      obtain ⟨A, c, rfl⟩ := row_form hown.out
      go_wp2
      go_ret
      exact ⟨⟨A, c, rfl, (own_of_row hown.out).wide HB.out.size (Nat.le_refl _)⟩, HB.out.trans (hb.out.mono HB.out.size)⟩
end Go.Proofs.Ythnjjpiofgbngaa
