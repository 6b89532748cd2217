/- Chapter 6: the number at a spot, by the program: the sides are asked one behind the other. -/
import Derived.Test.YthnjjpiofgbngaaSiW
namespace Go.Proofs.Ythnjjpiofgbngaa
open Go.ChangeShapes Go.WideShapes Go.ChangeAt Go.RowKit Go.ChangeMaps Go.Conc

theorem sdB_of {K : Kd} {s r b l x y : Int} {t m : Nat} (hK : Good K) (hr : IsRg s r b) (l0 : 0 ≤ l) (l1 : l ≤ 4000) (hm : m ≤ 6) (ht : t < m) (x0 : -100000 ≤ x) (x1 : x ≤ 100000) (y0 : -100000 ≤ y) (y1 : y ≤ 100000) :
    SdB (cor K r l t).1 (cor K r l t).2 (b + t * l) (sst K t).1 (sst K t).2 l x y := by
  obtain ⟨_, r0, r1, b0, b1⟩ := hr
  obtain ⟨p0, p1, p2, p3⟩ := cor_b hK r l r0 l0 t
  obtain ⟨v0, v1⟩ := tl_b l0 l1 t (by omega)
  obtain ⟨s0, s1, s2, s3⟩ := hK.st ((t + 1) % K.m)
  exact ⟨by omega, by omega, by omega, by omega, x0, x1, y0, y1, s0, s1, s2, s3, by omega, by omega⟩
theorem len_of {K : Kd} {R m : Nat} {u s r l : Int} {w : World} {lo hi : Nat} (h : IsSp K R m u s w lo hi) (r0 : 0 ≤ r) (r1 : r ≤ 2000) (hl : u * r = l) : 0 ≤ l ∧ l ≤ 4000 ∧ 4 ≤ m ∧ m ≤ 6 := by
  have hu := h.good.u0
  rw [h.hu] at hu
  have hm := h.good.m0
  rw [h.hm] at hm
  refine ⟨by rw [← hl]; exact Int.mul_nonneg (by omega) r0, ?_, hm.1, hm.2⟩
  rw [← hl]
  rcases (show u = 1 ∨ u = 2 by omega) with rfl | rfl <;> omega
set_option maxRecDepth 4000 in
set_option maxHeartbeats 1600000 in
theorem spNumberAt_any (K : Kd) (R F m : Nat) (u s r b l x y N : Int) (w : World) (lo hi : Nat) (h : IsSp K R m u s w lo hi) (hr : IsRg s r b) (hl : u * r = l)
    (hcf : ∀ (args : Array Value) (W : World), (callFunc F args).run Try.prog W = .ok (.enter F args) W)
    (hF : ∀ W : World, Calls Try.prog F #[.agg #[.int .i64 x, .int .i64 y]] W fun e w' => e = .returned (.int .i64 r) ∧ Below W.heap.size W w')
    (ht : Tell K r b x y N) (x0 : -100000 ≤ x) (x1 : x ≤ 100000) (y0 : -100000 ≤ y) (y1 : y ≤ 100000) :
    Calls Try.prog 71 #[.agg #[.slice (some ⟨R, 0, none⟩) m m, .int .i64 u, .func (.func F) #[] #[]], .agg #[.int .i64 x, .int .i64 y]] w fun e w' => e = .returned (.int .i64 N) ∧ Below w.heap.size w w' := by
  obtain ⟨l0, l1, m4, m6⟩ := len_of h hr.r0 hr.r1 hl
  have HY : Hid (∀ (t : Nat) (W : World), t < m → onIt K r l t x y → Calls Try.prog 99 #[.agg #[.int .i64 (cor K r l t).1, .int .i64 (cor K r l t).2, .int .i64 (b + t * l), .int .i64 (sst K t).1, .int .i64 (sst K t).2, .int .i64 l], .agg #[.int .i64 x, .int .i64 y]] W fun e w' =>
      ∃ c, e = .returned (.chan (some c)) ∧ w'.heap[c]? = some (.chan 1 #[.int .i64 N] false 1 0 false) ∧ W.heap.size ≤ c ∧ c < w'.heap.size ∧ Below W.heap.size W w') := Lib.hid fun t W htm ho => by
    have e := ht.on t (by rw [h.hm]; exact htm) (by rw [h.hu, hl]; exact ho)
    rw [h.hu, hl] at e
    rw [← e]
    exact side_yes _ _ _ _ _ _ _ _ _ W (sdB_of h.good hr l0 l1 m6 htm x0 x1 y0 y1) rfl ho.1 ho.2.1 ho.2.2.1 ho.2.2.2
  have HX : Hid (∀ (t : Nat) (W : World), t < m → ¬ onIt K r l t x y → Calls Try.prog 99 #[.agg #[.int .i64 (cor K r l t).1, .int .i64 (cor K r l t).2, .int .i64 (b + t * l), .int .i64 (sst K t).1, .int .i64 (sst K t).2, .int .i64 l], .agg #[.int .i64 x, .int .i64 y]] W fun e w' =>
      ∃ c, e = .returned (.chan (some c)) ∧ w'.heap[c]? = some (.chan 1 #[] false 0 0 false) ∧ W.heap.size ≤ c ∧ c < w'.heap.size ∧ Below W.heap.size W w') := Lib.hid fun t W htm ho =>
    side_no _ _ _ _ _ _ _ _ _ W (sdB_of h.good hr l0 l1 m6 htm x0 x1 y0 y1) rfl fun e => ho ⟨e.1, e.2.1, e.2.2.1, e.2.2.2⟩
  have HOFF : Hid ((∀ t, t < m → ¬ onIt K r l t x y) → N = 0) := Lib.hid fun q => ht.off fun t htm => by rw [h.hu, hl]; exact q t (by rw [← h.hm]; exact htm)
  have HSD : Hid (∀ W : World, Below w.heap.size w W → Calls Try.prog 97 #[.agg #[.slice (some ⟨R, 0, none⟩) m m, .int .i64 u, .func (.func F) #[] #[]], .int .i64 r] W fun e w' => (∃ A c, e = .returned (.slice A m c) ∧ Own w' W.heap.size w'.heap.size A (sds K r b l m)) ∧ Below W.heap.size W w') := Lib.hid fun W hW =>
    sidesOf_any K R F m u s r b l W lo hi ⟨h.good, h.hm, h.hu, h.hs, h.s1, h.s2, h.own.below hW h.hi, Nat.le_trans h.hi hW.size⟩ hr hl
  have HF := Lib.hid hF
  clear hF ht hr hl h x0 x1 y0 y1
  go_enter Try.func71, Try.ntmps71
  go_upto_region 1 with fail
  have hB := bl2 w (.cells #[.slice (some ⟨R, 0, none⟩) m m, .int .i64 u, .func (.func F) #[] #[]] 57) (.cells #[.int .i64 x, .int .i64 y] 53)
  have hT := (box3_new w (.slice (some ⟨R, 0, none⟩) m m) (.int .i64 u) (.func (.func F) #[] #[]) 57).alloc (.cells #[.int .i64 x, .int .i64 y] 53)
  have hP := box2_new (w.alloc (.cells #[.slice (some ⟨R, 0, none⟩) m m, .int .i64 u, .func (.func F) #[] #[]] 57)) (.int .i64 x) (.int .i64 y) 53
  rw [show (w.alloc (.cells #[.slice (some ⟨R, 0, none⟩) m m, .int .i64 u, .func (.func F) #[] #[]] 57)).heap.size = w.heap.size + 1 by simp] at hP
  generalize (w.alloc (.cells #[.slice (some ⟨R, 0, none⟩) m m, .int .i64 u, .func (.func F) #[] #[]] 57)).alloc (.cells #[.int .i64 x, .int .i64 y] 53) = wb at *
  have HB := Lib.hid hB
  have HT := Lib.hid hT
  have HP := Lib.hid hP
  clear hB hT hP
  go_region_held3 (fun w' => (w'.cell? ⟨w.heap.size, 0, none⟩ = some (.slice (some ⟨R, 0, none⟩) m m) ∧ w'.cell? ⟨w.heap.size, 1, none⟩ = some (.int .i64 u) ∧ w'.cell? ⟨w.heap.size, 2, none⟩ = some (.func (.func F) #[] #[])) ∧ w'.cell? ⟨w.heap.size + 1, 0, none⟩ = some (.int .i64 x) ∧ w'.cell? ⟨w.heap.size + 1, 1, none⟩ = some (.int .i64 y))
    (first | with_reducible exact ⟨HT.out.all, HP.out.c0, HP.out.c1⟩ | with_reducible exact ⟨HT.out.drew.all, HP.out.drew.c0, HP.out.drew.c1⟩)
    (first
      | (go_at_call 97; refine (HSD.out _ HB.out).mono ?_; rintro e w2 ⟨⟨A, c, rfl, hO⟩, hb2⟩; have HO := Lib.hid hO; have HT := Lib.hid (HT.out.below hb2); have HP := Lib.hid (HP.out.below hb2); have HB2 := Lib.hid (HB.out.trans (hb2.mono HB.out.size)); clear hO hb2)
      | (refine (HF.out _).mono ?_; rintro e w1 ⟨rfl, hb1⟩; have HT := Lib.hid (HT.out.drew.below hb1); have HP := Lib.hid (HP.out.drew.below hb1); have HB := Lib.hid (HB.out.drew.trans (hb1.mono HB.out.drew.size)); clear hb1))
  obtain ⟨g, o, hA, hg1, hg2, _⟩ := HO.out.six_ (k := m) (t := 0) (by omega)
  subst hA
  go_wp2_with fail
  go_loopw [15] (fun i wr => ∃ t : Nat, t ≤ m ∧ i = .int .i64 (t : Int) ∧ Hid (Below w2.heap.size w2 wr ∧ ∀ j, j < t → ¬ onIt K r l j x y)) (fun i _ => m - (intOf i).toNat)
  case atStart => exact ⟨0, by omega, by simp, Lib.hid ⟨Below.refl _ _, fun j hj => by omega⟩⟩
  case round =>
    obtain ⟨t, ht, rfl, hf⟩ := hrel
    by_cases hlt : t < m
    · have hlt2 : (t : Int) < (m : Int) := by omega
      obtain ⟨hb, hno⟩ := hf.out
      obtain ⟨g', o', hA, hg3, hg4, q0, q1, q2, q3, q4, q5⟩ := (HO.out.below hb (Nat.le_refl _)).six_ (k := m) hlt
      obtain ⟨eg, eo⟩ : g = g' ∧ o = o' := by simpa using hA
      rw [← eg, ← eo] at q0 q1 q2 q3 q4 q5
      have hp := HP.out.below hb
      have hgz : g < wr.heap.size := Nat.lt_of_lt_of_le hg2 hb.size
      have HPR := Lib.hid hp
      have HBR := Lib.hid hb
      have HNO := Lib.hid hno
      have p0 := hp.c0
      have p1 := hp.c1
      have p0' := (hp.alloc (.cells #[.int .i64 (cor K r l t).1, .int .i64 (cor K r l t).2, .int .i64 (b + t * l), .int .i64 (sst K t).1, .int .i64 (sst K t).2, .int .i64 l] 77)).c0
      have p1' := (hp.alloc (.cells #[.int .i64 (cor K r l t).1, .int .i64 (cor K r l t).2, .int .i64 (b + t * l), .int .i64 (sst K t).1, .int .i64 (sst K t).2, .int .i64 l] 77)).c1
      clear hp hb hno hA hg3 hg4 eg eo hf
      by_cases hon : onIt K r l t x y
      · go_upto_region 5 with (first
          | (go_at_call 99; refine (HY.out t _ hlt hon).mono ?_; rintro e w4 ⟨cc, rfl, hch, hc1, hc2, hb4⟩))
        refine OpsTo.region ?_
        simp only [List.size_toArray, List.length_cons, List.length_nil, Nat.reduceAdd, Nat.zero_add, List.range, List.range.loop]
        refine OpsTo.recv_ (c := cc) (z := .int .i64 0) (w' := w4) rfl rfl rfl (by simp [go_sem, execOp, rcase, Act.eval]) hch (by simp) ?_
        simp only [List.setIfInBounds_toArray, List.set_cons_zero, List.set_cons_succ]
        rw [show (#[Value.int .i64 N] : Array Value).getD 0 undef = .int .i64 N from rfl, show goInt 0 = .int .i64 0 from rfl]
        refine OpsTo.val (v := .int .i64 0) (w' := w4.setChan cc 1 (#[Value.int .i64 N].extract 1 1) false 1 1 false) rfl rfl rfl (by simp [go_sem, execOp, Act.eval]) ?_
        simp only [List.setIfInBounds_toArray, List.set_cons_zero, List.set_cons_succ]
        refine OpsTo.val (v := .bool true) (w' := w4.setChan cc 1 (#[Value.int .i64 N].extract 1 1) false 1 1 false) rfl rfl rfl (by simp [go_sem, execOp, Act.eval]) ?_
        simp only [List.setIfInBounds_toArray, List.set_cons_zero, List.set_cons_succ]
        refine OpsTo.done ?_
        have hB2 : Below w.heap.size w wr := HB2.out.trans (HBR.out.mono HB2.out.size)
        have hB4 : Below w.heap.size w w4 := (hB2.alloc hB2.size _).trans (hb4.mono (by have := hB2.size; simp; omega))
        have hc0 : w.heap.size ≤ cc := by have := hB2.size; simp at hc1; omega
        have HB5 := Lib.hid (below_setChan hB4 hc0 1 (#[Value.int .i64 N].extract 1 1) false 1 1 false)
        generalize w4.setChan cc 1 (#[Value.int .i64 N].extract 1 1) false 1 1 false = w5 at *
        clear hB2 hB4 hc0 hb4 hch p0 p1 p0' p1' q0 q1 q2 q3 q4 q5
        go_wp2_with fail
        go_ret
        exact ⟨rfl, HB5.out⟩
      · go_upto_region 5 with (first
          | (go_at_call 99; refine (HX.out t _ hlt hon).mono ?_; rintro e w4 ⟨cc, rfl, hch, hc1, hc2, hb4⟩))
        refine OpsTo.region ?_
        simp only [List.size_toArray, List.length_cons, List.length_nil, Nat.reduceAdd, Nat.zero_add, List.range, List.range.loop]
        refine OpsTo.dflt_ (c := cc) (z := .int .i64 0) (w' := w4) rfl rfl rfl (by simp [go_sem, execOp, rcase, Act.eval]) hch ?_
        simp only [List.setIfInBounds_toArray, List.set_cons_zero, List.set_cons_succ]
        rw [show goInt (-1) = .int .i64 (-1) from rfl]
        refine OpsTo.val (v := .int .i64 (-1)) (w' := w4) rfl rfl rfl (by simp [go_sem, execOp, Act.eval]) ?_
        simp only [List.setIfInBounds_toArray, List.set_cons_zero, List.set_cons_succ]
        refine OpsTo.val (v := .bool false) (w' := w4) rfl rfl rfl (by simp [go_sem, execOp, Act.eval]) ?_
        simp only [List.setIfInBounds_toArray, List.set_cons_zero, List.set_cons_succ]
        refine OpsTo.done ?_
        have hB4 : Below w2.heap.size w2 w4 := (HBR.out.alloc HBR.out.size _).trans (hb4.mono (by have := HBR.out.size; simp; omega))
        have HB4 := Lib.hid hB4
        have HNO' : Hid (∀ j, j < t + 1 → ¬ onIt K r l j x y) := Lib.hid fun j hj => by
          rcases Nat.lt_or_ge j t with h1 | h1
          · exact HNO.out j h1
          · obtain rfl : j = t := by omega
            exact hon
        clear hB4 hb4 hch p0 p1 p0' p1' q0 q1 q2 q3 q4 q5
        go_wp2
        go_roundw
        case rel => exact ⟨t + 1, by omega, by go_num, Lib.hid ⟨HB4.out, HNO'.out⟩⟩
        case measure => simp [intOf]; omega
    · obtain rfl : t = m := by omega
      have HN := Lib.hid (HOFF.out hf.out.2)
      go_wp2
      go_ret
      exact ⟨ret_int HN.out.symm, HB2.out.trans (hf.out.1.mono HB2.out.size)⟩
end Go.Proofs.Ythnjjpiofgbngaa
