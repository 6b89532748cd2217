/- Chapter 7: pictures turned, mirrored, with other dots, their least ones, pictures joined: what the functions answer as plain functions of texts, and how they hang together. No program is walked here. -/
import Derived.Test.YtbabkcjnfdpafaaGreatDoorDvO
import Derived.Test.YtbabkcjnfdpafaaGreatDoorDuY
namespace Go.Proofs.YtbabkcjnfdpafaaGreatDoor
open Go.Op

def tuL (l : List UInt8) : List UInt8 := bif isPic l then gText (pH l) (pW l) (tD (pW l) (pH l) (pD l)) else []
def miL (l : List UInt8) : List UInt8 := bif isPic l then gText (pW l) (pH l) (mD (pW l) (pD l)) else []
def otL (l : List UInt8) : List UInt8 := bif isPic l then gText (pW l) (pH l) (oD (pD l)) else []
def leL (l : List UInt8) : List UInt8 := bif isPic l then lOf l (pW l) (pH l) (pD l) 2 else []
def wiV (l : List UInt8) : Int := bif isPic l then (pW l : Int) else 0
def hiV (l : List UInt8) : Int := bif isPic l then (pH l : Int) else 0
def doV (l : List UInt8) : Int := bif isPic l then (cntB l : Int) else 0
def bsB (l m : List UInt8) : Bool := isPic l && isPic m && decide (pH l = pH m ∧ pW l + pW m ≤ 24)
def bsL (l m : List UInt8) : List UInt8 := bif bsB l m then gText (pW l + pW m) (pH l) (bD (pW l) (pW m) (pD l) (pD m)) else []
def blB (l m : List UInt8) : Bool := isPic l && isPic m && decide (pW l = pW m ∧ pH l + pH m ≤ 24)
def blL (l m : List UInt8) : List UInt8 := bif blB l m then gText (pW l) (pH l + pH m) (uD (pW l) (pH l) (pD l) (pD m)) else []
def qL (l : List UInt8) : Pc := pcOf (pW l, pH l, pD l)
theorem idx_lt {W H x y : Nat} (hx : x < W) (hy : y < H) : y * W + x < W * H := by
  have := Nat.mul_le_mul_right W (show y + 1 ≤ H by omega)
  rw [Nat.succ_mul, Nat.mul_comm H W] at this
  omega
theorem q_of (W H : Nat) (d : Nat → Bool) (h0 : 1 ≤ H) : qL (gText W H d) = pcOf (W, H, d) := by
  unfold qL pcOf
  simp only [gText_W W H d h0, gText_H W H d h0, Prod.mk.injEq, true_and]
  funext x y
  exact eq_gS (gS_bd W H _) (fun x y hx hy => by rw [gS_nat _ _ _ _ _ hx hy, gText_D W H d h0 _ (idx_lt hx hy)]) x y
theorem txt_q {l : List UInt8} (h : isPic l = true) : txt (qL l) = l := by rw [qL, txt_pc]; exact pic_text h
/-- A picture turned. -/
structure TuE (l : List UInt8) : Prop where
  ok : isPic (tuL l) = true
  q : qL (tuL l) = trn (qL l)
  w : pW (tuL l) = pH l
  h : pH (tuL l) = pW l
theorem tuE_of {l : List UInt8} (h : isPic l = true) : TuE l := by
  have b := pic_b h
  have e : tuL l = gText (pH l) (pW l) (tD (pW l) (pH l) (pD l)) := by rw [tuL, h, cond_true]
  refine ⟨by rw [e]; exact gText_pic _ _ _ b.h0 b.h1 b.w0 b.w1, ?_, by rw [e, gText_W _ _ _ b.w0], by rw [e, gText_H _ _ _ b.w0]⟩
  rw [e, q_of _ _ _ b.w0]
  simp only [qL, pcOf, trn, turn_set]
structure MiE (l : List UInt8) : Prop where
  ok : isPic (miL l) = true
  q : qL (miL l) = mir (qL l)
theorem miE_of {l : List UInt8} (h : isPic l = true) : MiE l := by
  have b := pic_b h
  have e : miL l = gText (pW l) (pH l) (mD (pW l) (pD l)) := by rw [miL, h, cond_true]
  refine ⟨by rw [e]; exact gText_pic _ _ _ b.w0 b.w1 b.h0 b.h1, ?_⟩
  rw [e, q_of _ _ _ b.h0]
  simp only [qL, pcOf, mir, mirror_set]
theorem mir_mir (q : Pc) : mir (mir q) = q := by
  obtain ⟨W, H, S⟩ := q
  simp only [mir, Prod.mk.injEq, true_and]
  funext x y
  congr 1
  omega
theorem tu4 {l : List UInt8} (h : isPic l = true) : tuL (tuL (tuL (tuL l))) = l := by
  have a := tuE_of h
  have b := tuE_of a.ok
  have c := tuE_of b.ok
  have d := tuE_of c.ok
  rw [← txt_q d.ok, d.q, c.q, b.q, a.q]
  have := itr_4 (qL l)
  rw [show trn (trn (trn (trn (qL l)))) = qL l from this]
  exact txt_q h
theorem mi2 {l : List UInt8} (h : isPic l = true) : miL (miL l) = l := by
  have a := miE_of h
  have b := miE_of a.ok
  rw [← txt_q b.ok, b.q, a.q, mir_mir]
  exact txt_q h

/-! ### the least one -/
theorem low_q (q : Pc) : Low (bsp (txt q) q 4) [txt (mir q), txt q, txt (itr (mir q) 1), txt (itr q 3), txt (itr (mir q) 2), txt (itr q 2), txt (itr (mir q) 3), txt (itr q 1), txt q] := by
  have h : Low (bsp (txt q) q 4) [txt (mir (itr q 4)), txt (itr q 4), txt (mir (itr q 3)), txt (itr q 3), txt (mir (itr q 2)), txt (itr q 2), txt (mir (itr q 1)), txt (itr q 1), txt q] :=
    low_mn (low_mn (low_mn (low_mn (low_mn (low_mn (low_mn (low_mn (low_one _))))))))
  rw [itr_4, mir_1, mir_2, mir_3] at h
  exact h
theorem bsp_trn (q : Pc) : bsp (txt (trn q)) (trn q) 4 = bsp (txt q) q 4 := by
  have h := low_q (trn q)
  have m1 : mir (trn q) = itr (mir q) 3 := mir_1 q
  have a1 : itr (itr (mir q) 3) 1 = mir q := itr_4 (mir q)
  have a2 : itr (itr (mir q) 3) 2 = itr (mir q) 1 := by
    show trn (itr (itr (mir q) 3) 1) = _
    rw [a1]
    rfl
  have a3 : itr (itr (mir q) 3) 3 = itr (mir q) 2 := by
    show trn (itr (itr (mir q) 3) 2) = _
    rw [a2]
    rfl
  have b1 : itr (trn q) 1 = itr q 2 := rfl
  have b2 : itr (trn q) 2 = itr q 3 := rfl
  have b3 : itr (trn q) 3 = q := itr_4 q
  have b0 : trn q = itr q 1 := rfl
  rw [m1, a1, a2, a3, b1, b2, b3, b0] at h
  rw [b0]
  refine low_same h (low_q q) ?_ ?_
  · intro x h
    simp only [List.mem_cons, List.not_mem_nil, or_false] at h ⊢
    rcases h with rfl | rfl | rfl | rfl | rfl | rfl | rfl | rfl | rfl <;> simp
  · intro x h
    simp only [List.mem_cons, List.not_mem_nil, or_false] at h ⊢
    rcases h with rfl | rfl | rfl | rfl | rfl | rfl | rfl | rfl | rfl <;> simp
theorem bsp_mir (q : Pc) : bsp (txt (mir q)) (mir q) 4 = bsp (txt q) q 4 := by
  have h := low_q (mir q)
  rw [mir_mir] at h
  refine low_same h (low_q q) ?_ ?_
  · intro x h
    simp only [List.mem_cons, List.not_mem_nil, or_false] at h ⊢
    rcases h with rfl | rfl | rfl | rfl | rfl | rfl | rfl | rfl | rfl <;> simp
  · intro x h
    simp only [List.mem_cons, List.not_mem_nil, or_false] at h ⊢
    rcases h with rfl | rfl | rfl | rfl | rfl | rfl | rfl | rfl | rfl <;> simp
theorem le_bsp {l : List UInt8} (h : isPic l = true) : leL l = bsp (txt (qL l)) (qL l) 4 := by
  rw [leL, h, cond_true, least_same l h]
  rfl
theorem le_tu {l : List UInt8} (h : isPic l = true) : leL (tuL l) = leL l := by
  have a := tuE_of h
  rw [le_bsp a.ok, a.q, bsp_trn, le_bsp h]
theorem le_mi {l : List UInt8} (h : isPic l = true) : leL (miL l) = leL l := by
  have a := miE_of h
  rw [le_bsp a.ok, a.q, bsp_mir, le_bsp h]
theorem le_low {l : List UInt8} (h : isPic l = true) : bytesLess l (leL l) = false := by
  rw [le_bsp h]
  have := (low_q (qL l)).2 (txt (qL l)) (by simp)
  rwa [txt_q h] at this ⊢

/-! ### dots counted -/
theorem cnt_text (W H : Nat) (d : Nat → Bool) (w0 : 1 ≤ W) : cntB (gText W H d) = cnt d (W * H) := by rw [← txP_all W H d w0, cntB_tx]
theorem cnt_pic {l : List UInt8} (h : isPic l = true) : cntB l = cnt (pD l) (pW l * pH l) := by
  rw [← cnt_text _ _ _ (pic_b h).w0, pic_text h]
theorem cnt_other (d : Nat → Bool) (n : Nat) : cnt d n + cnt (oD d) n = n := by
  induction n with
  | zero => rfl
  | succ n ih =>
    rw [cnt_succ, cnt_succ]
    unfold oD at ih ⊢
    cases d n <;> simp <;> omega
theorem cnt_add (f : Nat → Bool) (a b : Nat) : cnt f (a + b) = cnt f a + cnt (fun i => f (a + i)) b := by
  induction b with
  | zero => rfl
  | succ b ih => rw [← Nat.add_assoc, cnt_succ, ih, cnt_succ]; omega
theorem cnt_beside (W V : Nat) (d e : Nat → Bool) (w0 : 1 ≤ W) (H : Nat) : cnt (bD W V d e) ((W + V) * H) = cnt d (W * H) + cnt e (V * H) := by
  induction H with
  | zero => simp [cnt]
  | succ H ih =>
    rw [Nat.mul_succ, cnt_add, ih, Nat.mul_succ W, cnt_add d, Nat.mul_succ V, cnt_add e, cnt_add (fun i => bD W V d e ((W + V) * H + i)) W V]
    have a : cnt (fun i => bD W V d e ((W + V) * H + i)) W = cnt (fun i => d (W * H + i)) W := cnt_congr fun i hi => by
      have e1 : ((W + V) * H + i) % (W + V) = i := by rw [Nat.mul_add_mod, Nat.mod_eq_of_lt (by omega)]
      have e2 : ((W + V) * H + i) / (W + V) = H := by rw [Nat.mul_add_div (by omega), Nat.div_eq_of_lt (by omega), Nat.add_zero]
      simp only [bD, e1, e2, if_pos hi, Nat.mul_comm H W]
    have b : cnt (fun i => bD W V d e ((W + V) * H + (W + i))) V = cnt (fun i => e (V * H + i)) V := cnt_congr fun i hi => by
      have e1 : ((W + V) * H + (W + i)) % (W + V) = W + i := by rw [Nat.mul_add_mod, Nat.mod_eq_of_lt (by omega)]
      have e2 : ((W + V) * H + (W + i)) / (W + V) = H := by rw [Nat.mul_add_div (by omega), Nat.div_eq_of_lt (by omega), Nat.add_zero]
      have e3 : ¬ W + i < W := by omega
      simp only [bD, e1, e2, if_neg e3, Nat.mul_comm H V, Nat.add_sub_cancel_left]
    rw [a, b]
    omega
theorem cnt_below (W H G : Nat) (d e : Nat → Bool) : cnt (uD W H d e) (W * (H + G)) = cnt d (W * H) + cnt e (W * G) := by
  rw [Nat.mul_add, cnt_add]
  have a : cnt (uD W H d e) (W * H) = cnt d (W * H) := cnt_congr fun i hi => by simp only [uD, if_pos hi]
  have b : cnt (fun i => uD W H d e (W * H + i)) (W * G) = cnt e (W * G) := cnt_congr fun i _ => by
    have e3 : ¬ W * H + i < W * H := by omega
    simp only [uD, if_neg e3, Nat.add_sub_cancel_left]
  rw [a, b]
structure OtE (l : List UInt8) : Prop where
  ok : isPic (otL l) = true
  two : otL (otL l) = l
  sum : cntB l + cntB (otL l) = pW l * pH l
theorem otE_of {l : List UInt8} (h : isPic l = true) : OtE l := by
  have b := pic_b h
  have e : otL l = gText (pW l) (pH l) (oD (pD l)) := by rw [otL, h, cond_true]
  have k : isPic (otL l) = true := by rw [e]; exact gText_pic _ _ _ b.w0 b.w1 b.h0 b.h1
  refine ⟨k, ?_, ?_⟩
  · have e2 : otL (otL l) = gText (pW (otL l)) (pH (otL l)) (oD (pD (otL l))) := by
      conv => lhs; rw [otL, k, cond_true]
    rw [e2, e, gText_W _ _ _ b.h0, gText_H _ _ _ b.h0]
    conv => rhs; rw [← pic_text h]
    exact gText_congr fun i hi => by
      unfold oD
      rw [gText_D _ _ _ b.h0 i hi]
      simp
  · rw [e, cnt_text _ _ _ b.w0, cnt_pic h]
    exact cnt_other _ _

/-! ### joined -/
structure BsE (l m : List UInt8) : Prop where
  a : isPic l = true
  b : isPic m = true
  ok : isPic (bsL l m) = true
  w : pW (bsL l m) = pW l + pW m
  h : pH (bsL l m) = pH l
  sum : cntB (bsL l m) = cntB l + cntB m
  m0 : 1 ≤ pW m
theorem bsE_of {l m : List UInt8} (h : bsB l m = true) : BsE l m := by
  have h0 := h
  simp only [bsB, Bool.and_eq_true, decide_eq_true_eq] at h0
  obtain ⟨⟨ha, hb⟩, hh, hw⟩ := h0
  have a := pic_b ha
  have b := pic_b hb
  have e : bsL l m = gText (pW l + pW m) (pH l) (bD (pW l) (pW m) (pD l) (pD m)) := by rw [bsL, h, cond_true]
  have w0 := a.w0
  refine ⟨ha, hb, by rw [e]; exact gText_pic _ _ _ (by omega) hw a.h0 a.h1, by rw [e, gText_W _ _ _ a.h0], by rw [e, gText_H _ _ _ a.h0], ?_, b.w0⟩
  rw [e, cnt_text _ _ _ (by omega), cnt_beside _ _ _ _ a.w0, cnt_pic ha, cnt_pic hb, hh]
theorem turn_join (W H G : Nat) (d e : Nat → Bool) (i : Nat) (hi : i < (H + G) * W) : bD G H (tD W G e) (tD W H d) i = tD W (H + G) (uD W H d e) i := by
  obtain ⟨h1, h2, h3⟩ := place_of hi
  have hN : G + H = H + G := Nat.add_comm _ _
  unfold bD
  rw [hN]
  generalize hx : i % (H + G) = x at *
  generalize hy : i / (H + G) = y at *
  have hr : tD W (H + G) (uD W H d e) i = uD W H d e ((H + G - 1 - x) * W + y) := by unfold tD; rw [hx, hy]
  rw [hr]
  by_cases hc : x < G
  · rw [if_pos hc]
    have hl : tD W G e (y * G + x) = e ((G - 1 - x) * W + y) := by unfold tD; rw [place_x hc, place_y hc]
    rw [hl]
    have e1 : H + G - 1 - x = H + (G - 1 - x) := by omega
    rw [e1, Nat.add_mul]
    have e2 : ¬ H * W + (G - 1 - x) * W + y < W * H := by rw [Nat.mul_comm W H]; omega
    unfold uD
    rw [if_neg e2]
    congr 1
    rw [Nat.mul_comm W H]
    omega
  · rw [if_neg hc]
    have hl : tD W H d (y * H + (x - G)) = d ((H - 1 - (x - G)) * W + y) := by unfold tD; rw [place_x (by omega), place_y (by omega)]
    rw [hl]
    have e1 : H + G - 1 - x = H - 1 - (x - G) := by omega
    rw [e1]
    have e2 : (H - 1 - (x - G)) * W + y < W * H := idx_lt h2 (by omega)
    unfold uD
    rw [if_pos e2]
theorem bD_congr {W V H : Nat} {d d' e e' : Nat → Bool} (hd : ∀ i, i < W * H → d i = d' i) (he : ∀ i, i < V * H → e i = e' i) (i : Nat) (hi : i < (W + V) * H) : bD W V d e i = bD W V d' e' i := by
  obtain ⟨h1, h2, _⟩ := place_of hi
  unfold bD
  by_cases hc : i % (W + V) < W
  · rw [if_pos hc, if_pos hc]; exact hd _ (idx_lt hc h2)
  · rw [if_neg hc, if_neg hc]; exact he _ (idx_lt (by omega) h2)
theorem tD_congr {W H : Nat} {d d' : Nat → Bool} (hd : ∀ i, i < W * H → d i = d' i) (i : Nat) (hi : i < H * W) : tD W H d i = tD W H d' i := by
  obtain ⟨h1, h2, _⟩ := place_of hi
  exact hd _ (idx_lt h2 (by omega))
structure BlE (l m : List UInt8) : Prop where
  a : isPic l = true
  b : isPic m = true
  ok : isPic (blL l m) = true
  sum : cntB (blL l m) = cntB l + cntB m
  turned : bsB (tuL m) (tuL l) = true
  join : bsL (tuL m) (tuL l) = tuL (blL l m)
theorem blE_of {l m : List UInt8} (h : blB l m = true) : BlE l m := by
  have h0 := h
  simp only [blB, Bool.and_eq_true, decide_eq_true_eq] at h0
  obtain ⟨⟨ha, hb⟩, hw, hh⟩ := h0
  have a := pic_b ha
  have b := pic_b hb
  have ta := tuE_of ha
  have tb := tuE_of hb
  have e : blL l m = gText (pW l) (pH l + pH m) (uD (pW l) (pH l) (pD l) (pD m)) := by rw [blL, h, cond_true]
  have h1 := a.h0
  have k : isPic (blL l m) = true := by rw [e]; exact gText_pic _ _ _ a.w0 a.w1 (by omega) hh
  have t : bsB (tuL m) (tuL l) = true := by
    simp only [bsB, ta.ok, tb.ok, Bool.true_and, decide_eq_true_eq]
    rw [ta.w, tb.w, ta.h, tb.h]
    exact ⟨hw.symm, by omega⟩
  refine ⟨ha, hb, k, ?_, t, ?_⟩
  · rw [e, cnt_text _ _ _ a.w0, cnt_below, cnt_pic ha, cnt_pic hb, hw]
  · have el : tuL l = gText (pH l) (pW l) (tD (pW l) (pH l) (pD l)) := by rw [tuL, ha, cond_true]
    have em : tuL m = gText (pH m) (pW l) (tD (pW l) (pH m) (pD m)) := by rw [tuL, hb, cond_true, hw]
    have eb : tuL (blL l m) = gText (pH l + pH m) (pW l) (tD (pW l) (pH l + pH m) (pD (blL l m))) := by
      rw [tuL, k, cond_true]
      conv => lhs; rw [show pW (blL l m) = pW l from by rw [e, gText_W _ _ _ (by omega)], show pH (blL l m) = pH l + pH m from by rw [e, gText_H _ _ _ (by omega)]]
    rw [eb, bsL, t, cond_true, ta.w, tb.w, tb.h, ← hw]
    rw [show pH m + pH l = pH l + pH m from Nat.add_comm _ _]
    refine gText_congr fun i hi => ?_
    rw [bD_congr (H := pW l) (d := pD (tuL m)) (d' := tD (pW l) (pH m) (pD m)) (e := pD (tuL l)) (e' := tD (pW l) (pH l) (pD l)) (fun j hj => by rw [em, gText_D _ _ _ a.w0 j hj]) (fun j hj => by rw [el, gText_D _ _ _ a.w0 j hj]) i (by rw [Nat.add_comm]; exact hi)]
    rw [turn_join _ _ _ _ _ i hi]
    refine tD_congr (fun j hj => ?_) i hi
    rw [e, gText_D _ _ _ (by omega) j hj]
theorem pic_few {l : List UInt8} (h : isPic l = true) : l.length ≤ 600 ∧ 1 ≤ pW l ∧ pW l ≤ 24 ∧ 1 ≤ pH l ∧ pH l ≤ 24 ∧ cntB l ≤ 600 := by
  have a := pic_600 h
  have b := pic_b h
  have c := cntB_le l
  exact ⟨a, b.w0, b.w1, b.h0, b.h1, by omega⟩
end Go.Proofs.YtbabkcjnfdpafaaGreatDoor
