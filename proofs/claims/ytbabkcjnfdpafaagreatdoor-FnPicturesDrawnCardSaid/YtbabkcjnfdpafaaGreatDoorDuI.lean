/- Chapter 7: takePiece, by the program. -/
import Derived.Test.YtbabkcjnfdpafaaGreatDoorDuH
namespace Go.Proofs.YtbabkcjnfdpafaaGreatDoor
open Go.ChangeShapes Go.WideShapes Go.ChangeAt Go.RowKit Go.Maps

theorem wp_monoD {P : Program} {a : Act} {w : World} {Q Q' : Exit → Act → World → Prop} {c : Code} (h : c.wp P Q a w) (hq : ∀ e a w, Q e a w → Q' e a w) : c.wp P Q' a w := by
  intro b k cs
  obtain ⟨e, a', w', h1, h2⟩ := h b k cs
  exact ⟨e, a', w', hq _ _ _ h1, h2⟩
/-- A scope with one label that the run comes to in its course: from the label on it is walked once. -/
theorem wp_scope_hang {P : Program} {a : Act} {w : World} {Q : Exit → Act → World → Prop} {c rest : Code} (l : Nat) (J : Act → World → Prop) (μ : Act → World → Nat) (hf : findLabel c l = some (Code.skip.seq rest))
    (first : (∀ a w, J a w → rest.wp P (Exit.jump l J Q) a w) → c.wp P (Exit.jump l J Q) a w)
    (pass : ∀ a w, J a w → rest.wp P (Exit.jump l (fun a' w' => J a' w' ∧ μ a' w' < μ a w) Q) a w) : (Code.scope c).wp P Q a w := by
  refine wp_scope_jumps l J μ hf (first fun a w hJ => wp_monoD (pass a w hJ) fun e a' w' h => ?_) (fun a w hJ => wp_seq (wp_skip (pass a w hJ)))
  cases e with
  | goto l' => exact ⟨h.1, h.2.1⟩
  | _ => exact h
/-- 'T{place: {}}'. -/
theorem dots_insert {P : Program} {k : TypeId} (V : VKey P k) (w : World) {ops : Array Oper} {rest : List Oper} {o : Oper} {a : Act} {Q : Exit → Act → World → Prop}
    (hg : o.guard = none) (m x v : Operand) (t e : TypeId) (hop : o.op = Op.insert t m x v) (ht : P.underlying t = some (.map k e)) (b : Nat) (S : Int → Int → Bool)
    (hm : a.eval m = .map (some b)) (h : Dots P k w b S) (p q : Int) (hx : a.eval x = .agg #[.int .i64 p, .int .i64 q]) (hv : a.eval v = .agg #[]) (hp : 0 ≤ p ∧ p < 100 ∧ 0 ≤ q ∧ q < 100)
    (hK : ∀ w', Dots P k w' b (aS S p q) → w.grownBy w' (some b) → wpList P ops Q rest (a.put o.dst undef) w') :
    wpList P ops Q (o :: rest) a w := by
  have hrun : ∃ w', (Instr.mapUpdate t (.map (some b)) (.agg #[.int .i64 p, .int .i64 q]) (.agg #[])).run P w = .ok () w' ∧ Dots P k w' b (aS S p q) ∧ w.grownBy w' (some b) := by
    obtain ⟨D, h, hs⟩ := h
    have hw : wf2 p q := wf2_of (by omega) (by omega) (by omega) (by omega)
    have hsm := has_small V h hs
    obtain ⟨w', hr, r1, r2⟩ := h.update V.K ht (by unfold maxLen; omega) (V.key p q hw) unitElem_mk
    refine ⟨w', hr, ⟨_, owns_tight r1, ⟨fun u v huv => ?_, fun u v huv => ?_⟩⟩, r2⟩
    · unfold aS at huv
      rw [Bool.or_eq_true, Bool.and_eq_true, decide_eq_true_eq, decide_eq_true_eq] at huv
      rcases huv with huv | ⟨rfl, rfl⟩
      · exact hs.bd u v huv
      · omega
    · unfold aS
      by_cases e : u = p ∧ v = q
      · obtain ⟨rfl, rfl⟩ := e
        rw [has_put_same h.isMap (V.isKey hw)]
        simp
      · rw [has_put_other (fun e2 => e (V.inj huv hw e2)), hs.has u v huv, pick_at e]
        simp
  refine wpList_plain hg fun K' hK' => ?_
  obtain ⟨w', hrun, r1, r2⟩ := hrun
  unfold Oper.wp
  simp [execOp, hop, hm, hx, hv, hrun, Result.andThen]
  exact hK' _ _ (hK w' r1 r2)
set_option maxRecDepth 100000 in
set_option maxHeartbeats 1600000 in
theorem takePiece_any (b : Nat) (S : Int → Int → Bool) (x y : Int) (w : World) (h : Ds w b S) (hxy : S x y = true) :
    Calls Tryz.prog 74 #[.map (some b), .agg #[.int .i64 x, .int .i64 y]] w fun e w' => (∃ c P, e = .returned (.map (some c)) ∧ w.heap.size ≤ c ∧ Ds w' c P ∧ Piece S x y P ∧ Ds w' b (dS S P)) ∧ w.grownBy w' (some b) := by
  have hmm := @run_makeMap Tryz.prog
  have hbl := h.lt
  have hbx := h.bd x y hxy
  have HST := Lib.hid (tkg_start hxy)
  have HBS := Lib.hid h.bd
  have HH := Lib.hid h
  clear h
  go_enter Tryz.func74, Tryz.ntmps74
  go_wp2
  refine wp_scope_hang 0 (fun a wr => ∃ (f : Nat) (A F : Int → Int → Bool) (u7 u8 u9 u10 u11 u12 u13 u14 u15 u16 u17 u18 u19 u20 u21 u22 u23 u24 : Value), w.heap.size + 1 < f ∧ a = { tmps := #[.map (some b), .agg #[.int .i64 x, .int .i64 y], undef, .pointer (some ⟨w.heap.size, 0, none⟩), .map none, .map (some (w.heap.size + 1)), .map (some f), u7, u8, u9, u10, u11, u12, u13, u14, u15, u16, u17, u18, u19, u20, u21, u22, u23, u24], defers := [] } ∧
    Hid (Ds wr (w.heap.size + 1) A) ∧ Hid (Ds wr f F) ∧ Hid (Ds wr b (dS S A)) ∧ Hid (Tkg S x y A F) ∧ Hid (w.grownBy wr (some b))) (fun _ wr => mapLen wr b) rfl ?_ ?_
  · intro hpass
    have m1 : Ds ((w.alloc (.cells #[.int .i64 x, .int .i64 y] 71)).alloc (.map #[] 0)) (w.heap.size + 1) (fun _ _ => false) := by
      have h := Dots.made (P := Tryz.prog) (k := 71) (w.alloc (.cells #[.int .i64 x, .int .i64 y] 71))
      rw [show (w.alloc (.cells #[.int .i64 x, .int .i64 y] 71)).heap.size = w.heap.size + 1 by simp] at h
      exact h
    have m2 : Ds (((w.alloc (.cells #[.int .i64 x, .int .i64 y] 71)).alloc (.map #[] 0)).alloc (.map #[] 0)) (w.heap.size + 1 + 1) (fun _ _ => false) := by
      have h := Dots.made (P := Tryz.prog) (k := 71) ((w.alloc (.cells #[.int .i64 x, .int .i64 y] 71)).alloc (.map #[] 0))
      rw [show ((w.alloc (.cells #[.int .i64 x, .int .i64 y] 71)).alloc (.map #[] 0)).heap.size = w.heap.size + 1 + 1 by simp] at h
      exact h
    have hgw : w.grownBy (((w.alloc (.cells #[.int .i64 x, .int .i64 y] 71)).alloc (.map #[] 0)).alloc (.map #[] 0)) none := ((World.grownBy_alloc w _ none).andThen (World.grownBy_alloc _ _ none) (by simp)).andThen (World.grownBy_alloc _ _ none) (by simp)
    have M1 := Lib.hid m1
    have M2 := Lib.hid m2
    have HGW := Lib.hid hgw
    clear m1 m2 hgw
    go_wp2_with (refine dots_insert vkey _ rfl _ _ _ 55 96 rfl Tryz.underlying55 _ _ rfl M2.out x y rfl rfl hbx ?_; intro w1 hd1 hg1)
    go_step3
    rename_i K1 hK1
    refine hK1 _ _ (hpass _ _ ⟨w.heap.size + 1 + 1, _, _, _, _, _, _, _, _, _, _, _, _, _, _, _, _, _, _, _, _, by omega, rfl, Lib.hid ((M1.out.alloc _).kept hg1 (by simp)), Lib.hid hd1, Lib.hid (((HH.out.kept HGW.out (by simp)).kept hg1 (by simp; omega)).congr fun u v => by simp [dS]), HST, Lib.hid ((HGW.out.but (some b)).andThen hg1 (by intro j hj; cases hj; exact Or.inl (by omega)))⟩)
  · rintro a wr ⟨f, A, F, u7, u8, u9, u10, u11, u12, u13, u14, u15, u16, u17, u18, u19, u20, u21, u22, u23, u24, hf, rfl, HA, HF, HD, HT, HG⟩
    have HN := Lib.hid fun (h : ∃ u v, nbS (dS S (uS A F)) F u v = true) => tkg_next HT.out h
    have HE := Lib.hid fun (h : ¬ ∃ u v, nbS (dS S (uS A F)) F u v = true) => tkg_end HT.out h
    have hzr : w.heap.size ≤ wr.heap.size := HG.out.size
    have hp : 0 < cnt (sD 100 (nbS (dS S (uS A F)) F)) 10000 ↔ ∃ u v, nbS (dS S (uS A F)) F u v = true := set_pos (HBS.out.sub fun u v h => by unfold nbS dS at h; simp only [Bool.and_eq_true] at h; exact h.1.1)
    by_cases hc : 0 < cnt (sD 100 (nbS (dS S (uS A F)) F)) 10000
    · have HT2 := Lib.hid (HN.out (hp.1 hc))
      obtain ⟨p, q, hpq⟩ := HT.out.ne
      have HPQ := Lib.hid hpq
      clear hp hpq HE HN
      go_wp2_with (first
        | (go_at_call 63; refine (drop_any _ _ _ _ _ HD.out HF.out (by omega)).mono ?_; rintro e w1 ⟨rfl, hd1, hg1⟩; have HD1 := Lib.hid (hd1.congr tkg_sub); have HA1 := Lib.hid (HA.out.kept hg1 (by simp; omega)); have HF1 := Lib.hid (HF.out.kept hg1 (by simp; omega)); have HG1 := Lib.hid (grown_tr HG.out hg1); clear hd1 hg1)
        | (go_at_call 91; refine (copy_any _ _ _ _ _ HA1.out HF1.out (by omega)).mono ?_; rintro e w2 ⟨rfl, hd2, hg2⟩; have HA2 := Lib.hid hd2; have HD2 := Lib.hid (HD1.out.kept hg2 (by simp; omega)); have HF2 := Lib.hid (HF1.out.kept hg2 (by simp; omega)); have HG2 := Lib.hid (HG1.out.andThen hg2 (by intro j hj; cases hj; exact Or.inl (by omega))); clear hd2 hg2)
        | (go_at_call 98; refine (besideAny_any _ _ _ _ _ HD2.out HF2.out).mono ?_; rintro e w3 ⟨⟨c, rfl, hc, hd3⟩, hb3⟩; have hg3 := grown_of_below hb3 (Nat.le_refl _); have HA3 := Lib.hid (HA2.out.kept hg3 (by simp)); have HD3 := Lib.hid (HD2.out.kept hg3 (by simp)); have HF3 := Lib.hid hd3; have HG3 := Lib.hid (HG2.out.andThen hg3 (by simp)); have hz2 := HA2.out.lt; clear hd3 hb3 hg3)
        | (at_len; refine dots_len vkey _ rfl _ 55 96 rfl Tryz.underlying55 c 100 100 _ rfl HF3.out HF3.out.bd ?_))

      go_step3
      have hsf := HT.out.sf p q HPQ.out
      refine ⟨rfl, ⟨c, _, _, _, _, _, _, _, _, _, _, _, _, _, _, _, _, _, _, _, _, by omega, rfl, HA3, HF3, HD3, HT2, HG3⟩, mapLen_less HD.out HD3.out (fun u v h => ?_) (x := p) (y := q) ?_ ?_⟩
      · unfold dS uS at h
        simp at h
        unfold dS
        simp [h]
      · unfold dS
        simp [hsf]
      · unfold dS uS
        simp [HPQ.out]
    · have HP2 := Lib.hid (HE.out (fun h => hc (hp.2 h)))
      have hc0 : cnt (sD 100 (nbS (dS S (uS A F)) F)) 10000 = 0 := by omega
      clear hp hc HE HN
      go_wp2_with (first
        | (go_at_call 63; refine (drop_any _ _ _ _ _ HD.out HF.out (by omega)).mono ?_; rintro e w1 ⟨rfl, hd1, hg1⟩; have HD1 := Lib.hid (hd1.congr tkg_sub); have HA1 := Lib.hid (HA.out.kept hg1 (by simp; omega)); have HF1 := Lib.hid (HF.out.kept hg1 (by simp; omega)); have HG1 := Lib.hid (grown_tr HG.out hg1); clear hd1 hg1)
        | (go_at_call 91; refine (copy_any _ _ _ _ _ HA1.out HF1.out (by omega)).mono ?_; rintro e w2 ⟨rfl, hd2, hg2⟩; have HA2 := Lib.hid hd2; have HD2 := Lib.hid (HD1.out.kept hg2 (by simp; omega)); have HF2 := Lib.hid (HF1.out.kept hg2 (by simp; omega)); have HG2 := Lib.hid (HG1.out.andThen hg2 (by intro j hj; cases hj; exact Or.inl (by omega))); clear hd2 hg2)
        | (go_at_call 98; refine (besideAny_any _ _ _ _ _ HD2.out HF2.out).mono ?_; rintro e w3 ⟨⟨c, rfl, hc, hd3⟩, hb3⟩; have hg3 := grown_of_below hb3 (Nat.le_refl _); have HA3 := Lib.hid (HA2.out.kept hg3 (by simp)); have HD3 := Lib.hid (HD2.out.kept hg3 (by simp)); have HF3 := Lib.hid hd3; have HG3 := Lib.hid (HG2.out.andThen hg3 (by simp)); have hz2 := HA2.out.lt; clear hd3 hb3 hg3)
        | (at_len; refine dots_len vkey _ rfl _ 55 96 rfl Tryz.underlying55 c 100 100 _ rfl HF3.out HF3.out.bd ?_))

      simp only [Exit.jump]
      go_ret
      exact ⟨⟨_, _, rfl, by omega, HA3.out, HP2.out, HD3.out⟩, HG3.out⟩
end Go.Proofs.YtbabkcjnfdpafaaGreatDoor
