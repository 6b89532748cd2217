/- The texts XDuI XDvE XDvF XDvG XDvH XDvI joined. -/
import Derived.Test.YtbcgidgjdedkiaaDoorMuA
import Derived.Deep.AppendLies
import Derived.Deep.RegionHeld3
/- Chapter 7: takePiece, by the program. -/
namespace Go.Proofs.YtbcgidgjdedkiaaDoor
open Go.ChangeShapes Go.WideShapes Go.ChangeAt Go.RowKit Go.Maps

theorem wp_monoD {P : Program} {a : Act} {w : World} {Q Q' : Exit → Act → World → Prop} {c : Code} (h : c.wp P Q a w) (hq : ∀ e a w, Q e a w → Q' e a w) : c.wp P Q' a w := by
  intro b k cs
  obtain ⟨e, a', w', h1, h2⟩ := h b k cs
  exact ⟨e, a', w', hq _ _ _ h1, h2⟩
/-- A scope with one label that the run comes to in its course: from the label on it is walked once. -/
theorem wp_scope_hang {P : Program} {a : Act} {w : World} {Q : Exit → Act → World → Prop} {c rest : Code} (l : Nat) (J : Act → World → Prop) (μ : Act → World → Nat) (hf : findLabel c l = some (Code.skip.seq rest))
    (first : (∀ a w, J a w → rest.wp P (Exit.jump l J Q) a w) → c.wp P (Exit.jump l J Q) a w)
    (pass : ∀ a w, J a w → rest.wp P (Exit.jump l (fun a' w' => J a' w' ∧ μ a' w' < μ a w) Q) a w) : (Code.scope c).wp P Q a w := by
  refine wp_scope_jumps l J μ hf (first fun a w hJ => wp_monoD (pass a w hJ) fun e a' w' h => ?_) (fun a w hJ => wp_seq (wp_skip (pass a w hJ)))
  cases e with
  | goto l' => exact ⟨h.1, h.2.1⟩
  | _ => exact h
/-- 'T{place: {}}'. -/
theorem dots_insert {P : Program} {k : TypeId} (V : VKey P k) (w : World) {ops : Array Oper} {rest : List Oper} {o : Oper} {a : Act} {Q : Exit → Act → World → Prop}
    (hg : o.guard = none) (m x v : Operand) (t e : TypeId) (hop : o.op = Op.insert t m x v) (ht : P.underlying t = some (.map k e)) (b : Nat) (S : Int → Int → Bool)
    (hm : a.eval m = .map (some b)) (h : Dots P k w b S) (p q : Int) (hx : a.eval x = .agg #[.int .i64 p, .int .i64 q]) (hv : a.eval v = .agg #[]) (hp : 0 ≤ p ∧ p < 100 ∧ 0 ≤ q ∧ q < 100)
    (hK : ∀ w', Dots P k w' b (aS S p q) → w.grownBy w' (some b) → wpList P ops Q rest (a.put o.dst undef) w') :
    wpList P ops Q (o :: rest) a w := by
  have hrun : ∃ w', (Instr.mapUpdate t (.map (some b)) (.agg #[.int .i64 p, .int .i64 q]) (.agg #[])).run P w = .ok () w' ∧ Dots P k w' b (aS S p q) ∧ w.grownBy w' (some b) := by
    obtain ⟨D, h, hs⟩ := h
    have hw : wf2 p q := wf2_of (by omega) (by omega) (by omega) (by omega)
    have hsm := has_small V h hs
    obtain ⟨w', hr, r1, r2⟩ := h.update V.K ht (by unfold maxLen; omega) (V.key p q hw) unitElem_mk
    refine ⟨w', hr, ⟨_, owns_tight r1, ⟨fun u v huv => ?_, fun u v huv => ?_⟩⟩, r2⟩
    · unfold aS at huv
      rw [Bool.or_eq_true, Bool.and_eq_true, decide_eq_true_eq, decide_eq_true_eq] at huv
      rcases huv with huv | ⟨rfl, rfl⟩
      · exact hs.bd u v huv
      · omega
    · unfold aS
      by_cases e : u = p ∧ v = q
      · obtain ⟨rfl, rfl⟩ := e
        rw [has_put_same h.isMap (V.isKey hw)]
        simp
      · rw [has_put_other (fun e2 => e (V.inj huv hw e2)), hs.has u v huv, pick_at e]
        simp
  refine wpList_plain hg fun K' hK' => ?_
  obtain ⟨w', hrun, r1, r2⟩ := hrun
  unfold Oper.wp
  simp [execOp, hop, hm, hx, hv, hrun, Result.andThen]
  exact hK' _ _ (hK w' r1 r2)
set_option maxRecDepth 100000 in
set_option maxHeartbeats 1600000 in
theorem takePiece_any (b : Nat) (S : Int → Int → Bool) (x y : Int) (w : World) (h : Ds w b S) (hxy : S x y = true) :
    Calls Tryd.prog 65 #[.map (some b), .agg #[.int .i64 x, .int .i64 y]] w fun e w' => (∃ c P, e = .returned (.map (some c)) ∧ w.heap.size ≤ c ∧ Ds w' c P ∧ Piece S x y P ∧ Ds w' b (dS S P)) ∧ w.grownBy w' (some b) := by
  have hmm := @run_makeMap Tryd.prog
  have hbl := h.lt
  have hbx := h.bd x y hxy
  have HST := Lib.hid (tkg_start hxy)
  have HBS := Lib.hid h.bd
  have HH := Lib.hid h
  clear h
  go_enter Tryd.func65, Tryd.ntmps65
  go_wp2
  refine wp_scope_hang 0 (fun a wr => ∃ (f : Nat) (A F : Int → Int → Bool) (u7 u8 u9 u10 u11 u12 u13 u14 u15 u16 u17 u18 u19 u20 u21 u22 u23 u24 : Value), w.heap.size + 1 < f ∧ a = { tmps := #[.map (some b), .agg #[.int .i64 x, .int .i64 y], undef, .pointer (some ⟨w.heap.size, 0, none⟩), .map none, .map (some (w.heap.size + 1)), .map (some f), u7, u8, u9, u10, u11, u12, u13, u14, u15, u16, u17, u18, u19, u20, u21, u22, u23, u24], defers := [] } ∧
    Hid (Ds wr (w.heap.size + 1) A) ∧ Hid (Ds wr f F) ∧ Hid (Ds wr b (dS S A)) ∧ Hid (Tkg S x y A F) ∧ Hid (w.grownBy wr (some b))) (fun _ wr => mapLen wr b) rfl ?_ ?_
  · intro hpass
    have m1 : Ds ((w.alloc (.cells #[.int .i64 x, .int .i64 y] 58)).alloc (.map #[] 0)) (w.heap.size + 1) (fun _ _ => false) := by
      have h := Dots.made (P := Tryd.prog) (k := 58) (w.alloc (.cells #[.int .i64 x, .int .i64 y] 58))
      rw [show (w.alloc (.cells #[.int .i64 x, .int .i64 y] 58)).heap.size = w.heap.size + 1 by simp] at h
      exact h
    have m2 : Ds (((w.alloc (.cells #[.int .i64 x, .int .i64 y] 58)).alloc (.map #[] 0)).alloc (.map #[] 0)) (w.heap.size + 1 + 1) (fun _ _ => false) := by
      have h := Dots.made (P := Tryd.prog) (k := 58) ((w.alloc (.cells #[.int .i64 x, .int .i64 y] 58)).alloc (.map #[] 0))
      rw [show ((w.alloc (.cells #[.int .i64 x, .int .i64 y] 58)).alloc (.map #[] 0)).heap.size = w.heap.size + 1 + 1 by simp] at h
      exact h
    have hgw : w.grownBy (((w.alloc (.cells #[.int .i64 x, .int .i64 y] 58)).alloc (.map #[] 0)).alloc (.map #[] 0)) none := ((World.grownBy_alloc w _ none).andThen (World.grownBy_alloc _ _ none) (by simp)).andThen (World.grownBy_alloc _ _ none) (by simp)
    have M1 := Lib.hid m1
    have M2 := Lib.hid m2
    have HGW := Lib.hid hgw
    clear m1 m2 hgw
    go_wp2_with (refine dots_insert vkey _ rfl _ _ _ 42 84 rfl Tryd.underlying42 _ _ rfl M2.out x y rfl rfl hbx ?_; intro w1 hd1 hg1)
    go_step3
    rename_i K1 hK1
    refine hK1 _ _ (hpass _ _ ⟨w.heap.size + 1 + 1, _, _, _, _, _, _, _, _, _, _, _, _, _, _, _, _, _, _, _, _, by omega, rfl, Lib.hid ((M1.out.alloc _).kept hg1 (by simp)), Lib.hid hd1, Lib.hid (((HH.out.kept HGW.out (by simp)).kept hg1 (by simp; omega)).congr fun u v => by simp [dS]), HST, Lib.hid ((HGW.out.but (some b)).andThen hg1 (by intro j hj; cases hj; exact Or.inl (by omega)))⟩)
  · rintro a wr ⟨f, A, F, u7, u8, u9, u10, u11, u12, u13, u14, u15, u16, u17, u18, u19, u20, u21, u22, u23, u24, hf, rfl, HA, HF, HD, HT, HG⟩
    have HN := Lib.hid fun (h : ∃ u v, nbS (dS S (uS A F)) F u v = true) => tkg_next HT.out h
    have HE := Lib.hid fun (h : ¬ ∃ u v, nbS (dS S (uS A F)) F u v = true) => tkg_end HT.out h
    have hzr : w.heap.size ≤ wr.heap.size := HG.out.size
    have hp : 0 < cnt (sD 100 (nbS (dS S (uS A F)) F)) 10000 ↔ ∃ u v, nbS (dS S (uS A F)) F u v = true := set_pos (HBS.out.sub fun u v h => by unfold nbS dS at h; simp only [Bool.and_eq_true] at h; exact h.1.1)
    by_cases hc : 0 < cnt (sD 100 (nbS (dS S (uS A F)) F)) 10000
    · have HT2 := Lib.hid (HN.out (hp.1 hc))
      obtain ⟨p, q, hpq⟩ := HT.out.ne
      have HPQ := Lib.hid hpq
      clear hp hpq HE HN
      go_wp2_with (first
        | (go_at_call 73; refine (drop_any _ _ _ _ _ HD.out HF.out (by omega)).mono ?_; rintro e w1 ⟨rfl, hd1, hg1⟩; have HD1 := Lib.hid (hd1.congr tkg_sub); have HA1 := Lib.hid (HA.out.kept hg1 (by simp; omega)); have HF1 := Lib.hid (HF.out.kept hg1 (by simp; omega)); have HG1 := Lib.hid (grown_tr HG.out hg1); clear hd1 hg1)
        | (go_at_call 84; refine (copy_any _ _ _ _ _ HA1.out HF1.out (by omega)).mono ?_; rintro e w2 ⟨rfl, hd2, hg2⟩; have HA2 := Lib.hid hd2; have HD2 := Lib.hid (HD1.out.kept hg2 (by simp; omega)); have HF2 := Lib.hid (HF1.out.kept hg2 (by simp; omega)); have HG2 := Lib.hid (HG1.out.andThen hg2 (by intro j hj; cases hj; exact Or.inl (by omega))); clear hd2 hg2)
        | (go_at_call 87; refine (besideAny_any _ _ _ _ _ HD2.out HF2.out).mono ?_; rintro e w3 ⟨⟨c, rfl, hc, hd3⟩, hb3⟩; have hg3 := grown_of_below hb3 (Nat.le_refl _); have HA3 := Lib.hid (HA2.out.kept hg3 (by simp)); have HD3 := Lib.hid (HD2.out.kept hg3 (by simp)); have HF3 := Lib.hid hd3; have HG3 := Lib.hid (HG2.out.andThen hg3 (by simp)); have hz2 := HA2.out.lt; clear hd3 hb3 hg3)
        | (at_len; refine dots_len vkey _ rfl _ 42 84 rfl Tryd.underlying42 c 100 100 _ rfl HF3.out HF3.out.bd ?_))

      go_step3
      have hsf := HT.out.sf p q HPQ.out
      refine ⟨rfl, ⟨c, _, _, _, _, _, _, _, _, _, _, _, _, _, _, _, _, _, _, _, _, by omega, rfl, HA3, HF3, HD3, HT2, HG3⟩, mapLen_less HD.out HD3.out (fun u v h => ?_) (x := p) (y := q) ?_ ?_⟩
      · unfold dS uS at h
        simp at h
        unfold dS
        simp [h]
      · unfold dS
        simp [hsf]
      · unfold dS uS
        simp [HPQ.out]
    · have HP2 := Lib.hid (HE.out (fun h => hc (hp.2 h)))
      have hc0 : cnt (sD 100 (nbS (dS S (uS A F)) F)) 10000 = 0 := by omega
      clear hp hc HE HN
      go_wp2_with (first
        | (go_at_call 73; refine (drop_any _ _ _ _ _ HD.out HF.out (by omega)).mono ?_; rintro e w1 ⟨rfl, hd1, hg1⟩; have HD1 := Lib.hid (hd1.congr tkg_sub); have HA1 := Lib.hid (HA.out.kept hg1 (by simp; omega)); have HF1 := Lib.hid (HF.out.kept hg1 (by simp; omega)); have HG1 := Lib.hid (grown_tr HG.out hg1); clear hd1 hg1)
        | (go_at_call 84; refine (copy_any _ _ _ _ _ HA1.out HF1.out (by omega)).mono ?_; rintro e w2 ⟨rfl, hd2, hg2⟩; have HA2 := Lib.hid hd2; have HD2 := Lib.hid (HD1.out.kept hg2 (by simp; omega)); have HF2 := Lib.hid (HF1.out.kept hg2 (by simp; omega)); have HG2 := Lib.hid (HG1.out.andThen hg2 (by intro j hj; cases hj; exact Or.inl (by omega))); clear hd2 hg2)
        | (go_at_call 87; refine (besideAny_any _ _ _ _ _ HD2.out HF2.out).mono ?_; rintro e w3 ⟨⟨c, rfl, hc, hd3⟩, hb3⟩; have hg3 := grown_of_below hb3 (Nat.le_refl _); have HA3 := Lib.hid (HA2.out.kept hg3 (by simp)); have HD3 := Lib.hid (HD2.out.kept hg3 (by simp)); have HF3 := Lib.hid hd3; have HG3 := Lib.hid (HG2.out.andThen hg3 (by simp)); have hz2 := HA2.out.lt; clear hd3 hb3 hg3)
        | (at_len; refine dots_len vkey _ rfl _ 42 84 rfl Tryd.underlying42 c 100 100 _ rfl HF3.out HF3.out.bd ?_))

      simp only [Exit.jump]
      go_ret
      exact ⟨⟨_, _, rfl, by omega, HA3.out, HP2.out, HD3.out⟩, HG3.out⟩
end Go.Proofs.YtbcgidgjdedkiaaDoor
/- Chapter 7: LayersOfPicture, by the program. -/
namespace Go.Proofs.YtbcgidgjdedkiaaDoor
open Go.ChangeShapes Go.WideShapes Go.ChangeAt Go.RowKit Go.Maps

/-- Where there is a dot, there is one at the border. -/
theorem bS_some {S : Int → Int → Bool} (hb : ∀ x y, S x y = true → 0 ≤ x) : ∀ (m : Nat) (x y : Int), x < m → S x y = true → ∃ u v, bS S u v = true
  | 0, x, y, hm, h => by have := hb x y h; omega
  | m + 1, x, y, hm, h => by
    cases hl : S (x - 1) y with
    | true => exact bS_some hb m (x - 1) y (by omega) hl
    | false => exact ⟨x, y, by unfold bS; simp [h, hl]⟩
theorem cnt_gS (W H : Nat) (d : Nat → Bool) : cnt (sD W (gS W H d)) (W * H) = cnt d (W * H) := cnt_congr fun _ hi => sD_gS d hi
theorem brd_some (W H : Nat) (d : Nat → Bool) (h : cnt (brd W H d) (W * H) = 0) : cnt d (W * H) = 0 := by
  refine Nat.eq_zero_of_not_pos fun hc => ?_
  rw [← cnt_gS] at hc
  obtain ⟨x, y, hs⟩ := (set_pos (gS_bd W H d)).1 hc
  have hb := gS_bd W H d x y hs
  obtain ⟨u, v, h1⟩ := bS_some (fun x y h => (gS_bd W H d x y h).1) W x y (by omega) hs
  rw [brd_set] at h1
  have := (set_pos (gS_bd W H (brd W H d))).2 ⟨u, v, h1⟩
  rw [cnt_gS] at this
  omega
set_option maxRecDepth 8000 in
theorem impl_LayersOfPicture_no (s : ByteArray) (w : World) (hs : s.size ≤ 2000000) (hM : MaxL w) (hp : isPic s.data.toList = false) :
    Calls Tryd.prog 41 #[.string s] w (ResI false [] w) := by
  have HR := Lib.hid (readPicture_no s w hs hM hp)
  clear hM hp
  go_enter Tryd.func41, Tryd.ntmps41
  go_wp2_with (go_at_call 46; refine (HR.out).mono ?_; rintro e w1 ⟨rfl, hb1⟩)
  go_ret2
  exact resI_nil (hb1.alloc hb1.size _)
set_option maxRecDepth 8000 in
set_option maxHeartbeats 3200000 in
theorem impl_LayersOfPicture_yes (s : ByteArray) (w : World) (hs : s.size ≤ 2000000) (hM : MaxL w) (hp : isPic s.data.toList = true) :
    Calls Tryd.prog 41 #[.string s] w (ResI true (lys (pW s.data.toList) (pH s.data.toList) (pW s.data.toList * pH s.data.toList + 1) (pD s.data.toList)) w) := by
  have HRR := Lib.hid (readPicture_yes s w hs hM hp)
  have pa := pic_b hp
  obtain ⟨a0, a1, a2, a3⟩ : 1 ≤ pW s.data.toList ∧ pW s.data.toList ≤ 24 ∧ 1 ≤ pH s.data.toList ∧ pH s.data.toList ≤ 24 := ⟨pa.w0, pa.w1, pa.h0, pa.h1⟩
  clear hM hp pa
  generalize pW s.data.toList = W at *
  generalize pH s.data.toList = H at *
  generalize pD s.data.toList = d at *
  have hn2 : W * H ≤ 2500 := Nat.mul_le_mul (n₁ := W) (n₂ := 50) (m₁ := H) (m₂ := 50) (by omega) (by omega)
  have HLE := Lib.hid fun f d (h : cnt (brd W H d) (W * H) = 0) => lys_end W H f d h
  have HLM := Lib.hid fun f d (h : ¬ cnt (brd W H d) (W * H) = 0) => lys_more W H f d h
  have HCT := Lib.hid fun d => cnt_tkn W H d (W * H)
  have HCN := Lib.hid fun d => cnt_le d (W * H)
  have HBS := Lib.hid fun d => brd_some W H d
  have HCG := Lib.hid fun d => cnt_gS W H d
  have HBD := Lib.hid fun d => gS_bd W H d
  have HBR := Lib.hid fun d x y => brd_set W H d x y
  have HTK := Lib.hid fun d x y => tkn_set W H d x y
  obtain ⟨n, hn⟩ : ∃ n, n = W * H := ⟨_, rfl⟩
  have HN := Lib.hid hn
  rw [← hn] at HLE HLM HCT HCN HBS hn2
  obtain ⟨L, hL⟩ : ∃ L, L = lys W H (W * H + 1) d := ⟨_, rfl⟩
  rw [← hL]
  rw [← hn] at hL
  have HL := Lib.hid hL
  clear hn hL
  go_enter Tryd.func41, Tryd.ntmps41
  go_wp2_with (go_at_call 46; refine (HRR.out).mono ?_; rintro e w1 ⟨⟨c, rfl, hcl, hd⟩, hb1⟩)
  have k0 : (w1.alloc (.cells #[.int .i64 (W : Int), .int .i64 (H : Int), .map (some c)] 44)).cell? ⟨w1.heap.size, 2, none⟩ = some (.map (some c)) := by simp [go_sem]
  have HD := Lib.hid (hd.alloc (.cells #[.int .i64 (W : Int), .int .i64 (H : Int), .map (some c)] 44))
  have HB := Lib.hid (hb1.alloc hb1.size (.cells #[.int .i64 (W : Int), .int .i64 (H : Int), .map (some c)] 44))
  have hcl2 : c < w1.heap.size := hd.lt
  have hz : (w1.alloc (.cells #[.int .i64 (W : Int), .int .i64 (H : Int), .map (some c)] 44)).heap.size = w1.heap.size + 1 := by simp
  have hw1 := hb1.size
  generalize w1.alloc (.cells #[.int .i64 (W : Int), .int .i64 (H : Int), .map (some c)] 44) = w2 at *
  generalize w1.heap.size = k at *
  have HG : Hid (w2.ownsRow (k + 1) 3 1 (.slice none 0 0) ([] : List Int).length (i64s [])) := Lib.hid (World.ownsRow_nil _ _ _ _)
  clear hd hb1
  go_loopw [6, 7] (fun v _ wr => ∃ (xs : List Int) (f : Nat) (e : Nat → Bool), L = xs ++ lys W H f e ∧ xs.length + f = n + 1 ∧ cnt e n < f ∧ Hid (Ds wr c (gS W H e)) ∧ wr.cell? ⟨k, 2, none⟩ = some (.map (some c)) ∧ Hid (wr.ownsRow (k + 1) 3 1 v xs.length (i64s xs)) ∧ Hid (Below w.heap.size w wr) ∧ k + 1 ≤ wr.heap.size) (fun v _ _ => n + 1 - lenV v)
  case atStart => exact ⟨[], n + 1, d, by rw [HL.out]; rfl, by simp, by have := HCN.out d; omega, HD, k0, HG, HB, by omega⟩
  case round =>
    obtain ⟨xs, f, e, hL, hlen, hcf, hd, hk, hG, hb, hS⟩ := hrel
    clear HD HG HB k0
    obtain ⟨A, cc, rfl⟩ := row_form hG.out
    by_cases hc0 : cnt e n = 0
    · have HF : Hid (L = xs) := Lib.hid (by rw [hL, HLE.out f e (by have := HCT.out e; omega), List.append_nil])
      have hcz : ((cnt (sD W (gS W H e)) (W * H) : Nat) : Int) = 0 := by rw [HCG.out, ← HN.out]; omega
      clear hL
      go_wp2_with (at_len; refine dots_len vkey _ rfl _ 42 84 rfl Tryd.underlying42 c W H _ rfl hd.out (HBD.out e) ?_; rw [hcz])
      go_ret2
      rw [HF.out]
      exact resI_of hG.out (by omega) hb.out
    · have hcz : ∃ q : Nat, cnt (sD W (gS W H e)) (W * H) = q + 1 := ⟨cnt e n - 1, by rw [HCG.out, ← HN.out]; omega⟩
      obtain ⟨q1, hcz⟩ := hcz
      have hcz : cnt (sD W (gS W H e)) (W * H) = q1 + 1 := hcz
      obtain ⟨f, rfl⟩ : ∃ f', f = f' + 1 := ⟨f - 1, by omega⟩
      have hq0 : ¬ cnt (brd W H e) n = 0 := fun h => hc0 (HBS.out e h)
      have HF : Hid (L = (xs ++ [(cnt (brd W H e) n : Int)]) ++ lys W H f (tkn W H e)) := Lib.hid (by rw [hL, HLM.out f e hq0]; simp)
      have HCE := HCT.out e
      have hxl : xs.length ≤ 100000 := by omega
      have hqe : cnt (sD W (gS W H (brd W H e))) (W * H) = cnt (brd W H e) n := by rw [HCG.out, ← HN.out]
      have HQE := Lib.hid hqe
      have hgt : ((q1 + 1 : Nat) : Int) > 0 := by omega
      clear hL hqe
      go_wp2_with (first
        | (at_len; refine dots_len vkey _ rfl _ 42 84 rfl Tryd.underlying42 c W H _ rfl hd.out (HBD.out e) ?_; rw [hcz])
        | (go_at_call 72; refine (border_any c _ wr hd.out).mono ?_; rintro ending w3 ⟨⟨c2, rfl, hc2, hd2⟩, hb3⟩; have HD2 := Lib.hid (hd2.congr (HBR.out e)); have HD3 := Lib.hid (hd.out.below hb3); have k3 := (hb3.cell (p := ⟨k, 2, none⟩) (by simp; omega)).trans hk; have HG3 := Lib.hid (hG.out.kept (grown_of_below hb3 (Nat.le_refl _)) (by have := Classical.em ((Value.slice A xs.length cc).ownBlock = none); simp; exact this)); have HB3 := Lib.hid (hb.out.trans (hb3.mono hb.out.size)); have hz3 : wr.heap.size ≤ w3.heap.size := hb3.size; clear hd2 hb3))
      refine (drop_any c c2 _ _ w3 HD3.out HD2.out (by omega)).mono ?_
      rintro ending w4 ⟨rfl, hd4, hg4⟩
      have HD4 := Lib.hid (show Ds w4 c (gS W H (tkn W H e)) from hd4.congr fun x y => by rw [show dS (gS W H e) (gS W H (brd W H e)) x y = dS (gS W H e) (bS (gS W H e)) x y by unfold dS; rw [HBR.out]]; exact HTK.out e x y)
      have HD5 := Lib.hid (HD2.out.kept hg4 (by simp; omega))
      have k4 := (hg4.cell k3 (by simp; omega))
      have HG4 := Lib.hid (HG3.out.kept hg4 (.inr fun e => by have h1 := HG3.out.lt _ e; omega))
      have HB4 := Lib.hid (HB3.out.grown hg4 (by omega) fun j hj => by cases hj; omega)
      have hz4 : w3.heap.size ≤ w4.heap.size := hg4.size
      clear hd4 hg4 HB3 HG3 k3 HD2 HD3
      go_wp2_with (first
        | (at_len; refine dots_len vkey _ rfl _ 42 84 rfl Tryd.underlying42 c2 W H _ rfl HD5.out (HBD.out _) ?_; rw [HQE.out])
        | (at_builtin; refine app_num (k + 1) _ rfl _ _ rfl _ _ rfl HG4.out (by omega) _ rfl hxl ?_; intro v' w5 hG5 hg5))
      have HX : Hid (∀ j, Value.ownBlock (.slice A xs.length cc) = some j → k + 1 ≤ j) := Lib.hid fun j hj => (HG4.out.lt j hj).1
      have HD6 := Lib.hid (HD4.out.kept (hg5) fun e => by have := HX.out _ e.symm; omega)
      have k5 := hg5.cell k4 (fun e => absurd (HX.out _ e.symm) (by simp))
      have HB5 := Lib.hid (HB4.out.grown hg5 (by omega) fun j hj => by have := HX.out j hj; omega)
      have hz5 : k + 1 ≤ w5.heap.size := Nat.le_trans (by omega) hg5.size
      obtain ⟨A', cc', rfl⟩ := row_form hG5
      refine ⟨⟨xs ++ [(cnt (brd W H e) n : Int)], f, tkn W H e, HF.out, by simp; omega, by omega, HD6, k5, Lib.hid hG5, HB5, hz5⟩, ?_⟩
      simp [lenV]
      omega
end Go.Proofs.YtbcgidgjdedkiaaDoor
/- Chapter 7: the law of LayersOfPicture, whatever the text. -/
namespace Go.Proofs.YtbcgidgjdedkiaaDoor
open Go.RowKit

theorem lys_len (W H : Nat) : ∀ (f : Nat) (d : Nat → Bool), (lys W H f d).length ≤ f
  | 0, _ => by simp [lys]
  | f + 1, d => by
    by_cases h : cnt (brd W H d) (W * H) = 0
    · rw [lys_end W H _ d h]
      simp
    · rw [lys_more W H f d h, List.length_cons]
      have := lys_len W H f (tkn W H d)
      omega
theorem lawI_LayersOfPicture_big0 (s : ByteArray) (hz : 1048576 < s.size) (w : World) :
    Calls Tryd.prog 14 #[.string s] w fun e w' => e = .returned (.bool true) ∧ Below w.heap.size w w' := by
  go_enter Tryd.func14, Tryd.ntmps14
  go_wp2
  go_ret
  exact ⟨rfl, Below.refl _ _⟩
theorem walk_LayersOfPicture (s : ByteArray) (w : World) (hM : MaxL w) :
    Calls Tryd.prog 14 #[.string s] w fun e w' => e = .returned (.bool true) ∧ Below w.heap.size w w' := by
  by_cases hz : s.size ≤ 1048576
  · have hs : s.size ≤ 2000000 := by omega
    cases hp : isPic s.data.toList with
    | true =>
      have pa := pic_b hp
      have hn : pW s.data.toList * pH s.data.toList ≤ 2500 := Nat.mul_le_mul (n₁ := pW s.data.toList) (n₂ := 50) (m₁ := pH s.data.toList) (m₂ := 50) (by have := pa.w1; omega) (by have := pa.h1; omega)
      have hl := lys_len (pW s.data.toList) (pH s.data.toList) (pW s.data.toList * pH s.data.toList + 1) (pD s.data.toList)
      exact lawI_LayersOfPicture_m s true _ (by omega) hz (fun w => spec_LayersOfPicture_yes s _ _ _ _ w (isP_of s hs hp)) (fun w hM => impl_LayersOfPicture_yes s w hs hM hp) w hM
    | false =>
      exact lawI_LayersOfPicture_m s false [] (by simp) hz (fun w => (spec_LayersOfPicture_no s w hs hp).mono fun e w' h => by
        obtain ⟨rfl, hb⟩ := h
        exact resI_nil hb) (fun w hM => impl_LayersOfPicture_no s w hs hM hp) w hM
  · exact lawI_LayersOfPicture_big0 s (by omega) w
end Go.Proofs.YtbcgidgjdedkiaaDoor
/- Chapter 7: the piece that the program takes is the specification's. No program in sight. -/
namespace Go.Proofs.YtbcgidgjdedkiaaDoor
open Go.RowKit Go.Maps

theorem nbs_xy {W H x y : Nat} (hx : x < W) (hy : y < H) (j : Nat) : j ∈ nbs W H (y * W + x) ↔ (0 < x ∧ j = y * W + x - 1) ∨ (x + 1 < W ∧ j = y * W + x + 1) ∨ (0 < y ∧ j = y * W + x - W) ∨ (y + 1 < H ∧ j = y * W + x + W) := by
  have hh : W * (H - 1) + W = W * H := by
    obtain ⟨n, rfl⟩ : ∃ n, H = n + 1 := ⟨H - 1, by omega⟩
    rw [Nat.add_sub_cancel, Nat.mul_add, Nat.mul_one]
  have c3 : W ≤ y * W + x ↔ 0 < y := by
    constructor
    · intro h
      rcases Nat.eq_zero_or_pos y with e | e
      · rw [e] at h; omega
      · exact e
    · intro h
      have := Nat.mul_le_mul_right W h
      omega
  have c4 : y * W + x < W * (H - 1) ↔ y + 1 < H := by
    constructor
    · intro h
      rcases Nat.lt_or_ge y (H - 1) with e | e
      · omega
      · have := Nat.mul_le_mul_left W e
        rw [Nat.mul_comm W y] at this
        omega
    · intro h
      exact place_lt hx (by omega)
  rw [nbs_mem, place_x hx, c3, c4]
  constructor <;> rintro (⟨h, rfl⟩ | ⟨h, rfl⟩ | ⟨h, rfl⟩ | ⟨h, rfl⟩)
  · exact .inl ⟨h, rfl⟩
  · exact .inr (.inl ⟨by omega, rfl⟩)
  · exact .inr (.inr (.inl ⟨h, rfl⟩))
  · exact .inr (.inr (.inr ⟨h, rfl⟩))
  · exact .inl ⟨h, rfl⟩
  · exact .inr (.inl ⟨by omega, rfl⟩)
  · exact .inr (.inr (.inl ⟨h, rfl⟩))
  · exact .inr (.inr (.inr ⟨h, rfl⟩))
theorem nS_gS (W H : Nat) (d : Nat → Bool) {x y : Nat} (hx : x < W) (hy : y < H) : nS (gS W H d) x y = true ↔ ∃ j, j ∈ nbs W H (y * W + x) ∧ d j = true := by
  have g1 : gS W H d ((x : Int) - 1) y = true ↔ 0 < x ∧ d (y * W + x - 1) = true := by
    by_cases h : 0 < x
    · rw [show (x : Int) - 1 = ((x - 1 : Nat) : Int) by omega, gS_nat W H d _ _ (by omega) hy, show y * W + (x - 1) = y * W + x - 1 by omega]
      simp [h]
    · rw [(gS_bd W H d).no (by omega)]
      simp [h]
  have g2 : gS W H d ((x : Int) + 1) y = true ↔ x + 1 < W ∧ d (y * W + x + 1) = true := by
    by_cases h : x + 1 < W
    · rw [show (x : Int) + 1 = ((x + 1 : Nat) : Int) by omega, gS_nat W H d _ _ h hy, show y * W + (x + 1) = y * W + x + 1 by omega]
      simp [h]
    · rw [(gS_bd W H d).no (by omega)]
      simp [h]
  have g3 : gS W H d x ((y : Int) - 1) = true ↔ 0 < y ∧ d (y * W + x - W) = true := by
    by_cases h : 0 < y
    · have : (y - 1) * W + W = y * W := by
        obtain ⟨n, rfl⟩ : ∃ n, y = n + 1 := ⟨y - 1, by omega⟩
        rw [Nat.add_sub_cancel, Nat.succ_mul]
      rw [show (y : Int) - 1 = ((y - 1 : Nat) : Int) by omega, gS_nat W H d _ _ hx (by omega), show (y - 1) * W + x = y * W + x - W by omega]
      simp [h]
    · rw [(gS_bd W H d).no (by omega)]
      simp [h]
  have g4 : gS W H d x ((y : Int) + 1) = true ↔ y + 1 < H ∧ d (y * W + x + W) = true := by
    by_cases h : y + 1 < H
    · have : (y + 1) * W = y * W + W := Nat.succ_mul y W
      rw [show (y : Int) + 1 = ((y + 1 : Nat) : Int) by omega, gS_nat W H d _ _ hx h, show (y + 1) * W + x = y * W + x + W by omega]
      simp [h]
    · rw [(gS_bd W H d).no (by omega)]
      simp [h]
  rw [nS_iff, g1, g2, g3, g4]
  constructor
  · rintro (⟨h, k⟩ | ⟨h, k⟩ | ⟨h, k⟩ | ⟨h, k⟩)
    · exact ⟨_, (nbs_xy hx hy _).2 (.inl ⟨h, rfl⟩), k⟩
    · exact ⟨_, (nbs_xy hx hy _).2 (.inr (.inl ⟨h, rfl⟩)), k⟩
    · exact ⟨_, (nbs_xy hx hy _).2 (.inr (.inr (.inl ⟨h, rfl⟩))), k⟩
    · exact ⟨_, (nbs_xy hx hy _).2 (.inr (.inr (.inr ⟨h, rfl⟩))), k⟩
  · rintro ⟨j, hj, k⟩
    rcases (nbs_xy hx hy _).1 hj with ⟨h, rfl⟩ | ⟨h, rfl⟩ | ⟨h, rfl⟩ | ⟨h, rfl⟩
    · exact .inl ⟨h, k⟩
    · exact .inr (.inl ⟨h, k⟩)
    · exact .inr (.inr (.inl ⟨h, k⟩))
    · exact .inr (.inr (.inr ⟨h, k⟩))
theorem piece_pce {W H a : Nat} {d : Nat → Bool} {P : Int → Int → Bool} (hw : 0 < W) (ha : a < W * H) (hf : fstP W H d a)
    (hp : Piece (gS W H (rem W H d a)) ((a % W : Nat) : Int) ((a / W : Nat) : Int) P) (x y : Int) : P x y = gS W H (pce W H d a) x y := by
  have hbP : Bd W H P := (gS_bd W H (rem W H d a)).sub hp.sub
  have hax : a % W < W := Nat.mod_lt _ hw
  have hay : a / W < H := Nat.div_lt_of_lt_mul ha
  have haa : a / W * W + a % W = a := Nat.div_add_mod' a W
  have hPe : P = gS W H (sD W P) := by
    funext u v
    refine eq_gS hbP (fun u v hu hv => ?_) u v
    unfold sD
    rw [place_x hu, place_y hu]
  refine eq_gS hbP (fun u v hu hv => ?_) x y
  have hi := place_lt hu hv (H := H)
  rw [Bool.eq_iff_iff]
  constructor
  · intro h
    have key : ∀ u v, P u v = true → gS W H (pce W H d a) u v = true := by
      refine hp.lst (gS W H (pce W H d a)) ?_ ?_
      · rw [gS_nat W H _ _ _ hax hay, haa]
        simp [pce, Conn.here hf.1]
      · intro u v hs hn
        have hb := gS_bd W H _ u v hs
        obtain ⟨u, rfl⟩ := Int.eq_ofNat_of_zero_le hb.1
        obtain ⟨v, rfl⟩ := Int.eq_ofNat_of_zero_le hb.2.2.1
        have hu : u < W := by omega
        have hv : v < H := by omega
        rw [gS_nat W H _ _ _ hu hv] at hs ⊢
        obtain ⟨j, hj, hc⟩ := (nS_gS W H _ hu hv).1 hn
        have hc2 : Conn W H d a j := by simpa [pce] using hc
        have : Conn W H d a (v * W + u) := .step hc2 (nbs_symm (place_lt hu hv) hj) (rem_iff.1 hs).1
        simpa [pce] using this
    have := key _ _ h
    rw [gS_nat W H _ _ _ hu hv] at this
    exact this
  · intro h
    have hc : Conn W H d a (v * W + u) := by simpa [pce] using h
    have key : ∀ i, Conn W H d a i → sD W P i = true := by
      intro i hc
      induction hc with
      | here _ => exact hp.fst
      | @step i j hc hj hd ih =>
        have hil := conn_lt ha hc
        have hjl : j < W * H := conn_lt ha (.step hc hj hd)
        have hjx : j % W < W := Nat.mod_lt _ hw
        have hjy : j / W < H := Nat.div_lt_of_lt_mul hjl
        have hjj : j / W * W + j % W = j := Nat.div_add_mod' j W
        have hr := rem_of_conn ha hf (.step hc hj hd)
        refine hp.cls _ _ (by rw [gS_nat W H _ _ _ hjx hjy, hjj]; exact hr) ?_
        rw [hPe]
        exact (nS_gS W H _ hjx hjy).2 ⟨i, by rw [hjj]; exact nbs_symm hil hj, ih⟩
    have := key _ hc
    unfold sD at this
    rw [place_x hu, place_y hu] at this
    exact this
end Go.Proofs.YtbcgidgjdedkiaaDoor
/- Chapter 7: PiecesOfPicture, by the program. -/
namespace Go.Proofs.YtbcgidgjdedkiaaDoor
open Go.ChangeShapes Go.WideShapes Go.ChangeAt Go.RowKit Go.Maps

theorem grown_any {w w' : World} (row : Option Nat) (h : Below w.heap.size w w') : w.grownBy w' row := ⟨h.os, h.tape, h.output, h.size, fun i hi _ => h.block i hi⟩
theorem step_app_text {ops : Array Oper} {o : Oper} {a : Act} {K : Act → World → Prop} {X : Exit → Act → World → Prop} {E : Prop} {w : World} {z : List UInt8} (base : Nat) (hgd : o.guard = none) (s x : Operand)
    (ho : o.op = .call { callee := .builtin .append, args := #[s, x], argTypes := #[31, 31] }) (v : Value) (xs : List (List UInt8)) (hs : a.eval s = v) (hG : w.ownsRow base 9 1 v xs.length (strs xs)) (hB : base ≤ w.heap.size)
    (hx : a.eval x = .slice (some ⟨w.heap.size, 0, none⟩) 1 1) (hl : xs.length ≤ 100000)
    (h : ∀ v' w', w'.ownsRow base 9 1 v' (xs ++ [z]).length (strs (xs ++ [z])) → w.grownBy w' v.ownBlock → K (a.put o.dst v') w') :
    if Region.wanted o (yielded ops a.tmps) = true then Oper.wp Tryd.prog o a (w.alloc (.cells #[.string (bt z)] 9)) K X else E := by
  obtain ⟨i0, hi0, hz0, hz1, hz2⟩ := info_parts infoStr
  refine step_append_lies _ hgd s x 31 ho base 9 i0 (.string ⟨#[]⟩) 1 16 Tryd.underlying31 hi0 hz0 hz1 hz2 rfl (by decide) v _ _ hs (hG.alloc _) ⟨w.heap.size, 0, none⟩ 1 1 [.string (bt z)] hx rfl ?c1 ?c2 (by decide) ?c3 ?c4 ?c5 _ rfl ?_
  case c1 =>
    intro j u hj
    match j, hj with
    | 0, hj => simp at hj; subst hj; simp [Addr.add]
  case c2 => intro u hu; simp at hu; subst hu; rfl
  case c3 => unfold maxLen; omega
  case c4 => omega
  case c5 => simp; omega
  · intro g cap w4 hown' hgrow _ _
    refine h _ w4 ?_ (grownBy_trans (World.grownBy_alloc w _ _) hgrow)
    rw [List.length_append, ← strs_app]
    exact hown'
theorem five {V : World} {k p : Nat} {W H : Int} {m : Option Nat} {x y : Int} {t t' : TypeId} {f f' : Nat × Nat} (h : V.heap[k]? = some (.cells #[.int .i64 W, .int .i64 H, .map m] t f)) (g : V.heap[p]? = some (.cells #[.int .i64 x, .int .i64 y] t' f')) :
    V.cell? ⟨k, 0, none⟩ = some (.int .i64 W) ∧ V.cell? ⟨k, 1, none⟩ = some (.int .i64 H) ∧ V.cell? ⟨k, 2, none⟩ = some (.map m) ∧ V.cell? ⟨p, 0, none⟩ = some (.int .i64 x) ∧ V.cell? ⟨p, 1, none⟩ = some (.int .i64 y) :=
  ⟨Lib.cell_of_heap h 0, Lib.cell_of_heap h 1, Lib.cell_of_heap h 2, Lib.cell_of_heap g 0, Lib.cell_of_heap g 1⟩
theorem resT_of {w w' : World} {v : Value} {xs : List (List UInt8)} {base : Nat} (h : w'.ownsRow base 9 1 v xs.length (strs xs)) (hB : w.heap.size ≤ base) (hb : Below w.heap.size w w') : ResT true xs w (.returned (.tuple #[v, .bool true])) w' := by
  obtain ⟨A, c, rfl⟩ := row_form h
  exact ⟨A, c, rfl, (own_of_row h).wide hB (Nat.le_refl _), hb⟩
set_option maxRecDepth 8000 in
theorem impl_PiecesOfPicture_no (s : ByteArray) (w : World) (hs : s.size ≤ 2000000) (hM : MaxL w) (hp : isPic s.data.toList = false) :
    Calls Tryd.prog 32 #[.string s] w (ResT false [] w) := by
  have HR := Lib.hid (readPicture_no s w hs hM hp)
  clear hM hp
  go_enter Tryd.func32, Tryd.ntmps32
  go_wp2_with (go_at_call 46; refine (HR.out).mono ?_; rintro e w1 ⟨rfl, hb1⟩)
  go_ret2
  exact ⟨none, 0, rfl, Own.none_, hb1.alloc hb1.size _⟩
set_option maxRecDepth 8000 in
set_option maxHeartbeats 6400000 in
theorem impl_PiecesOfPicture_yes (s : ByteArray) (w : World) (hs : s.size ≤ 2000000) (hM : MaxL w) (hp : isPic s.data.toList = true) :
    Calls Tryd.prog 32 #[.string s] w (ResT true (pcs (pW s.data.toList) (pH s.data.toList) (pD s.data.toList) (pW s.data.toList * pH s.data.toList)) w) := by
  have HRR := Lib.hid (readPicture_yes s w hs hM hp)
  have pa := pic_b hp
  obtain ⟨a0, a1, a2, a3⟩ : 1 ≤ pW s.data.toList ∧ pW s.data.toList ≤ 24 ∧ 1 ≤ pH s.data.toList ∧ pH s.data.toList ≤ 24 := ⟨pa.w0, pa.w1, pa.h0, pa.h1⟩
  clear hM hp pa
  generalize pW s.data.toList = W at *
  generalize pH s.data.toList = H at *
  generalize pD s.data.toList = d at *
  obtain ⟨n, hn⟩ : ∃ n, n = W * H := ⟨_, rfl⟩
  have hn2 : n ≤ 2500 := by rw [hn]; exact Nat.mul_le_mul (n₁ := W) (n₂ := 50) (m₁ := H) (m₂ := 50) (by omega) (by omega)
  rw [← hn]
  have HN := Lib.hid hn
  have HPL := Lib.hid fun b w => places_any W H n b w hn (by omega) (by omega)
  have HPA : Hid (∀ k, k < n → (prs (plcs W n))[2 * k]? = some (.int .i64 ((k % W : Nat) : Int)) ∧ (prs (plcs W n))[2 * k + 1]? = some (.int .i64 ((k / W : Nat) : Int))) := Lib.hid fun k h => by
    have := prs_get (plcs W n) k (by rw [plcs_len]; exact h)
    rw [plcs_at W n k h] at this
    exact this
  have HPN : Hid (0 < n → 0 < (prs (plcs W n)).length) := Lib.hid fun h => by rw [prs_len, plcs_len]; omega
  have HXY : Hid (∀ k, k < n → k % W < 50 ∧ k / W < 50 ∧ ∀ e, gS W H e ((k % W : Nat) : Int) ((k / W : Nat) : Int) = e k) := Lib.hid fun k hk => by
    obtain ⟨h1, h2, h3⟩ := place_of (W := W) (H := H) (i := k) (by rw [← hn]; exact hk)
    refine ⟨by omega, by omega, fun e => ?_⟩
    rw [gS_nat W H e _ _ h1 h2, Nat.div_add_mod']
  have HR0 : Hid (gS W H d = gS W H (rem W H d 0)) := Lib.hid (by congr 1; funext i; exact rem_zero W H d i)
  have HLN := Lib.hid fun a => pcs_len W H d a
  have HTX := Lib.hid fun c P wd (h : Ds wd c P) => text_any W H n c P wd h hn a0 (by omega) (by omega)
  clear hn
  generalize prs (plcs W n) = pl at *
  go_enter Tryd.func32, Tryd.ntmps32
  go_wp2_with (first
    | (go_at_call 46; refine (HRR.out).mono ?_; rintro e w1 ⟨⟨c, rfl, hcl, hd⟩, hb1⟩; have HD1 := Lib.hid (hd.alloc (.cells #[.int .i64 (W : Int), .int .i64 (H : Int), .map (some c)] 44)); have hcl2 : c < w1.heap.size := hd.lt; clear hd)
    | (go_at_call 62; refine (HPL.out _ _).mono ?_; rintro e wp ⟨⟨A, cc, base, rfl, hbase, hrow⟩, hbp⟩))
  have k0 := (MapKept.heap_alloc w1 (.cells #[.int .i64 (W : Int), .int .i64 (H : Int), .map (some c)] 44)).1
  have hz2 : (w1.alloc (.cells #[.int .i64 (W : Int), .int .i64 (H : Int), .map (some c)] 44)).heap.size = w1.heap.size + 1 := by simp
  have hb2 := hb1.alloc hb1.size (.cells #[.int .i64 (W : Int), .int .i64 (H : Int), .map (some c)] 44)
  generalize w1.alloc (.cells #[.int .i64 (W : Int), .int .i64 (H : Int), .map (some c)] 44) = w2 at *
  have hk0 := hb1.size
  generalize w1.heap.size = k at *
  have kp := grown_heap k0 (grown_of_below hbp (Nat.le_refl _)) (by simp)
  have hzp : k + 1 ≤ wp.heap.size := by have := hbp.size; omega
  have HDp : Hid (Ds wp c (gS W H (rem W H d 0))) := Lib.hid (by have := HD1.out.below hbp; rw [HR0.out] at this; exact this)
  have HBp := Lib.hid (hb2.trans (hbp.mono hb2.size))
  have HA : Hid (∀ j, (Value.slice A n cc).ownBlock = some j → k + 1 < j ∧ j < wp.heap.size) := Lib.hid fun j hj => by have := hrow.lt j hj; omega
  have HRp := Lib.hid hrow
  have HOp : Hid (wp.ownsRow wp.heap.size 9 1 (.slice none 0 0) (pcs W H d 0).length (strs (pcs W H d 0))) := Lib.hid (World.ownsRow_nil _ _ _ _)
  obtain ⟨C, hC⟩ : ∃ C, C = wp.heap.size := ⟨_, rfl⟩
  rw [← hC] at HOp HA hzp
  have HCp : C ≤ wp.heap.size := by omega
  clear hbp hrow HD1 hb1 hb2 HR0 k0 hz2 hC
  go_loopw [6, 8, 19] (fun v _ i wr => ∃ a : Nat, a ≤ n ∧ i = .int .i64 (a : Int) ∧ Hid (Ds wr c (gS W H (rem W H d a))) ∧ wr.heap[k]? = some (.cells #[.int .i64 (W : Int), .int .i64 (H : Int), .map (some c)] 44) ∧ Hid (wr.ownsRow base 58 2 (.slice A n cc) n pl) ∧ Hid (wr.ownsRow C 9 1 v (pcs W H d a).length (strs (pcs W H d a))) ∧ Hid (Below w.heap.size w wr) ∧ C ≤ wr.heap.size) (fun _ _ i _ => n - (intOf i).toNat)
  case atStart => exact ⟨0, by omega, by simp, HDp, kp, HRp, HOp, HBp, HCp⟩
  case round =>
    obtain ⟨a, ha, rfl, hd, hk, hR, hO, hb, hS⟩ := hrel
    clear HDp kp HRp HOp HBp HCp
    obtain ⟨A', c', rfl⟩ := row_form hO.out
    by_cases hlt : a < n
    · have hlt2 : (a : Int) < (n : Int) := by omega
      have hpp := HPA.out a hlt
      obtain ⟨g, o, rfl, hg0, hg1, hcs⟩ := own_of_row hR.out (HPN.out (by omega))
      have s0 := (hcs _ _ hpp.1).1
      have s1 := (hcs _ _ hpp.2).1
      rw [Nat.mul_comm 2 a] at s0 s1
      rw [← Nat.add_assoc] at s1
      obtain ⟨hx, hy, hxy⟩ := HXY.out a hlt
      have hxr := hxy (rem W H d a)
      have hX0 : 0 ≤ ((a % W : Nat) : Int) ∧ ((a % W : Nat) : Int) < 50 ∧ 0 ≤ ((a / W : Nat) : Int) ∧ ((a / W : Nat) : Int) < 50 := by
        generalize a % W = x at *
        generalize a / W = y at *
        omega
      cases hra : rem W H d a a
      · rw [hra] at hxr
        have hnf : ¬ fstP W H d a := fun h => by rw [rem_fst.2 h] at hra; cases hra
        have hrem : gS W H (rem W H d a) = gS W H (rem W H d (a + 1)) := by congr 1; funext i; exact rem_no hnf
        have hpc : pcs W H d (a + 1) = pcs W H d a := by rw [pcs, if_neg hnf, List.append_nil]
        have HD2 : Hid (Ds wr c (gS W H (rem W H d (a + 1)))) := Lib.hid (by rw [← hrem]; exact hd.out)
        have HPC := Lib.hid hpc
        generalize ((a % W : Nat) : Int) = x at *
        generalize ((a / W : Nat) : Int) = y at *
        have HH := Lib.hid ((has_any c (gS W H (rem W H d a)) x y (wr.alloc (.cells #[.int .i64 x, .int .i64 y] 58)) (hd.out.alloc _) (wf2_of (by omega) (by omega) (by omega) (by omega))))
        rw [hxr] at HH
        have m2 := cell_old (Lib.cell_of_heap hk 2) (.cells #[.int .i64 x, .int .i64 y] 58)
        clear hcs hpp hxy hxr hra hnf hrem hpc
        go_wp2_with (go_at_call 63; refine (HH.out).mono ?_; rintro e wb ⟨rfl, hbb⟩)
        have hg1 := (World.grownBy_alloc wr (.cells #[.int .i64 x, .int .i64 y] 58) none).andThen (grown_of_below hbb (Nat.le_refl _)) (by simp)
        refine ⟨⟨a + 1, by omega, by go_num, Lib.hid (HD2.out.kept hg1 (by simp)), grown_heap hk hg1 (by simp), Lib.hid (hR.out.kept hg1 (by have := Classical.em ((Value.slice (some ⟨g, o, none⟩) n cc).ownBlock = none); simp; exact this)), Lib.hid (by rw [HPC.out]; exact hO.out.kept hg1 (by have := Classical.em ((Value.slice A' (pcs W H d a).length c').ownBlock = none); simp; exact this)), Lib.hid (hb.out.grown hg1 (by omega) (by simp)), Nat.le_trans hS hg1.size⟩, ?_⟩
        simp [intOf]
        omega
      · rw [hra] at hxr
        have hf : fstP W H d a := rem_fst.1 hra
        have HPC : Hid (pcs W H d (a + 1) = pcs W H d a ++ [gText W H (pce W H d a)]) := Lib.hid (by rw [pcs, if_pos hf])
        have HPE : Hid (∀ P, Piece (gS W H (rem W H d a)) ((a % W : Nat) : Int) ((a / W : Nat) : Int) P → P = gS W H (pce W H d a)) := Lib.hid fun P hP => by
          funext u v
          exact piece_pce (by omega) (by rw [← HN.out]; exact hlt) hf hP u v
        have HRM : Hid (∀ u v, dS (gS W H (rem W H d a)) (gS W H (pce W H d a)) u v = gS W H (rem W H d (a + 1)) u v) := Lib.hid fun u v => by
          unfold dS gS
          rw [rem_yes hf]
          cases inP W H u v <;> simp
        have HSG : Hid (sT W H (gS W H (pce W H d a)) = gText W H (pce W H d a)) := Lib.hid (sT_gS W H _)
        have hxl := HLN.out a
        generalize ((a % W : Nat) : Int) = x at *
        generalize ((a / W : Nat) : Int) = y at *
        generalize gText W H (pce W H d a) = gt at *
        generalize gS W H (pce W H d a) = PE at *
        have HH := Lib.hid ((has_any c (gS W H (rem W H d a)) x y (wr.alloc (.cells #[.int .i64 x, .int .i64 y] 58)) (hd.out.alloc _) (wf2_of (by omega) (by omega) (by omega) (by omega))))
        rw [hxr] at HH
        have HTK := Lib.hid fun V (h : Ds V c (gS W H (rem W H d a))) => takePiece_any c (gS W H (rem W H d a)) x y V h hxr
        have m2 := cell_old (Lib.cell_of_heap hk 2) (.cells #[.int .i64 x, .int .i64 y] 58)
        have hka := (MapKept.heap_alloc wr (.cells #[.int .i64 x, .int .i64 y] 58)).2 k (by omega)
        have hpa := (MapKept.heap_alloc wr (.cells #[.int .i64 x, .int .i64 y] 58)).1
        have HDa := Lib.hid (hd.out.alloc (.cells #[.int .i64 x, .int .i64 y] 58))
        have hga := World.grownBy_alloc wr (.cells #[.int .i64 x, .int .i64 y] 58) (some c)
        clear hcs hpp hxy hxr hra hf
        have HX : Hid (∀ j, (Value.slice A' (pcs W H d a).length c').ownBlock = some j → C ≤ j ∧ j < wr.heap.size) := Lib.hid fun j hj => hO.out.lt j hj
        go_wp2_with (go_at_call 63; refine (HH.out).mono ?_; rintro e wb ⟨rfl, hbb⟩)
        have hgb := hga.andThen (grown_any (some c) hbb) (fun j hj => Or.inr hj)
        have kb := grown_heap (hka.trans hk) (grown_any none hbb) (by simp)
        have pb := grown_heap hpa (grown_any none hbb) (by simp)
        have HDb := Lib.hid (HDa.out.below hbb)
        have sB := five kb pb
        obtain ⟨b0, b1, b2, q0, q1⟩ := sB
        have HV : Hid ((Value.slice A' (pcs W H d a).length c').ownBlock = none ∨ (Value.slice A' (pcs W H d a).length c').ownBlock ≠ some c) := Lib.hid (by
          rcases hob : (Value.slice A' (pcs W H d a).length c').ownBlock with _ | j
          · exact .inl rfl
          · exact .inr fun e => by cases e; have := HX.out _ hob; have := hd.out.lt; omega)
        have hcr : c < wr.heap.size := hd.out.lt
        clear hbb hga hka hpa HDa HH m2
        go_region_held3 (fun w' => w'.cell? ⟨k, 0, none⟩ = some (.int .i64 (W : Int)) ∧ w'.cell? ⟨k, 1, none⟩ = some (.int .i64 (H : Int)) ∧ w'.cell? ⟨k, 2, none⟩ = some (.map (some c)) ∧ w'.cell? ⟨wr.heap.size, 0, none⟩ = some (.int .i64 x) ∧ w'.cell? ⟨wr.heap.size, 1, none⟩ = some (.int .i64 y))
          (first | with_reducible exact sF | with_reducible exact ⟨cell_old sE.1 _, cell_old sE.2.1 _, cell_old sE.2.2.1 _, cell_old sE.2.2.2.1 _, cell_old sE.2.2.2.2 _⟩ | with_reducible exact sE | with_reducible exact sD | with_reducible exact sC | exact ⟨b0, b1, b2, q0, q1⟩)
          (first
            | (go_at_call 65; refine (HTK.out _ HDb.out.drew).mono ?_; rintro e wc ⟨⟨c3, P, rfl, hc3, hdP, hPc, hdS⟩, hgc0⟩; have hPE := HPE.out P hPc; rw [hPE] at hdP hdS; have HT := Lib.hid (show ∀ V, Ds V c3 PE → Calls Tryd.prog 66 #[.agg #[.int .i64 (W : Int), .int .i64 (H : Int), .map (some c3)]] V fun e w' => e = .returned (.string (bt gt)) ∧ Below V.heap.size V w' from fun V h => by have t := HTX.out c3 PE V h; rw [HSG.out] at t; exact t); have hgc := grown_undrew hgc0; have kc := grown_heap kb hgc (by simp; omega); have pc := grown_heap pb hgc (by simp; omega); have sC := five kc pc; have c0 := sC.1; have c1 := sC.2.1; have c2 := sC.2.2.1; have r0 := sC.2.2.2.1; have r1 := sC.2.2.2.2; have HDP := Lib.hid hdP; have HDS := Lib.hid (hdS.congr HRM.out); have hgC := hgb.andThen hgc (fun j hj => Or.inr hj); clear hPE hPc hdP hdS hgc hgc0)
            | (go_at_call 64; refine (withDots_any _ _ c c3 wc).mono ?_; rintro e wd ⟨rfl, hbd⟩; have kd := grown_heap kc (grown_any none hbd) (by simp); have pd := grown_heap pc (grown_any none hbd) (by simp); have sD := five kd pd; have d0 := sD.1; have d1 := sD.2.1; have d2 := sD.2.2.1; have t0 := sD.2.2.2.1; have t1 := sD.2.2.2.2; have HDPd := Lib.hid (HDP.out.below hbd); have HDSd := Lib.hid (HDS.out.below hbd); have hgD := hgC.andThen (grown_any (some c) hbd) (fun j hj => Or.inr hj); clear hbd)
            | (go_at_call 66; refine (HT.out _ HDPd.out).mono ?_; rintro e we ⟨rfl, hbe⟩; have ke := grown_heap kd (grown_any none hbe) (by simp); have pe := grown_heap pd (grown_any none hbe) (by simp); have sE := five ke pe; have e0 := sE.1; have e1 := sE.2.1; have e2 := sE.2.2.1; have v0 := sE.2.2.2.1; have v1 := sE.2.2.2.2; have HDSe := Lib.hid (HDSd.out.below hbe); have hgE := hgD.andThen (grown_any (some c) hbe) (fun j hj => Or.inr hj); have HOe := Lib.hid (hO.out.kept hgE HV.out); clear hbe)
            | (refine step_app_text (w := we) (z := gt) C rfl _ _ rfl _ _ rfl HOe.out (by have := hgE.size; omega) rfl (by omega) ?_; intro v' wf hOf hgf; have kf := grown_heap ke hgf (fun e => by have := (HX.out _ e.symm).1; omega); have pf := grown_heap pe hgf (fun e => by have := (HX.out _ e.symm).2; omega); have sF := five kf pf; have f0 := sF.1; have f1 := sF.2.1; have f2 := sF.2.2.1; have g0 := sF.2.2.2.1; have g1 := sF.2.2.2.2)
            | fail)
        have HAg := HA.out
        have HDf := Lib.hid (HDSe.out.kept hgf (fun e => by have := (HX.out _ e.symm).1; omega))
        have HRf := Lib.hid ((hR.out.kept hgE (by
          rcases hob : (Value.slice (some ⟨g, o, none⟩) n cc).ownBlock with _ | j
          · exact .inl rfl
          · exact .inr fun e => by cases e; have := HAg _ hob; omega)).kept hgf (by
          rcases hob : (Value.slice (some ⟨g, o, none⟩) n cc).ownBlock with _ | j
          · exact .inl rfl
          · exact .inr fun e => by have h1 := HAg _ hob; have h2 := HX.out _ e.symm; omega))
        have HBf := Lib.hid ((hb.out.grown hgE (by omega) (fun j hj => by cases hj; omega)).grown hgf (by have := hgE.size; omega) (fun j hj => by have := HX.out j hj; omega))
        have hzf : C ≤ wf.heap.size := by have h1 := hgE.size; have h2 := hgf.size; omega
        have HOf := Lib.hid hOf
        clear hOf hgf hgE hgD hgC hgb HAg
        go_wp2
        refine ⟨⟨a + 1, by omega, by go_num, HDf, kf, HRf, by rw [HPC.out]; exact HOf, HBf, hzf⟩, ?_⟩
        simp [intOf]
        omega
    · obtain rfl : a = n := by omega
      have hlt2 : ¬ (a : Int) < (a : Int) := by omega
      go_wp2
      go_ret2
      exact resT_of hO.out (by omega) hb.out
end Go.Proofs.YtbcgidgjdedkiaaDoor
/- Chapter 7: the law of PiecesOfPicture, whatever the text. -/
namespace Go.Proofs.YtbcgidgjdedkiaaDoor
open Go.RowKit

theorem lawT_PiecesOfPicture_big0 (s : ByteArray) (hz : 1048576 < s.size) (w : World) :
    Calls Tryd.prog 11 #[.string s] w fun e w' => e = .returned (.bool true) ∧ Below w.heap.size w w' := by
  go_enter Tryd.func11, Tryd.ntmps11
  go_wp2
  go_ret
  exact ⟨rfl, Below.refl _ _⟩
theorem walk_PiecesOfPicture (s : ByteArray) (w : World) (hM : MaxL w) :
    Calls Tryd.prog 11 #[.string s] w fun e w' => e = .returned (.bool true) ∧ Below w.heap.size w w' := by
  by_cases hz : s.size ≤ 1048576
  · have hs : s.size ≤ 2000000 := by omega
    cases hp : isPic s.data.toList with
    | true =>
      have pa := pic_b hp
      have hn : pW s.data.toList * pH s.data.toList ≤ 2500 := Nat.mul_le_mul (n₁ := pW s.data.toList) (n₂ := 50) (m₁ := pH s.data.toList) (m₂ := 50) (by have := pa.w1; omega) (by have := pa.h1; omega)
      have hl := pcs_len (pW s.data.toList) (pH s.data.toList) (pD s.data.toList) (pW s.data.toList * pH s.data.toList)
      exact lawT_PiecesOfPicture_m s true _ (by omega) hz (fun w => spec_PiecesOfPicture_yes s _ _ _ _ w (isP_of s hs hp)) (fun w hM => impl_PiecesOfPicture_yes s w hs hM hp) w hM
    | false =>
      exact lawT_PiecesOfPicture_m s false [] (by simp) hz (fun w => (spec_PiecesOfPicture_no s w hs hp).mono fun e w' h => by
        obtain ⟨rfl, hb⟩ := h
        exact ⟨none, 0, rfl, Own.none_, hb⟩) (fun w hM => impl_PiecesOfPicture_no s w hs hM hp) w hM
  · exact lawT_PiecesOfPicture_big0 s (by omega) w
end Go.Proofs.YtbcgidgjdedkiaaDoor
