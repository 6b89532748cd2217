/- Chapter 7: the specification's pieces. -/
import Derived.Test.YtbabkcjnfdpafaaGreatDoorDtX
import Derived.Test.YtbabkcjnfdpafaaGreatDoorDtWg
namespace Go.Proofs.YtbabkcjnfdpafaaGreatDoor
open Go.ChangeShapes Go.WideShapes Go.ChangeAt Go.RowKit

/-- What a function hands back that answers texts: the slice of texts is its own. -/
def ResT (ok : Bool) (xs : List (List UInt8)) (w : World) (e : Ending) (w' : World) : Prop :=
  ∃ A c, e = .returned (.tuple #[.slice A xs.length c, .bool ok]) ∧ Own w' w.heap.size w'.heap.size A (strs xs) ∧ Below w.heap.size w w'
theorem app_text {ops : Array Oper} {rest : List Oper} {o : Oper} {a : Act} {X : Exit → Act → World → Prop} (base : Nat) (w : World) (hgd : o.guard = none) (s x : Operand)
    (ho : o.op = .call { callee := .builtin .append, args := #[s, x], argTypes := #[36, 36] }) (v : Value) (xs : List (List UInt8)) (hs : a.eval s = v) (hG : w.ownsRow base 9 1 v xs.length (strs xs)) (hB : base ≤ w.heap.size) (z : List UInt8)
    (hx : a.eval x = .slice (some ⟨w.heap.size, 0, none⟩) 1 1) (hl : xs.length ≤ 100000)
    (h : ∀ v' w', w'.ownsRow base 9 1 v' (xs ++ [z]).length (strs (xs ++ [z])) → w.grownBy w' v.ownBlock → wpList Tryz.prog ops X rest (a.put o.dst v') w') : wpList Tryz.prog ops X (o :: rest) a (w.alloc (.cells #[.string (bt z)] 9)) := by
  obtain ⟨i0, hi0, hz0, hz1, hz2⟩ := info_parts infoStr
  refine wpList_append_own _ hgd s x 36 ho base 9 i0 (.string ⟨#[]⟩) 1 16 Tryz.underlying36 hi0 hz0 hz1 hz2 rfl (by decide) v _ _ hs (hG.alloc _) ⟨w.heap.size, 0, none⟩ 1 1 [.string (bt z)] hx rfl ?c1 ?c2 ?c3 ?c4 ?c5 ?_
  case c1 =>
    intro j u hj
    match j, hj with
    | 0, hj => simp at hj; subst hj; simp [Addr.add]
  case c2 => intro u hu; simp at hu; subst hu; rfl
  case c3 => unfold maxLen; omega
  case c4 => omega
  case c5 => simp; omega
  · intro v' w4 hown' hgrow _
    refine h v' w4 ?_ (grownBy_trans (World.grownBy_alloc w _ _) hgrow)
    rw [List.length_append, ← strs_app]
    exact hown'
set_option maxRecDepth 8000 in
set_option maxHeartbeats 3200000 in
theorem spec_PiecesOfPicture_yes (s : ByteArray) (W H n : Nat) (d : Nat → Bool) (w : World) (hp : IsP s W H n d) :
    Calls Tryz.prog 31 #[.string s] w (ResT true (pcs W H d n) w) := by
  obtain ⟨w0, w1, h0, h1, hn, HR⟩ := hp
  obtain ⟨i0, hi0, hz0, hz1, hz2⟩ := info_parts infoBool
  obtain ⟨is, his, hs0, hs1, hs2⟩ := info_parts infoStr
  have HRR := Lib.hid HR
  have HMM := Lib.hid fun g c lo w' (a : H ≤ c) (b : RowsAt w' lo g H (gRows W H d)) => doMarks_n g W H n c lo d w' hn w0 (by omega) h0 (by omega) a b
  have HMK := Lib.hid fun g c lo w' d' (b : Marks w' lo g n c d') => make_of b hn w0 w1 h0 h1
  have HBE := Lib.hid fun i w' (h : i < n) => doBeside_any W H i w' w0 (by omega) h0 (by omega) (by rw [← hn]; exact h)
  have hn2 : n ≤ 2500 := by
    rw [hn]
    exact Nat.mul_le_mul (n₁ := W) (n₂ := 50) (m₁ := H) (m₂ := 50) (by omega) (by omega)
  have HN := Lib.hid hn
  have HR0 := Lib.hid fun i => rem_zero W H d i
  have HPL := Lib.hid fun a => pcs_len W H d a
  clear HR hn
  generalize gRows W H d = R at *
  go_enter Tryz.func31, Tryz.ntmps31
  go_wp2_with (first
    | (go_at_call 64; refine (HRR.out _).mono ?_; rintro e w1 ⟨g, c, rfl, hc, hr, hb1⟩)
    | (go_at_call 65; refine (HMM.out g c _ _ hc hr).mono ?_; rintro e w2 ⟨g2, c2, rfl, hm, hb2⟩))
  have HM : Hid (Marks w2 w1.heap.size g2 n c2 (rem W H d 0)) := Lib.hid (hm.congr fun m _ => HR0.out m)
  have HB : Hid (Below w.heap.size w w2) := Lib.hid (hb1.trans (below_weak hb2 hb1.size))
  have HZ : Hid (w.heap.size ≤ w1.heap.size ∧ w1.heap.size ≤ g2 ∧ g2 < w2.heap.size) := Lib.hid ⟨hb1.size, hm.lt.1, hm.lt.2⟩
  have HO : Hid (w2.ownsRow w2.heap.size 9 1 (.slice none 0 0) (pcs W H d 0).length (strs (pcs W H d 0))) := Lib.hid (World.ownsRow_nil _ _ _ _)
  clear hm hb1 hb2 hr
  generalize w1.heap.size = B at *
  obtain ⟨C, hC⟩ : ∃ C, w2.heap.size = C := ⟨_, rfl⟩
  rw [hC] at HO HZ
  have HC : Hid (C ≤ w2.heap.size) := Lib.hid (by omega)
  clear hC
  go_loopw [9, 31] (fun v i wr => ∃ a : Nat, a ≤ n ∧ i = .int .i64 (a : Int) ∧ Hid (Marks wr B g2 n c2 (rem W H d a)) ∧ Hid (wr.ownsRow C 9 1 v (pcs W H d a).length (strs (pcs W H d a))) ∧ Hid (Below w.heap.size w wr) ∧ Hid (C ≤ wr.heap.size)) (fun _ i _ => n - (intOf i).toNat)
  case atStart => exact ⟨0, by omega, by simp, HM, HO, HB, HC⟩
  case round =>
    obtain ⟨a, ha, rfl, hm, hown, hb, hS⟩ := hrel
    clear HM HO HB HC
    by_cases hlt : a < n
    · have hlt2 : (a : Int) < (n : Int) := by omega
      have ha0 : (0 : Int) ≤ (a : Int) := by omega
      have cd := hm.out.cell hlt
      cases hra : rem W H d a a
      · rw [hra] at cd
        have hnf : ¬ fstP W H d a := fun h => by rw [rem_fst.2 h] at hra; cases hra
        have HM2 : Hid (Marks wr B g2 n c2 (rem W H d (a + 1))) := Lib.hid (hm.out.congr fun m _ => rem_no hnf)
        have HP2 : Hid (pcs W H d (a + 1) = pcs W H d a) := Lib.hid (by rw [pcs, if_neg hnf, List.append_nil])
        clear hra hnf hm
        go_wp2
        go_roundw
        case rel => exact ⟨a + 1, by omega, by go_num, HM2, by rw [HP2.out]; exact hown, hb, hS⟩
        case measure => simp [intOf]; omega
      · rw [hra] at cd
        have hf : Hid (fstP W H d a) := Lib.hid (rem_fst.1 hra)
        have hpp : Hid (pcs W H d (a + 1) = pcs W H d a ++ [gText W H (pce W H d a)]) := Lib.hid (by rw [pcs, if_pos hf.out])
        have hst : Hid (rem W H d a a = true) := Lib.hid hra
        clear hra
        have fd := hm.out.frozen a
        go_wp2_with (at_make; refine wpList_make_full _ rfl _ _ 74 rfl wr.heap.size 4 i0 (.bool false) 1 Tryz.underlying74 hi0 hz0 hz1 _ _ _ _ n rfl rfl rfl rfl (by rw [hz2]; omega) (by unfold maxLen; omega) (Nat.le_refl _) ?_; intro wA hownA hgrowA; have hpa := marks_made hownA; have cpa := hpa.cell hlt; have fpa := hpa.frozen a; have cda := ((hm.out.kept hgrowA (by simp)).other (b := wr.heap.size) (j := a) (by have := hm.out.lt; omega) (.bool true)).cell hlt; have fda := ((hm.out.kept hgrowA (by simp)).other (b := wr.heap.size) (j := a) (by have := hm.out.lt; omega) (.bool true)).frozen a)
        have HF0 := Lib.hid (Fld.start (a := a) hm.out hpa hgrowA)
        have HG0 : Hid (Gd W H d a [a] 0 0) := Lib.hid (gd_start hf.out.1)
        have HOW : Hid (wr.ownsRow C 9 1 u9 (pcs W H d a).length (strs (pcs W H d a))) := hown
        clear hownA hgrowA hpa cpa fpa cda fda cd fd hown
        have hWA : wA.heap.size = wA.heap.size := rfl
        generalize hwD : ((wA.setCell ⟨wr.heap.size, a, none⟩ (.bool true)).setCell ⟨g2, a, none⟩ (.bool false)).alloc (.cells #[.int .i64 (a : Int)] 3) = wD at *
        have HP0 : Hid (Marks wr B g2 n c2 (rem W H d a)) := hm
        have HPZ : Hid (wr.heap.size < wA.heap.size) := Lib.hid (by have h1 := HF0.out.q_lt; omega)
        clear hm hWA hwD
        obtain ⟨wo, hwo⟩ : ∃ wo, wo = wr := ⟨_, rfl⟩
        subst hwo
        generalize hp0 : wo.heap.size = p at *
        have HP := Lib.hid hp0
        clear hp0
        go_loopw [12, 13] (fun v i w3 => ∃ (Q : List Nat) (k q qc : Nat), i = .int .i64 (k : Int) ∧ v = .slice (some ⟨q, 0, none⟩) Q.length qc ∧ Hid (Gd W H d a Q k 0) ∧ Hid (Fld wo w3 g2 c2 B n p q qc (rem W H d a) Q)) (fun _ i _ => n + 1 - (intOf i).toNat)
        case atStart => exact ⟨[a], 0, wA.heap.size, 1, rfl, rfl, HG0, HF0⟩
        case round =>
          obtain ⟨Q, k, q, qc, rfl, rfl, hG, hF⟩ := hrel
          clear HG0 HF0
          have hkl := hG.out.kl
          have hql : Q.length ≤ n := by have := gd_len hG.out (by rw [← HN.out]; exact hlt); rw [← HN.out] at this; exact this
          by_cases hk : k < Q.length
          · have hk2 : (k : Int) < (Q.length : Int) := by omega
            have hk0 : (0 : Int) ≤ (k : Int) := by omega
            have cq : wr.cell? ⟨q, k, none⟩ = some (.int .i64 ((Q.getD k 0 : Nat) : Int)) := by
              rw [World.ownsRow.cellAt hF.out.queue k (by omega)]
              simp [i64s, ofN, List.getD, hk]
            have hx : Q.getD k 0 < n := by rw [HN.out]; exact gd_lt hG.out (by rw [← HN.out]; exact hlt) _ (gd_at hk)
            obtain ⟨x, hxq⟩ : ∃ x, x = Q.getD k 0 := ⟨_, rfl⟩
            have HXQ := Lib.hid hxq
            rw [← hxq] at cq hx
            clear hxq
            have HBX := Lib.hid (HBE.out x wr hx)
            obtain ⟨l0, hl0⟩ : ∃ l, l = Q.length := ⟨_, rfl⟩
            have HL0 := Lib.hid hl0
            rw [← hl0] at hql hkl hk hk2 ⊢
            clear hl0
            go_wp2_with (go_at_call 76; refine HBX.out.mono ?_; rintro e w4 ⟨v4, rfl, HGr⟩; obtain ⟨A, cc, rfl⟩ := row_form HGr.row)
            have HF1 := Lib.hid (hF.out.under HGr.below)
            have HN1 : Hid (NRow w4 A (nbs W H x) g2 p q) := Lib.hid (NRow.of HGr.row (by have h1 := hF.out.q_lt; have h2 := hF.out.z1; omega) (by have h1 := hF.out.q_lt; omega) (hF.out.q_lt).2)
            have HLN : Hid ((ofN (nbs W H x)).length = (nbs W H x).length) := Lib.hid (by simp [ofN])
            have HG1 := hG
            rw [HLN.out]
            clear hF hG HGr cq HBX
            have hl4 : (nbs W H x).length ≤ 4 := by
              unfold nbs
              simp only [List.length_append]
              (repeat' split) <;> simp
            generalize hLL : (nbs W H x).length = L at *
            have HLL := Lib.hid hLL
            clear hLL
            go_wp2
            go_loopw [12, 64] (fun v i w5 => ∃ (Q2 : List Nat) (t q2 qc2 : Nat), t ≤ L ∧ i = .int .i64 (t : Int) ∧ v = .slice (some ⟨q2, 0, none⟩) Q2.length qc2 ∧ Hid (Gd W H d a Q2 k t) ∧ Hid (Fld wo w5 g2 c2 B n p q2 qc2 (rem W H d a) Q2) ∧ Hid (NRow w5 A (nbs W H x) g2 p q2) ∧ Hid (x = Q2.getD k 0) ∧ k < Q2.length) (fun _ i _ => L - (intOf i).toNat)
            case atStart => exact ⟨Q, 0, q, qc, by omega, by simp, by rw [HL0.out], HG1, HF1, HN1, HXQ, by rw [← HL0.out]; exact hk⟩
            case round =>
              clear HF1 HN1 HG1
              obtain ⟨Q2, t, q2, qc2, ht, rfl, rfl, hG, hF, hN, hxq, hk3⟩ := hrel
              by_cases htl : t < L
              · have htl2 : (t : Int) < (L : Int) := by omega
                obtain ⟨b, o, rfl, _, _, _, _, cn⟩ := hN.out t (by rw [HLL.out]; exact htl)
                have hjm : (nbs W H x).getD t 0 ∈ nbs W H x := gd_at (by rw [HLL.out]; exact htl)
                have hj : (nbs W H x).getD t 0 < n := by rw [HN.out] at hx ⊢; exact nbs_lt hx hjm
                obtain ⟨j, hjq⟩ : ∃ j, j = (nbs W H x).getD t 0 := ⟨_, rfl⟩
                have HJQ := Lib.hid hjq
                rw [← hjq] at cn hj
                clear hjm hjq
                have hj0 : (0 : Int) ≤ (j : Int) := by omega
                have hj1 : (j : Int) < (n : Int) := by omega
                have cj := hF.out.dots.cell hj
                have fj := hF.out.dots.frozen j
                obtain ⟨l2, hl2⟩ : ∃ l, l = Q2.length := ⟨_, rfl⟩
                have HL2 := Lib.hid hl2
                have hq3 : l2 ≤ n := by
                  have := gd_len hG.out (by rw [← HN.out]; exact hlt)
                  rw [← HN.out] at this
                  omega
                rw [← hl2] at hk3 ⊢
                clear hl2
                cases hrj : (rem W H d a j && !decide (j ∈ Q2))
                · rw [hrj] at cj
                  have HG2 : Hid (Gd W H d a Q2 k (t + 1)) := Lib.hid (by
                    have h1 := hG.out
                    refine gd_no (by rw [← HN.out]; exact hlt) hf.out h1 (by rw [← HL2.out]; exact hk3) (by rw [← hxq.out, HLL.out]; exact htl) ?_
                    rw [← hxq.out, ← HJQ.out]
                    exact hrj)
                  clear hrj hG
                  go_wp2
                  go_roundw
                  case rel => exact ⟨Q2, t + 1, q2, qc2, by omega, by go_num, by rw [HL2.out], HG2, hF, hN, hxq, by rw [← HL2.out]; exact hk3⟩
                  case measure => simp [intOf]; omega
                · rw [hrj] at cj
                  have hrj2 : d j = true ∧ rem W H d a j = true ∧ j ∉ Q2 := by
                    rw [Bool.and_eq_true] at hrj
                    refine ⟨(rem_iff.1 hrj.1).1, hrj.1, ?_⟩
                    simpa using hrj.2
                  have HG2 : Hid (Gd W H d a (Q2 ++ [j]) k (t + 1)) := Lib.hid (by
                    have h1 := gd_yes hG.out (by rw [← HL2.out]; exact hk3) (by rw [← hxq.out, HLL.out]; exact htl) (by rw [← hxq.out, ← HJQ.out]; exact hrj2.1) (by rw [← hxq.out, ← HJQ.out]; exact hrj2.2.2)
                    rw [← hxq.out, ← HJQ.out] at h1
                    exact h1)
                  have HXQ2 : Hid (x = (Q2 ++ [j]).getD k 0) := Lib.hid (by rw [gd_app j k (by rw [← HL2.out]; exact hk3)]; exact hxq.out)
                  have hp1 := hF.out.piece.put (b := g2) (j := j) hF.out.z1 (.bool false)
                  have cp1 := hp1.cell hj
                  have fp1 := hp1.frozen j
                  have hQ : Hid (((wr.setCell ⟨g2, j, none⟩ (.bool false)).setCell ⟨p, j, none⟩ (.bool true)).ownsRow (p + 1) 3 1 (.slice (some ⟨q2, 0, none⟩) l2 qc2) l2 (i64s (ofN Q2))) := Lib.hid (by
                    rw [HL2.out]
                    exact ownsRow_setCell_below (ownsRow_setCell_below hF.out.queue (a := ⟨g2, j, none⟩) (by have := hF.out.z1; show g2 < p + 1; omega) _) (a := ⟨p, j, none⟩) (Nat.lt_succ_self p) _)
                  have hB : Hid (p + 1 ≤ ((wr.setCell ⟨g2, j, none⟩ (.bool false)).setCell ⟨p, j, none⟩ (.bool true)).heap.size) := Lib.hid (by have := hF.out.z2; simp; omega)
                  have hl5 : l2 ≤ 100000 := by omega
                  clear hrj hG hrj2 hp1
                  go_wp2_with (at_builtin; refine app_queue (p + 1) _ rfl _ _ rfl q2 l2 qc2 Q2 rfl hQ.out hB.out _ (by simp [Act.eval]) hl5 ?_; intro q4 qc4 w6 hw6 hg6 hat6)
                  have HF6 : Hid (Fld wo w6 g2 c2 B n p q4 qc4 (rem W H d a) (Q2 ++ [j])) := Lib.hid (hF.out.push j (by rw [← HL2.out]; exact hw6) hg6)
                  have HN6 : Hid (NRow w6 (some ⟨b, o, none⟩) (nbs W H x) g2 p q4) := Lib.hid (hN.out.push hg6 (by simpa using hat6))
                  clear hw6 hg6 hat6 hF hN hQ hB cp1 fp1 cj fj cn
                  go_wp2
                  go_roundw
                  case rel => exact ⟨Q2 ++ [j], t + 1, q4, qc4, by omega, by go_num, by rw [HL2.out]; simp, HG2, HF6, HN6, HXQ2, by rw [HL2.out] at hk3; simp; omega⟩
                  case measure => simp [intOf]; omega
              · obtain rfl : t = L := by omega
                have HG2 : Hid (Gd W H d a Q2 (k + 1) 0) := Lib.hid (gd_next hG.out hk3 (by rw [← hxq.out, HLL.out]; exact Nat.le_refl _))
                clear hG hN
                go_wp2
                go_roundw
                case rel => exact ⟨Q2, k + 1, q2, qc2, by go_num, rfl, HG2, hF⟩
                case measure => simp [intOf]; omega
          · have hkq : Q.length ≤ k := by omega
            have hkn : k = Q.length := by omega
            have HPC := Lib.hid (gd_end hG.out hkq)
            have HPI : Hid (Marks wr p p n n (pce W H d a)) := Lib.hid (hF.out.piece.congr fun m _ => (HPC.out m).symm)
            have hk2 : ¬ (k : Int) < (Q.length : Int) := by omega
            have HDT : Hid (Marks wr B g2 n c2 (rem W H d (a + 1))) := Lib.hid (hF.out.dots.congr fun m _ => by rw [rem_yes hf.out, HPC.out])
            have HFAR := Lib.hid hF.out.far
            have HZZ : Hid (p + 1 ≤ wr.heap.size) := Lib.hid hF.out.z2
            have HOW2 : Hid (wr.ownsRow C 9 1 u9 (pcs W H d a).length (strs (pcs W H d a))) := Lib.hid (HOW.out.kept HFAR.out (.inr fun e => by have h1 := HOW.out.lt _ e; have := HZ.out; omega))
            have HB2 : Hid (Below w.heap.size w wr) := Lib.hid (hb.out.grown HFAR.out (by have := HZ.out; have := hS.out; have := HP.out; omega) (fun k hk => by cases hk; have := HZ.out; omega))
            have HK := Lib.hid (HMK.out p n _ wr _ HPI.out)
            have hpl := HPL.out a
            clear hG hF HOW HPI HPC hb
            generalize gText W H (pce W H d a) = tx at *
            have hpl2 : (pcs W H d a).length ≤ 100000 := by omega
            have hSC : Hid (C ≤ wr.heap.size) := Lib.hid (by have := hS.out; have := HP.out; have := HZZ.out; omega)
            go_wp2_with (first
              | (go_at_call 68; refine HK.out.mono ?_; rintro e w4 ⟨rfl, hb4⟩)
              | (at_builtin; refine app_text C _ rfl _ _ rfl _ _ rfl (row_below HOW2.out hb4 (Nat.le_refl _)) (Nat.le_trans hSC.out hb4.size) _ (by simp [Act.eval]) hpl2 ?_; intro v6 w6 hw6 hg6))
            have HU : Hid (∀ k, u9.ownBlock = some k → C ≤ k) := Lib.hid fun k hk => (HOW2.out.lt k hk).1
            have HM6 : Hid (Marks w6 B g2 n c2 (rem W H d (a + 1))) := Lib.hid ((HDT.out.below hb4 (Nat.le_refl _)).kept hg6 fun e => by have := HU.out _ e; have := HZ.out; omega)
            have HO6 : Hid (w6.ownsRow C 9 1 v6 (pcs W H d (a + 1)).length (strs (pcs W H d (a + 1)))) := Lib.hid (by rw [hpp.out]; exact hw6)
            have HB6 : Hid (Below w.heap.size w w6) := Lib.hid ((HB2.out.trans (below_weak hb4 HB2.out.size)).grown hg6 (by have := hb4.size; have := HB2.out.size; omega) (fun k hk => by have := HU.out k hk; have := HZ.out; omega))
            have HS6 : Hid (C ≤ w6.heap.size) := Lib.hid (by have h1 := hg6.size; have h2 := hb4.size; have h3 := hSC.out; omega)
            clear hw6 hg6 hb4 HOW2 HDT HB2
            go_wp2
            go_roundw
            case rel => exact ⟨a + 1, by omega, by go_num, HM6, HO6, HB6, HS6⟩
            case measure => simp [intOf]; omega
    · obtain rfl : a = n := by omega
      obtain ⟨A, cc, rfl⟩ := row_form hown.out
      clear hm
      go_wp2
      go_ret2
      exact ⟨A, cc, rfl, (own_of_row hown.out).wide (by have := HZ.out; omega) (Nat.le_refl _), hb.out⟩
end Go.Proofs.YtbabkcjnfdpafaaGreatDoor
