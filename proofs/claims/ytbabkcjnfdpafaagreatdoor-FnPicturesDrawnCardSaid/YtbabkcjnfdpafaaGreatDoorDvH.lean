/- Chapter 7: PiecesOfPicture, by the program. -/
import Derived.Test.YtbabkcjnfdpafaaGreatDoorDvG
import Derived.Test.YtbabkcjnfdpafaaGreatDoorDuX
import Derived.Test.YtbabkcjnfdpafaaGreatDoorDuW
import Derived.Test.YtbabkcjnfdpafaaGreatDoorDuI
import Derived.Test.YtbabkcjnfdpafaaGreatDoorDuO
import Derived.Test.YtbabkcjnfdpafaaGreatDoorDtY
import Derived.Deep.AppendLies
import Derived.Deep.RegionHeld3
namespace Go.Proofs.YtbabkcjnfdpafaaGreatDoor
open Go.ChangeShapes Go.WideShapes Go.ChangeAt Go.RowKit Go.Maps

theorem grown_any {w w' : World} (row : Option Nat) (h : Below w.heap.size w w') : w.grownBy w' row := ⟨h.os, h.tape, h.output, h.size, fun i hi _ => h.block i hi⟩
theorem step_app_text {ops : Array Oper} {o : Oper} {a : Act} {K : Act → World → Prop} {X : Exit → Act → World → Prop} {E : Prop} {w : World} {z : List UInt8} (base : Nat) (hgd : o.guard = none) (s x : Operand)
    (ho : o.op = .call { callee := .builtin .append, args := #[s, x], argTypes := #[36, 36] }) (v : Value) (xs : List (List UInt8)) (hs : a.eval s = v) (hG : w.ownsRow base 9 1 v xs.length (strs xs)) (hB : base ≤ w.heap.size)
    (hx : a.eval x = .slice (some ⟨w.heap.size, 0, none⟩) 1 1) (hl : xs.length ≤ 100000)
    (h : ∀ v' w', w'.ownsRow base 9 1 v' (xs ++ [z]).length (strs (xs ++ [z])) → w.grownBy w' v.ownBlock → K (a.put o.dst v') w') :
    if Region.wanted o (yielded ops a.tmps) = true then Oper.wp Tryz.prog o a (w.alloc (.cells #[.string (bt z)] 9)) K X else E := by
  obtain ⟨i0, hi0, hz0, hz1, hz2⟩ := info_parts infoStr
  refine step_append_lies _ hgd s x 36 ho base 9 i0 (.string ⟨#[]⟩) 1 16 Tryz.underlying36 hi0 hz0 hz1 hz2 rfl (by decide) v _ _ hs (hG.alloc _) ⟨w.heap.size, 0, none⟩ 1 1 [.string (bt z)] hx rfl ?c1 ?c2 (by decide) ?c3 ?c4 ?c5 _ rfl ?_
  case c1 =>
    intro j u hj
    match j, hj with
    | 0, hj => simp at hj; subst hj; simp [Addr.add]
  case c2 => intro u hu; simp at hu; subst hu; rfl
  case c3 => unfold maxLen; omega
  case c4 => omega
  case c5 => simp; omega
  · intro g cap w4 hown' hgrow _ _
    refine h _ w4 ?_ (grownBy_trans (World.grownBy_alloc w _ _) hgrow)
    rw [List.length_append, ← strs_app]
    exact hown'
theorem five {V : World} {k p : Nat} {W H : Int} {m : Option Nat} {x y : Int} {t t' : TypeId} {f f' : Nat × Nat} (h : V.heap[k]? = some (.cells #[.int .i64 W, .int .i64 H, .map m] t f)) (g : V.heap[p]? = some (.cells #[.int .i64 x, .int .i64 y] t' f')) :
    V.cell? ⟨k, 0, none⟩ = some (.int .i64 W) ∧ V.cell? ⟨k, 1, none⟩ = some (.int .i64 H) ∧ V.cell? ⟨k, 2, none⟩ = some (.map m) ∧ V.cell? ⟨p, 0, none⟩ = some (.int .i64 x) ∧ V.cell? ⟨p, 1, none⟩ = some (.int .i64 y) :=
  ⟨Lib.cell_of_heap h 0, Lib.cell_of_heap h 1, Lib.cell_of_heap h 2, Lib.cell_of_heap g 0, Lib.cell_of_heap g 1⟩
theorem resT_of {w w' : World} {v : Value} {xs : List (List UInt8)} {base : Nat} (h : w'.ownsRow base 9 1 v xs.length (strs xs)) (hB : w.heap.size ≤ base) (hb : Below w.heap.size w w') : ResT true xs w (.returned (.tuple #[v, .bool true])) w' := by
  obtain ⟨A, c, rfl⟩ := row_form h
  exact ⟨A, c, rfl, (own_of_row h).wide hB (Nat.le_refl _), hb⟩
set_option maxRecDepth 8000 in
theorem impl_PiecesOfPicture_no (s : ByteArray) (w : World) (hs : s.size ≤ 2000000) (hM : MaxL w) (hp : isPic s.data.toList = false) :
    Calls Tryz.prog 30 #[.string s] w (ResT false [] w) := by
  have HR := Lib.hid (readPicture_no s w hs hM hp)
  clear hM hp
  go_enter Tryz.func30, Tryz.ntmps30
  go_wp2_with (go_at_call 51; refine (HR.out).mono ?_; rintro e w1 ⟨rfl, hb1⟩)
  go_ret2
  exact ⟨none, 0, rfl, Own.none_, hb1.alloc hb1.size _⟩
set_option maxRecDepth 8000 in
set_option maxHeartbeats 6400000 in
theorem impl_PiecesOfPicture_yes (s : ByteArray) (w : World) (hs : s.size ≤ 2000000) (hM : MaxL w) (hp : isPic s.data.toList = true) :
    Calls Tryz.prog 30 #[.string s] w (ResT true (pcs (pW s.data.toList) (pH s.data.toList) (pD s.data.toList) (pW s.data.toList * pH s.data.toList)) w) := by
  have HRR := Lib.hid (readPicture_yes s w hs hM hp)
  have pa := pic_b hp
  obtain ⟨a0, a1, a2, a3⟩ : 1 ≤ pW s.data.toList ∧ pW s.data.toList ≤ 24 ∧ 1 ≤ pH s.data.toList ∧ pH s.data.toList ≤ 24 := ⟨pa.w0, pa.w1, pa.h0, pa.h1⟩
  clear hM hp pa
  generalize pW s.data.toList = W at *
  generalize pH s.data.toList = H at *
  generalize pD s.data.toList = d at *
  obtain ⟨n, hn⟩ : ∃ n, n = W * H := ⟨_, rfl⟩
  have hn2 : n ≤ 2500 := by rw [hn]; exact Nat.mul_le_mul (n₁ := W) (n₂ := 50) (m₁ := H) (m₂ := 50) (by omega) (by omega)
  rw [← hn]
  have HN := Lib.hid hn
  have HPL := Lib.hid fun b w => places_any W H n b w hn (by omega) (by omega)
  have HPA : Hid (∀ k, k < n → (prs (plcs W n))[2 * k]? = some (.int .i64 ((k % W : Nat) : Int)) ∧ (prs (plcs W n))[2 * k + 1]? = some (.int .i64 ((k / W : Nat) : Int))) := Lib.hid fun k h => by
    have := prs_get (plcs W n) k (by rw [plcs_len]; exact h)
    rw [plcs_at W n k h] at this
    exact this
  have HPN : Hid (0 < n → 0 < (prs (plcs W n)).length) := Lib.hid fun h => by rw [prs_len, plcs_len]; omega
  have HXY : Hid (∀ k, k < n → k % W < 50 ∧ k / W < 50 ∧ ∀ e, gS W H e ((k % W : Nat) : Int) ((k / W : Nat) : Int) = e k) := Lib.hid fun k hk => by
    obtain ⟨h1, h2, h3⟩ := place_of (W := W) (H := H) (i := k) (by rw [← hn]; exact hk)
    refine ⟨by omega, by omega, fun e => ?_⟩
    rw [gS_nat W H e _ _ h1 h2, Nat.div_add_mod']
  have HR0 : Hid (gS W H d = gS W H (rem W H d 0)) := Lib.hid (by congr 1; funext i; exact rem_zero W H d i)
  have HLN := Lib.hid fun a => pcs_len W H d a
  have HTX := Lib.hid fun c P wd (h : Ds wd c P) => text_any W H n c P wd h hn a0 (by omega) (by omega)
  clear hn
  generalize prs (plcs W n) = pl at *
  go_enter Tryz.func30, Tryz.ntmps30
  go_wp2_with (first
    | (go_at_call 51; refine (HRR.out).mono ?_; rintro e w1 ⟨⟨c, rfl, hcl, hd⟩, hb1⟩; have HD1 := Lib.hid (hd.alloc (.cells #[.int .i64 (W : Int), .int .i64 (H : Int), .map (some c)] 57)); have hcl2 : c < w1.heap.size := hd.lt; clear hd)
    | (go_at_call 71; refine (HPL.out _ _).mono ?_; rintro e wp ⟨⟨A, cc, base, rfl, hbase, hrow⟩, hbp⟩))
  have k0 := (MapKept.heap_alloc w1 (.cells #[.int .i64 (W : Int), .int .i64 (H : Int), .map (some c)] 57)).1
  have hz2 : (w1.alloc (.cells #[.int .i64 (W : Int), .int .i64 (H : Int), .map (some c)] 57)).heap.size = w1.heap.size + 1 := by simp
  have hb2 := hb1.alloc hb1.size (.cells #[.int .i64 (W : Int), .int .i64 (H : Int), .map (some c)] 57)
  generalize w1.alloc (.cells #[.int .i64 (W : Int), .int .i64 (H : Int), .map (some c)] 57) = w2 at *
  have hk0 := hb1.size
  generalize w1.heap.size = k at *
  have kp := grown_heap k0 (grown_of_below hbp (Nat.le_refl _)) (by simp)
  have hzp : k + 1 ≤ wp.heap.size := by have := hbp.size; omega
  have HDp : Hid (Ds wp c (gS W H (rem W H d 0))) := Lib.hid (by have := HD1.out.below hbp; rw [HR0.out] at this; exact this)
  have HBp := Lib.hid (hb2.trans (hbp.mono hb2.size))
  have HA : Hid (∀ j, (Value.slice A n cc).ownBlock = some j → k + 1 < j ∧ j < wp.heap.size) := Lib.hid fun j hj => by have := hrow.lt j hj; omega
  have HRp := Lib.hid hrow
  have HOp : Hid (wp.ownsRow wp.heap.size 9 1 (.slice none 0 0) (pcs W H d 0).length (strs (pcs W H d 0))) := Lib.hid (World.ownsRow_nil _ _ _ _)
  obtain ⟨C, hC⟩ : ∃ C, C = wp.heap.size := ⟨_, rfl⟩
  rw [← hC] at HOp HA hzp
  have HCp : C ≤ wp.heap.size := by omega
  clear hbp hrow HD1 hb1 hb2 HR0 k0 hz2 hC
  go_loopw [6, 8, 19] (fun v _ i wr => ∃ a : Nat, a ≤ n ∧ i = .int .i64 (a : Int) ∧ Hid (Ds wr c (gS W H (rem W H d a))) ∧ wr.heap[k]? = some (.cells #[.int .i64 (W : Int), .int .i64 (H : Int), .map (some c)] 57) ∧ Hid (wr.ownsRow base 71 2 (.slice A n cc) n pl) ∧ Hid (wr.ownsRow C 9 1 v (pcs W H d a).length (strs (pcs W H d a))) ∧ Hid (Below w.heap.size w wr) ∧ C ≤ wr.heap.size) (fun _ _ i _ => n - (intOf i).toNat)
  case atStart => exact ⟨0, by omega, by simp, HDp, kp, HRp, HOp, HBp, HCp⟩
  case round =>
    obtain ⟨a, ha, rfl, hd, hk, hR, hO, hb, hS⟩ := hrel
    clear HDp kp HRp HOp HBp HCp
    obtain ⟨A', c', rfl⟩ := row_form hO.out
    by_cases hlt : a < n
    · have hlt2 : (a : Int) < (n : Int) := by omega
      have hpp := HPA.out a hlt
      obtain ⟨g, o, rfl, hg0, hg1, hcs⟩ := own_of_row hR.out (HPN.out (by omega))
      have s0 := (hcs _ _ hpp.1).1
      have s1 := (hcs _ _ hpp.2).1
      rw [Nat.mul_comm 2 a] at s0 s1
      rw [← Nat.add_assoc] at s1
      obtain ⟨hx, hy, hxy⟩ := HXY.out a hlt
      have hxr := hxy (rem W H d a)
      have hX0 : 0 ≤ ((a % W : Nat) : Int) ∧ ((a % W : Nat) : Int) < 50 ∧ 0 ≤ ((a / W : Nat) : Int) ∧ ((a / W : Nat) : Int) < 50 := by
        generalize a % W = x at *
        generalize a / W = y at *
        omega
      cases hra : rem W H d a a
      · rw [hra] at hxr
        have hnf : ¬ fstP W H d a := fun h => by rw [rem_fst.2 h] at hra; cases hra
        have hrem : gS W H (rem W H d a) = gS W H (rem W H d (a + 1)) := by congr 1; funext i; exact rem_no hnf
        have hpc : pcs W H d (a + 1) = pcs W H d a := by rw [pcs, if_neg hnf, List.append_nil]
        have HD2 : Hid (Ds wr c (gS W H (rem W H d (a + 1)))) := Lib.hid (by rw [← hrem]; exact hd.out)
        have HPC := Lib.hid hpc
        generalize ((a % W : Nat) : Int) = x at *
        generalize ((a / W : Nat) : Int) = y at *
        have HH := Lib.hid ((has_any c (gS W H (rem W H d a)) x y (wr.alloc (.cells #[.int .i64 x, .int .i64 y] 71)) (hd.out.alloc _) (wf2_of (by omega) (by omega) (by omega) (by omega))))
        rw [hxr] at HH
        have m2 := cell_old (Lib.cell_of_heap hk 2) (.cells #[.int .i64 x, .int .i64 y] 71)
        clear hcs hpp hxy hxr hra hnf hrem hpc
        go_wp2_with (go_at_call 72; refine (HH.out).mono ?_; rintro e wb ⟨rfl, hbb⟩)
        have hg1 := (World.grownBy_alloc wr (.cells #[.int .i64 x, .int .i64 y] 71) none).andThen (grown_of_below hbb (Nat.le_refl _)) (by simp)
        refine ⟨⟨a + 1, by omega, by go_num, Lib.hid (HD2.out.kept hg1 (by simp)), grown_heap hk hg1 (by simp), Lib.hid (hR.out.kept hg1 (by have := Classical.em ((Value.slice (some ⟨g, o, none⟩) n cc).ownBlock = none); simp; exact this)), Lib.hid (by rw [HPC.out]; exact hO.out.kept hg1 (by have := Classical.em ((Value.slice A' (pcs W H d a).length c').ownBlock = none); simp; exact this)), Lib.hid (hb.out.grown hg1 (by omega) (by simp)), Nat.le_trans hS hg1.size⟩, ?_⟩
        simp [intOf]
        omega
      · rw [hra] at hxr
        have hf : fstP W H d a := rem_fst.1 hra
        have HPC : Hid (pcs W H d (a + 1) = pcs W H d a ++ [gText W H (pce W H d a)]) := Lib.hid (by rw [pcs, if_pos hf])
        have HPE : Hid (∀ P, Piece (gS W H (rem W H d a)) ((a % W : Nat) : Int) ((a / W : Nat) : Int) P → P = gS W H (pce W H d a)) := Lib.hid fun P hP => by
          funext u v
          exact piece_pce (by omega) (by rw [← HN.out]; exact hlt) hf hP u v
        have HRM : Hid (∀ u v, dS (gS W H (rem W H d a)) (gS W H (pce W H d a)) u v = gS W H (rem W H d (a + 1)) u v) := Lib.hid fun u v => by
          unfold dS gS
          rw [rem_yes hf]
          cases inP W H u v <;> simp
        have HSG : Hid (sT W H (gS W H (pce W H d a)) = gText W H (pce W H d a)) := Lib.hid (sT_gS W H _)
        have hxl := HLN.out a
        generalize ((a % W : Nat) : Int) = x at *
        generalize ((a / W : Nat) : Int) = y at *
        generalize gText W H (pce W H d a) = gt at *
        generalize gS W H (pce W H d a) = PE at *
        have HH := Lib.hid ((has_any c (gS W H (rem W H d a)) x y (wr.alloc (.cells #[.int .i64 x, .int .i64 y] 71)) (hd.out.alloc _) (wf2_of (by omega) (by omega) (by omega) (by omega))))
        rw [hxr] at HH
        have HTK := Lib.hid fun V (h : Ds V c (gS W H (rem W H d a))) => takePiece_any c (gS W H (rem W H d a)) x y V h hxr
        have m2 := cell_old (Lib.cell_of_heap hk 2) (.cells #[.int .i64 x, .int .i64 y] 71)
        have hka := (MapKept.heap_alloc wr (.cells #[.int .i64 x, .int .i64 y] 71)).2 k (by omega)
        have hpa := (MapKept.heap_alloc wr (.cells #[.int .i64 x, .int .i64 y] 71)).1
        have HDa := Lib.hid (hd.out.alloc (.cells #[.int .i64 x, .int .i64 y] 71))
        have hga := World.grownBy_alloc wr (.cells #[.int .i64 x, .int .i64 y] 71) (some c)
        clear hcs hpp hxy hxr hra hf
        have HX : Hid (∀ j, (Value.slice A' (pcs W H d a).length c').ownBlock = some j → C ≤ j ∧ j < wr.heap.size) := Lib.hid fun j hj => hO.out.lt j hj
        go_wp2_with (go_at_call 72; refine (HH.out).mono ?_; rintro e wb ⟨rfl, hbb⟩)
        have hgb := hga.andThen (grown_any (some c) hbb) (fun j hj => Or.inr hj)
        have kb := grown_heap (hka.trans hk) (grown_any none hbb) (by simp)
        have pb := grown_heap hpa (grown_any none hbb) (by simp)
        have HDb := Lib.hid (HDa.out.below hbb)
        have sB := five kb pb
        obtain ⟨b0, b1, b2, q0, q1⟩ := sB
        have HV : Hid ((Value.slice A' (pcs W H d a).length c').ownBlock = none ∨ (Value.slice A' (pcs W H d a).length c').ownBlock ≠ some c) := Lib.hid (by
          rcases hob : (Value.slice A' (pcs W H d a).length c').ownBlock with _ | j
          · exact .inl rfl
          · exact .inr fun e => by cases e; have := HX.out _ hob; have := hd.out.lt; omega)
        have hcr : c < wr.heap.size := hd.out.lt
        clear hbb hga hka hpa HDa HH m2
        go_region_held3 (fun w' => w'.cell? ⟨k, 0, none⟩ = some (.int .i64 (W : Int)) ∧ w'.cell? ⟨k, 1, none⟩ = some (.int .i64 (H : Int)) ∧ w'.cell? ⟨k, 2, none⟩ = some (.map (some c)) ∧ w'.cell? ⟨wr.heap.size, 0, none⟩ = some (.int .i64 x) ∧ w'.cell? ⟨wr.heap.size, 1, none⟩ = some (.int .i64 y))
          (first | with_reducible exact sF | with_reducible exact ⟨cell_old sE.1 _, cell_old sE.2.1 _, cell_old sE.2.2.1 _, cell_old sE.2.2.2.1 _, cell_old sE.2.2.2.2 _⟩ | with_reducible exact sE | with_reducible exact sD | with_reducible exact sC | exact ⟨b0, b1, b2, q0, q1⟩)
          (first
            | (go_at_call 74; refine (HTK.out _ HDb.out.drew).mono ?_; rintro e wc ⟨⟨c3, P, rfl, hc3, hdP, hPc, hdS⟩, hgc0⟩; have hPE := HPE.out P hPc; rw [hPE] at hdP hdS; have HT := Lib.hid (show ∀ V, Ds V c3 PE → Calls Tryz.prog 75 #[.agg #[.int .i64 (W : Int), .int .i64 (H : Int), .map (some c3)]] V fun e w' => e = .returned (.string (bt gt)) ∧ Below V.heap.size V w' from fun V h => by have t := HTX.out c3 PE V h; rw [HSG.out] at t; exact t); have hgc := grown_undrew hgc0; have kc := grown_heap kb hgc (by simp; omega); have pc := grown_heap pb hgc (by simp; omega); have sC := five kc pc; have c0 := sC.1; have c1 := sC.2.1; have c2 := sC.2.2.1; have r0 := sC.2.2.2.1; have r1 := sC.2.2.2.2; have HDP := Lib.hid hdP; have HDS := Lib.hid (hdS.congr HRM.out); have hgC := hgb.andThen hgc (fun j hj => Or.inr hj); clear hPE hPc hdP hdS hgc hgc0)
            | (go_at_call 73; refine (withDots_any _ _ c c3 wc).mono ?_; rintro e wd ⟨rfl, hbd⟩; have kd := grown_heap kc (grown_any none hbd) (by simp); have pd := grown_heap pc (grown_any none hbd) (by simp); have sD := five kd pd; have d0 := sD.1; have d1 := sD.2.1; have d2 := sD.2.2.1; have t0 := sD.2.2.2.1; have t1 := sD.2.2.2.2; have HDPd := Lib.hid (HDP.out.below hbd); have HDSd := Lib.hid (HDS.out.below hbd); have hgD := hgC.andThen (grown_any (some c) hbd) (fun j hj => Or.inr hj); clear hbd)
            | (go_at_call 75; refine (HT.out _ HDPd.out).mono ?_; rintro e we ⟨rfl, hbe⟩; have ke := grown_heap kd (grown_any none hbe) (by simp); have pe := grown_heap pd (grown_any none hbe) (by simp); have sE := five ke pe; have e0 := sE.1; have e1 := sE.2.1; have e2 := sE.2.2.1; have v0 := sE.2.2.2.1; have v1 := sE.2.2.2.2; have HDSe := Lib.hid (HDSd.out.below hbe); have hgE := hgD.andThen (grown_any (some c) hbe) (fun j hj => Or.inr hj); have HOe := Lib.hid (hO.out.kept hgE HV.out); clear hbe)
            | (refine step_app_text (w := we) (z := gt) C rfl _ _ rfl _ _ rfl HOe.out (by have := hgE.size; omega) rfl (by omega) ?_; intro v' wf hOf hgf; have kf := grown_heap ke hgf (fun e => by have := (HX.out _ e.symm).1; omega); have pf := grown_heap pe hgf (fun e => by have := (HX.out _ e.symm).2; omega); have sF := five kf pf; have f0 := sF.1; have f1 := sF.2.1; have f2 := sF.2.2.1; have g0 := sF.2.2.2.1; have g1 := sF.2.2.2.2)
            | fail)
        have HAg := HA.out
        have HDf := Lib.hid (HDSe.out.kept hgf (fun e => by have := (HX.out _ e.symm).1; omega))
        have HRf := Lib.hid ((hR.out.kept hgE (by
          rcases hob : (Value.slice (some ⟨g, o, none⟩) n cc).ownBlock with _ | j
          · exact .inl rfl
          · exact .inr fun e => by cases e; have := HAg _ hob; omega)).kept hgf (by
          rcases hob : (Value.slice (some ⟨g, o, none⟩) n cc).ownBlock with _ | j
          · exact .inl rfl
          · exact .inr fun e => by have h1 := HAg _ hob; have h2 := HX.out _ e.symm; omega))
        have HBf := Lib.hid ((hb.out.grown hgE (by omega) (fun j hj => by cases hj; omega)).grown hgf (by have := hgE.size; omega) (fun j hj => by have := HX.out j hj; omega))
        have hzf : C ≤ wf.heap.size := by have h1 := hgE.size; have h2 := hgf.size; omega
        have HOf := Lib.hid hOf
        clear hOf hgf hgE hgD hgC hgb HAg
        go_wp2
        refine ⟨⟨a + 1, by omega, by go_num, HDf, kf, HRf, by rw [HPC.out]; exact HOf, HBf, hzf⟩, ?_⟩
        simp [intOf]
        omega
    · obtain rfl : a = n := by omega
      have hlt2 : ¬ (a : Int) < (a : Int) := by omega
      go_wp2
      go_ret2
      exact resT_of hO.out (by omega) hb.out
end Go.Proofs.YtbabkcjnfdpafaaGreatDoor
