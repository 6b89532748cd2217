/- Chapter 9: a puzzle's text, read by the specification: puzzles with clues. -/
import Derived.Test.YtljleceepghfjaaDoorTjB
import Derived.Deep.RegionHeldLaw
namespace Go.Proofs.YtljleceepghfjaaDoor
open Go.ChangeShapes Go.WideShapes Go.ChangeAt Go.RowKit
set_option linter.unusedSimpArgs false

set_option maxRecDepth 4000 in
set_option maxHeartbeats 6400000 in
theorem spec_ParsePuzzle_clues (s : ByteArray) (w : World) (a b : List UInt8) (hs : s.size ≤ 80) (hp : parts s.data.toList 58 = [a, b]) (hb : b ≠ []) (ok : Bool) (m' : Int) (ys : List Clu)
    (hyes : ∀ cs, rdCs (parts b 44) = some cs → okp9 (rd9 a) cs = ok ∧ m' = (if ok then rd9 a else 0) ∧ ys = (if ok then cs else [])) (hno : rdCs (parts b 44) = none → ok = false ∧ m' = 0 ∧ ys = []) :
    Calls Tryd.prog 4 #[.string s] w (ResZ ok m' ys w) := by
  obtain ⟨i0, hi0, hz0, hz1, hz2⟩ := info_parts infoClue
  have rm := Rm.new w 24
  have b0 : Below w.heap.size w (w.alloc (.cells #[.int .i64 0, .slice none 0 0] 24)) := (Below.refl _ _).alloc (Nat.le_refl _) _
  have z0 : (w.alloc (.cells #[.int .i64 0, .slice none 0 0] 24)).heap.size = w.heap.size + 1 := by simp
  have hsl : s.data.toList.length = s.size := by simp
  have hla : a.length ≤ 80 := by have := parts_bd s.data.toList 58 a (by rw [hp]; simp); omega
  have hlb : b.length ≤ 80 := by have := parts_bd s.data.toList 58 b (by rw [hp]; simp); omega
  have hws : ∀ x ∈ parts b 44, x.length ≤ 80 := fun x hx => Nat.le_trans (parts_bd b 44 x hx) hlb
  have hwn := (parts_len b 44)
  have HS := Lib.hid fun W => l1Split_58 s W (by omega)
  rw [hp, strs_two] at HS
  have HSB := Lib.hid fun W => l1Split_44 (bt b) W (by rw [bt_size]; omega)
  rw [bt_list] at HSB
  have HRD := Lib.hid fun W => l1Read_any (bt a) W (by rw [bt_size]; omega)
  rw [bt_list] at HRD
  have HY := Lib.hid hyes
  have HN := Lib.hid hno
  have HWS := Lib.hid hws
  have HB0 := Lib.hid b0
  have HR0 := Lib.hid rm
  have HZ0 := Lib.hid z0
  have HNB := Lib.hid (bt_ne hb)
  have h8i : ¬ (80 : Int) < (s.size : Int) := by omega
  clear rm b0 z0 hp hyes hno hws hsl hla
  generalize rd9 a = v at *
  generalize parts b 44 = ws at *
  obtain ⟨n, hn⟩ : ∃ n, n = ws.length := ⟨_, rfl⟩
  have HNL := Lib.hid hn
  rw [← hn] at hwn HSB
  have hn1 : 1 ≤ n := hwn.1
  have hn81 : n ≤ 81 := by omega
  clear hn hwn
  have hbn := HNB.out
  have hbe : ((bt b).toList != (⟨#[]⟩ : ByteArray).toList) = true := by
    rw [ByteArray.toList_eq, ByteArray.toList_eq, bt_list]
    simpa using hb
  have hbi : (bt b).toList.isEmpty = false := by
    rw [ByteArray.toList_eq, bt_list]
    simpa using hb
  generalize bt b = tb at *
  clear hb hlb HNB
  have HAD : Hid (∀ g j : Nat, (⟨g, 0, none⟩ : Addr).add j = ⟨g, j, none⟩) := Lib.hid add_none
  go_enter Tryd.func4, Tryd.ntmps4
  go_wp2_with (first
    | (go_at_call_of 9 s; refine (HS.out _).mono ?_; rintro e w1 ⟨⟨A, c, rfl, ho⟩, b1⟩; obtain ⟨g, cap, hv, hg1, hg2⟩ := ho.form (Nat.succ_pos 1); injection hv with hv1 hv2 hv3; subst hv1; have p0 := ho.cells (g := g) rfl 0 (.string (bt a)) rfl; have p1 := ho.cells (g := g) rfl 1 (.string tb) rfl; rw [HAD.out] at p0 p1; have p2 : (w1.alloc (.cells #[.int .i64 v, .slice none 0 0] 24)).cell? ⟨g, 1, none⟩ = some (.string tb) := (((Below.refl w1.heap.size w1).alloc (Nat.le_refl _) (.cells #[.int .i64 v, .slice none 0 0] 24)).cell (p := ⟨g, 1, none⟩) hg2).trans p1; have HB1 := Lib.hid (HB0.out.trans (b1.mono HB0.out.size)); have HR1 := Lib.hid (HR0.out.below b1 (by rw [HZ0.out]; exact Nat.le_refl _)); have HZ1 : Hid (w.heap.size + 1 ≤ w1.heap.size) := Lib.hid (by have := b1.size; rw [HZ0.out] at this; exact this); have HBX := Lib.hid ((Below.refl w1.heap.size w1).alloc (Nat.le_refl _) (.cells #[.int .i64 v, .slice none 0 0] 24)); clear b1 ho hg1 hg2 hv2 hv3)
    | (go_at_call 10; refine (HRD.out _).mono ?_; rintro e w2 ⟨rfl, rfl⟩)
    | (go_at_call_of 9 tb; refine (HSB.out _).mono ?_; rintro e w2 ⟨⟨A, c, rfl, ho⟩, b2⟩; obtain ⟨g2, cap2, hv, hg1, hg2⟩ := ho.form hn1; injection hv with hv1 hv2 hv3; subst hv1; have hpl : Pl9 w w2 w1.heap.size g2 w2.heap.size v (.slice none 0 0) 0 [] (strs ws) := ⟨(HB1.out.trans (HBX.out.mono HB1.out.size)).trans (b2.mono (Nat.le_trans HB1.out.size HBX.out.size)), (HR1.out.below HBX.out HZ1.out).below b2 (Nat.le_trans HZ1.out HBX.out.size), ((Bx.new w1 v none 0 0 24).below b2 (by simp)).cells.1, ((Bx.new w1 v none 0 0 24).below b2 (by simp)).cells.2, (b2.frozen (p := ⟨w1.heap.size, 1, none⟩) (by simp)).trans (by simp [go_sem]), (fun j u hu => by have := ho.cells (g := g2) rfl j u hu; rw [HAD.out] at this; exact this), World.ownsRow_nil _ _ _ _, HZ1.out, (by simp at hg1; omega), hg2, Nat.le_refl _⟩; have HPL := Lib.hid hpl; clear b2 ho hg1 hg2 hv2 hv3 hpl p0 p1 p2))
  obtain ⟨Q, hQ⟩ : ∃ Q, Q = w1.heap.size := ⟨_, rfl⟩
  rw [← hQ] at HPL ⊢
  have hz : w2.heap.size = w2.heap.size := rfl
  generalize w2.heap.size = base at HPL
  clear HS HSB HRD HB0 HR0 HZ0 HB1 HR1 HZ1 HBX hQ hz hbn hbe hbi h8i
  go_loopw [34] (fun i wr => ∃ k : Nat, k ≤ n ∧ i = .int .i64 (k : Int) ∧ Hid (∃ cs vv, rdCs (ws.take k) = some cs ∧ Pl9 w wr Q g2 base v vv k cs (strs ws))) (fun i _ => n - (intOf i).toNat)
  case atStart => exact ⟨0, by omega, rfl, Lib.hid ⟨[], _, rfl, HPL.out⟩⟩
  case round =>
    obtain ⟨k, hk, rfl, HX⟩ := hrel
    obtain ⟨cs, vv, hcs, hpl⟩ := HX.out
    have HCS := Lib.hid hcs
    have HPR := Lib.hid hpl
    clear HX hcs hpl HPL
    by_cases hlt : k < n
    · have hki : (k : Int) < (n : Int) := by omega
      obtain ⟨t, ht⟩ : ∃ t, ws[k]? = some t := by
        have hkl : k < ws.length := by rw [← HNL.out]; exact hlt
        exact ⟨_, List.getElem?_eq_getElem hkl⟩
      have htm : t ∈ ws := List.mem_of_getElem? ht
      have htl : t.length ≤ 80 := HWS.out t htm
      have htk : ws.take (k + 1) = ws.take k ++ [t] := by
        have hkl : k < ws.length := by rw [← HNL.out]; exact hlt
        rw [List.take_succ_eq_append_getElem hkl]
        rw [List.getElem?_eq_getElem hkl] at ht
        injection ht with ht
        rw [ht]
      have p0 := HPR.out.s k (.string (bt t)) (by unfold strs; rw [List.getElem?_map, ht]; rfl)
      have HST := Lib.hid fun W => l1Split_46 (bt t) W (by rw [bt_size]; omega)
      rw [bt_list] at HST
      by_cases h3 : (parts t 46).length = 3
      · obtain ⟨x, y, z, hxyz⟩ := three_of_len h3
        have hbx := parts_bd t 46 x (by rw [hxyz]; simp)
        have hby := parts_bd t 46 y (by rw [hxyz]; simp)
        have hbz := parts_bd t 46 z (by rw [hxyz]; simp)
        have HXR := Lib.hid fun W => l1Read_any (bt x) W (by rw [bt_size]; omega)
        have HYR := Lib.hid fun W => l1Read_any (bt y) W (by rw [bt_size]; omega)
        have HZR := Lib.hid fun W => l1Read_any (bt z) W (by rw [bt_size]; omega)
        rw [bt_list] at HXR HYR HZR
        have hrd := rdCs_snoc _ _ _ _ HCS.out (rdC_three hxyz)
        rw [← htk] at hrd
        have HRC := Lib.hid hrd
        rw [hxyz, strs_three] at HST
        clear hrd hxyz h3 hbx hby hbz htk htm ht htl
        generalize bt t = T at *
        generalize rd9 x = qa at *
        generalize rd9 y = qb at *
        generalize rd9 z = qc at *
        generalize bt x = X at *
        generalize bt y = Y at *
        generalize bt z = Z at *
        go_wp2_with (go_at_call_of 9 T; refine (HST.out _).mono ?_; rintro e w3 ⟨⟨A, c, rfl, ho⟩, b3⟩; obtain ⟨g3, cap3, hv, hg1, hg2⟩ := ho.form (Nat.succ_pos 2); injection hv with hv1 hv2 hv3; subst hv1; have q0 := ho.cells (g := g3) rfl 0 (.string X) rfl; have q1 := ho.cells (g := g3) rfl 1 (.string Y) rfl; have q2 := ho.cells (g := g3) rfl 2 (.string Z) rfl; rw [HAD.out] at q0 q1 q2; have HP3 := Lib.hid (HPR.out.below b3); have HG3 := Lib.hid hg1; have HG4 := Lib.hid hg2; have HVB : Hid (some g3 ≠ vv.ownBlock) := Lib.hid (fun e => absurd (HPR.out.r.lt g3 e.symm).2 (by omega)); clear b3 ho hv2 hv3 hg1 hg2)
        have HQ3 : Hid (Q < g3) := Lib.hid (by have := HPR.out.z1; have := HPR.out.z2; have := HPR.out.z3; have := HG3.out; omega)
        have HKK : Hid (∀ W, Below w3.heap.size w3 W → W.cell? ⟨g3, 0, none⟩ = some (.string X) ∧ W.cell? ⟨g3, 1, none⟩ = some (.string Y) ∧ W.cell? ⟨g3, 2, none⟩ = some (.string Z)) := Lib.hid fun W hb => ⟨(hb.cell (p := ⟨g3, 0, none⟩) HG4.out).trans q0, (hb.cell (p := ⟨g3, 1, none⟩) HG4.out).trans q1, (hb.cell (p := ⟨g3, 2, none⟩) HG4.out).trans q2⟩
        have HKG : Hid (∀ W2 W3, Below w3.heap.size w3 W2 → W2.grownBy W3 vv.ownBlock → W3.cell? ⟨g3, 0, none⟩ = some (.string X) ∧ W3.cell? ⟨g3, 1, none⟩ = some (.string Y) ∧ W3.cell? ⟨g3, 2, none⟩ = some (.string Z)) := Lib.hid fun W2 W3 hb hg => by
          have e := hg.block g3 (Nat.lt_of_lt_of_le HG4.out hb.size) HVB.out
          obtain ⟨k0, k1, k2⟩ := HKK.out W2 hb
          exact ⟨(World.cell?_of_block (a := ⟨g3, 0, none⟩) e).trans k0, (World.cell?_of_block (a := ⟨g3, 1, none⟩) e).trans k1, (World.cell?_of_block (a := ⟨g3, 2, none⟩) e).trans k2⟩
        have HKS : Hid (∀ (W : World) (u : Value), (W.cell? ⟨g3, 0, none⟩ = some (.string X) ∧ W.cell? ⟨g3, 1, none⟩ = some (.string Y) ∧ W.cell? ⟨g3, 2, none⟩ = some (.string Z)) → (W.setCell ⟨Q, 1, none⟩ u).cell? ⟨g3, 0, none⟩ = some (.string X) ∧ (W.setCell ⟨Q, 1, none⟩ u).cell? ⟨g3, 1, none⟩ = some (.string Y) ∧ (W.setCell ⟨Q, 1, none⟩ u).cell? ⟨g3, 2, none⟩ = some (.string Z)) := Lib.hid fun W u ⟨k0, k1, k2⟩ => by
          have hne : ∀ j, (⟨Q, 1, none⟩ : Addr) ≠ ⟨g3, j, none⟩ := fun j e => by
            injection e with e _ _
            have := HQ3.out
            omega
          exact ⟨(World.cell?_setCell_other W _ _ _ (hne 0)).trans k0, (World.cell?_setCell_other W _ _ _ (hne 1)).trans k1, (World.cell?_setCell_other W _ _ _ (hne 2)).trans k2⟩
        have HPD := Lib.hid (HP3.out.below ((Below.refl w3.heap.size w3).drew))
        have HBA := Lib.hid ((Below.refl w3.heap.size w3).drew.alloc (Nat.le_refl _) (.cells #[.int .i64 qa, .int .i64 qb, .int .i64 qc] 34))
        have HBE := Lib.hid (((Below.refl w3.heap.size w3).alloc (Nat.le_refl _) (.cells #[.int .i64 qa, .int .i64 qb, .int .i64 qc] 34)).drew)
        have HBD := Lib.hid ((Below.refl w3.drew.heap.size w3.drew).alloc (Nat.le_refl _) (.cells #[.int .i64 qa, .int .i64 qb, .int .i64 qc] 34))
        have HZB : Hid (base ≤ (w3.drew.alloc (.cells #[.int .i64 qa, .int .i64 qb, .int .i64 qc] 34)).heap.size) := Lib.hid (Nat.le_trans HPD.out.z3 HBD.out.size)
        have c1 := HP3.out.c1
        have c1a := (HP3.out.below ((Below.refl w3.heap.size w3).alloc (Nat.le_refl _) (.cells #[.int .i64 qa, .int .i64 qb, .int .i64 qc] 34))).c1
        clear p0 q0 q1 q2 HST
        refine wp_region_held_drew (S := fun W => W.cell? ⟨g3, 0, none⟩ = some (.string X) ∧ W.cell? ⟨g3, 1, none⟩ = some (.string Y) ∧ W.cell? ⟨g3, 2, none⟩ = some (.string Z)) (by kernel_rfl) (by first | with_reducible exact HKK.out _ (Below.refl _ _) | with_reducible exact HKK.out _ (Below.refl _ _).drew | with_reducible exact HKK.out _ HBA.out | with_reducible exact HKK.out _ HBE.out | with_reducible exact k4 | exact HKS.out _ _ k4) (fun hHeld => ?_)
        refine wpAnyH_take (i := 0) (oi := _) (v := ?_) rfl (by kernel_rfl) (by kernel_rfl) (by kernel_rfl) (fun _ _ _ h => h) (Or.inl ⟨by rfl, ?_⟩) (by assumption) ?_
        rotate_left
        · (intro wS hSw; (try dsimp only at hSw); go_simp; try with_reducible rfl)
        try simp only [Act.put, List.setIfInBounds_toArray, List.set_cons_zero, List.set_cons_succ]
        refine wpAnyH_take (i := 2) (oi := _) (v := ?_) rfl (by kernel_rfl) (by kernel_rfl) (by kernel_rfl) (fun _ _ _ h => h) (Or.inl ⟨by rfl, ?_⟩) (by assumption) ?_
        rotate_left
        · (intro wS hSw; (try dsimp only at hSw); go_simp; try with_reducible rfl)
        try simp only [Act.put, List.setIfInBounds_toArray, List.set_cons_zero, List.set_cons_succ]
        refine wpAnyH_take (i := 3) (oi := _) (v := ?_) rfl (by kernel_rfl) (by kernel_rfl) (by kernel_rfl) (fun _ _ _ h => h) (Or.inl ⟨by rfl, ?_⟩) (by assumption) ?_
        rotate_left
        · (intro wS hSw; (try dsimp only at hSw); go_simp; try with_reducible rfl)
        try simp only [Act.put, List.setIfInBounds_toArray, List.set_cons_zero, List.set_cons_succ]
        refine wpAnyH_take (i := 4) (oi := _) (v := ?_) rfl (by kernel_rfl) (by kernel_rfl) (by kernel_rfl) (fun _ _ _ h => h) (Or.inl ⟨by rfl, ?_⟩) (by assumption) ?_
        rotate_left
        · (intro wS hSw; (try dsimp only at hSw); go_simp; try with_reducible rfl)
        try simp only [Act.put, List.setIfInBounds_toArray, List.set_cons_zero, List.set_cons_succ]
        refine wpAnyH_take (i := 6) (oi := _) (v := ?_) rfl (by kernel_rfl) (by kernel_rfl) (by kernel_rfl) (fun _ _ _ h => h) (Or.inl ⟨by rfl, ?_⟩) (by assumption) ?_
        rotate_left
        · (intro wS hSw; (try dsimp only at hSw); go_simp; try with_reducible rfl)
        try simp only [Act.put, List.setIfInBounds_toArray, List.set_cons_zero, List.set_cons_succ]
        refine wpAnyH_take (i := 7) (oi := _) (v := ?_) rfl (by kernel_rfl) (by kernel_rfl) (by kernel_rfl) (fun _ _ _ h => h) (Or.inl ⟨by rfl, ?_⟩) (by assumption) ?_
        rotate_left
        · (intro wS hSw; (try dsimp only at hSw); go_simp; try with_reducible rfl)
        try simp only [Act.put, List.setIfInBounds_toArray, List.set_cons_zero, List.set_cons_succ]
        refine wpAnyH_take (i := 8) (oi := _) (v := ?_) rfl (by kernel_rfl) (by kernel_rfl) (by kernel_rfl) (fun _ _ _ h => h) (Or.inl ⟨by rfl, ?_⟩) (by assumption) ?_
        rotate_left
        · (intro wS hSw; (try dsimp only at hSw); go_simp; try with_reducible rfl)
        try simp only [Act.put, List.setIfInBounds_toArray, List.set_cons_zero, List.set_cons_succ]
        refine wpAnyH_take (i := 10) (oi := _) (v := ?_) rfl (by kernel_rfl) (by kernel_rfl) (by kernel_rfl) (fun _ _ _ h => h) (Or.inl ⟨by rfl, ?_⟩) (by assumption) ?_
        rotate_left
        · (intro wS hSw; (try dsimp only at hSw); go_simp; try with_reducible rfl)
        try simp only [Act.put, List.setIfInBounds_toArray, List.set_cons_zero, List.set_cons_succ]
        refine wpAnyH_take (i := 11) (oi := _) (v := ?_) rfl (by kernel_rfl) (by kernel_rfl) (by kernel_rfl) (fun _ _ _ h => h) (Or.inl ⟨by rfl, ?_⟩) (by assumption) ?_
        rotate_left
        · (intro wS hSw; (try dsimp only at hSw); go_simp; try with_reducible rfl)
        try simp only [Act.put, List.setIfInBounds_toArray, List.set_cons_zero, List.set_cons_succ]
        refine wpAnyH_take (i := 12) (oi := _) (v := ?_) rfl (by kernel_rfl) (by kernel_rfl) (by kernel_rfl) (fun _ _ _ h => h) (Or.inl ⟨by rfl, ?_⟩) (by assumption) ?_
        rotate_left
        · (intro wS hSw; (try dsimp only at hSw); go_simp; try with_reducible rfl)
        try simp only [Act.put, List.setIfInBounds_toArray, List.set_cons_zero, List.set_cons_succ]
        refine wpAnyH_ready (rs := [1, 5]) (by kernel_rfl) (by simp) ?_
        refine AllReadyH.cons rfl (fun K hK => ?_) ?_
        · go_simp
          refine hK.out _ _ ?_ (fun hHeld => ?_)
          · try dsimp only
            (first | with_reducible exact HKK.out _ (Below.refl _ _) | with_reducible exact HKK.out _ (Below.refl _ _).drew | with_reducible exact HKK.out _ HBA.out | with_reducible exact HKK.out _ HBE.out | with_reducible exact k4 | exact HKS.out _ _ k4)
          clear hK K
          refine wpAnyH_ready (rs := [5]) (by kernel_rfl) (by simp) ?_
          refine AllReadyH.cons rfl (fun K hK => ?_) ?_
          · go_simp; go_wp2_with (go_at_call_of 10 X; refine (HXR.out _).mono ?_; rintro e w' ⟨rfl, rfl⟩)
            refine hK.out _ _ ?_ (fun hHeld => ?_)
            · try dsimp only
              (first | with_reducible exact HKK.out _ (Below.refl _ _) | with_reducible exact HKK.out _ (Below.refl _ _).drew | with_reducible exact HKK.out _ HBA.out | with_reducible exact HKK.out _ HBE.out | with_reducible exact k4 | exact HKS.out _ _ k4)
            clear hK K
            refine wpAnyH_ready (rs := [9]) (by kernel_rfl) (by simp) ?_
            refine AllReadyH.cons rfl (fun K hK => ?_) ?_
            · go_simp; go_wp2_with (go_at_call_of 10 Y; refine (HYR.out _).mono ?_; rintro e w' ⟨rfl, rfl⟩)
              refine hK.out _ _ ?_ (fun hHeld => ?_)
              · try dsimp only
                (first | with_reducible exact HKK.out _ (Below.refl _ _) | with_reducible exact HKK.out _ (Below.refl _ _).drew | with_reducible exact HKK.out _ HBA.out | with_reducible exact HKK.out _ HBE.out | with_reducible exact k4 | exact HKS.out _ _ k4)
              clear hK K
              refine wpAnyH_ready (rs := [13]) (by kernel_rfl) (by simp) ?_
              refine AllReadyH.cons rfl (fun K hK => ?_) ?_
              · go_simp; go_wp2_with (go_at_call_of 10 Z; refine (HZR.out _).mono ?_; rintro e w' ⟨rfl, rfl⟩)
                refine hK.out _ _ ?_ (fun hHeld => ?_)
                · try dsimp only
                  (first | with_reducible exact HKK.out _ (Below.refl _ _) | with_reducible exact HKK.out _ (Below.refl _ _).drew | with_reducible exact HKK.out _ HBA.out | with_reducible exact HKK.out _ HBE.out | with_reducible exact k4 | exact HKS.out _ _ k4)
                clear hK K
                refine wpAnyH_take (i := 14) (oi := _) (v := ?_) rfl (by kernel_rfl) (by kernel_rfl) (by kernel_rfl) (fun _ _ _ h => h) (Or.inl ⟨by rfl, ?_⟩) (by assumption) ?_
                rotate_left
                · (intro wS hSw; (try dsimp only at hSw); go_simp; try with_reducible rfl)
                try simp only [Act.put, List.setIfInBounds_toArray, List.set_cons_zero, List.set_cons_succ]
                refine wpAnyH_ready (rs := [15]) (by kernel_rfl) (by simp) ?_
                refine AllReadyH.cons rfl (fun K hK => ?_) ?_
                · go_simp
                  refine hK.out _ _ ?_ (fun hHeld => ?_)
                  · try dsimp only
                    (first | with_reducible exact HKK.out _ (Below.refl _ _) | with_reducible exact HKK.out _ (Below.refl _ _).drew | with_reducible exact HKK.out _ HBA.out | with_reducible exact HKK.out _ HBE.out | with_reducible exact k4 | exact HKS.out _ _ k4)
                  clear hK K
                  refine wpAnyH_ready (rs := [16]) (by kernel_rfl) (by simp) ?_
                  refine AllReadyH.cons rfl (fun K hK => ?_) ?_
                  · refine step_append9 rfl (.tmp 45) (.tmp 59) 22 rfl base 34 i0 (.agg #[.int .i64 0, .int .i64 0, .int .i64 0]) 3 24 Tryd.underlying22 hi0 hz0 hz1 hz2 rfl (by decide) vv k (c64 cs) (by first | rfl | simp [Act.eval] | simp [Act.eval, Act.put]) (HPD.out.r.alloc _) ⟨w3.heap.size, 0, none⟩ 1 1 [.int .i64 qa, .int .i64 qb, .int .i64 qc] (by first | rfl | simp [Act.eval] | simp [Act.eval, Act.put]) rfl (fun j u hu => World.news_of_block (heap_alloc_new _ _) j u hu) (one9 _ _ _) (by unfold maxLen; omega) (by omega) HZB.out ?_; intro v4 w4 hown hgrow; obtain ⟨B4, d4, rfl⟩ := row_form hown; have k4 := HKG.out _ _ HBA.out hgrow; obtain ⟨e1, e2, hpn⟩ := HPD.out.app HBD.out hown hgrow; have HPN := Lib.hid hpn; clear hown hgrow hpn
                    refine hK.out _ _ ?_ (fun hHeld => ?_)
                    · try dsimp only
                      (first | with_reducible exact HKK.out _ (Below.refl _ _) | with_reducible exact HKK.out _ (Below.refl _ _).drew | with_reducible exact HKK.out _ HBA.out | with_reducible exact HKK.out _ HBE.out | with_reducible exact k4 | exact HKS.out _ _ k4)
                    clear hK K
                    refine wpAnyH_take (i := 17) (oi := _) (v := ?_) rfl (by kernel_rfl) (by kernel_rfl) (by kernel_rfl) (fun _ _ _ h => h) (Or.inl ⟨by rfl, ?_⟩) (by assumption) ?_
                    rotate_left
                    · (intro wS hSw; (try dsimp only at hSw); go_simp; try with_reducible rfl)
                    try simp only [Act.put, List.setIfInBounds_toArray, List.set_cons_zero, List.set_cons_succ]
                    refine wpAnyH_ready (rs := [18]) (by kernel_rfl) (by simp) ?_
                    refine AllReadyH.cons rfl (fun K hK => ?_) ?_
                    · go_simp
                      refine hK.out _ _ ?_ (fun hHeld => ?_)
                      · try dsimp only
                        (first | with_reducible exact HKK.out _ (Below.refl _ _) | with_reducible exact HKK.out _ (Below.refl _ _).drew | with_reducible exact HKK.out _ HBA.out | with_reducible exact HKK.out _ HBE.out | with_reducible exact k4 | exact HKS.out _ _ k4)
                      clear hK K
                      refine wpAnyH_done (by kernel_rfl) ?_ _
                      go_wp2_with fail
                      go_roundw
                      case rel => exact ⟨k + 1, by omega, by go_num, Lib.hid ⟨_, _, HRC.out, HPN.out⟩⟩
                      case measure => simp [intOf]; omega
                    exact AllReadyH.nil
                  exact AllReadyH.nil
                exact AllReadyH.nil
              exact AllReadyH.nil
            exact AllReadyH.nil
          exact AllReadyH.nil
        refine AllReadyH.cons rfl (fun K hK => ?_) ?_
        · go_simp; go_wp2_with (go_at_call_of 10 X; refine (HXR.out _).mono ?_; rintro e w' ⟨rfl, rfl⟩)
          refine hK.out _ _ ?_ (fun hHeld => ?_)
          · try dsimp only
            (first | with_reducible exact HKK.out _ (Below.refl _ _) | with_reducible exact HKK.out _ (Below.refl _ _).drew | with_reducible exact HKK.out _ HBA.out | with_reducible exact HKK.out _ HBE.out | with_reducible exact k4 | exact HKS.out _ _ k4)
          clear hK K
          refine wpAnyH_ready (rs := [1, 9]) (by kernel_rfl) (by simp) ?_
          refine AllReadyH.cons rfl (fun K hK => ?_) ?_
          · go_simp
            refine hK.out _ _ ?_ (fun hHeld => ?_)
            · try dsimp only
              (first | with_reducible exact HKK.out _ (Below.refl _ _) | with_reducible exact HKK.out _ (Below.refl _ _).drew | with_reducible exact HKK.out _ HBA.out | with_reducible exact HKK.out _ HBE.out | with_reducible exact k4 | exact HKS.out _ _ k4)
            clear hK K
            refine wpAnyH_ready (rs := [9]) (by kernel_rfl) (by simp) ?_
            refine AllReadyH.cons rfl (fun K hK => ?_) ?_
            · go_simp; go_wp2_with (go_at_call_of 10 Y; refine (HYR.out _).mono ?_; rintro e w' ⟨rfl, rfl⟩)
              refine hK.out _ _ ?_ (fun hHeld => ?_)
              · try dsimp only
                (first | with_reducible exact HKK.out _ (Below.refl _ _) | with_reducible exact HKK.out _ (Below.refl _ _).drew | with_reducible exact HKK.out _ HBA.out | with_reducible exact HKK.out _ HBE.out | with_reducible exact k4 | exact HKS.out _ _ k4)
              clear hK K
              refine wpAnyH_ready (rs := [13]) (by kernel_rfl) (by simp) ?_
              refine AllReadyH.cons rfl (fun K hK => ?_) ?_
              · go_simp; go_wp2_with (go_at_call_of 10 Z; refine (HZR.out _).mono ?_; rintro e w' ⟨rfl, rfl⟩)
                refine hK.out _ _ ?_ (fun hHeld => ?_)
                · try dsimp only
                  (first | with_reducible exact HKK.out _ (Below.refl _ _) | with_reducible exact HKK.out _ (Below.refl _ _).drew | with_reducible exact HKK.out _ HBA.out | with_reducible exact HKK.out _ HBE.out | with_reducible exact k4 | exact HKS.out _ _ k4)
                clear hK K
                refine wpAnyH_take (i := 14) (oi := _) (v := ?_) rfl (by kernel_rfl) (by kernel_rfl) (by kernel_rfl) (fun _ _ _ h => h) (Or.inl ⟨by rfl, ?_⟩) (by assumption) ?_
                rotate_left
                · (intro wS hSw; (try dsimp only at hSw); go_simp; try with_reducible rfl)
                try simp only [Act.put, List.setIfInBounds_toArray, List.set_cons_zero, List.set_cons_succ]
                refine wpAnyH_ready (rs := [15]) (by kernel_rfl) (by simp) ?_
                refine AllReadyH.cons rfl (fun K hK => ?_) ?_
                · go_simp
                  refine hK.out _ _ ?_ (fun hHeld => ?_)
                  · try dsimp only
                    (first | with_reducible exact HKK.out _ (Below.refl _ _) | with_reducible exact HKK.out _ (Below.refl _ _).drew | with_reducible exact HKK.out _ HBA.out | with_reducible exact HKK.out _ HBE.out | with_reducible exact k4 | exact HKS.out _ _ k4)
                  clear hK K
                  refine wpAnyH_ready (rs := [16]) (by kernel_rfl) (by simp) ?_
                  refine AllReadyH.cons rfl (fun K hK => ?_) ?_
                  · refine step_append9 rfl (.tmp 45) (.tmp 59) 22 rfl base 34 i0 (.agg #[.int .i64 0, .int .i64 0, .int .i64 0]) 3 24 Tryd.underlying22 hi0 hz0 hz1 hz2 rfl (by decide) vv k (c64 cs) (by first | rfl | simp [Act.eval] | simp [Act.eval, Act.put]) (HPD.out.r.alloc _) ⟨w3.heap.size, 0, none⟩ 1 1 [.int .i64 qa, .int .i64 qb, .int .i64 qc] (by first | rfl | simp [Act.eval] | simp [Act.eval, Act.put]) rfl (fun j u hu => World.news_of_block (heap_alloc_new _ _) j u hu) (one9 _ _ _) (by unfold maxLen; omega) (by omega) HZB.out ?_; intro v4 w4 hown hgrow; obtain ⟨B4, d4, rfl⟩ := row_form hown; have k4 := HKG.out _ _ HBA.out hgrow; obtain ⟨e1, e2, hpn⟩ := HPD.out.app HBD.out hown hgrow; have HPN := Lib.hid hpn; clear hown hgrow hpn
                    refine hK.out _ _ ?_ (fun hHeld => ?_)
                    · try dsimp only
                      (first | with_reducible exact HKK.out _ (Below.refl _ _) | with_reducible exact HKK.out _ (Below.refl _ _).drew | with_reducible exact HKK.out _ HBA.out | with_reducible exact HKK.out _ HBE.out | with_reducible exact k4 | exact HKS.out _ _ k4)
                    clear hK K
                    refine wpAnyH_take (i := 17) (oi := _) (v := ?_) rfl (by kernel_rfl) (by kernel_rfl) (by kernel_rfl) (fun _ _ _ h => h) (Or.inl ⟨by rfl, ?_⟩) (by assumption) ?_
                    rotate_left
                    · (intro wS hSw; (try dsimp only at hSw); go_simp; try with_reducible rfl)
                    try simp only [Act.put, List.setIfInBounds_toArray, List.set_cons_zero, List.set_cons_succ]
                    refine wpAnyH_ready (rs := [18]) (by kernel_rfl) (by simp) ?_
                    refine AllReadyH.cons rfl (fun K hK => ?_) ?_
                    · go_simp
                      refine hK.out _ _ ?_ (fun hHeld => ?_)
                      · try dsimp only
                        (first | with_reducible exact HKK.out _ (Below.refl _ _) | with_reducible exact HKK.out _ (Below.refl _ _).drew | with_reducible exact HKK.out _ HBA.out | with_reducible exact HKK.out _ HBE.out | with_reducible exact k4 | exact HKS.out _ _ k4)
                      clear hK K
                      refine wpAnyH_done (by kernel_rfl) ?_ _
                      go_wp2_with fail
                      go_roundw
                      case rel => exact ⟨k + 1, by omega, by go_num, Lib.hid ⟨_, _, HRC.out, HPN.out⟩⟩
                      case measure => simp [intOf]; omega
                    exact AllReadyH.nil
                  exact AllReadyH.nil
                exact AllReadyH.nil
              exact AllReadyH.nil
            exact AllReadyH.nil
          refine AllReadyH.cons rfl (fun K hK => ?_) ?_
          · go_simp; go_wp2_with (go_at_call_of 10 Y; refine (HYR.out _).mono ?_; rintro e w' ⟨rfl, rfl⟩)
            refine hK.out _ _ ?_ (fun hHeld => ?_)
            · try dsimp only
              (first | with_reducible exact HKK.out _ (Below.refl _ _) | with_reducible exact HKK.out _ (Below.refl _ _).drew | with_reducible exact HKK.out _ HBA.out | with_reducible exact HKK.out _ HBE.out | with_reducible exact k4 | exact HKS.out _ _ k4)
            clear hK K
            refine wpAnyH_ready (rs := [1, 13]) (by kernel_rfl) (by simp) ?_
            refine AllReadyH.cons rfl (fun K hK => ?_) ?_
            · go_simp
              refine hK.out _ _ ?_ (fun hHeld => ?_)
              · try dsimp only
                (first | with_reducible exact HKK.out _ (Below.refl _ _) | with_reducible exact HKK.out _ (Below.refl _ _).drew | with_reducible exact HKK.out _ HBA.out | with_reducible exact HKK.out _ HBE.out | with_reducible exact k4 | exact HKS.out _ _ k4)
              clear hK K
              refine wpAnyH_ready (rs := [13]) (by kernel_rfl) (by simp) ?_
              refine AllReadyH.cons rfl (fun K hK => ?_) ?_
              · go_simp; go_wp2_with (go_at_call_of 10 Z; refine (HZR.out _).mono ?_; rintro e w' ⟨rfl, rfl⟩)
                refine hK.out _ _ ?_ (fun hHeld => ?_)
                · try dsimp only
                  (first | with_reducible exact HKK.out _ (Below.refl _ _) | with_reducible exact HKK.out _ (Below.refl _ _).drew | with_reducible exact HKK.out _ HBA.out | with_reducible exact HKK.out _ HBE.out | with_reducible exact k4 | exact HKS.out _ _ k4)
                clear hK K
                refine wpAnyH_take (i := 14) (oi := _) (v := ?_) rfl (by kernel_rfl) (by kernel_rfl) (by kernel_rfl) (fun _ _ _ h => h) (Or.inl ⟨by rfl, ?_⟩) (by assumption) ?_
                rotate_left
                · (intro wS hSw; (try dsimp only at hSw); go_simp; try with_reducible rfl)
                try simp only [Act.put, List.setIfInBounds_toArray, List.set_cons_zero, List.set_cons_succ]
                refine wpAnyH_ready (rs := [15]) (by kernel_rfl) (by simp) ?_
                refine AllReadyH.cons rfl (fun K hK => ?_) ?_
                · go_simp
                  refine hK.out _ _ ?_ (fun hHeld => ?_)
                  · try dsimp only
                    (first | with_reducible exact HKK.out _ (Below.refl _ _) | with_reducible exact HKK.out _ (Below.refl _ _).drew | with_reducible exact HKK.out _ HBA.out | with_reducible exact HKK.out _ HBE.out | with_reducible exact k4 | exact HKS.out _ _ k4)
                  clear hK K
                  refine wpAnyH_ready (rs := [16]) (by kernel_rfl) (by simp) ?_
                  refine AllReadyH.cons rfl (fun K hK => ?_) ?_
                  · refine step_append9 rfl (.tmp 45) (.tmp 59) 22 rfl base 34 i0 (.agg #[.int .i64 0, .int .i64 0, .int .i64 0]) 3 24 Tryd.underlying22 hi0 hz0 hz1 hz2 rfl (by decide) vv k (c64 cs) (by first | rfl | simp [Act.eval] | simp [Act.eval, Act.put]) (HPD.out.r.alloc _) ⟨w3.heap.size, 0, none⟩ 1 1 [.int .i64 qa, .int .i64 qb, .int .i64 qc] (by first | rfl | simp [Act.eval] | simp [Act.eval, Act.put]) rfl (fun j u hu => World.news_of_block (heap_alloc_new _ _) j u hu) (one9 _ _ _) (by unfold maxLen; omega) (by omega) HZB.out ?_; intro v4 w4 hown hgrow; obtain ⟨B4, d4, rfl⟩ := row_form hown; have k4 := HKG.out _ _ HBA.out hgrow; obtain ⟨e1, e2, hpn⟩ := HPD.out.app HBD.out hown hgrow; have HPN := Lib.hid hpn; clear hown hgrow hpn
                    refine hK.out _ _ ?_ (fun hHeld => ?_)
                    · try dsimp only
                      (first | with_reducible exact HKK.out _ (Below.refl _ _) | with_reducible exact HKK.out _ (Below.refl _ _).drew | with_reducible exact HKK.out _ HBA.out | with_reducible exact HKK.out _ HBE.out | with_reducible exact k4 | exact HKS.out _ _ k4)
                    clear hK K
                    refine wpAnyH_take (i := 17) (oi := _) (v := ?_) rfl (by kernel_rfl) (by kernel_rfl) (by kernel_rfl) (fun _ _ _ h => h) (Or.inl ⟨by rfl, ?_⟩) (by assumption) ?_
                    rotate_left
                    · (intro wS hSw; (try dsimp only at hSw); go_simp; try with_reducible rfl)
                    try simp only [Act.put, List.setIfInBounds_toArray, List.set_cons_zero, List.set_cons_succ]
                    refine wpAnyH_ready (rs := [18]) (by kernel_rfl) (by simp) ?_
                    refine AllReadyH.cons rfl (fun K hK => ?_) ?_
                    · go_simp
                      refine hK.out _ _ ?_ (fun hHeld => ?_)
                      · try dsimp only
                        (first | with_reducible exact HKK.out _ (Below.refl _ _) | with_reducible exact HKK.out _ (Below.refl _ _).drew | with_reducible exact HKK.out _ HBA.out | with_reducible exact HKK.out _ HBE.out | with_reducible exact k4 | exact HKS.out _ _ k4)
                      clear hK K
                      refine wpAnyH_done (by kernel_rfl) ?_ _
                      go_wp2_with fail
                      go_roundw
                      case rel => exact ⟨k + 1, by omega, by go_num, Lib.hid ⟨_, _, HRC.out, HPN.out⟩⟩
                      case measure => simp [intOf]; omega
                    exact AllReadyH.nil
                  exact AllReadyH.nil
                exact AllReadyH.nil
              exact AllReadyH.nil
            refine AllReadyH.cons rfl (fun K hK => ?_) ?_
            · go_simp; go_wp2_with (go_at_call_of 10 Z; refine (HZR.out _).mono ?_; rintro e w' ⟨rfl, rfl⟩)
              refine hK.out _ _ ?_ (fun hHeld => ?_)
              · try dsimp only
                (first | with_reducible exact HKK.out _ (Below.refl _ _) | with_reducible exact HKK.out _ (Below.refl _ _).drew | with_reducible exact HKK.out _ HBA.out | with_reducible exact HKK.out _ HBE.out | with_reducible exact k4 | exact HKS.out _ _ k4)
              clear hK K
              refine wpAnyH_take (i := 14) (oi := _) (v := ?_) rfl (by kernel_rfl) (by kernel_rfl) (by kernel_rfl) (fun _ _ _ h => h) (Or.inl ⟨by rfl, ?_⟩) (by assumption) ?_
              rotate_left
              · (intro wS hSw; (try dsimp only at hSw); go_simp; try with_reducible rfl)
              try simp only [Act.put, List.setIfInBounds_toArray, List.set_cons_zero, List.set_cons_succ]
              refine wpAnyH_ready (rs := [1, 15]) (by kernel_rfl) (by simp) ?_
              refine AllReadyH.cons rfl (fun K hK => ?_) ?_
              · go_simp
                refine hK.out _ _ ?_ (fun hHeld => ?_)
                · try dsimp only
                  (first | with_reducible exact HKK.out _ (Below.refl _ _) | with_reducible exact HKK.out _ (Below.refl _ _).drew | with_reducible exact HKK.out _ HBA.out | with_reducible exact HKK.out _ HBE.out | with_reducible exact k4 | exact HKS.out _ _ k4)
                clear hK K
                refine wpAnyH_ready (rs := [15]) (by kernel_rfl) (by simp) ?_
                refine AllReadyH.cons rfl (fun K hK => ?_) ?_
                · go_simp
                  refine hK.out _ _ ?_ (fun hHeld => ?_)
                  · try dsimp only
                    (first | with_reducible exact HKK.out _ (Below.refl _ _) | with_reducible exact HKK.out _ (Below.refl _ _).drew | with_reducible exact HKK.out _ HBA.out | with_reducible exact HKK.out _ HBE.out | with_reducible exact k4 | exact HKS.out _ _ k4)
                  clear hK K
                  refine wpAnyH_ready (rs := [16]) (by kernel_rfl) (by simp) ?_
                  refine AllReadyH.cons rfl (fun K hK => ?_) ?_
                  · refine step_append9 rfl (.tmp 45) (.tmp 59) 22 rfl base 34 i0 (.agg #[.int .i64 0, .int .i64 0, .int .i64 0]) 3 24 Tryd.underlying22 hi0 hz0 hz1 hz2 rfl (by decide) vv k (c64 cs) (by first | rfl | simp [Act.eval] | simp [Act.eval, Act.put]) (HPD.out.r.alloc _) ⟨w3.heap.size, 0, none⟩ 1 1 [.int .i64 qa, .int .i64 qb, .int .i64 qc] (by first | rfl | simp [Act.eval] | simp [Act.eval, Act.put]) rfl (fun j u hu => World.news_of_block (heap_alloc_new _ _) j u hu) (one9 _ _ _) (by unfold maxLen; omega) (by omega) HZB.out ?_; intro v4 w4 hown hgrow; obtain ⟨B4, d4, rfl⟩ := row_form hown; have k4 := HKG.out _ _ HBA.out hgrow; obtain ⟨e1, e2, hpn⟩ := HPD.out.app HBD.out hown hgrow; have HPN := Lib.hid hpn; clear hown hgrow hpn
                    refine hK.out _ _ ?_ (fun hHeld => ?_)
                    · try dsimp only
                      (first | with_reducible exact HKK.out _ (Below.refl _ _) | with_reducible exact HKK.out _ (Below.refl _ _).drew | with_reducible exact HKK.out _ HBA.out | with_reducible exact HKK.out _ HBE.out | with_reducible exact k4 | exact HKS.out _ _ k4)
                    clear hK K
                    refine wpAnyH_take (i := 17) (oi := _) (v := ?_) rfl (by kernel_rfl) (by kernel_rfl) (by kernel_rfl) (fun _ _ _ h => h) (Or.inl ⟨by rfl, ?_⟩) (by assumption) ?_
                    rotate_left
                    · (intro wS hSw; (try dsimp only at hSw); go_simp; try with_reducible rfl)
                    try simp only [Act.put, List.setIfInBounds_toArray, List.set_cons_zero, List.set_cons_succ]
                    refine wpAnyH_ready (rs := [18]) (by kernel_rfl) (by simp) ?_
                    refine AllReadyH.cons rfl (fun K hK => ?_) ?_
                    · go_simp
                      refine hK.out _ _ ?_ (fun hHeld => ?_)
                      · try dsimp only
                        (first | with_reducible exact HKK.out _ (Below.refl _ _) | with_reducible exact HKK.out _ (Below.refl _ _).drew | with_reducible exact HKK.out _ HBA.out | with_reducible exact HKK.out _ HBE.out | with_reducible exact k4 | exact HKS.out _ _ k4)
                      clear hK K
                      refine wpAnyH_done (by kernel_rfl) ?_ _
                      go_wp2_with fail
                      go_roundw
                      case rel => exact ⟨k + 1, by omega, by go_num, Lib.hid ⟨_, _, HRC.out, HPN.out⟩⟩
                      case measure => simp [intOf]; omega
                    exact AllReadyH.nil
                  exact AllReadyH.nil
                exact AllReadyH.nil
              refine AllReadyH.cons rfl (fun K hK => ?_) ?_
              · go_simp
                refine hK.out _ _ ?_ (fun hHeld => ?_)
                · try dsimp only
                  (first | with_reducible exact HKK.out _ (Below.refl _ _) | with_reducible exact HKK.out _ (Below.refl _ _).drew | with_reducible exact HKK.out _ HBA.out | with_reducible exact HKK.out _ HBE.out | with_reducible exact k4 | exact HKS.out _ _ k4)
                clear hK K
                refine wpAnyH_ready (rs := [1]) (by kernel_rfl) (by simp) ?_
                refine AllReadyH.cons rfl (fun K hK => ?_) ?_
                · go_simp
                  refine hK.out _ _ ?_ (fun hHeld => ?_)
                  · try dsimp only
                    (first | with_reducible exact HKK.out _ (Below.refl _ _) | with_reducible exact HKK.out _ (Below.refl _ _).drew | with_reducible exact HKK.out _ HBA.out | with_reducible exact HKK.out _ HBE.out | with_reducible exact k4 | exact HKS.out _ _ k4)
                  clear hK K
                  refine wpAnyH_ready (rs := [16]) (by kernel_rfl) (by simp) ?_
                  refine AllReadyH.cons rfl (fun K hK => ?_) ?_
                  · refine step_append9 rfl (.tmp 45) (.tmp 59) 22 rfl base 34 i0 (.agg #[.int .i64 0, .int .i64 0, .int .i64 0]) 3 24 Tryd.underlying22 hi0 hz0 hz1 hz2 rfl (by decide) vv k (c64 cs) (by first | rfl | simp [Act.eval] | simp [Act.eval, Act.put]) (HPD.out.r.alloc _) ⟨w3.heap.size, 0, none⟩ 1 1 [.int .i64 qa, .int .i64 qb, .int .i64 qc] (by first | rfl | simp [Act.eval] | simp [Act.eval, Act.put]) rfl (fun j u hu => World.news_of_block (heap_alloc_new _ _) j u hu) (one9 _ _ _) (by unfold maxLen; omega) (by omega) HZB.out ?_; intro v4 w4 hown hgrow; obtain ⟨B4, d4, rfl⟩ := row_form hown; have k4 := HKG.out _ _ HBA.out hgrow; obtain ⟨e1, e2, hpn⟩ := HPD.out.app HBD.out hown hgrow; have HPN := Lib.hid hpn; clear hown hgrow hpn
                    refine hK.out _ _ ?_ (fun hHeld => ?_)
                    · try dsimp only
                      (first | with_reducible exact HKK.out _ (Below.refl _ _) | with_reducible exact HKK.out _ (Below.refl _ _).drew | with_reducible exact HKK.out _ HBA.out | with_reducible exact HKK.out _ HBE.out | with_reducible exact k4 | exact HKS.out _ _ k4)
                    clear hK K
                    refine wpAnyH_take (i := 17) (oi := _) (v := ?_) rfl (by kernel_rfl) (by kernel_rfl) (by kernel_rfl) (fun _ _ _ h => h) (Or.inl ⟨by rfl, ?_⟩) (by assumption) ?_
                    rotate_left
                    · (intro wS hSw; (try dsimp only at hSw); go_simp; try with_reducible rfl)
                    try simp only [Act.put, List.setIfInBounds_toArray, List.set_cons_zero, List.set_cons_succ]
                    refine wpAnyH_ready (rs := [18]) (by kernel_rfl) (by simp) ?_
                    refine AllReadyH.cons rfl (fun K hK => ?_) ?_
                    · go_simp
                      refine hK.out _ _ ?_ (fun hHeld => ?_)
                      · try dsimp only
                        (first | with_reducible exact HKK.out _ (Below.refl _ _) | with_reducible exact HKK.out _ (Below.refl _ _).drew | with_reducible exact HKK.out _ HBA.out | with_reducible exact HKK.out _ HBE.out | with_reducible exact k4 | exact HKS.out _ _ k4)
                      clear hK K
                      refine wpAnyH_done (by kernel_rfl) ?_ _
                      go_wp2_with fail
                      go_roundw
                      case rel => exact ⟨k + 1, by omega, by go_num, Lib.hid ⟨_, _, HRC.out, HPN.out⟩⟩
                      case measure => simp [intOf]; omega
                    exact AllReadyH.nil
                  exact AllReadyH.nil
                exact AllReadyH.nil
              exact AllReadyH.nil
            exact AllReadyH.nil
          exact AllReadyH.nil
        exact AllReadyH.nil
      · have hrd := rdCs_bad ws t htm (rdC_other h3)
        obtain ⟨rfl, rfl, rfl⟩ := HN.out hrd
        have h3i : ((parts t 46).length : Int) ≠ 3 := by omega
        have h3b : (((parts t 46).length : Int) != 3) = true := by simp; omega
        clear h3 hrd htk htm ht htl
        generalize bt t = T at *
        generalize parts t 46 = P at *
        go_wp2_with (go_at_call_of 9 T; refine (HST.out _).mono ?_; rintro e w3 ⟨⟨A, c, rfl, ho⟩, b3⟩; have HP3 := Lib.hid (HPR.out.below b3); obtain ⟨r0, r1, f0, f1⟩ := HP3.out.rm; clear b3 ho)
        have HB := Lib.hid (set2_below9 HP3.out.b (Nat.le_refl w.heap.size) (.int .i64 0) (.slice none 0 0))
        exact bodyPost_ret (v := .tuple #[.agg #[.int .i64 0, .slice none 0 0], .bool false]) (by simp [results, Tryd.results4, go_sem, r0, r1]) rfl ⟨none, 0, rfl, Own.none_, HB.out⟩
    · obtain rfl : k = n := by omega
      have hcs := HCS.out
      rw [List.take_of_length_le (by rw [← HNL.out]; exact Nat.le_refl _)] at hcs
      have hlen := rdCs_len _ _ hcs
      rw [← HNL.out] at hlen
      obtain ⟨h1, h2, h3⟩ := HY.out cs hcs
      have c0 := HPR.out.c0
      have c1 := HPR.out.c1
      have ho := HPR.out.r
      obtain ⟨B, d, rfl⟩ := row_form ho
      have HOW := Lib.hid (own_of_row ho)
      have HPG := Lib.hid (pzGood_any v B k d base wr.heap.size cs wr hlen (by omega) HOW.out (Nat.le_refl _))
      rw [h1] at HPG
      have HLN := Lib.hid hlen
      have HH2 := Lib.hid h2
      have HH3 := Lib.hid h3
      clear h1 h2 h3 hcs hlen ho HN HY
      cases ok with
      | false =>
        have e2 : m' = 0 := HH2.out
        have e3 : ys = [] := HH3.out
        subst e2 e3
        go_wp2_with (go_at_call 11; refine HPG.out.mono ?_; rintro e w3 ⟨rfl, b3⟩; have HP3 := Lib.hid (HPR.out.below b3); obtain ⟨r0, r1, f0, f1⟩ := HP3.out.rm; clear b3)
        have HB := Lib.hid (set2_below9 HP3.out.b (Nat.le_refl w.heap.size) (.int .i64 0) (.slice none 0 0))
        exact bodyPost_ret (v := .tuple #[.agg #[.int .i64 0, .slice none 0 0], .bool false]) (by simp [results, Tryd.results4, go_sem, r0, r1]) rfl ⟨none, 0, rfl, Own.none_, HB.out⟩
      | true =>
        have e2 : m' = v := HH2.out
        have e3 : ys = cs := HH3.out
        subst e2 e3
        go_wp2_with (go_at_call 11; refine HPG.out.mono ?_; rintro e w3 ⟨rfl, b3⟩; have HP3 := Lib.hid (HPR.out.below b3); obtain ⟨r0, r1, f0, f1⟩ := HP3.out.rm; have d0 := HP3.out.c0; have d1 := HP3.out.c1; have HO3 := Lib.hid (HOW.out.below b3 (Nat.le_refl _)); have HZ3 := Lib.hid b3.size; clear b3)
        have HB := Lib.hid (set2_below9 HP3.out.b (Nat.le_refl w.heap.size) (.int .i64 m') (.slice B k d))
        have HOf := Lib.hid (own_far9 (Q := w.heap.size) HO3.out (by have := HPR.out.z0; have := HPR.out.z1; have := HPR.out.z2; omega) (.int .i64 m') (.slice B k d))
        have HZf := Lib.hid (set2_size9 w3 w.heap.size (.int .i64 m') (.slice B k d))
        exact bodyPost_ret (v := .tuple #[.agg #[.int .i64 m', .slice B k d], .bool true]) (by simp [results, Tryd.results4, go_sem, r0, r1]) rfl ⟨B, d, by rw [HLN.out], (by rw [HZf.out]; exact HOf.out.wide (by have := HPR.out.z0; have := HPR.out.z1; have := HPR.out.z2; omega) HZ3.out), HB.out⟩
end Go.Proofs.YtljleceepghfjaaDoor
