/- Chapter 7: the dots beside others, of the program's sets. -/
import Derived.Test.YtbabkcjnfdpafaaGreatDoorMd
namespace Go.Proofs.YtbabkcjnfdpafaaGreatDoor
open Go.ChangeShapes Go.WideShapes Go.ChangeAt Go.RowKit Go.Maps

set_option maxRecDepth 4000 in
set_option maxHeartbeats 1600000 in
theorem besideAny_any (d b : Nat) (S0 S : Int → Int → Bool) (w : World) (hd : Ds w d S0) (h : Ds w b S) :
    Calls Tryz.prog 98 #[.map (some d), .map (some b)] w fun e w' => (∃ c, e = .returned (.map (some c)) ∧ w.heap.size ≤ c ∧ Ds w' c (nbS S0 S)) ∧ Below w.heap.size w w' := by
  have hmm := @run_makeMap Tryz.prog
  have HBD := Lib.hid h.bd
  have hbl := h.lt
  have hdl := hd.lt
  have HD := Lib.hid hd
  have HBS := Lib.hid hd.bd
  have HP := Lib.hid fun x y W (hs : S x y = true) => placesBeside_any x y W (by have := HBD.out x y hs; omega) (by have := HBD.out x y hs; omega) (by have := HBD.out x y hs; omega) (by have := HBD.out x y hs; omega)
  have HH := Lib.hid h
  clear h hd
  go_enter Tryz.func98, Tryz.ntmps98
  go_wp2_with (at_range; refine dots_range vkey _ rfl _ 55 96 rfl Tryz.underlying55 b S rfl (HH.out.alloc _) ?_; intro w0 hr0 hg0 hs0)
  go_frame
  have er : (w.alloc (.map #[] 0)).heap.size = w.heap.size + 1 := by simp
  rw [er] at hr0 hs0
  simp only [er]
  have HR0 := Lib.hid hr0
  have HD0 := Lib.hid (((Dots.made (P := Tryz.prog) (k := 71) w).kept hg0 (by simp)).congr (nb_start (S := S0) (T := S)))
  have HB0 := Lib.hid (((Below.refl w.heap.size w).alloc (Nat.le_refl _) (.map #[] 0)).grown hg0 (by simp) (by simp))
  have HDD0 := Lib.hid ((HD.out.alloc (.map #[] 0)).kept hg0 (by simp))
  clear hr0 hg0 hs0 er HH HD
  go_loopw [6] (fun _ wr => ∃ L, Hid (Rs wr b (w.heap.size + 1) S L) ∧ Hid (Ds wr w.heap.size (nbS S0 (tlS S L))) ∧ Hid (Ds wr d S0) ∧ Hid (Below w.heap.size w wr)) (fun _ wr => wr.rangeLeft b (w.heap.size + 1))
  case atStart => exact ⟨S, HR0, HD0, HDD0, HB0⟩
  case round =>
    obtain ⟨L, HR, HD, HDD, HB⟩ := hrel
    go_wp2_with (at_next; refine dots_next vkey _ rfl _ rfl b (w.heap.size + 1) S L rfl HR.out ?_ ?_)
    · intro h0
      have HE := Lib.hid (HD.out.congr (nb_end h0))
      clear h0
      go_wp2
      go_ret
      exact ⟨⟨_, rfl, Nat.le_refl _, HE.out⟩, HB.out⟩
    · intro x y w2 hL hr2 hlt hg2 hs2 hen
      have hS := HR.out.sub hL
      have HR2 := Lib.hid hr2
      have HD2 := Lib.hid (HD.out.kept hg2 (by simp))
      have HDD2 := Lib.hid (HDD.out.kept hg2 (by simp; omega))
      have HB2 := Lib.hid (HB.out.grown hg2 HB.out.size (by intro j hj; cases hj; omega))
      have HLT := Lib.hid hlt
      have HSS := Lib.hid hS
      have hbx := HBD.out x y hS
      have HIN := Lib.hid fun u v => nb_in S0 S L u v
      clear hr2 hlt hL hS hg2 hs2
      have hz2 : w.heap.size + 1 < w2.heap.size := HR2.out.lt
      go_wp2_with (go_at_call 93; refine (HP.out x y _ HSS.out).mono ?_; rintro e w3 ⟨⟨A, c, rfl, ho3⟩, hb3⟩)
      obtain ⟨g, o, rfl, hg0, hg1, hcs⟩ := ho3 (by rw [prs_len, bsd_len]; omega)
      have hza : (w2.alloc (.cells #[.int .i64 x, .int .i64 y] 71)).heap.size = w2.heap.size + 1 := by simp
      rw [hza] at hg0 hb3
      have d0 : w3.cell? ⟨w2.heap.size, 0, none⟩ = some (.int .i64 x) := (hb3.cell (p := ⟨w2.heap.size, 0, none⟩) (Nat.lt_succ_self _)).trans (by simp [go_sem])
      have d1 : w3.cell? ⟨w2.heap.size, 1, none⟩ = some (.int .i64 y) := (hb3.cell (p := ⟨w2.heap.size, 1, none⟩) (Nat.lt_succ_self _)).trans (by simp [go_sem])
      have hg3 : w2.grownBy w3 none := (World.grownBy_alloc w2 _ none).andThen (grown_of_below hb3 (by simp)) (by simp)
      have HR3 := Lib.hid (HR2.out.kept hg3 (by simp) (by simp))
      have HL3 := Lib.hid (HR2.out.left hg3 (by simp) (by simp))
      have HD3 := Lib.hid ((HD2.out.kept hg3 (by simp)).congr HIN.out)
      have HDD3 := Lib.hid (HDD2.out.kept hg3 (by simp))
      have HB3 := Lib.hid (HB2.out.grown hg3 (by omega) (by simp))
      have HCS := Lib.hid hcs
      have hz3 : w2.heap.size < w3.heap.size := by omega
      clear ho3 hb3 hcs hg3 hza
      go_loopw [19] (fun i wr => ∃ j : Nat, j ≤ 4 ∧ i = .int .i64 (j : Int) ∧ Hid (Ds wr w.heap.size (nbF S0 S L ((bsd x y).take j))) ∧ Hid (w3.grownBy wr (some w.heap.size))) (fun i _ => 4 - (intOf i).toNat)
      case atStart => exact ⟨0, by omega, by simp, HD3, Lib.hid (grown_refl _ _)⟩
      case round =>
        obtain ⟨j, hj, rfl, HDj, HGj⟩ := hrel
        have hzr : w3.heap.size ≤ wr.heap.size := HGj.out.size
        by_cases hlt : j < 4
        · have hj4 : (j : Int) < 4 := by omega
          have hp := prs_get (bsd x y) j (by rw [bsd_len]; exact hlt)
          have s0 := HGj.out.cell (HCS.out _ _ hp.1).1 (by simp; omega)
          have s1 := HGj.out.cell (HCS.out _ _ hp.2).1 (by simp; omega)
          have b0 := HGj.out.cell d0 (by simp; omega)
          have b1 := HGj.out.cell d1 (by simp; omega)
          have ht := bsd_at x y j hlt
          have hbb := bsd_bds x y j hlt
          generalize hpq : (bsd x y)[j]'(by rw [bsd_len]; exact hlt) = pq at *
          obtain ⟨p, q⟩ := pq
          simp only at s0 s1 hbb
          rw [Nat.mul_comm 2 j] at s0 s1
          rw [← Nat.add_assoc] at s1
          have HRj := Lib.hid (HDD3.out.kept HGj.out (by simp; omega))
          have HHAS := Lib.hid fun W (h : Ds W d S0) => has_any d S0 p q W h (wf2_of (by omega) (by omega) (by omega) (by omega))
          have HT := Lib.hid ht
          clear hp ht hpq hbb
          cases hc : S0 p q with
          | false =>
            rw [hc] at HHAS
            have HE := Lib.hid (HDj.out.congr (nb_no (p := (p, q)) hc))
            clear hc
            go_wp2_with (go_at_call 72; refine (HHAS.out _ (HRj.out.alloc _)).mono ?_; rintro e w5 ⟨rfl, hb5⟩)
            have HG5 := Lib.hid ((HGj.out.andThen (World.grownBy_alloc _ (.cells #[.int .i64 p, .int .i64 q] 71) none) (by simp)).andThen (grown_of_below hb5 (Nat.le_refl _)) (by simp))
            have HE5 := Lib.hid ((HE.out.alloc (.cells #[.int .i64 p, .int .i64 q] 71)).below hb5)
            clear hb5
            go_wp2
            go_roundw
            case rel => exact ⟨j + 1, by omega, by go_num, by rw [HT.out]; exact HE5, HG5⟩
            case measure => simp [intOf]; omega
          | true =>
            have hpb := HBS.out p q hc
            rw [hc] at HHAS
            have HE := Lib.hid fun u v => nb_yes (S := S0) (T := S) (L := L) (l := (bsd x y).take j) (p := (p, q)) hc u v
            clear hc
            go_wp2_with (first
              | (go_at_call 72; refine (HHAS.out _ (HRj.out.alloc _)).mono ?_; rintro e w5 ⟨rfl, hb5⟩; have HG5 := Lib.hid ((HGj.out.andThen (World.grownBy_alloc _ (.cells #[.int .i64 p, .int .i64 q] 71) none) (by simp)).andThen (grown_of_below hb5 (Nat.le_refl _)) (by simp)); have HD5 := Lib.hid ((HDj.out.alloc (.cells #[.int .i64 p, .int .i64 q] 71)).below hb5); have e0 := (hb5.cell (p := ⟨wr.heap.size, 0, none⟩) (by simp)).trans (show (wr.alloc (.cells #[.int .i64 p, .int .i64 q] 71)).cell? ⟨wr.heap.size, 0, none⟩ = some (.int .i64 p) by simp [go_sem]); have e1 := (hb5.cell (p := ⟨wr.heap.size, 1, none⟩) (by simp)).trans (show (wr.alloc (.cells #[.int .i64 p, .int .i64 q] 71)).cell? ⟨wr.heap.size, 1, none⟩ = some (.int .i64 q) by simp [go_sem]); clear hb5)
              | (go_at_call 94; refine (add_any _ _ _ _ _ HD5.out (by omega)).mono ?_; rintro e w6 ⟨rfl, hd6, hg6⟩))
            have HG6 := Lib.hid (grown_tr HG5.out hg6)
            have HD6 := Lib.hid (hd6.congr HE.out)
            clear hd6 hg6
            go_wp2
            go_roundw
            case rel => exact ⟨j + 1, by omega, by go_num, by rw [HT.out]; exact HD6, HG6⟩
            case measure => simp [intOf]; omega
        · obtain rfl : j = 4 := by omega
          have ht4 : (bsd x y).take 4 = bsd x y := rfl
          rw [ht4] at HDj
          have HD7 := Lib.hid (HDj.out.congr (nb_out HSS.out))
          have HR7 := Lib.hid (HR3.out.kept HGj.out (by simp; omega) (by simp))
          have HL7 := Lib.hid (HR3.out.left HGj.out (by simp; omega) (by simp))
          have HDD7 := Lib.hid (HDD3.out.kept HGj.out (by simp; omega))
          have HB7 := Lib.hid (HB3.out.grown HGj.out HB3.out.size (by intro j hj; cases hj; exact Nat.le_refl _))
          go_wp2
          go_roundw
          case rel => exact ⟨_, HR7, HD7, HDD7, HB7⟩
          case measure => rw [HL7.out, HL3.out]; exact HLT.out
end Go.Proofs.YtbabkcjnfdpafaaGreatDoor
