/- Chapter 7: pictures read, by the program. -/
import Derived.Test.YtbabkcjnfdpafaaGreatDoorDuQ
import Derived.Test.YtbabkcjnfdpafaaGreatDoorDuR
import Derived.Test.YtbabkcjnfdpafaaGreatDoorMd
namespace Go.Proofs.YtbabkcjnfdpafaaGreatDoor
open Go.ChangeShapes Go.WideShapes Go.ChangeAt Go.RowKit Go.Maps

/-- The dots of the first k rows. -/
def rdF (R : List (List UInt8)) (W k : Nat) (u v : Int) : Bool := decide (0 ≤ u ∧ u < (W : Int) ∧ 0 ≤ v ∧ v < (k : Int)) && (R.getD v.toNat []).getD u.toNat 0 == 111
theorem rd_zero (R : List (List UInt8)) (W : Nat) (u v : Int) : false = rdF R W 0 u v := by
  unfold rdF
  rw [decide_eq_false (by omega)]
  rfl
theorem rd_step {R : List (List UInt8)} {W k : Nat} (_ : (R.getD k []).length = W) (u v : Int) : rwF (rdF R W k) (R.getD k []) (k : Int) W u v = rdF R W (k + 1) u v := by
  rw [Bool.eq_iff_iff, rw_iff]
  unfold rdF
  simp only [Bool.and_eq_true, decide_eq_true_eq, beq_iff_eq]
  constructor
  · rintro (⟨⟨h1, h2, h3, h4⟩, h5⟩ | ⟨⟨rfl, h2, h3⟩, h4⟩)
    · exact ⟨⟨h1, h2, h3, by omega⟩, h5⟩
    · exact ⟨⟨h2, h3, by omega, by omega⟩, by simpa using h4⟩
  · rintro ⟨⟨h1, h2, h3, h4⟩, h5⟩
    by_cases e : v = (k : Int)
    · subst e
      rw [Int.toNat_natCast] at h5
      exact .inr ⟨⟨rfl, h1, h2⟩, h5⟩
    · exact .inl ⟨⟨h1, h2, h3, by omega⟩, h5⟩
theorem rd_all (l : List UInt8) (u v : Int) : rdF (parts l 47) (pW l) (pH l) u v = gS (pW l) (pH l) (pD l) u v := by
  refine eq_gS (d := pD l) (fun x y h => ?_) (fun x y hx hy => ?_) u v
  · unfold rdF at h
    simp only [Bool.and_eq_true, decide_eq_true_eq] at h
    exact h.1
  · unfold rdF
    rw [decide_eq_true (by omega), Bool.true_and, Int.toNat_natCast, Int.toNat_natCast]
    unfold pD
    rw [place_x hx, place_y hx]
/-- What a row must be. -/
def rowB (W : Nat) (r : List UInt8) : Bool := decide (r.length = W) && r.all isSgn
theorem pic_no_lim {l : List UInt8} (h : ¬ (1 ≤ ((rowsL l).getD 0 []).length ∧ ((rowsL l).getD 0 []).length ≤ 24 ∧ (rowsL l).length ≤ 24)) : isPic l = false := by
  cases hp : isPic l
  · rfl
  · exfalso
    have hb := pic_b hp
    rcases rowsL_of l with ⟨h1, h2⟩ | ⟨h1, _⟩
    · apply h
      rw [h2]
      have e : (parts l 47).getD 0 [] = (parts l 47).headD [] := by cases parts l 47 <;> rfl
      rw [e]
      exact ⟨hb.w0, hb.w1, hb.h1⟩
    · have := hb.h1
      unfold pH at this
      omega
theorem pic_lim {l : List UInt8} (h1 : 1 ≤ ((rowsL l).getD 0 []).length) (h2 : ((rowsL l).getD 0 []).length ≤ 24) (h3 : (rowsL l).length ≤ 24) : rowsL l = parts l 47 ∧ ((rowsL l).getD 0 []).length = pW l ∧ (rowsL l).length = pH l ∧ isPic l = (parts l 47).all (rowB (pW l)) := by
  rcases rowsL_of l with ⟨h4, h5⟩ | ⟨_, h5⟩
  · have e : (parts l 47).getD 0 [] = (parts l 47).headD [] := by cases parts l 47 <;> rfl
    rw [h5] at h1 h2 ⊢
    rw [e] at h1 h2 ⊢
    refine ⟨rfl, rfl, rfl, ?_⟩
    unfold isPic rowsOk
    rw [decide_eq_true h4, decide_eq_true h1, decide_eq_true h2]
    rfl
  · omega
/-- What readPicture answers. -/
def Rd (l : List UInt8) (w : World) (e : Ending) (w' : World) : Prop :=
  ((isPic l = true ∧ ∃ c, e = .returned (.tuple #[.agg #[.int .i64 (pW l : Int), .int .i64 (pH l : Int), .map (some c)], .bool true]) ∧ w.heap.size ≤ c ∧ Ds w' c (gS (pW l) (pH l) (pD l))) ∨
   (isPic l = false ∧ e = .returned (.tuple #[.agg #[.int .i64 0, .int .i64 0, .map none], .bool false]))) ∧ Below w.heap.size w w'
set_option maxRecDepth 8000 in
set_option maxHeartbeats 3200000 in
theorem readPicture_any (s : ByteArray) (w : World) (hs : s.size ≤ 2000000) (hM : MaxL w) :
    Calls Tryz.prog 51 #[.string s] w (Rd s.data.toList w) := by
  have hmm := @run_makeMap Tryz.prog
  have HSP := Lib.hid fun V (h : MaxL V) => splitN_any s V hs h
  have HNO := Lib.hid (pic_no_lim (l := s.data.toList))
  have HYES := Lib.hid (pic_lim (l := s.data.toList))
  have hl1 := rowsL_len s.data.toList
  have HMA := Lib.hid (hM.below ((Below.refl _ _).alloc (Nat.le_refl _) (.cells #[.int .i64 0, .int .i64 0, .map none] 57)))
  have hr0 : (rowsL s.data.toList)[0]? = some ((rowsL s.data.toList).getD 0 []) := by
    rw [List.getElem?_eq_getElem (by omega), List.getD, List.getElem?_eq_getElem (by omega)]
    rfl
  generalize s.data.toList = l at *
  obtain ⟨L, hL⟩ : ∃ L, L = (rowsL l).length := ⟨_, rfl⟩
  obtain ⟨r0, hrr⟩ : ∃ r0, r0 = (rowsL l).getD 0 [] := ⟨_, rfl⟩
  have HL := Lib.hid hL
  have HRR := Lib.hid hrr
  rw [← hL] at HSP hl1
  rw [← hrr] at hr0
  clear hL hrr
  have hL1 : (0 : Int) < (L : Int) := by omega
  go_enter Tryz.func51, Tryz.ntmps51
  go_wp2_with (go_at_call 83; refine (HSP.out _ HMA.out).mono ?_; rintro e w1 ⟨⟨c1, rfl⟩, hcs, hz1, hb1⟩; have hr1 := hcs 0 _ hr0; rw [show (w.alloc (.cells #[.int .i64 0, .int .i64 0, .map none] 57)).heap.size = w.heap.size + 1 by simp] at hr1 hcs hz1; rw [show (w.alloc (.cells #[.int .i64 0, .int .i64 0, .map none] 57)).heap.size = w.heap.size + 1 by simp])
  have hn0 : (bt r0).size = r0.length := bt_size r0
  rw [hn0]
  obtain ⟨n0, hn⟩ : ∃ n0, n0 = r0.length := ⟨_, rfl⟩
  rw [← hn]
  obtain ⟨W3, hW3⟩ : ∃ W3, W3 = (w1.alloc (.map #[] 0)).alloc (.cells #[.int .i64 (n0 : Int), .int .i64 (L : Int), .map (some w1.heap.size)] 57) := ⟨_, rfl⟩
  rw [← hW3]
  have g1 : w.grownBy w1 none := (World.grownBy_alloc w _ none).andThen (grown_of_below hb1 (Nat.le_refl _)) (by simp)
  have g3 : w1.grownBy W3 none := by rw [hW3]; exact (World.grownBy_alloc w1 _ none).andThen (World.grownBy_alloc _ _ none) (by simp)
  have k0 : w1.heap[w.heap.size]? = some (.cells #[.int .i64 0, .int .i64 0, .map none] 57) := (hb1.block _ (by simp)).trans (MapKept.heap_alloc w _).1
  have k2 : W3.heap[w1.heap.size + 1]? = some (.cells #[.int .i64 (n0 : Int), .int .i64 (L : Int), .map (some w1.heap.size)] 57) := by
    have h := (MapKept.heap_alloc (w1.alloc (.map #[] 0)) (.cells #[.int .i64 (n0 : Int), .int .i64 (L : Int), .map (some w1.heap.size)] 57)).1
    rw [show (w1.alloc (.map #[] 0)).heap.size = w1.heap.size + 1 by simp] at h
    rw [hW3]
    exact h
  have d3 : Ds W3 w1.heap.size (fun _ _ => false) := by
    rw [hW3]
    exact (Dots.made (P := Tryz.prog) (k := 71) w1).alloc _
  have hz3 : W3.heap.size = w1.heap.size + 2 := by rw [hW3]; simp
  refine (limits_any _ _ _ _).mono ?_
  rintro e w2 ⟨rfl, hb2⟩
  have g2 := g3.andThen (grown_of_below hb2 (Nat.le_refl _)) (by simp)
  have j0 := grown_heap k0 g2 (by simp)
  have j2 := grown_heap k2 (grown_of_below hb2 (Nat.le_refl _)) (by simp)
  have HD := Lib.hid ((d3.below hb2).congr (rd_zero (rowsL l) n0))
  have HG := Lib.hid (g1.andThen g2 (by simp))
  have HCS := Lib.hid fun j x (hx : (rowsL l)[j]? = some x) => g2.cell (hcs j x hx) (by simp)
  have hz2 : w1.heap.size + 2 ≤ w2.heap.size := by have := hb2.size; omega
  have hzw : w.heap.size + 1 < w1.heap.size := hz1
  clear hb1 hb2 g1 g2 g3 k0 k2 d3 hW3 hz3 hcs hr1 hn0 HSP HMA hM
  have HN := Lib.hid hn
  clear hn
  by_cases hlim : 1 ≤ n0 ∧ n0 ≤ 24 ∧ L ≤ 24
  · have hlb : limB (n0 : Int) (L : Int) = true := by
      unfold limB
      rw [betr_yes (by omega) (by omega), betr_yes (by omega) (by omega)]
      rfl
    rw [hlb]
    obtain ⟨y1, y2, y3, y4⟩ := HYES.out (by rw [← HRR.out, ← HN.out]; omega) (by rw [← HRR.out, ← HN.out]; omega) (by rw [← HL.out]; omega)
    rw [← HRR.out, ← HN.out] at y2
    rw [← HL.out] at y3
    have HPW := Lib.hid y2.symm
    have HPH := Lib.hid y3.symm
    have HBAD : Hid (∀ k, k < L → rowB n0 ((rowsL l).getD k []) = false → isPic l = false) := Lib.hid fun k hk hb => by
      rw [y4, List.all_eq_false, ← y1, ← y2]
      have hkl : k < (rowsL l).length := by rw [← HL.out]; exact hk
      refine ⟨(rowsL l)[k], List.getElem_mem hkl, ?_⟩
      rw [List.getD, List.getElem?_eq_getElem hkl] at hb
      simpa using hb
    have HALL : Hid ((∀ k, k < L → rowB n0 ((rowsL l).getD k []) = true) → isPic l = true) := Lib.hid fun hk => by
      rw [y4, List.all_eq_true, ← y1, ← y2]
      intro x hx
      obtain ⟨j, hj, rfl⟩ := List.getElem_of_mem hx
      have := hk j (by rw [HL.out]; exact hj)
      rw [List.getD, List.getElem?_eq_getElem hj] at this
      exact this
    have HEND : Hid (∀ u v, rdF (rowsL l) n0 L u v = gS (pW l) (pH l) (pD l) u v) := Lib.hid fun u v => by rw [y1, y2, y3]; exact rd_all l u v
    have HROW : Hid (∀ k, k < L → (rowsL l)[k]? = some ((rowsL l).getD k [])) := Lib.hid fun k hk => by
      have hkl : k < (rowsL l).length := by rw [← HL.out]; exact hk
      rw [List.getD, List.getElem?_eq_getElem hkl]
      rfl
    have HSTEP := Lib.hid fun k (h : ((rowsL l).getD k []).length = n0) => rd_step h
    clear y1 y2 y3 y4 hlb HYES HNO HRR hr0
    generalize rowsL l = R at *
    go_wp2
    go_loopw [24] (fun i wr => ∃ k : Nat, k ≤ L ∧ i = .int .i64 (k : Int) ∧ Hid (Ds wr w1.heap.size (rdF R n0 k)) ∧ Hid (w2.grownBy wr (some w1.heap.size)) ∧ Hid (∀ j, j < k → rowB n0 (R.getD j []) = true)) (fun i _ => L - (intOf i).toNat)
    case atStart => exact ⟨0, by omega, by simp, HD, Lib.hid (grown_refl _ _), Lib.hid fun j hj => absurd hj (by omega)⟩
    case round =>
      obtain ⟨k, hk, rfl, HDk, HGk, HOK⟩ := hrel
      have i0 := grown_heap j0 HGk.out (by simp; omega)
      have i2 := grown_heap j2 HGk.out (by simp)
      have HGW := Lib.hid (HG.out.andThen HGk.out (by intro j hj; cases hj; exact Or.inl (by omega)))
      have a0 := Lib.cell_of_heap i0 0
      have a1 := Lib.cell_of_heap i0 1
      have a2 := Lib.cell_of_heap i0 2
      have f0 := Lib.frozen_of_heap i0 0
      have f1 := Lib.frozen_of_heap i0 1
      have f2 := Lib.frozen_of_heap i0 2
      have b0 := Lib.cell_of_heap i2 0
      have b1 := Lib.cell_of_heap i2 1
      have b2 := Lib.cell_of_heap i2 2
      by_cases hlt : k < L
      · have hlt2 : (k : Int) < (L : Int) := by omega
        have hrow := HGk.out.cell (HCS.out k _ (HROW.out k hlt)) (by simp; omega)
        have hst := HSTEP.out k
        have hbad := HBAD.out k hlt
        have hok1 : rowB n0 (R.getD k []) = true → ∀ j, j < k + 1 → rowB n0 (R.getD j []) = true := fun h j hj => by
          by_cases e : j = k
          · subst e; exact h
          · exact HOK.out j (by omega)
        generalize R.getD k [] = r at *
        have hbs := bt_size r
        have hbl := bt_list r
        by_cases hw : r.length = n0
        · have hsz : (bt r).size = n0 := by omega
          have HAR := Lib.hid (addRow_any w1.heap.size (rdF R n0 k) (bt r) (k : Int) wr HDk.out (by omega) (by omega) (by omega))
          rw [hbl, hsz] at HAR
          have HST := Lib.hid (hst hw)
          have HOK1 := Lib.hid hok1
          have HRB : Hid (rowB n0 r = r.all isSgn) := Lib.hid (by unfold rowB; rw [decide_eq_true hw, Bool.true_and])
          clear hst hok1 hbs hbl hw
          cases hall : r.all isSgn with
          | true =>
            rw [hall] at HAR HRB
            clear hall hbad
            go_wp2_with (go_at_call 85; refine (HAR.out).mono ?_; rintro e w5 ⟨rfl, hd5, hg5⟩)
            have HD5 := Lib.hid ((hd5 (by trivial)).congr HST.out)
            have HG5 := Lib.hid (grown_tr HGk.out hg5)
            clear hd5 hg5
            go_wp2
            go_roundw
            case rel => exact ⟨k + 1, by omega, by go_num, HD5, HG5, Lib.hid (HOK1.out HRB.out)⟩
            case measure => simp [intOf]; omega
          | false =>
            rw [hall] at HAR HRB
            have HPN := Lib.hid (hbad HRB.out)
            clear hall hbad
            go_wp2_with (go_at_call 85; refine (HAR.out).mono ?_; rintro e w5 ⟨rfl, hd5, hg5⟩; have i5 := grown_heap i0 hg5 (by simp; omega); have q0 := Lib.cell_of_heap i5 0; have q1 := Lib.cell_of_heap i5 1; have q2 := Lib.cell_of_heap i5 2; have p0 := Lib.frozen_of_heap i5 0; have p1 := Lib.frozen_of_heap i5 1; have p2 := Lib.frozen_of_heap i5 2; have HG5 := Lib.hid (HGW.out.andThen hg5 (by intro j hj; cases hj; exact Or.inl (by omega))); clear hd5 hg5)
            obtain ⟨e0, e1, e2⟩ := put3D q0 q1 q2 (.int .i64 0) (.int .i64 0) (.map none)
            have HBE := Lib.hid ((Below.refl w.heap.size w).grown (HG5.out.andThen (grown_set3 w5 w.heap.size (.int .i64 0) (.int .i64 0) (.map none)) (by intro j hj; cases hj; exact Or.inl (Nat.le_refl _))) (Nat.le_refl _) (by simp))
            go_wp2
            exact bodyPost_ret (v := .tuple #[.agg #[.int .i64 0, .int .i64 0, .map none], .bool false]) (by simp [results, Tryz.results51, go_sem, e0, e1, e2]) rfl ⟨.inr ⟨HPN.out, rfl⟩, HBE.out⟩
        · have hne : ¬ (bt r).size = n0 := by omega
          have HPN := Lib.hid (hbad (by unfold rowB; rw [decide_eq_false hw, Bool.false_and]))
          obtain ⟨e0, e1, e2⟩ := put3D a0 a1 a2 (.int .i64 0) (.int .i64 0) (.map none)
          have HBE := Lib.hid ((Below.refl w.heap.size w).grown (HGW.out.andThen (grown_set3 wr w.heap.size (.int .i64 0) (.int .i64 0) (.map none)) (by intro j hj; cases hj; exact Or.inl (Nat.le_refl _))) (Nat.le_refl _) (by simp))
          clear hst hok1 hbad hbs hbl hw
          go_wp2
          exact bodyPost_ret (v := .tuple #[.agg #[.int .i64 0, .int .i64 0, .map none], .bool false]) (by simp [results, Tryz.results51, go_sem, e0, e1, e2]) rfl ⟨.inr ⟨HPN.out, rfl⟩, HBE.out⟩
      · obtain rfl : k = L := by omega
        have HPN := Lib.hid (HALL.out HOK.out)
        obtain ⟨e0, e1, e2⟩ := put3D a0 a1 a2 (.int .i64 (n0 : Int)) (.int .i64 (k : Int)) (.map (some w1.heap.size))
        have hgE := grown_set3 wr w.heap.size (.int .i64 (n0 : Int)) (.int .i64 (k : Int)) (.map (some w1.heap.size))
        have HBE := Lib.hid ((Below.refl w.heap.size w).grown (HGW.out.andThen hgE (by intro j hj; cases hj; exact Or.inl (Nat.le_refl _))) (Nat.le_refl _) (by simp))
        have HDE := Lib.hid ((HDk.out.kept hgE (by simp; omega)).congr HEND.out)
        clear hgE
        go_wp2
        refine bodyPost_ret (v := .tuple #[.agg #[.int .i64 (n0 : Int), .int .i64 (k : Int), .map (some w1.heap.size)], .bool true]) (by simp [results, Tryz.results51, go_sem, e0, e1, e2]) rfl ⟨.inl ⟨HPN.out, w1.heap.size, ?_, by omega, HDE.out⟩, HBE.out⟩
        rw [HPW.out, HPH.out]
  · have hlb : limB (n0 : Int) (L : Int) = false := by
      unfold limB
      by_cases h1 : 1 ≤ n0 ∧ n0 ≤ 24
      · rw [betr_no (x := (L : Int)) (by omega), Bool.and_false]
      · rw [betr_no (x := (n0 : Int)) (by omega), Bool.false_and]
    rw [hlb]
    have HPN := Lib.hid (HNO.out (by rw [← HRR.out, ← HN.out, ← HL.out]; exact hlim))
    have a0 := Lib.cell_of_heap j0 0
    have a1 := Lib.cell_of_heap j0 1
    have a2 := Lib.cell_of_heap j0 2
    have f0 := Lib.frozen_of_heap j0 0
    have f1 := Lib.frozen_of_heap j0 1
    have f2 := Lib.frozen_of_heap j0 2
    obtain ⟨e0, e1, e2⟩ := put3D a0 a1 a2 (.int .i64 0) (.int .i64 0) (.map none)
    have HBE := Lib.hid ((Below.refl w.heap.size w).grown (HG.out.andThen (grown_set3 w2 w.heap.size (.int .i64 0) (.int .i64 0) (.map none)) (by intro j hj; cases hj; exact Or.inl (Nat.le_refl _))) (Nat.le_refl _) (by simp))
    clear HYES HNO hlb hlim
    go_wp2
    exact bodyPost_ret (v := .tuple #[.agg #[.int .i64 0, .int .i64 0, .map none], .bool false]) (by simp [results, Tryz.results51, go_sem, e0, e1, e2]) rfl ⟨.inr ⟨HPN.out, rfl⟩, HBE.out⟩
end Go.Proofs.YtbabkcjnfdpafaaGreatDoor
