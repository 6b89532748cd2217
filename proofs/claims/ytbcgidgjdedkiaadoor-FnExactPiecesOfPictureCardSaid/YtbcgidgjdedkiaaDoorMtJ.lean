/- The texts XDuR XDuS XDuV XDuW XDuY XDvW XDvB joined. -/
import Derived.Test.YtbcgidgjdedkiaaDoorMtI
import Derived.Lib.OthersKept
import Derived.Handed
import Derived.Shelf.Vars
/- Chapter 7: the dots of a row added, by the program. -/
namespace Go.Proofs.YtbcgidgjdedkiaaDoor
open Go.ChangeShapes Go.WideShapes Go.ChangeAt Go.RowKit Go.Maps

/-- The dots of S and those of the first k signs of a row. -/
def rwF (S : Int → Int → Bool) (r : List UInt8) (y : Int) (k : Nat) (u v : Int) : Bool := S u v || (decide (v = y ∧ 0 ≤ u ∧ u < (k : Int)) && r.getD u.toNat 0 == 111)
theorem rw_zero (S : Int → Int → Bool) (r : List UInt8) (y u v : Int) : S u v = rwF S r y 0 u v := by
  unfold rwF
  have : decide (v = y ∧ 0 ≤ u ∧ u < ((0 : Nat) : Int)) = false := decide_eq_false (by omega)
  rw [this]
  simp
theorem rw_iff {S : Int → Int → Bool} {r : List UInt8} {y : Int} {k : Nat} {u v : Int} : rwF S r y k u v = true ↔ S u v = true ∨ ((v = y ∧ 0 ≤ u ∧ u < (k : Int)) ∧ r.getD u.toNat 0 = 111) := by simp [rwF]
theorem rw_yes {S : Int → Int → Bool} {r : List UInt8} {y : Int} {k : Nat} (h : r.getD k 0 = 111) (u v : Int) : aS (rwF S r y k) (k : Int) y u v = rwF S r y (k + 1) u v := by
  rw [Bool.eq_iff_iff]
  unfold aS
  rw [Bool.or_eq_true, rw_iff, rw_iff, Bool.and_eq_true, decide_eq_true_eq, decide_eq_true_eq]
  constructor
  · rintro ((h1 | ⟨⟨h1, h2, h3⟩, h4⟩) | ⟨rfl, rfl⟩)
    · exact .inl h1
    · exact .inr ⟨⟨h1, h2, by omega⟩, h4⟩
    · exact .inr ⟨⟨rfl, by omega, by omega⟩, by simpa using h⟩
  · rintro (h1 | ⟨⟨h1, h2, h3⟩, h4⟩)
    · exact .inl (.inl h1)
    · by_cases e : u = (k : Int)
      · exact .inr ⟨e, h1⟩
      · exact .inl (.inr ⟨⟨h1, h2, by omega⟩, h4⟩)
theorem rw_no {S : Int → Int → Bool} {r : List UInt8} {y : Int} {k : Nat} (h : r.getD k 0 ≠ 111) (u v : Int) : rwF S r y k u v = rwF S r y (k + 1) u v := by
  rw [Bool.eq_iff_iff, rw_iff, rw_iff]
  constructor
  · rintro (h1 | ⟨⟨h1, h2, h3⟩, h4⟩)
    · exact .inl h1
    · exact .inr ⟨⟨h1, h2, by omega⟩, h4⟩
  · rintro (h1 | ⟨⟨h1, h2, h3⟩, h4⟩)
    · exact .inl h1
    · by_cases e : u = (k : Int)
      · subst e
        rw [Int.toNat_natCast] at h4
        exact absurd h4 h
      · exact .inr ⟨⟨h1, h2, by omega⟩, h4⟩
theorem grown_iterAt (w : World) (k : Nat) (s : ByteArray) (pos : Nat) : w.grownBy (w.iterAt k s pos) (some k) := ⟨rfl, rfl, rfl, by rw [Lib.iterAt_size]; exact Nat.le_refl _, fun i _ hne => Lib.iterAt_other w k i s pos (fun e => hne (by rw [e]))⟩
theorem grown_heap1 {w w' : World} {row : Option Nat} {k : Nat} {o : Obj} (h : w.heap[k]? = some o) (hg : w.grownBy w' row) (hne : some k ≠ row) : w'.heap[k]? = some o :=
  (hg.block k (Array.getElem?_eq_some_iff.1 h).1 hne).trans h
theorem grown_tr1 {a b c : World} {row : Option Nat} (h : a.grownBy b row) (k : b.grownBy c row) : a.grownBy c row := h.andThen k fun _ e => Or.inr e
theorem ba_getD (s : ByteArray) (k : Nat) (h : k < s.size) : s.data.toList.getD k 0 = s[k] := by
  have hl : k < s.data.toList.length := by simpa using h
  rw [List.getD, List.getElem?_eq_getElem hl]
  simp [ByteArray.getElem_eq_getElem_data]
set_option maxRecDepth 8000 in
set_option maxHeartbeats 3200000 in
theorem addRow_any (b : Nat) (S : Int → Int → Bool) (s : ByteArray) (y : Int) (w : World) (h : Ds w b S) (hs : s.size ≤ 50) (y0 : 0 ≤ y) (y1 : y < 50) :
    Calls Tryd.prog 78 #[.map (some b), .string s, .int .i64 y] w fun e w' => e = .returned (.bool (s.data.toList.all isSgn)) ∧ (s.data.toList.all isSgn = true → Ds w' b (rwF S s.data.toList y s.size)) ∧ w.grownBy w' (some b) := by
  have hbl := h.lt
  have HYES := Lib.hid fun k (h : s.data.toList.getD k 0 = 111) => rw_yes (S := S) (y := y) h
  have HNO := Lib.hid fun k (h : s.data.toList.getD k 0 ≠ 111) => rw_no (S := S) (y := y) h
  have HG := Lib.hid fun k (h : k < s.size) => ba_getD s k h
  have HBAD : Hid (∀ k, (h : k < s.size) → isSgn s[k] = false → s.data.toList.all isSgn = false) := Lib.hid fun k h hb => by
    rw [List.all_eq_false]
    exact ⟨s[k], by rw [ByteArray.getElem_eq_getElem_data]; simp, by simpa using hb⟩
  have HALL : Hid ((∀ k, (h : k < s.size) → isSgn s[k] = true) → s.data.toList.all isSgn = true) := Lib.hid fun hk => by
    rw [List.all_eq_true]
    intro x hx
    obtain ⟨j, hj, rfl⟩ := List.getElem_of_mem hx
    have := hk j (by simpa using hj)
    rw [ByteArray.getElem_eq_getElem_data] at this
    simpa using this
  have HZ := Lib.hid (h.congr (rw_zero S s.data.toList y))
  clear h
  generalize s.data.toList.all isSgn = ok at *
  generalize rwF S s.data.toList y = T at *
  go_enter Tryd.func78, Tryd.ntmps78
  go_wp2
  have HIT : Hid ((w.iter s 0).heap[w.heap.size]? = some (.stringIter s 0)) := Lib.hid (World.iter_heap w s 0)
  have HG0 := Lib.hid (World.grownBy_alloc w (.stringIter s 0) none)
  have HD0 := Lib.hid (HZ.out.alloc (.stringIter s 0))
  go_loopw [] (fun wr => ∃ pos : Nat, pos ≤ s.size ∧ Hid (wr.heap[w.heap.size]? = some (.stringIter s pos)) ∧ Hid (Ds wr b (T pos)) ∧ Hid (w.grownBy wr (some b)) ∧ Hid (∀ k, k < pos → (h : k < s.size) → isSgn s[k] = true)) (fun wr => s.size - wr.iterPos w.heap.size)
  case atStart => exact ⟨0, Nat.zero_le _, HIT, HD0, Lib.hid (HG0.out.but _), Lib.hid fun k hk => absurd hk (by omega)⟩
  case round =>
    obtain ⟨pos, hpos, HI, HD, HW, HOK⟩ := hrel
    by_cases hp : pos < s.size
    · have hgd := HG.out pos hp
      have hyes := HYES.out pos
      have hno := HNO.out pos
      have hi1 := fun p' => Lib.iterAt_heap wr w.heap.size s pos p' HI.out
      have hg1 := fun p' => grown_iterAt wr w.heap.size s p'
      have HIP : Hid (wr.iterPos w.heap.size = pos) := Lib.hid (by simp [World.iterPos, HI.out])
      rw [hgd] at hyes hno
      by_cases hs1 : isSgn s[pos] = true
      · have hok1 : ∀ k, k < pos + 1 → (h : k < s.size) → isSgn s[k] = true := fun k hk h => by
          by_cases e : k = pos
          · subst e; exact hs1
          · exact HOK.out k (by omega) h
        have HOK1 := Lib.hid hok1
        have HI1 := Lib.hid (hi1 (pos + 1))
        have HW1 := Lib.hid (HW.out.andThen (hg1 (pos + 1)) (by intro j hj; cases hj; exact Or.inl (Nat.le_refl _)))
        have HD1 := Lib.hid (HD.out.kept (hg1 (pos + 1)) (by simp; omega))
        by_cases hc : s[pos] = 111
        · have hnx : ∀ ty, (Instr.next (.pointer (some ⟨w.heap.size, 0, none⟩)) true ty).run Tryd.prog wr = .ok (.tuple #[.bool true, .int .i64 pos, .int .i32 111]) (wr.iterAt w.heap.size s (pos + 1)) := fun ty => by
            rw [Lib.run_next_ascii_at wr w.heap.size s pos ty HI.out hp (by rw [hc]; decide), hc]
            rfl
          have HY := Lib.hid (hyes hc)
          clear hok1 hs1 hc hyes hno hgd hi1 hg1
          go_wp2_with (go_at_call 93; refine (add_any _ _ _ _ _ HD1.out (by omega)).mono ?_; rintro e w6 ⟨rfl, hd6, hg6⟩)
          have HD6 := Lib.hid (hd6.congr HY.out)
          have HW6 := Lib.hid (grown_tr1 HW1.out hg6)
          have HI6 := Lib.hid (grown_heap1 HI1.out hg6 (by simp; omega))
          clear hd6 hg6
          go_wp2
          go_roundw
          case rel => exact ⟨pos + 1, by omega, HI6, HD6, HW6, HOK1⟩
          case measure => rw [HIP.out]; simp only [World.iterPos, HI6.out]; omega
        · have hc2 : s[pos] = 46 := by
            unfold isSgn at hs1
            simp [hc] at hs1
            exact hs1
          have hnx : ∀ ty, (Instr.next (.pointer (some ⟨w.heap.size, 0, none⟩)) true ty).run Tryd.prog wr = .ok (.tuple #[.bool true, .int .i64 pos, .int .i32 46]) (wr.iterAt w.heap.size s (pos + 1)) := fun ty => by
            rw [Lib.run_next_ascii_at wr w.heap.size s pos ty HI.out hp (by rw [hc2]; decide), hc2]
            rfl
          have HD2 := Lib.hid (HD1.out.congr (hno hc))
          clear hok1 hs1 hc hc2 hyes hno hgd hi1 hg1
          go_wp2
          go_roundw
          case rel => exact ⟨pos + 1, by omega, HI1, HD2, HW1, HOK1⟩
          case measure => rw [HIP.out]; simp only [World.iterPos, HI1.out]; omega
      · have hs2 : isSgn s[pos] = false := by simpa using hs1
        have hfalse := HBAD.out pos hp hs2
        obtain ⟨v, p', hv1, hv2, hnx⟩ : ∃ (v : Int) (p' : Nat), (v == 111) = false ∧ (v == 46) = false ∧ ∀ ty, (Instr.next (.pointer (some ⟨w.heap.size, 0, none⟩)) true ty).run Tryd.prog wr = .ok (.tuple #[.bool true, .int .i64 pos, .int .i32 v]) (wr.iterAt w.heap.size s p') := by
          by_cases ha : s[pos].toNat < 128
          · refine ⟨_, _, ?_, ?_, fun ty => Lib.run_next_ascii_at wr w.heap.size s pos ty HI.out hp ha⟩
            · have : s[pos] ≠ 111 := fun e => by rw [e] at hs2; cases hs2
              have : s[pos].toNat ≠ 111 := fun e => this (UInt8.toNat_inj.1 e)
              simp; omega
            · have : s[pos] ≠ 46 := fun e => by rw [e] at hs2; cases hs2
              have : s[pos].toNat ≠ 46 := fun e => this (UInt8.toNat_inj.1 e)
              simp; omega
          · have hd := (decode_high s pos hp (by omega)).1
            refine ⟨_, _, ?_, ?_, fun ty => Lib.run_next_any_at wr w.heap.size s pos ty HI.out hp⟩
            · simp; omega
            · simp; omega
        have HW1 := Lib.hid (HW.out.andThen (hg1 p') (by intro j hj; cases hj; exact Or.inl (Nat.le_refl _)))
        have HFA := Lib.hid hfalse
        clear hfalse hs1 hs2 hyes hno hgd hi1 hg1
        go_wp2
        go_ret
        exact ⟨by rw [HFA.out]; rfl, fun e => (by rw [HFA.out] at e; cases e), HW1.out⟩
    · obtain rfl : pos = s.size := by omega
      have hnx : ∀ ty, (Instr.next (.pointer (some ⟨w.heap.size, 0, none⟩)) true ty).run Tryd.prog wr = .ok (.tuple #[.bool false]) wr := fun ty => Lib.run_next_end_at wr w.heap.size s s.size ty HI.out hp
      have HTR := Lib.hid (HALL.out fun k hk => HOK.out k hk hk)
      go_wp2
      go_ret
      exact ⟨by rw [HTR.out]; rfl, fun _ => HD.out, HW.out⟩
end Go.Proofs.YtbcgidgjdedkiaaDoor
/- Chapter 7: pictures read, by the program. -/
namespace Go.Proofs.YtbcgidgjdedkiaaDoor
open Go.ChangeShapes Go.WideShapes Go.ChangeAt Go.RowKit Go.Maps

/-- The dots of the first k rows. -/
def rdF (R : List (List UInt8)) (W k : Nat) (u v : Int) : Bool := decide (0 ≤ u ∧ u < (W : Int) ∧ 0 ≤ v ∧ v < (k : Int)) && (R.getD v.toNat []).getD u.toNat 0 == 111
theorem rd_zero (R : List (List UInt8)) (W : Nat) (u v : Int) : false = rdF R W 0 u v := by
  unfold rdF
  rw [decide_eq_false (by omega)]
  rfl
theorem rd_step {R : List (List UInt8)} {W k : Nat} (_ : (R.getD k []).length = W) (u v : Int) : rwF (rdF R W k) (R.getD k []) (k : Int) W u v = rdF R W (k + 1) u v := by
  rw [Bool.eq_iff_iff, rw_iff]
  unfold rdF
  simp only [Bool.and_eq_true, decide_eq_true_eq, beq_iff_eq]
  constructor
  · rintro (⟨⟨h1, h2, h3, h4⟩, h5⟩ | ⟨⟨rfl, h2, h3⟩, h4⟩)
    · exact ⟨⟨h1, h2, h3, by omega⟩, h5⟩
    · exact ⟨⟨h2, h3, by omega, by omega⟩, by simpa using h4⟩
  · rintro ⟨⟨h1, h2, h3, h4⟩, h5⟩
    by_cases e : v = (k : Int)
    · subst e
      rw [Int.toNat_natCast] at h5
      exact .inr ⟨⟨rfl, h1, h2⟩, h5⟩
    · exact .inl ⟨⟨h1, h2, h3, by omega⟩, h5⟩
theorem rd_all (l : List UInt8) (u v : Int) : rdF (parts l 47) (pW l) (pH l) u v = gS (pW l) (pH l) (pD l) u v := by
  refine eq_gS (d := pD l) (fun x y h => ?_) (fun x y hx hy => ?_) u v
  · unfold rdF at h
    simp only [Bool.and_eq_true, decide_eq_true_eq] at h
    exact h.1
  · unfold rdF
    rw [decide_eq_true (by omega), Bool.true_and, Int.toNat_natCast, Int.toNat_natCast]
    unfold pD
    rw [place_x hx, place_y hx]
/-- What a row must be. -/
def rowB (W : Nat) (r : List UInt8) : Bool := decide (r.length = W) && r.all isSgn
theorem pic_no_lim {l : List UInt8} (h : ¬ (1 ≤ ((rowsL l).getD 0 []).length ∧ ((rowsL l).getD 0 []).length ≤ 24 ∧ (rowsL l).length ≤ 24)) : isPic l = false := by
  cases hp : isPic l
  · rfl
  · exfalso
    have hb := pic_b hp
    rcases rowsL_of l with ⟨h1, h2⟩ | ⟨h1, _⟩
    · apply h
      rw [h2]
      have e : (parts l 47).getD 0 [] = (parts l 47).headD [] := by cases parts l 47 <;> rfl
      rw [e]
      exact ⟨hb.w0, hb.w1, hb.h1⟩
    · have := hb.h1
      unfold pH at this
      omega
theorem pic_lim {l : List UInt8} (h1 : 1 ≤ ((rowsL l).getD 0 []).length) (h2 : ((rowsL l).getD 0 []).length ≤ 24) (h3 : (rowsL l).length ≤ 24) : rowsL l = parts l 47 ∧ ((rowsL l).getD 0 []).length = pW l ∧ (rowsL l).length = pH l ∧ isPic l = (parts l 47).all (rowB (pW l)) := by
  rcases rowsL_of l with ⟨h4, h5⟩ | ⟨_, h5⟩
  · have e : (parts l 47).getD 0 [] = (parts l 47).headD [] := by cases parts l 47 <;> rfl
    rw [h5] at h1 h2 ⊢
    rw [e] at h1 h2 ⊢
    refine ⟨rfl, rfl, rfl, ?_⟩
    unfold isPic rowsOk
    rw [decide_eq_true h4, decide_eq_true h1, decide_eq_true h2]
    rfl
  · omega
/-- What readPicture answers. -/
def Rd (l : List UInt8) (w : World) (e : Ending) (w' : World) : Prop :=
  ((isPic l = true ∧ ∃ c, e = .returned (.tuple #[.agg #[.int .i64 (pW l : Int), .int .i64 (pH l : Int), .map (some c)], .bool true]) ∧ w.heap.size ≤ c ∧ Ds w' c (gS (pW l) (pH l) (pD l))) ∨
   (isPic l = false ∧ e = .returned (.tuple #[.agg #[.int .i64 0, .int .i64 0, .map none], .bool false]))) ∧ Below w.heap.size w w'
set_option maxRecDepth 8000 in
set_option maxHeartbeats 3200000 in
theorem readPicture_any (s : ByteArray) (w : World) (hs : s.size ≤ 2000000) (hM : MaxL w) :
    Calls Tryd.prog 46 #[.string s] w (Rd s.data.toList w) := by
  have hmm := @run_makeMap Tryd.prog
  have HSP := Lib.hid fun V (h : MaxL V) => splitN_any s V hs h
  have HNO := Lib.hid (pic_no_lim (l := s.data.toList))
  have HYES := Lib.hid (pic_lim (l := s.data.toList))
  have hl1 := rowsL_len s.data.toList
  have HMA := Lib.hid (hM.below ((Below.refl _ _).alloc (Nat.le_refl _) (.cells #[.int .i64 0, .int .i64 0, .map none] 44)))
  have hr0 : (rowsL s.data.toList)[0]? = some ((rowsL s.data.toList).getD 0 []) := by
    rw [List.getElem?_eq_getElem (by omega), List.getD, List.getElem?_eq_getElem (by omega)]
    rfl
  generalize s.data.toList = l at *
  obtain ⟨L, hL⟩ : ∃ L, L = (rowsL l).length := ⟨_, rfl⟩
  obtain ⟨r0, hrr⟩ : ∃ r0, r0 = (rowsL l).getD 0 [] := ⟨_, rfl⟩
  have HL := Lib.hid hL
  have HRR := Lib.hid hrr
  rw [← hL] at HSP hl1
  rw [← hrr] at hr0
  clear hL hrr
  have hL1 : (0 : Int) < (L : Int) := by omega
  go_enter Tryd.func46, Tryd.ntmps46
  go_wp2_with (go_at_call 76; refine (HSP.out _ HMA.out).mono ?_; rintro e w1 ⟨⟨c1, rfl⟩, hcs, hz1, hb1⟩; have hr1 := hcs 0 _ hr0; rw [show (w.alloc (.cells #[.int .i64 0, .int .i64 0, .map none] 44)).heap.size = w.heap.size + 1 by simp] at hr1 hcs hz1; rw [show (w.alloc (.cells #[.int .i64 0, .int .i64 0, .map none] 44)).heap.size = w.heap.size + 1 by simp])
  have hn0 : (bt r0).size = r0.length := bt_size r0
  rw [hn0]
  obtain ⟨n0, hn⟩ : ∃ n0, n0 = r0.length := ⟨_, rfl⟩
  rw [← hn]
  obtain ⟨W3, hW3⟩ : ∃ W3, W3 = (w1.alloc (.map #[] 0)).alloc (.cells #[.int .i64 (n0 : Int), .int .i64 (L : Int), .map (some w1.heap.size)] 44) := ⟨_, rfl⟩
  rw [← hW3]
  have g1 : w.grownBy w1 none := (World.grownBy_alloc w _ none).andThen (grown_of_below hb1 (Nat.le_refl _)) (by simp)
  have g3 : w1.grownBy W3 none := by rw [hW3]; exact (World.grownBy_alloc w1 _ none).andThen (World.grownBy_alloc _ _ none) (by simp)
  have k0 : w1.heap[w.heap.size]? = some (.cells #[.int .i64 0, .int .i64 0, .map none] 44) := (hb1.block _ (by simp)).trans (MapKept.heap_alloc w _).1
  have k2 : W3.heap[w1.heap.size + 1]? = some (.cells #[.int .i64 (n0 : Int), .int .i64 (L : Int), .map (some w1.heap.size)] 44) := by
    have h := (MapKept.heap_alloc (w1.alloc (.map #[] 0)) (.cells #[.int .i64 (n0 : Int), .int .i64 (L : Int), .map (some w1.heap.size)] 44)).1
    rw [show (w1.alloc (.map #[] 0)).heap.size = w1.heap.size + 1 by simp] at h
    rw [hW3]
    exact h
  have d3 : Ds W3 w1.heap.size (fun _ _ => false) := by
    rw [hW3]
    exact (Dots.made (P := Tryd.prog) (k := 58) w1).alloc _
  have hz3 : W3.heap.size = w1.heap.size + 2 := by rw [hW3]; simp
  refine (limits_any _ _ _ _).mono ?_
  rintro e w2 ⟨rfl, hb2⟩
  have g2 := g3.andThen (grown_of_below hb2 (Nat.le_refl _)) (by simp)
  have j0 := grown_heap k0 g2 (by simp)
  have j2 := grown_heap k2 (grown_of_below hb2 (Nat.le_refl _)) (by simp)
  have HD := Lib.hid ((d3.below hb2).congr (rd_zero (rowsL l) n0))
  have HG := Lib.hid (g1.andThen g2 (by simp))
  have HCS := Lib.hid fun j x (hx : (rowsL l)[j]? = some x) => g2.cell (hcs j x hx) (by simp)
  have hz2 : w1.heap.size + 2 ≤ w2.heap.size := by have := hb2.size; omega
  have hzw : w.heap.size + 1 < w1.heap.size := hz1
  clear hb1 hb2 g1 g2 g3 k0 k2 d3 hW3 hz3 hcs hr1 hn0 HSP HMA hM
  have HN := Lib.hid hn
  clear hn
  by_cases hlim : 1 ≤ n0 ∧ n0 ≤ 24 ∧ L ≤ 24
  · have hlb : limB (n0 : Int) (L : Int) = true := by
      unfold limB
      rw [betr_yes (by omega) (by omega), betr_yes (by omega) (by omega)]
      rfl
    rw [hlb]
    obtain ⟨y1, y2, y3, y4⟩ := HYES.out (by rw [← HRR.out, ← HN.out]; omega) (by rw [← HRR.out, ← HN.out]; omega) (by rw [← HL.out]; omega)
    rw [← HRR.out, ← HN.out] at y2
    rw [← HL.out] at y3
    have HPW := Lib.hid y2.symm
    have HPH := Lib.hid y3.symm
    have HBAD : Hid (∀ k, k < L → rowB n0 ((rowsL l).getD k []) = false → isPic l = false) := Lib.hid fun k hk hb => by
      rw [y4, List.all_eq_false, ← y1, ← y2]
      have hkl : k < (rowsL l).length := by rw [← HL.out]; exact hk
      refine ⟨(rowsL l)[k], List.getElem_mem hkl, ?_⟩
      rw [List.getD, List.getElem?_eq_getElem hkl] at hb
      simpa using hb
    have HALL : Hid ((∀ k, k < L → rowB n0 ((rowsL l).getD k []) = true) → isPic l = true) := Lib.hid fun hk => by
      rw [y4, List.all_eq_true, ← y1, ← y2]
      intro x hx
      obtain ⟨j, hj, rfl⟩ := List.getElem_of_mem hx
      have := hk j (by rw [HL.out]; exact hj)
      rw [List.getD, List.getElem?_eq_getElem hj] at this
      exact this
    have HEND : Hid (∀ u v, rdF (rowsL l) n0 L u v = gS (pW l) (pH l) (pD l) u v) := Lib.hid fun u v => by rw [y1, y2, y3]; exact rd_all l u v
    have HROW : Hid (∀ k, k < L → (rowsL l)[k]? = some ((rowsL l).getD k [])) := Lib.hid fun k hk => by
      have hkl : k < (rowsL l).length := by rw [← HL.out]; exact hk
      rw [List.getD, List.getElem?_eq_getElem hkl]
      rfl
    have HSTEP := Lib.hid fun k (h : ((rowsL l).getD k []).length = n0) => rd_step h
    clear y1 y2 y3 y4 hlb HYES HNO HRR hr0
    generalize rowsL l = R at *
    go_wp2
    go_loopw [24] (fun i wr => ∃ k : Nat, k ≤ L ∧ i = .int .i64 (k : Int) ∧ Hid (Ds wr w1.heap.size (rdF R n0 k)) ∧ Hid (w2.grownBy wr (some w1.heap.size)) ∧ Hid (∀ j, j < k → rowB n0 (R.getD j []) = true)) (fun i _ => L - (intOf i).toNat)
    case atStart => exact ⟨0, by omega, by simp, HD, Lib.hid (grown_refl _ _), Lib.hid fun j hj => absurd hj (by omega)⟩
    case round =>
      obtain ⟨k, hk, rfl, HDk, HGk, HOK⟩ := hrel
      have i0 := grown_heap j0 HGk.out (by simp; omega)
      have i2 := grown_heap j2 HGk.out (by simp)
      have HGW := Lib.hid (HG.out.andThen HGk.out (by intro j hj; cases hj; exact Or.inl (by omega)))
      have a0 := Lib.cell_of_heap i0 0
      have a1 := Lib.cell_of_heap i0 1
      have a2 := Lib.cell_of_heap i0 2
      have f0 := Lib.frozen_of_heap i0 0
      have f1 := Lib.frozen_of_heap i0 1
      have f2 := Lib.frozen_of_heap i0 2
      have b0 := Lib.cell_of_heap i2 0
      have b1 := Lib.cell_of_heap i2 1
      have b2 := Lib.cell_of_heap i2 2
      by_cases hlt : k < L
      · have hlt2 : (k : Int) < (L : Int) := by omega
        have hrow := HGk.out.cell (HCS.out k _ (HROW.out k hlt)) (by simp; omega)
        have hst := HSTEP.out k
        have hbad := HBAD.out k hlt
        have hok1 : rowB n0 (R.getD k []) = true → ∀ j, j < k + 1 → rowB n0 (R.getD j []) = true := fun h j hj => by
          by_cases e : j = k
          · subst e; exact h
          · exact HOK.out j (by omega)
        generalize R.getD k [] = r at *
        have hbs := bt_size r
        have hbl := bt_list r
        by_cases hw : r.length = n0
        · have hsz : (bt r).size = n0 := by omega
          have HAR := Lib.hid (addRow_any w1.heap.size (rdF R n0 k) (bt r) (k : Int) wr HDk.out (by omega) (by omega) (by omega))
          rw [hbl, hsz] at HAR
          have HST := Lib.hid (hst hw)
          have HOK1 := Lib.hid hok1
          have HRB : Hid (rowB n0 r = r.all isSgn) := Lib.hid (by unfold rowB; rw [decide_eq_true hw, Bool.true_and])
          clear hst hok1 hbs hbl hw
          cases hall : r.all isSgn with
          | true =>
            rw [hall] at HAR HRB
            clear hall hbad
            go_wp2_with (go_at_call 78; refine (HAR.out).mono ?_; rintro e w5 ⟨rfl, hd5, hg5⟩)
            have HD5 := Lib.hid ((hd5 (by trivial)).congr HST.out)
            have HG5 := Lib.hid (grown_tr HGk.out hg5)
            clear hd5 hg5
            go_wp2
            go_roundw
            case rel => exact ⟨k + 1, by omega, by go_num, HD5, HG5, Lib.hid (HOK1.out HRB.out)⟩
            case measure => simp [intOf]; omega
          | false =>
            rw [hall] at HAR HRB
            have HPN := Lib.hid (hbad HRB.out)
            clear hall hbad
            go_wp2_with (go_at_call 78; refine (HAR.out).mono ?_; rintro e w5 ⟨rfl, hd5, hg5⟩; have i5 := grown_heap i0 hg5 (by simp; omega); have q0 := Lib.cell_of_heap i5 0; have q1 := Lib.cell_of_heap i5 1; have q2 := Lib.cell_of_heap i5 2; have p0 := Lib.frozen_of_heap i5 0; have p1 := Lib.frozen_of_heap i5 1; have p2 := Lib.frozen_of_heap i5 2; have HG5 := Lib.hid (HGW.out.andThen hg5 (by intro j hj; cases hj; exact Or.inl (by omega))); clear hd5 hg5)
            obtain ⟨e0, e1, e2⟩ := put3D q0 q1 q2 (.int .i64 0) (.int .i64 0) (.map none)
            have HBE := Lib.hid ((Below.refl w.heap.size w).grown (HG5.out.andThen (grown_set3 w5 w.heap.size (.int .i64 0) (.int .i64 0) (.map none)) (by intro j hj; cases hj; exact Or.inl (Nat.le_refl _))) (Nat.le_refl _) (by simp))
            go_wp2
            exact bodyPost_ret (v := .tuple #[.agg #[.int .i64 0, .int .i64 0, .map none], .bool false]) (by simp [results, Tryd.results46, go_sem, e0, e1, e2]) rfl ⟨.inr ⟨HPN.out, rfl⟩, HBE.out⟩
        · have hne : ¬ (bt r).size = n0 := by omega
          have HPN := Lib.hid (hbad (by unfold rowB; rw [decide_eq_false hw, Bool.false_and]))
          obtain ⟨e0, e1, e2⟩ := put3D a0 a1 a2 (.int .i64 0) (.int .i64 0) (.map none)
          have HBE := Lib.hid ((Below.refl w.heap.size w).grown (HGW.out.andThen (grown_set3 wr w.heap.size (.int .i64 0) (.int .i64 0) (.map none)) (by intro j hj; cases hj; exact Or.inl (Nat.le_refl _))) (Nat.le_refl _) (by simp))
          clear hst hok1 hbad hbs hbl hw
          go_wp2
          exact bodyPost_ret (v := .tuple #[.agg #[.int .i64 0, .int .i64 0, .map none], .bool false]) (by simp [results, Tryd.results46, go_sem, e0, e1, e2]) rfl ⟨.inr ⟨HPN.out, rfl⟩, HBE.out⟩
      · obtain rfl : k = L := by omega
        have HPN := Lib.hid (HALL.out HOK.out)
        obtain ⟨e0, e1, e2⟩ := put3D a0 a1 a2 (.int .i64 (n0 : Int)) (.int .i64 (k : Int)) (.map (some w1.heap.size))
        have hgE := grown_set3 wr w.heap.size (.int .i64 (n0 : Int)) (.int .i64 (k : Int)) (.map (some w1.heap.size))
        have HBE := Lib.hid ((Below.refl w.heap.size w).grown (HGW.out.andThen hgE (by intro j hj; cases hj; exact Or.inl (Nat.le_refl _))) (Nat.le_refl _) (by simp))
        have HDE := Lib.hid ((HDk.out.kept hgE (by simp; omega)).congr HEND.out)
        clear hgE
        go_wp2
        refine bodyPost_ret (v := .tuple #[.agg #[.int .i64 (n0 : Int), .int .i64 (k : Int), .map (some w1.heap.size)], .bool true]) (by simp [results, Tryd.results46, go_sem, e0, e1, e2]) rfl ⟨.inl ⟨HPN.out, w1.heap.size, ?_, by omega, HDE.out⟩, HBE.out⟩
        rw [HPW.out, HPH.out]
  · have hlb : limB (n0 : Int) (L : Int) = false := by
      unfold limB
      by_cases h1 : 1 ≤ n0 ∧ n0 ≤ 24
      · rw [betr_no (x := (L : Int)) (by omega), Bool.and_false]
      · rw [betr_no (x := (n0 : Int)) (by omega), Bool.false_and]
    rw [hlb]
    have HPN := Lib.hid (HNO.out (by rw [← HRR.out, ← HN.out, ← HL.out]; exact hlim))
    have a0 := Lib.cell_of_heap j0 0
    have a1 := Lib.cell_of_heap j0 1
    have a2 := Lib.cell_of_heap j0 2
    have f0 := Lib.frozen_of_heap j0 0
    have f1 := Lib.frozen_of_heap j0 1
    have f2 := Lib.frozen_of_heap j0 2
    obtain ⟨e0, e1, e2⟩ := put3D a0 a1 a2 (.int .i64 0) (.int .i64 0) (.map none)
    have HBE := Lib.hid ((Below.refl w.heap.size w).grown (HG.out.andThen (grown_set3 w2 w.heap.size (.int .i64 0) (.int .i64 0) (.map none)) (by intro j hj; cases hj; exact Or.inl (Nat.le_refl _))) (Nat.le_refl _) (by simp))
    clear HYES HNO hlb hlim
    go_wp2
    exact bodyPost_ret (v := .tuple #[.agg #[.int .i64 0, .int .i64 0, .map none], .bool false]) (by simp [results, Tryd.results46, go_sem, e0, e1, e2]) rfl ⟨.inr ⟨HPN.out, rfl⟩, HBE.out⟩
end Go.Proofs.YtbcgidgjdedkiaaDoor
/- Chapter 7: the program's pictures without borders; texts changed. -/
namespace Go.Proofs.YtbcgidgjdedkiaaDoor
open Go.ChangeShapes Go.WideShapes Go.ChangeAt Go.RowKit Go.Maps

set_option maxRecDepth 8000 in
set_option maxHeartbeats 3200000 in
theorem withoutBorder_chg (W H : Nat) (S : Int → Int → Bool) : Chg 71 W H S W H (dS S (bS S)) := by
  intro w b hd
  have hbl := hd.lt
  obtain ⟨V, hV⟩ : ∃ V, V = (w.alloc (.cells #[.int .i64 (W : Int), .int .i64 (H : Int), .map (some b)] 44)).alloc (.cells #[.int .i64 0, .int .i64 0, .map none] 44) := ⟨_, rfl⟩
  have k0 : V.heap[w.heap.size]? = some (.cells #[.int .i64 (W : Int), .int .i64 (H : Int), .map (some b)] 44) := by
    rw [hV, (MapKept.heap_alloc _ _).2 _ (by simp)]
    exact (MapKept.heap_alloc _ _).1
  have k1 : V.heap[w.heap.size + 1]? = some (.cells #[.int .i64 0, .int .i64 0, .map none] 44) := by
    have h := (MapKept.heap_alloc (w.alloc (.cells #[.int .i64 (W : Int), .int .i64 (H : Int), .map (some b)] 44)) (.cells #[.int .i64 0, .int .i64 0, .map none] 44)).1
    rw [show (w.alloc (.cells #[.int .i64 (W : Int), .int .i64 (H : Int), .map (some b)] 44)).heap.size = w.heap.size + 1 by simp] at h
    rw [hV]
    exact h
  have hgV : w.grownBy V none := by rw [hV]; exact (World.grownBy_alloc w _ none).andThen (World.grownBy_alloc _ _ none) (by simp)
  have HD := Lib.hid (hd.kept hgV (by simp))
  have hzV : V.heap.size = w.heap.size + 2 := by rw [hV]; simp
  go_enter Tryd.func71, Tryd.ntmps71
  go_wp2_with fail
  rw [← hV]
  clear hV hd
  refine (clone_any b S V HD.out).mono ?_
  rintro e w1 ⟨rfl, hd1, hz1, hb1⟩
  have hg1 := grown_of_below hb1 (Nat.le_refl _)
  have i0 := grown_heap k0 hg1 (by simp)
  have i1 := grown_heap k1 hg1 (by simp)
  have q2 : w1.cell? ⟨w.heap.size, 2, none⟩ = some (.map (some b)) := Lib.cell_of_heap i0 2
  have HD1 := Lib.hid (HD.out.kept hg1 (by simp))
  have HC1 := Lib.hid hd1
  have HG1 := Lib.hid (hgV.andThen hg1 (by simp))
  have hcb : V.heap.size ≠ b := by omega
  clear hd1 hb1 hg1 hgV HD k0 k1
  generalize hcV : V.heap.size = c at *
  have hc2 : w.heap.size + 2 ≤ c := by omega
  clear hzV hcV
  go_wp2_with (first
    | (go_at_call 72; refine (border_any _ _ _ HD1.out).mono ?_; rintro e w2 ⟨⟨m, rfl, hm, hd2⟩, hb2⟩; have hg2 := grown_of_below hb2 (Nat.le_refl _); have HM2 := Lib.hid hd2; have HC2 := Lib.hid (HC1.out.kept hg2 (by simp)); have i2 := grown_heap i0 hg2 (by simp); have j2 := grown_heap i1 hg2 (by simp); have HG2 := Lib.hid (HG1.out.andThen hg2 (by simp)); clear hd2 hb2 hg2)
    | (go_at_call 73; refine (drop_any _ _ _ _ _ HC2.out HM2.out (by omega)).mono ?_; rintro e w3 ⟨rfl, hd3, hg3⟩; have HC3 := Lib.hid hd3; have i3 := grown_heap i2 hg3 (by simp; omega); have j3 := grown_heap j2 hg3 (by simp; omega); have HG3 := Lib.hid (HG2.out.andThen hg3 (by intro j hj; cases hj; exact Or.inl (by omega))); have p0 := Lib.cell_of_heap i3 0; have p1 := Lib.cell_of_heap i3 1; have p2 := Lib.cell_of_heap i3 2; clear hd3 hg3)
    | (go_at_call 64; refine (withDots_any _ _ _ _ _).mono ?_; rintro e w4 ⟨rfl, hb4⟩; have hg4 := grown_of_below hb4 (Nat.le_refl _); have HDF := Lib.hid (HC3.out.kept hg4 (by simp)); have j4 := grown_heap j3 hg4 (by simp); have HG4 := Lib.hid (HG3.out.andThen hg4 (by simp)); have s0 := Lib.cell_of_heap j4 0; have s1 := Lib.cell_of_heap j4 1; have s2 := Lib.cell_of_heap j4 2; have f0 := Lib.frozen_of_heap j4 0; have f1 := Lib.frozen_of_heap j4 1; have f2 := Lib.frozen_of_heap j4 2; clear hb4 hg4))
  obtain ⟨e0, e1, e2⟩ := put3D s0 s1 s2 (.int .i64 (W : Int)) (.int .i64 (H : Int)) (.map (some c))
  have hgE := grown_set3 w4 (w.heap.size + 1) (.int .i64 (W : Int)) (.int .i64 (H : Int)) (.map (some c))
  have HDE := Lib.hid (HDF.out.kept hgE (by simp; omega))
  have HBE := Lib.hid ((Below.refl w.heap.size w).grown (HG4.out.andThen hgE (by intro j hj; cases hj; exact Or.inl (by omega))) (Nat.le_refl _) (by simp))
  exact bodyPost_ret (v := .agg #[.int .i64 (W : Int), .int .i64 (H : Int), .map (some c)]) (by simp [results, Tryd.results71, go_sem, e0, e1, e2]) rfl ⟨⟨c, rfl, HDE.out⟩, HBE.out⟩
end Go.Proofs.YtbcgidgjdedkiaaDoor
/- Chapter 7: the program's changes of texts: turned, mirrored, other dots, borders. -/
namespace Go.Proofs.YtbcgidgjdedkiaaDoor
open Go.ChangeShapes Go.WideShapes Go.ChangeAt Go.RowKit Go.Maps

theorem readPicture_yes (s : ByteArray) (w : World) (hs : s.size ≤ 2000000) (hM : MaxL w) (hp : isPic s.data.toList = true) :
    Calls Tryd.prog 46 #[.string s] w fun e w' => (∃ c, e = .returned (.tuple #[.agg #[.int .i64 (pW s.data.toList : Int), .int .i64 (pH s.data.toList : Int), .map (some c)], .bool true]) ∧ w.heap.size ≤ c ∧ Ds w' c (gS (pW s.data.toList) (pH s.data.toList) (pD s.data.toList))) ∧ Below w.heap.size w w' :=
  (readPicture_any s w hs hM).mono fun e w' h => by
    obtain ⟨h1 | h1, hb⟩ := h
    · exact ⟨h1.2, hb⟩
    · rw [hp] at h1; cases h1.1
theorem readPicture_no (s : ByteArray) (w : World) (hs : s.size ≤ 2000000) (hM : MaxL w) (hp : isPic s.data.toList = false) :
    Calls Tryd.prog 46 #[.string s] w fun e w' => e = .returned (.tuple #[.agg #[.int .i64 0, .int .i64 0, .map none], .bool false]) ∧ Below w.heap.size w w' :=
  (readPicture_any s w hs hM).mono fun e w' h => by
    obtain ⟨h1 | h1, hb⟩ := h
    · rw [hp] at h1; cases h1.1
    · exact ⟨h1.2, hb⟩
set_option maxRecDepth 8000 in
theorem changedText_no (F : Nat) (s : ByteArray) (w : World) (hs : s.size ≤ 2000000) (hM : MaxL w) (hp : isPic s.data.toList = false) :
    Calls Tryd.prog 50 #[.string s, .func (.func F) #[] #[]] w fun e w' => e = .returned (.tuple #[.string ⟨#[]⟩, .bool false]) ∧ Below w.heap.size w w' := by
  have HR := Lib.hid (readPicture_no s w hs hM hp)
  clear hM hp
  go_enter Tryd.func50, Tryd.ntmps50
  go_wp2_with (go_at_call 46; refine (HR.out).mono ?_; rintro e w1 ⟨rfl, hb1⟩)
  go_ret2
  exact ⟨rfl, hb1.alloc hb1.size _⟩
set_option maxRecDepth 8000 in
set_option maxHeartbeats 1600000 in
theorem changedText_yes (F : Nat) (s : ByteArray) (W H : Nat) (S : Int → Int → Bool) (w : World) (hs : s.size ≤ 2000000) (hM : MaxL w) (hp : isPic s.data.toList = true)
    (hcf : ∀ (args : Array Value) (V : World), (callFunc F args).run Tryd.prog V = .ok (.enter F args) V) (hc : Chg F (pW s.data.toList) (pH s.data.toList) (gS (pW s.data.toList) (pH s.data.toList) (pD s.data.toList)) W H S) (w0 : 1 ≤ W) (w1 : W ≤ 50) (h1 : H ≤ 50) :
    Calls Tryd.prog 50 #[.string s, .func (.func F) #[] #[]] w fun e w' => e = .returned (.tuple #[.string (bt (sT W H S)), .bool true]) ∧ Below w.heap.size w w' := by
  have HR := Lib.hid (readPicture_yes s w hs hM hp)
  have HC := Lib.hid hc
  have HT := Lib.hid fun b V (hd : Ds V b S) => text_any W H (W * H) b S V hd rfl w0 w1 h1
  clear hM hp hc
  generalize pW s.data.toList = a at *
  generalize pH s.data.toList = d at *
  generalize pD s.data.toList = D at *
  generalize sT W H S = t at *
  go_enter Tryd.func50, Tryd.ntmps50
  go_wp2_with (first
    | (go_at_call 46; refine (HR.out).mono ?_; rintro e w2 ⟨⟨c, rfl, hc0, hd⟩, hb2⟩; have HD := Lib.hid (hd.alloc (.cells #[.int .i64 (a : Int), .int .i64 (d : Int), .map (some c)] 44)); have HB := Lib.hid (hb2.alloc hb2.size (.cells #[.int .i64 (a : Int), .int .i64 (d : Int), .map (some c)] 44)); clear hd hb2)
    | (go_at_call 66; refine (HT.out _ _ HD4.out).mono ?_; rintro e w5 ⟨rfl, hb5⟩)
    | (refine (HC.out _ _ HD.out).mono ?_; rintro e w4 ⟨⟨c4, rfl, hd4⟩, hb4⟩; have HD4 := Lib.hid hd4; have HB4 := Lib.hid (HB.out.trans (hb4.mono HB.out.size)); clear hd4 hb4))
  go_ret2
  exact ⟨rfl, HB4.out.trans (hb5.mono HB4.out.size)⟩

theorem cf_turned : ∀ (args : Array Value) (V : World), (callFunc 51 args).run Tryd.prog V = .ok (.enter 51 args) V := fun _ _ => by kernel_rfl
set_option maxRecDepth 8000 in
theorem impl_TurnPicture_no (s : ByteArray) (w : World) (hs : s.size ≤ 2000000) (hM : MaxL w) (hp : isPic s.data.toList = false) :
    Calls Tryd.prog 22 #[.string s] w fun e w' => e = .returned (.tuple #[.string ⟨#[]⟩, .bool false]) ∧ Below w.heap.size w w' := by
  have HC := Lib.hid (changedText_no 51 s w hs hM hp)
  clear hM hp
  go_enter Tryd.func22, Tryd.ntmps22
  go_wp2_with (go_at_call 50; refine (HC.out).mono ?_; rintro e w1 ⟨rfl, hb1⟩)
  go_ret2
  exact ⟨rfl, hb1⟩
set_option maxRecDepth 8000 in
theorem impl_TurnPicture_yes (s : ByteArray) (w : World) (hs : s.size ≤ 2000000) (hM : MaxL w) (hp : isPic s.data.toList = true) :
    Calls Tryd.prog 22 #[.string s] w fun e w' => e = .returned (.tuple #[.string (bt (gText (pH s.data.toList) (pW s.data.toList) (tD (pW s.data.toList) (pH s.data.toList) (pD s.data.toList)))), .bool true]) ∧ Below w.heap.size w w' := by
  have hb := pic_b hp
  have b0 := hb.w0
  have b1 := hb.w1
  have b2 := hb.h0
  have b3 := hb.h1
  have hc := changedText_yes 51 s (pH s.data.toList) (pW s.data.toList) (fun x y => gS (pW s.data.toList) (pH s.data.toList) (pD s.data.toList) y ((pH s.data.toList : Int) - 1 - x)) w hs hM hp cf_turned (turned_chg _ _ _ (gS_bd _ _ _) (by omega) (by omega)) (by omega) (by omega) (by omega)
  rw [show sT (pH s.data.toList) (pW s.data.toList) (fun x y => gS (pW s.data.toList) (pH s.data.toList) (pD s.data.toList) y ((pH s.data.toList : Int) - 1 - x)) = gText (pH s.data.toList) (pW s.data.toList) (tD (pW s.data.toList) (pH s.data.toList) (pD s.data.toList)) from sT_turn _ _ _] at hc
  have HC := Lib.hid hc
  clear hM hp hc hb b0 b1 b2 b3
  generalize gText (pH s.data.toList) (pW s.data.toList) (tD (pW s.data.toList) (pH s.data.toList) (pD s.data.toList)) = t at *
  go_enter Tryd.func22, Tryd.ntmps22
  go_wp2_with (go_at_call 50; refine (HC.out).mono ?_; rintro e w1 ⟨rfl, hb1⟩)
  go_ret2
  exact ⟨rfl, hb1⟩

theorem cf_mirrored : ∀ (args : Array Value) (V : World), (callFunc 53 args).run Tryd.prog V = .ok (.enter 53 args) V := fun _ _ => by kernel_rfl
set_option maxRecDepth 8000 in
theorem impl_MirrorPicture_no (s : ByteArray) (w : World) (hs : s.size ≤ 2000000) (hM : MaxL w) (hp : isPic s.data.toList = false) :
    Calls Tryd.prog 24 #[.string s] w fun e w' => e = .returned (.tuple #[.string ⟨#[]⟩, .bool false]) ∧ Below w.heap.size w w' := by
  have HC := Lib.hid (changedText_no 53 s w hs hM hp)
  clear hM hp
  go_enter Tryd.func24, Tryd.ntmps24
  go_wp2_with (go_at_call 50; refine (HC.out).mono ?_; rintro e w1 ⟨rfl, hb1⟩)
  go_ret2
  exact ⟨rfl, hb1⟩
set_option maxRecDepth 8000 in
theorem impl_MirrorPicture_yes (s : ByteArray) (w : World) (hs : s.size ≤ 2000000) (hM : MaxL w) (hp : isPic s.data.toList = true) :
    Calls Tryd.prog 24 #[.string s] w fun e w' => e = .returned (.tuple #[.string (bt (gText (pW s.data.toList) (pH s.data.toList) (mD (pW s.data.toList) (pD s.data.toList)))), .bool true]) ∧ Below w.heap.size w w' := by
  have hb := pic_b hp
  have b0 := hb.w0
  have b1 := hb.w1
  have b2 := hb.h0
  have b3 := hb.h1
  have hc := changedText_yes 53 s (pW s.data.toList) (pH s.data.toList) (fun x y => gS (pW s.data.toList) (pH s.data.toList) (pD s.data.toList) ((pW s.data.toList : Int) - 1 - x) y) w hs hM hp cf_mirrored (mirrored_chg _ _ _ (gS_bd _ _ _) (by omega) (by omega)) (by omega) (by omega) (by omega)
  rw [show sT (pW s.data.toList) (pH s.data.toList) (fun x y => gS (pW s.data.toList) (pH s.data.toList) (pD s.data.toList) ((pW s.data.toList : Int) - 1 - x) y) = gText (pW s.data.toList) (pH s.data.toList) (mD (pW s.data.toList) (pD s.data.toList)) from sT_mirror _ _ _] at hc
  have HC := Lib.hid hc
  clear hM hp hc hb b0 b1 b2 b3
  generalize gText (pW s.data.toList) (pH s.data.toList) (mD (pW s.data.toList) (pD s.data.toList)) = t at *
  go_enter Tryd.func24, Tryd.ntmps24
  go_wp2_with (go_at_call 50; refine (HC.out).mono ?_; rintro e w1 ⟨rfl, hb1⟩)
  go_ret2
  exact ⟨rfl, hb1⟩

theorem cf_withOtherDots : ∀ (args : Array Value) (V : World), (callFunc 60 args).run Tryd.prog V = .ok (.enter 60 args) V := fun _ _ => by kernel_rfl
set_option maxRecDepth 8000 in
theorem impl_OtherDots_no (s : ByteArray) (w : World) (hs : s.size ≤ 2000000) (hM : MaxL w) (hp : isPic s.data.toList = false) :
    Calls Tryd.prog 30 #[.string s] w fun e w' => e = .returned (.tuple #[.string ⟨#[]⟩, .bool false]) ∧ Below w.heap.size w w' := by
  have HC := Lib.hid (changedText_no 60 s w hs hM hp)
  clear hM hp
  go_enter Tryd.func30, Tryd.ntmps30
  go_wp2_with (go_at_call 50; refine (HC.out).mono ?_; rintro e w1 ⟨rfl, hb1⟩)
  go_ret2
  exact ⟨rfl, hb1⟩
set_option maxRecDepth 8000 in
theorem impl_OtherDots_yes (s : ByteArray) (w : World) (hs : s.size ≤ 2000000) (hM : MaxL w) (hp : isPic s.data.toList = true) :
    Calls Tryd.prog 30 #[.string s] w fun e w' => e = .returned (.tuple #[.string (bt (gText (pW s.data.toList) (pH s.data.toList) (oD (pD s.data.toList)))), .bool true]) ∧ Below w.heap.size w w' := by
  have hb := pic_b hp
  have b0 := hb.w0
  have b1 := hb.w1
  have b2 := hb.h0
  have b3 := hb.h1
  have hc := changedText_yes 60 s (pW s.data.toList) (pH s.data.toList) (fun x y => inP (pW s.data.toList) (pH s.data.toList) x y && !gS (pW s.data.toList) (pH s.data.toList) (pD s.data.toList) x y) w hs hM hp cf_withOtherDots (withOtherDots_chg _ _ _ (by omega) (by omega) (by omega)) (by omega) (by omega) (by omega)
  rw [show sT (pW s.data.toList) (pH s.data.toList) (fun x y => inP (pW s.data.toList) (pH s.data.toList) x y && !gS (pW s.data.toList) (pH s.data.toList) (pD s.data.toList) x y) = gText (pW s.data.toList) (pH s.data.toList) (oD (pD s.data.toList)) from sT_other _ _ _] at hc
  have HC := Lib.hid hc
  clear hM hp hc hb b0 b1 b2 b3
  generalize gText (pW s.data.toList) (pH s.data.toList) (oD (pD s.data.toList)) = t at *
  go_enter Tryd.func30, Tryd.ntmps30
  go_wp2_with (go_at_call 50; refine (HC.out).mono ?_; rintro e w1 ⟨rfl, hb1⟩)
  go_ret2
  exact ⟨rfl, hb1⟩

theorem cf_borderAlone : ∀ (args : Array Value) (V : World), (callFunc 69 args).run Tryd.prog V = .ok (.enter 69 args) V := fun _ _ => by kernel_rfl
set_option maxRecDepth 8000 in
theorem impl_BorderDots_no (s : ByteArray) (w : World) (hs : s.size ≤ 2000000) (hM : MaxL w) (hp : isPic s.data.toList = false) :
    Calls Tryd.prog 37 #[.string s] w fun e w' => e = .returned (.tuple #[.string ⟨#[]⟩, .bool false]) ∧ Below w.heap.size w w' := by
  have HC := Lib.hid (changedText_no 69 s w hs hM hp)
  clear hM hp
  go_enter Tryd.func37, Tryd.ntmps37
  go_wp2_with (go_at_call 50; refine (HC.out).mono ?_; rintro e w1 ⟨rfl, hb1⟩)
  go_ret2
  exact ⟨rfl, hb1⟩
set_option maxRecDepth 8000 in
theorem impl_BorderDots_yes (s : ByteArray) (w : World) (hs : s.size ≤ 2000000) (hM : MaxL w) (hp : isPic s.data.toList = true) :
    Calls Tryd.prog 37 #[.string s] w fun e w' => e = .returned (.tuple #[.string (bt (gText (pW s.data.toList) (pH s.data.toList) (brd (pW s.data.toList) (pH s.data.toList) (pD s.data.toList)))), .bool true]) ∧ Below w.heap.size w w' := by
  have hb := pic_b hp
  have b0 := hb.w0
  have b1 := hb.w1
  have b2 := hb.h0
  have b3 := hb.h1
  have hc := changedText_yes 69 s (pW s.data.toList) (pH s.data.toList) (bS (gS (pW s.data.toList) (pH s.data.toList) (pD s.data.toList))) w hs hM hp cf_borderAlone (borderAlone_chg _ _ _ (gS_bd _ _ _) (by omega) (by omega)) (by omega) (by omega) (by omega)
  rw [show sT (pW s.data.toList) (pH s.data.toList) (bS (gS (pW s.data.toList) (pH s.data.toList) (pD s.data.toList))) = gText (pW s.data.toList) (pH s.data.toList) (brd (pW s.data.toList) (pH s.data.toList) (pD s.data.toList)) from (sT_congr fun x y _ => brd_set _ _ _ x y).trans (sT_gS _ _ _)] at hc
  have HC := Lib.hid hc
  clear hM hp hc hb b0 b1 b2 b3
  generalize gText (pW s.data.toList) (pH s.data.toList) (brd (pW s.data.toList) (pH s.data.toList) (pD s.data.toList)) = t at *
  go_enter Tryd.func37, Tryd.ntmps37
  go_wp2_with (go_at_call 50; refine (HC.out).mono ?_; rintro e w1 ⟨rfl, hb1⟩)
  go_ret2
  exact ⟨rfl, hb1⟩

theorem cf_withoutBorder : ∀ (args : Array Value) (V : World), (callFunc 71 args).run Tryd.prog V = .ok (.enter 71 args) V := fun _ _ => by kernel_rfl
set_option maxRecDepth 8000 in
theorem impl_TakeBorder_no (s : ByteArray) (w : World) (hs : s.size ≤ 2000000) (hM : MaxL w) (hp : isPic s.data.toList = false) :
    Calls Tryd.prog 39 #[.string s] w fun e w' => e = .returned (.tuple #[.string ⟨#[]⟩, .bool false]) ∧ Below w.heap.size w w' := by
  have HC := Lib.hid (changedText_no 71 s w hs hM hp)
  clear hM hp
  go_enter Tryd.func39, Tryd.ntmps39
  go_wp2_with (go_at_call 50; refine (HC.out).mono ?_; rintro e w1 ⟨rfl, hb1⟩)
  go_ret2
  exact ⟨rfl, hb1⟩
set_option maxRecDepth 8000 in
theorem impl_TakeBorder_yes (s : ByteArray) (w : World) (hs : s.size ≤ 2000000) (hM : MaxL w) (hp : isPic s.data.toList = true) :
    Calls Tryd.prog 39 #[.string s] w fun e w' => e = .returned (.tuple #[.string (bt (gText (pW s.data.toList) (pH s.data.toList) (tkn (pW s.data.toList) (pH s.data.toList) (pD s.data.toList)))), .bool true]) ∧ Below w.heap.size w w' := by
  have hb := pic_b hp
  have b0 := hb.w0
  have b1 := hb.w1
  have b2 := hb.h0
  have b3 := hb.h1
  have hc := changedText_yes 71 s (pW s.data.toList) (pH s.data.toList) (dS (gS (pW s.data.toList) (pH s.data.toList) (pD s.data.toList)) (bS (gS (pW s.data.toList) (pH s.data.toList) (pD s.data.toList)))) w hs hM hp cf_withoutBorder (withoutBorder_chg _ _ _) (by omega) (by omega) (by omega)
  rw [show sT (pW s.data.toList) (pH s.data.toList) (dS (gS (pW s.data.toList) (pH s.data.toList) (pD s.data.toList)) (bS (gS (pW s.data.toList) (pH s.data.toList) (pD s.data.toList)))) = gText (pW s.data.toList) (pH s.data.toList) (tkn (pW s.data.toList) (pH s.data.toList) (pD s.data.toList)) from (sT_congr fun x y _ => tkn_set _ _ _ x y).trans (sT_gS _ _ _)] at hc
  have HC := Lib.hid hc
  clear hM hp hc hb b0 b1 b2 b3
  generalize gText (pW s.data.toList) (pH s.data.toList) (tkn (pW s.data.toList) (pH s.data.toList) (pD s.data.toList)) = t at *
  go_enter Tryd.func39, Tryd.ntmps39
  go_wp2_with (go_at_call 50; refine (HC.out).mono ?_; rintro e w1 ⟨rfl, hb1⟩)
  go_ret2
  exact ⟨rfl, hb1⟩

end Go.Proofs.YtbcgidgjdedkiaaDoor
/- Chapter 7: IsPicture, CountDots, SizeOfPicture, by the program. -/
namespace Go.Proofs.YtbcgidgjdedkiaaDoor
open Go.ChangeShapes Go.WideShapes Go.ChangeAt Go.RowKit Go.Maps

theorem cntB_tx (W : Nat) (d : Nat → Bool) (k : Nat) : cntB (txP W d k) = cnt d k := by
  induction k with
  | zero => rfl
  | succ k ih =>
    rw [cnt_succ, ← ih, txP]
    unfold cntB
    rw [List.countP_append, List.countP_append]
    have e1 : List.countP (· == 111) (if k % W = 0 ∧ 0 < k / W then [(47 : UInt8)] else []) = 0 := by split <;> rfl
    have e2 : List.countP (· == 111) [sgn (d k)] = if d k = true then 1 else 0 := by cases d k <;> rfl
    rw [e1, e2]
    rfl
theorem cnt_congr {f g : Nat → Bool} {n : Nat} (h : ∀ i, i < n → f i = g i) : cnt f n = cnt g n := by
  induction n with
  | zero => rfl
  | succ n ih => rw [cnt_succ, cnt_succ, ih (fun i hi => h i (by omega)), h n (by omega)]
theorem pic_cnt {l : List UInt8} (h : isPic l = true) : cntB l = cnt (sD (pW l) (gS (pW l) (pH l) (pD l))) (pW l * pH l) := by
  rw [cnt_congr (fun i hi => sD_gS (pD l) hi)]
  have hb := pic_b h
  have e := txP_all (pW l) (pH l) (pD l) hb.w0
  rw [pic_text h] at e
  rw [← cntB_tx (pW l), e]
set_option maxRecDepth 8000 in
theorem impl_IsPicture (s : ByteArray) (w : World) (hs : s.size ≤ 2000000) (hM : MaxL w) :
    Calls Tryd.prog 16 #[.string s] w fun e w' => e = .returned (.bool (isPic s.data.toList)) ∧ Below w.heap.size w w' := by
  cases hp : isPic s.data.toList with
  | true =>
    have HR := Lib.hid (readPicture_yes s w hs hM hp)
    clear hM hp
    go_enter Tryd.func16, Tryd.ntmps16
    go_wp2_with (go_at_call 46; refine (HR.out).mono ?_; rintro e w1 ⟨⟨c, rfl, _, _⟩, hb1⟩)
    go_ret
    exact ⟨rfl, hb1.alloc hb1.size _⟩
  | false =>
    have HR := Lib.hid (readPicture_no s w hs hM hp)
    clear hM hp
    go_enter Tryd.func16, Tryd.ntmps16
    go_wp2_with (go_at_call 46; refine (HR.out).mono ?_; rintro e w1 ⟨rfl, hb1⟩)
    go_ret
    exact ⟨rfl, hb1.alloc hb1.size _⟩
set_option maxRecDepth 8000 in
theorem impl_CountDots_yes (s : ByteArray) (w : World) (hs : s.size ≤ 2000000) (hM : MaxL w) (hp : isPic s.data.toList = true) :
    Calls Tryd.prog 18 #[.string s] w fun e w' => e = .returned (.tuple #[.int .i64 (cntB s.data.toList : Int), .bool true]) ∧ Below w.heap.size w w' := by
  have HR := Lib.hid (readPicture_yes s w hs hM hp)
  have HB := Lib.hid (gS_bd (pW s.data.toList) (pH s.data.toList) (pD s.data.toList))
  have HC := Lib.hid (pic_cnt hp)
  rw [HC.out]
  clear hM hp HC
  generalize pW s.data.toList = W at *
  generalize pH s.data.toList = H at *
  generalize gS W H (pD s.data.toList) = S at *
  go_enter Tryd.func18, Tryd.ntmps18
  go_wp2_with (first
    | (go_at_call 46; refine (HR.out).mono ?_; rintro e w1 ⟨⟨c, rfl, _, hd⟩, hb1⟩; have HD := Lib.hid (hd.alloc (.cells #[.int .i64 (W : Int), .int .i64 (H : Int), .map (some c)] 44)); clear hd)
    | (at_len; refine dots_len vkey _ rfl _ 42 84 rfl Tryd.underlying42 c W H _ rfl HD.out HB.out ?_))
  go_ret2
  exact ⟨rfl, hb1.alloc hb1.size _⟩
set_option maxRecDepth 8000 in
theorem impl_CountDots_no (s : ByteArray) (w : World) (hs : s.size ≤ 2000000) (hM : MaxL w) (hp : isPic s.data.toList = false) :
    Calls Tryd.prog 18 #[.string s] w fun e w' => e = .returned (.tuple #[.int .i64 0, .bool false]) ∧ Below w.heap.size w w' := by
  have HR := Lib.hid (readPicture_no s w hs hM hp)
  clear hM hp
  have hln : ∀ (V : World) ty, (Builtin.len_ #[42] ty #[.map none]).run Tryd.prog V = .ok (.int .i64 0) V := fun V ty => Maps.len_nil Tryd.underlying42 ty
  go_enter Tryd.func18, Tryd.ntmps18
  go_wp2_with (go_at_call 46; refine (HR.out).mono ?_; rintro e w1 ⟨rfl, hb1⟩)
  go_ret2
  exact ⟨rfl, hb1.alloc hb1.size _⟩
set_option maxRecDepth 8000 in
theorem impl_SizeOfPicture_yes (s : ByteArray) (w : World) (hs : s.size ≤ 2000000) (hM : MaxL w) (hp : isPic s.data.toList = true) :
    Calls Tryd.prog 20 #[.string s] w fun e w' => e = .returned (.tuple #[.int .i64 (pW s.data.toList : Int), .int .i64 (pH s.data.toList : Int), .bool true]) ∧ Below w.heap.size w w' := by
  have HR := Lib.hid (readPicture_yes s w hs hM hp)
  clear hM hp
  generalize pW s.data.toList = W at *
  generalize pH s.data.toList = H at *
  go_enter Tryd.func20, Tryd.ntmps20
  go_wp2_with (go_at_call 46; refine (HR.out).mono ?_; rintro e w1 ⟨⟨c, rfl, _, _⟩, hb1⟩)
  go_region
  all_goals
    go_wp2
    go_ret3
    exact ⟨rfl, (hb1.alloc hb1.size _).drew⟩
set_option maxRecDepth 8000 in
theorem impl_SizeOfPicture_no (s : ByteArray) (w : World) (hs : s.size ≤ 2000000) (hM : MaxL w) (hp : isPic s.data.toList = false) :
    Calls Tryd.prog 20 #[.string s] w fun e w' => e = .returned (.tuple #[.int .i64 0, .int .i64 0, .bool false]) ∧ Below w.heap.size w w' := by
  have HR := Lib.hid (readPicture_no s w hs hM hp)
  clear hM hp
  go_enter Tryd.func20, Tryd.ntmps20
  go_wp2_with (go_at_call 46; refine (HR.out).mono ?_; rintro e w1 ⟨rfl, hb1⟩)
  go_region
  all_goals
    go_wp2
    go_ret3
    exact ⟨rfl, (hb1.alloc hb1.size _).drew⟩
end Go.Proofs.YtbcgidgjdedkiaaDoor
/- Chapter 7: the laws of one picture, whatever the text. -/
namespace Go.Proofs.YtbcgidgjdedkiaaDoor
open Go.RowKit

theorem walk_IsPicture (s : ByteArray) (w : World) (hM : MaxL w) :
    Calls Tryd.prog 3 #[.string s] w fun e w' => e = .returned (.bool true) ∧ Below w.heap.size w w' := by
  by_cases hz : s.size ≤ 1048576
  · have hs : s.size ≤ 2000000 := by omega
    have hs2 : s.size ≤ 10000000 := by omega
    exact lawP_IsPicture_m s _ hz (fun w => spec_IsPicture s w hs2) (fun w hM => impl_IsPicture s w hs hM) w hM
  · exact lawP_IsPicture_big0 s (by omega) w
theorem walk_CountDots (s : ByteArray) (w : World) (hM : MaxL w) :
    Calls Tryd.prog 4 #[.string s] w fun e w' => e = .returned (.bool true) ∧ Below w.heap.size w w' := by
  by_cases hz : s.size ≤ 1048576
  · have hs : s.size ≤ 2000000 := by omega
    have hs2 : s.size ≤ 10000000 := by omega
    cases hp : isPic s.data.toList with
    | true => exact lawP_CountDots_m s _ _ hz (fun w => spec_CountDots_yes s w hs2 hp) (fun w hM => impl_CountDots_yes s w hs hM hp) w hM
    | false => exact lawP_CountDots_m s _ _ hz (fun w => spec_CountDots_no s w hs2 hp) (fun w hM => impl_CountDots_no s w hs hM hp) w hM
  · exact lawP_CountDots_big0 s (by omega) w
theorem walk_SizeOfPicture (s : ByteArray) (w : World) (hM : MaxL w) :
    Calls Tryd.prog 5 #[.string s] w fun e w' => e = .returned (.bool true) ∧ Below w.heap.size w w' := by
  by_cases hz : s.size ≤ 1048576
  · have hs : s.size ≤ 2000000 := by omega
    have hs2 : s.size ≤ 10000000 := by omega
    cases hp : isPic s.data.toList with
    | true => exact lawP_SizeOfPicture_m s _ _ _ hz (fun w => spec_SizeOfPicture_yes s w hs2 hp) (fun w hM => impl_SizeOfPicture_yes s w hs hM hp) w hM
    | false => exact lawP_SizeOfPicture_m s _ _ _ hz (fun w => spec_SizeOfPicture_no s w hs2 hp) (fun w hM => impl_SizeOfPicture_no s w hs hM hp) w hM
  · exact lawP_SizeOfPicture_big0 s (by omega) w
theorem walk_TurnPicture (s : ByteArray) (w : World) (hM : MaxL w) :
    Calls Tryd.prog 6 #[.string s] w fun e w' => e = .returned (.bool true) ∧ Below w.heap.size w w' := by
  by_cases hz : s.size ≤ 1048576
  · have hs : s.size ≤ 2000000 := by omega
    have hs2 : s.size ≤ 10000000 := by omega
    cases hp : isPic s.data.toList with
    | true => exact lawP_TurnPicture_m s _ _ hz (fun w => spec_TurnPicture_yes s _ _ _ _ w (isP_of s hs hp)) (fun w hM => impl_TurnPicture_yes s w hs hM hp) w hM
    | false => exact lawP_TurnPicture_m s _ _ hz (fun w => spec_TurnPicture_no s w hs hp) (fun w hM => impl_TurnPicture_no s w hs hM hp) w hM
  · exact lawP_TurnPicture_big0 s (by omega) w
theorem walk_MirrorPicture (s : ByteArray) (w : World) (hM : MaxL w) :
    Calls Tryd.prog 7 #[.string s] w fun e w' => e = .returned (.bool true) ∧ Below w.heap.size w w' := by
  by_cases hz : s.size ≤ 1048576
  · have hs : s.size ≤ 2000000 := by omega
    have hs2 : s.size ≤ 10000000 := by omega
    cases hp : isPic s.data.toList with
    | true => exact lawP_MirrorPicture_m s _ _ hz (fun w => spec_MirrorPicture_yes s _ _ _ _ w (isP_of s hs hp)) (fun w hM => impl_MirrorPicture_yes s w hs hM hp) w hM
    | false => exact lawP_MirrorPicture_m s _ _ hz (fun w => spec_MirrorPicture_no s w hs hp) (fun w hM => impl_MirrorPicture_no s w hs hM hp) w hM
  · exact lawP_MirrorPicture_big0 s (by omega) w
theorem walk_OtherDots (s : ByteArray) (w : World) (hM : MaxL w) :
    Calls Tryd.prog 10 #[.string s] w fun e w' => e = .returned (.bool true) ∧ Below w.heap.size w w' := by
  by_cases hz : s.size ≤ 1048576
  · have hs : s.size ≤ 2000000 := by omega
    have hs2 : s.size ≤ 10000000 := by omega
    cases hp : isPic s.data.toList with
    | true => exact lawP_OtherDots_m s _ _ hz (fun w => spec_OtherDots_yes s _ _ _ _ w (isP_of s hs hp)) (fun w hM => impl_OtherDots_yes s w hs hM hp) w hM
    | false => exact lawP_OtherDots_m s _ _ hz (fun w => spec_OtherDots_no s w hs hp) (fun w hM => impl_OtherDots_no s w hs hM hp) w hM
  · exact lawP_OtherDots_big0 s (by omega) w
theorem walk_BorderDots (s : ByteArray) (w : World) (hM : MaxL w) :
    Calls Tryd.prog 12 #[.string s] w fun e w' => e = .returned (.bool true) ∧ Below w.heap.size w w' := by
  by_cases hz : s.size ≤ 1048576
  · have hs : s.size ≤ 2000000 := by omega
    have hs2 : s.size ≤ 10000000 := by omega
    cases hp : isPic s.data.toList with
    | true => exact lawP_BorderDots_m s _ _ hz (fun w => spec_BorderDots_yes s _ _ _ _ w (isP_of s hs hp)) (fun w hM => impl_BorderDots_yes s w hs hM hp) w hM
    | false => exact lawP_BorderDots_m s _ _ hz (fun w => spec_BorderDots_no s w hs hp) (fun w hM => impl_BorderDots_no s w hs hM hp) w hM
  · exact lawP_BorderDots_big0 s (by omega) w
theorem walk_TakeBorder (s : ByteArray) (w : World) (hM : MaxL w) :
    Calls Tryd.prog 13 #[.string s] w fun e w' => e = .returned (.bool true) ∧ Below w.heap.size w w' := by
  by_cases hz : s.size ≤ 1048576
  · have hs : s.size ≤ 2000000 := by omega
    have hs2 : s.size ≤ 10000000 := by omega
    cases hp : isPic s.data.toList with
    | true => exact lawP_TakeBorder_m s _ _ hz (fun w => spec_TakeBorder_yes s _ _ _ _ w (isP_of s hs hp)) (fun w hM => impl_TakeBorder_yes s w hs hM hp) w hM
    | false => exact lawP_TakeBorder_m s _ _ hz (fun w => spec_TakeBorder_no s w hs hp) (fun w hM => impl_TakeBorder_no s w hs hM hp) w hM
  · exact lawP_TakeBorder_big0 s (by omega) w
end Go.Proofs.YtbcgidgjdedkiaaDoor
/- Heads of the door's laws of chapter 7: the wrap that hands on what is laid and the world's shape together; the cell of MaxLen holds a number. -/
namespace Go.Proofs.YtbcgidgjdedkiaaDoor
open Go.RowKit
variable {H : Type} {enc : TypeId × Value → H}

theorem handed_and_shaped {a : Assume} {C : Checked} {os : Os} {f : FuncId} {fn : Func} {s : ChangeSpec} {conds : List PathCond} {apart fresh handsOn again : Bool} {X : World → Array Value → Prop}
    (hX : ∀ (w w' : World) (args : Array Value), w.heap = w'.heap → X w args → X w' args)
    (own : ownKnob C.prog.godebug = none) (started : os.Started) (noInit : C.prog.inits.idxOf? f = none) (hfn : C.prog.funcs[f]? = some fn)
    (witness : ∃ (w : World) (tape : Tape) (i : Input), w.os = os ∧ (w.forCall tape i).Shaped C.prog ∧ i.vars = [] ∧ Input.okWide C.prog (w.forCall tape i) .any w.heap.size f i ∧
      ((s.pre enc C.prog fn conds apart (w.forCall tape i).memory i.args ∧ X (w.forCall tape i).memory i.args) ∧ sizedMet enc C.prog fn (OpenSpec.ofChange s) apart (w.forCall tape i).memory i.args) ∧ a.holds C.prog (lone (Frame.enter C.prog f i.args .normal) [] (w.forCall tape i)))
    (contract : ∀ (W : World) (base : Nat) (args : Array Value) (ds gs : List (DataW H)) (before : List MemPlace),
      (∀ (j : Nat) t v, fn.params[j]? = some t → args[j]? = some v → Value.okWide C.prog W .any base t v) →
      DataW.Whole enc C.prog fn.params.toList s.vars apart W args.toList ds gs before →
      conds.all (PathCond.test C.prog ⟨fn.params.toList, ds, s.plain.varTypes C.prog, gs⟩) = true →
      (DataW.weightsEach C.prog (fn.params.toList ++ s.plain.varTypes C.prog) (ds ++ gs)).all (· ≤ reachBytes) = true → X W args →
      W.ShapedOpen C.prog →
      a.holds C.prog (lone (Frame.enter C.prog f args .normal) [] W) →
      Calls C.prog f args W fun e W' => ∃ v, e = .returned v ∧ s.post enc C.prog fn apart fresh handsOn again W args v W') :
    ReturnsInHanded a C os f .any (fun w args => (s.pre enc C.prog fn conds apart w args ∧ X w args) ∧ sizedMet enc C.prog fn (OpenSpec.ofChange s) apart w args) (s.post enc C.prog fn apart fresh handsOn again) := by
  refine returnsInHanded_of_calls own started noInit witness ?_
  intro w tape i _ hsh _ hok hpre hholds
  obtain ⟨_, _, _, fn', hfn', _, _, _, _, hval⟩ := hok
  have e : fn' = fn := Option.some.inj (hfn'.symm.trans hfn)
  subst e
  obtain ⟨⟨⟨ds, gs, before, hw, hc⟩, hx⟩, hz⟩ := hpre
  have hw' := DataW.Whole.of_heap (w' := w.forCall tape i) (by rfl) hw
  refine (contract (w.forCall tape i) w.heap.size i.args ds gs before hval hw' hc (hz.weights hw) (hX _ _ _ (by rfl) hx) hsh hholds).mono fun e W' ⟨v, he, hp⟩ => ?_
  subst he
  exact ChangeSpec.post_blind hp
theorem maxL_of_shaped (W : World) (h : W.ShapedOpen Tryd.prog) : MaxL W :=
  Go.Proofs.cell_of_shapedOpen_int (zero := #[.int .i64 0]) (t := 3) h (of_decide_eq_true (by kernel_rfl)) (by kernel_rfl) rfl (by kernel_rfl) (by kernel_rfl) Tryd.underlying3
end Go.Proofs.YtbcgidgjdedkiaaDoor
