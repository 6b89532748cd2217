/- Chapter 9: the law MakePuzzle. -/
import Derived.Test.YtmpajeldfbchhaaTgA
import Derived.Test.YtmpajeldfbchhaaTgM
namespace Go.Proofs.Ytmpajeldfbchhaa
open Go.ChangeShapes Go.WideShapes Go.ChangeAt Go.RowKit

theorem Pb9.grown {w w' : World} {Q D : Nat} {m : Int} {v : Value} {k : Nat} {xs : List Clu} (h : Pb9 w Q m v k xs) (hg : w.grownBy w' (some D)) (hD : D < Q) : Pb9 w' Q m v k xs := by
  have hb := hg.block Q h.z (fun e => by injection e with e; omega)
  refine ⟨(World.cell?_of_block (a := ⟨Q, 0, none⟩) hb).trans h.c0, (World.cell?_of_block (a := ⟨Q, 1, none⟩) hb).trans h.c1, (World.frozen?_of_block (a := ⟨Q, 1, none⟩) hb).trans h.f1, Nat.lt_of_lt_of_le h.z hg.size, h.r.kept hg ?_⟩
  cases hv : v.ownBlock with
  | none => exact .inl rfl
  | some j =>
    refine .inr fun e => ?_
    have := (h.r.lt j hv).1
    injection e with e
    omega
theorem Rm.grown {w w' : World} {Q D : Nat} (h : Rm w Q) (hg : w.grownBy w' (some D)) (hQ : Q < w.heap.size) (hne : Q ≠ D) : Rm w' Q := by
  have hb := hg.block Q hQ (fun e => hne (by injection e))
  exact ⟨(World.cell?_of_block (a := ⟨Q, 0, none⟩) hb).trans h.1, (World.cell?_of_block (a := ⟨Q, 1, none⟩) hb).trans h.2.1, (World.frozen?_of_block (a := ⟨Q, 0, none⟩) hb).trans h.2.2.1, (World.frozen?_of_block (a := ⟨Q, 1, none⟩) hb).trans h.2.2.2⟩
/-- A clue more, behind what was drawn. -/
theorem app_draw9 {w0 wr w4 w5 : World} {m : Int} {v v' : Value} {k z' : Nat} {xs : List Clu} {a b c : Int} {o : Obj} (hp : Pb9 wr (w0.heap.size + 2) m v k xs) (hr : Rm wr w0.heap.size) (hb : Below w0.heap.size w0 wr)
    (hg4 : wr.grownBy w4 (some (w0.heap.size + 1))) (hd : Dr9 w4 (w0.heap.size + 1) z') (ho : w5.ownsRow (w0.heap.size + 2 + 1) 25 3 v' (k + 1) (c64 xs ++ [.int .i64 a, .int .i64 b, .int .i64 c])) (hg : (w4.alloc o).grownBy w5 v.ownBlock) :
    w5.cell? ⟨w0.heap.size + 2, 1, none⟩ = some v ∧ w5.frozen? ⟨w0.heap.size + 2, 1, none⟩ = false ∧ Pb9 (w5.setCell ⟨w0.heap.size + 2, 1, none⟩ v') (w0.heap.size + 2) m v' (k + 1) (xs ++ [⟨a, b, c⟩]) ∧ Rm (w5.setCell ⟨w0.heap.size + 2, 1, none⟩ v') w0.heap.size ∧ Dr9 (w5.setCell ⟨w0.heap.size + 2, 1, none⟩ v') (w0.heap.size + 1) z' ∧ Below w0.heap.size w0 (w5.setCell ⟨w0.heap.size + 2, 1, none⟩ v') := by
  have hp4 := hp.grown hg4 (by omega)
  have hz4 := hp4.z
  obtain ⟨h1, h2, h3⟩ := hp4.app ((Below.refl w4.heap.size w4).alloc (Nat.le_refl _) o) ho hg
  have hq : Below (w0.heap.size + 2) w4 (w5.setCell ⟨w0.heap.size + 2, 1, none⟩ v') := (((Below.refl (w0.heap.size + 2) w4).alloc (Nat.le_of_lt hz4) o).grown hg (by simp; omega) (fun g e => by have := (hp4.r.lt g e).1; omega)).setCell (p := ⟨w0.heap.size + 2, 1, none⟩) (Nat.le_refl _) v'
  have hr4 := hr.grown hg4 (by have := hp.z; omega) (by omega)
  have hb4 : Below w0.heap.size w0 w4 := hb.grown hg4 hb.size (fun g e => by injection e with e; omega)
  exact ⟨h1, h2, h3, hr4.below hq (by omega), hd.below hq (by omega), hb4.trans (hq.mono (by omega))⟩
theorem cell9 {w4 : World} (a b c : Value) (t : TypeId) (f : Nat × Nat) : ∀ j u, [a, b, c][j]? = some u → (w4.alloc (.cells #[a, b, c] t f)).cell? ((⟨w4.heap.size, 0, none⟩ : Addr).add j) = some u := fun j u hu => World.news_of_block (heap_alloc_new _ _) j u hu
set_option maxHeartbeats 1600000 in
theorem impl_MakePuzzle_no (a b c : Int) (w : World) (hno : ((a < 1 ∨ 500 < a) ∨ (b < 0 ∨ 6 < b)) ∨ (c < 0 ∨ 9999 < c)) :
    Calls Try.prog 26 #[.int .i64 a, .int .i64 b, .int .i64 c] w (ResM false 0 0 [] w) := by
  have HB := Lib.hid ((Below.refl w.heap.size w).alloc (Nat.le_refl _) (.cells #[.int .i64 0, .slice none 0 0] 35))
  by_cases h1 : a < 1 ∨ 500 < a
  · have H1 := Lib.hid (betr_no h1)
    clear h1 hno
    go_enter Try.func26, Try.ntmps26
    go_wp2_with (go_at_call 33; refine (isGuess_any _ _).mono ?_; rw [H1.out]; rintro e w' ⟨rfl, rfl⟩)
    exact bodyPost_ret (v := .tuple #[.agg #[.int .i64 0, .slice none 0 0], .int .i64 0, .bool false]) (by simp [results, Try.results26, go_sem]) rfl ⟨none, 0, rfl, Own.none_, HB.out⟩
  · have H1 := Lib.hid (betr_yes (x := a) (lo := 1) (hi := 500) (by omega) (by omega))
    by_cases h2 : b < 0 ∨ 6 < b
    · have H2 := Lib.hid (betr_no h2)
      clear h1 hno h2
      go_enter Try.func26, Try.ntmps26
      go_wp2_with (first
        | (go_at_call 33; refine (isGuess_any _ _).mono ?_; rw [H1.out]; rintro e w' ⟨rfl, rfl⟩)
        | (go_at_call 29; refine (rwithin_any _ _ _ _).mono ?_; rw [H2.out]; rintro e w' ⟨rfl, rfl⟩))
      exact bodyPost_ret (v := .tuple #[.agg #[.int .i64 0, .slice none 0 0], .int .i64 0, .bool false]) (by simp [results, Try.results26, go_sem]) rfl ⟨none, 0, rfl, Own.none_, HB.out⟩
    · have H2 := Lib.hid (betr_yes (x := b) (lo := 0) (hi := 6) (by omega) (by omega))
      have H3 := Lib.hid (betr_no (x := c) (lo := 0) (hi := 9999) (by omega))
      clear h1 hno h2
      go_enter Try.func26, Try.ntmps26
      go_wp2_with (first
        | (go_at_call 33; refine (isGuess_any _ _).mono ?_; rw [H1.out]; rintro e w' ⟨rfl, rfl⟩)
        | (go_at_call 29; refine (rwithin_any _ _ _ _).mono ?_; (first | rw [H2.out] | rw [H3.out]); rintro e w' ⟨rfl, rfl⟩))
      exact bodyPost_ret (v := .tuple #[.agg #[.int .i64 0, .slice none 0 0], .int .i64 0, .bool false]) (by simp [results, Try.results26, go_sem]) rfl ⟨none, 0, rfl, Own.none_, HB.out⟩
set_option maxRecDepth 8000 in
set_option maxHeartbeats 6400000 in
theorem impl_MakePuzzle_yes (M K sd : Nat) (w : World) (h1 : 1 ≤ M) (h2 : M ≤ 500) (h3 : K ≤ 6) (h4 : sd ≤ 9999) :
    Calls Try.prog 26 #[.int .i64 (M : Int), .int .i64 (K : Int), .int .i64 (sd : Int)] w (ResM true (M : Int) ((nx9 sd % M + 1 : Nat) : Int) (mks9 (nx9 sd % M + 1) K (nx9 sd)).1 w) := by
  obtain ⟨i0, hi0, hz0, hz1, hz2⟩ := info_parts infoClue
  have hcf := cf_draw1
  have H1 := Lib.hid (betr_yes (x := (M : Int)) (lo := 1) (hi := 500) (by omega) (by omega))
  have H2 := Lib.hid (betr_yes (x := (K : Int)) (lo := 0) (hi := 6) (by omega) (by omega))
  have H3 := Lib.hid (betr_yes (x := (sd : Int)) (lo := 0) (hi := 9999) (by omega) (by omega))
  have sz := nx9_lt sd
  have HDR := Lib.hid fun (D : Nat) (W : World) (hW : Dr9 W D sd) => draw1_any D sd (M : Int) W hW (by omega) (by omega) (by omega)
  generalize nx9 sd = Z at *
  obtain ⟨n, hn⟩ : ∃ n, n = Z % M + 1 := ⟨_, rfl⟩
  have hlt := Nat.mod_lt Z h1
  rw [← hn]
  have m3 : IntKind.i64.wrap ((Z : Int) % (M : Int) + 1) = (n : Int) := by show IntKind.i64.wrap (((Z % M : Nat) : Int) + 1) = _; rw [IntWalk.i64_in _ (by omega)]; omega
  have hn5 : n ≤ 500 := by omega
  clear hn hlt
  have hb1 : Below w.heap.size w (w.alloc (.cells #[.int .i64 0, .slice none 0 0] 35)) := (Below.refl _ _).alloc (Nat.le_refl _) _
  have hr1 := Rm.new w 35
  have hs1 : (w.alloc (.cells #[.int .i64 0, .slice none 0 0] 35)).heap.size = w.heap.size + 1 := by simp
  go_enter Try.func26, Try.ntmps26
  go_wp2_with (first
    | (go_at_call 33; refine (isGuess_any _ _).mono ?_; rw [H1.out]; rintro e w' ⟨rfl, rfl⟩)
    | (go_at_call 29; refine (rwithin_any _ _ _ _).mono ?_; (first | rw [H2.out] | rw [H3.out]); rintro e w' ⟨rfl, rfl⟩))
  refine (newDraw_any sd _).mono ?_
  rintro e w2 ⟨rfl, hd2, hs2, hb2⟩
  rw [hs1] at hd2 hs2
  rw [show (w.alloc (.cells #[.int .i64 0, .slice none 0 0] 35)).heap.size = w.heap.size + 1 from hs1]
  have hr2 := hr1.below hb2 (by omega)
  have hB2 := hb1.trans (hb2.mono hb1.size)
  clear hb1 hr1 hs1 hb2
  go_wp2_with fail
  refine (HDR.out _ w2 hd2).mono ?_
  rintro e w3 ⟨rfl, rfl⟩
  have hg3 := grown_set9 w2 (w.heap.size + 1) 0 (.int .i64 (Z : Int))
  have hr3 := hr2.grown hg3 (by omega) (by omega)
  have hd3 := hd2.set Z
  have hB3 := hB2.grown hg3 hB2.size (fun g e => by injection e with e; omega)
  have hs3 : (w2.setCell ⟨w.heap.size + 1, 0, none⟩ (.int .i64 (Z : Int))).heap.size = w.heap.size + 2 := by simp [World.setCell]; exact hs2
  generalize w2.setCell ⟨w.heap.size + 1, 0, none⟩ (.int .i64 (Z : Int)) = w3 at *
  clear hg3 hr2 hd2 hB2 hs2 HDR
  have hb4 : Below w3.heap.size w3 (w3.alloc (.cells #[.int .i64 (M : Int), .slice none 0 0] 35)) := (Below.refl _ _).alloc (Nat.le_refl _) _
  have hp4 : Pb9 (w3.alloc (.cells #[.int .i64 (M : Int), .slice none 0 0] 35)) (w.heap.size + 2) (M : Int) (.slice none 0 0) 0 [] := by
    have h := Bx.new w3 (M : Int) none 0 0 35
    rw [← hs3]
    exact ⟨h.cells.1, h.cells.2, by simp [go_sem], by simp, World.ownsRow_nil _ _ _ _⟩
  have HP4 := Lib.hid hp4
  have HR4 := Lib.hid (hr3.below hb4 (by omega))
  have HD4 := Lib.hid (hd3.below hb4 (by omega))
  have HB4 := Lib.hid (hB3.trans (hb4.mono hB3.size))
  clear hb4 hp4 hr3 hd3 hB3
  go_wp2_with fail
  go_loopw [35] (fun i wr => ∃ j : Nat, j ≤ K ∧ i = .int .i64 (j : Int) ∧ Hid (∃ v, Pb9 wr (w.heap.size + 2) (M : Int) v j (mks9 n j Z).1) ∧ Hid (Dr9 wr (w.heap.size + 1) (mks9 n j Z).2) ∧ Hid (Rm wr w.heap.size) ∧ Hid (Below w.heap.size w wr)) (fun i _ => K - (intOf i).toNat)
  case atStart => exact ⟨0, Nat.zero_le _, rfl, Lib.hid ⟨_, HP4.out⟩, HD4, HR4, HB4⟩
  case round =>
    obtain ⟨j, hj, rfl, HP, HD, HR, HB⟩ := hrel
    by_cases hlt : j < K
    · have hz := mks9_lt n j Z sz
      have hs : Hid (mks9 n (j + 1) Z = ((mks9 n j Z).1 ++ [(mkc9 n (mks9 n j Z).2).1], (mkc9 n (mks9 n j Z).2).2)) := Lib.hid rfl
      obtain ⟨v, hp⟩ := HP.out
      generalize (mks9 n j Z).2 = z at *
      generalize (mks9 n j Z).1 = xs at *
      have hji : (j : Int) < (K : Int) := by omega
      obtain ⟨B0, d0, rfl⟩ := row_form hp.r
      have HC := Lib.hid (drawClue_any (w.heap.size + 1) n z wr.drew HD.out (by have := hp.z; show _ < wr.heap.size; omega) (by omega) hn5)
      have HPP := Lib.hid hp
      have p1 := hp.c1
      have pz := hp.z
      clear hp HP HD
      obtain ⟨q, hq⟩ : ∃ q, q = mkc9 n z := ⟨_, rfl⟩
      rw [← hq] at HC hs
      clear hq
      obtain ⟨⟨qk, qa, qb⟩, z'⟩ := q
      have HC := Lib.hid (show Calls Try.prog 50 #[.int .i64 (n : Int), .func (.func 61) #[] #[.pointer (some ⟨w.heap.size + 1, 0, none⟩)]] wr.drew (fun e w' => e = .returned (.agg #[.int .i64 qk, .int .i64 qa, .int .i64 qb]) ∧ Dr9 w' (w.heap.size + 1) z' ∧ wr.drew.grownBy w' (some (w.heap.size + 1))) from HC.out)
      go_wp2
      go_region_law (first
        | (go_simp; go_at_call 50; refine HC.out.mono ?_; rintro e w4 ⟨rfl, hd4, hg4⟩; have HD4' := Lib.hid hd4; have HG4 := Lib.hid (grown_trans9 (grown_below9 (Below.refl wr.heap.size wr).drew _) hg4); have hp4 := HPP.out.grown HG4.out (by omega); have x1 := hp4.c1; have HP4' := Lib.hid hp4; have hz4 := hp4.z; have x2 := (((Below.refl w4.heap.size w4).alloc (Nat.le_refl _) (.cells #[.int .i64 qk, .int .i64 qa, .int .i64 qb] 25)).cell (p := ⟨w.heap.size + 2, 1, none⟩) hz4).trans x1; clear hd4 hg4 hp4)
        | (refine step_append9 rfl (.tmp 38) (.tmp 42) 33 rfl (w.heap.size + 2 + 1) 25 i0 (.agg #[.int .i64 0, .int .i64 0, .int .i64 0]) 3 24 Try.underlying33 hi0 hz0 hz1 hz2 rfl (by decide) (.slice B0 j d0) j (c64 xs) (by simp [Act.eval]) (HP4'.out.r.alloc _) ⟨w4.heap.size, 0, none⟩ 1 1 [.int .i64 qk, .int .i64 qa, .int .i64 qb] (by simp [Act.eval]) rfl (cell9 _ _ _ _ _) (one9 _ _ _) (by unfold maxLen; omega) (by omega) (by simp; omega) ?_; intro v' w5 hown' hgrow; obtain ⟨B5, d5, rfl⟩ := row_form hown'; obtain ⟨y1, g1, hpp, hrr, hdd, hbb⟩ := app_draw9 HPP.out HR.out HB.out HG4.out HD4'.out hown' hgrow; have HPN := Lib.hid hpp; have HRN := Lib.hid hrr; have HDN := Lib.hid hdd; have HBN := Lib.hid hbb; clear hown' hgrow hpp hrr hdd hbb)
        | fail)
      all_goals
        go_wp2_with fail
        go_roundw
        case rel => exact ⟨j + 1, by omega, by go_num, Lib.hid ⟨_, by rw [hs.out]; exact HPN.out⟩, by rw [hs.out]; exact HDN, HRN, HBN⟩
        case measure => simp [intOf]; omega
    · obtain rfl : j = K := by omega
      have HL := Lib.hid (mks9_len n j Z)
      obtain ⟨v, hp⟩ := HP.out
      generalize (mks9 n j Z).1 = xs at *
      obtain ⟨B, d, rfl⟩ := row_form hp.r
      obtain ⟨r0, r1, f0, f1⟩ := HR.out
      have p0 := hp.c0
      have p1 := hp.c1
      have HO := Lib.hid (own_of_row hp.r)
      have HBf := Lib.hid (set2_below9 HB.out (Nat.le_refl w.heap.size) (.int .i64 (M : Int)) (.slice B j d))
      have HOf := Lib.hid (own_far9 HO.out (Q := w.heap.size) (by omega) (.int .i64 (M : Int)) (.slice B j d))
      have HZf := Lib.hid (set2_size9 wr w.heap.size (.int .i64 (M : Int)) (.slice B j d))
      clear hp HP
      go_wp2
      exact bodyPost_ret (v := .tuple #[.agg #[.int .i64 (M : Int), .slice B j d], .int .i64 (n : Int), .bool true]) (by simp [results, Try.results26, go_sem, r0, r1]) rfl ⟨B, d, by rw [HL.out], (by rw [HZf.out]; exact HOf.out.wide (by omega) (Nat.le_refl _)), HBf.out⟩
end Go.Proofs.Ytmpajeldfbchhaa
