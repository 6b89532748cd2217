/- Chapter 9, by the program: AddClue. -/
import Derived.Test.YtmpajeldfbchhaaThA
import Derived.Test.YtmpajeldfbchhaaTgI
namespace Go.Proofs.Ytmpajeldfbchhaa
open Go.ChangeShapes Go.WideShapes Go.ChangeAt Go.RowKit

set_option maxHeartbeats 1600000 in
theorem toClueS_some (A : Option Addr) (n c : Nat) (xs : List Clu) (w : World) (hn : xs.length = n) (hm : n ≤ 1048576) (ha : Rd w w.heap.size A (c64 xs)) :
    Calls Try.prog 32 #[.slice A n c] w fun e w' => (∃ g, e = .returned (.slice (some ⟨g, 0, none⟩) n n) ∧ Own w' w.heap.size w'.heap.size (some ⟨g, 0, none⟩) (c64 xs)) ∧ Below w.heap.size w w' := by
  obtain ⟨i0, hi0, hz0, hz1, hz2⟩ := info_parts infoClue
  have HA := Lib.hid ha
  have HN := Lib.hid hn
  clear ha hn
  go_enter Try.func32, Try.ntmps32
  go_wp2_with (at_make; refine wpList_make_full _ rfl _ _ 33 rfl w.heap.size 25 i0 (.agg #[.int .i64 0, .int .i64 0, .int .i64 0]) 3 Try.underlying33 hi0 hz0 hz1 _ _ _ _ n rfl rfl rfl rfl (by rw [hz2]; omega) (by unfold maxLen; omega) (Nat.le_refl _) ?_; intro w1 hown1 hgrow1)
  have hb1 : Below w.heap.size w w1 := (Below.refl _ _).grown hgrow1 (Nat.le_refl _) (fun g hg => by cases hg)
  obtain ⟨cs, hcs⟩ : ∃ cs, cs = (madeCells (Value.agg #[.int .i64 0, .int .i64 0, .int .i64 0]).cells (n * 3)).toList := ⟨_, rfl⟩
  have hown2 := own_of_row hown1
  have hcl : cs.length = n * 3 := by
    rw [hcs]
    have := hown1.1
    simpa using this
  rw [← hcs] at hown2
  have HO := Lib.hid hown2
  have HC := Lib.hid hcl
  have hz : w.heap.size < w1.heap.size ∨ n = 0 := by
    by_cases h0 : n = 0
    · exact .inr h0
    · obtain ⟨g, o, e, h1, h2, _⟩ := hown2 (by rw [hcl]; omega)
      exact .inl (by omega)
  clear hcs hown1 hgrow1 hown2 hcl
  go_wp2
  go_loopw [4] (fun i wr => ∃ k : Nat, k ≤ n ∧ i = .int .i64 k ∧ Hid (Own wr w.heap.size w1.heap.size (some ⟨w.heap.size, 0, none⟩) (c64 (xs.take k) ++ cs.drop (k * 3))) ∧ Below w.heap.size w wr ∧ w1.heap.size ≤ wr.heap.size) (fun i _ => n - (intOf i).toNat)
  case atStart => exact ⟨0, Nat.zero_le _, rfl, by rw [show c64 (xs.take 0) ++ cs.drop (0 * 3) = cs by simp [flat9]]; exact HO, hb1, Nat.le_refl _⟩
  case round =>
    obtain ⟨k, hk, rfl, hown, hb, hsz⟩ := hrel
    by_cases hlt : k < n
    · have hlx : k < xs.length := by rw [HN.out]; exact hlt
      obtain ⟨ad, rfl, had, c0, c1, c2⟩ := ((HA.out).below hb (Nat.le_refl _)).clue_ hlx
      have hts := take_succ9 xs k hlx
      obtain ⟨⟨x, y, z⟩, hq⟩ : ∃ q, q = xs.getD k clu0 := ⟨_, rfl⟩
      rw [← hq] at c0 c1 c2 hts
      simp only at c0 c1 c2
      have HT := Lib.hid hts
      clear hq hts
      have hki : (k : Int) < (n : Int) := by omega
      rw [add_next ad _ 1 (by omega)] at c1
      rw [add_next ad _ 2 (by omega)] at c2
      go_wp2_with (go_at_call 10; refine (toClue_any _ _ _ _).mono ?_; rintro e w2 ⟨rfl, hb2⟩; obtain ⟨g, o, u, v, t, hgo, hg1, d0, f0, d1, f1, d2, f2, ho2⟩ := three_step (k := k) (n := n) x y z (hown.out.below hb2 hsz) (by rw [flat9_len, List.length_take]; omega) HC.out hlt; simp only [Option.some.injEq, Addr.mk.injEq] at hgo; obtain ⟨rfl, rfl, _⟩ := hgo; simp only [Nat.zero_add] at d0 f0 d1 f1 d2 f2 ho2; have HO2 := Lib.hid ho2; have HB2 := Lib.hid hb2; clear ho2 hb2)
      go_roundw
      case rel =>
        refine ⟨k + 1, by omega, by go_num, ?_, ?_, ?_⟩
        · have h := HO2.out
          rw [show flat9 (xs.take k) ++ [x, y, z] = flat9 (xs.take (k + 1)) by rw [HT.out, flat9_app]; rfl] at h
          exact Lib.hid h
        · exact (((hb.trans (HB2.out.mono hb.size)).setCell (p := ⟨w.heap.size, k * 3, none⟩) (Nat.le_refl _) _).setCell (p := ⟨w.heap.size, k * 3 + 1, none⟩) (Nat.le_refl _) _).setCell (p := ⟨w.heap.size, k * 3 + 2, none⟩) (Nat.le_refl _) _
        · have := HB2.out.size
          simp
          omega
      case measure => simp [intOf]; omega
    · obtain rfl : k = n := by omega
      have hO := hown.out
      rw [List.take_of_length_le (by rw [HN.out]; exact Nat.le_refl _), List.drop_eq_nil_of_le (by rw [HC.out]; exact Nat.le_refl _), List.append_nil] at hO
      have HO3 := Lib.hid (hO.wide (Nat.le_refl _) hsz)
      clear hO
      go_wp2
      go_ret
      exact ⟨⟨_, rfl, HO3.out⟩, hb⟩
set_option maxHeartbeats 800000 in
theorem toPuzzle_some (m : Int) (A : Option Addr) (n c : Nat) (xs : List Clu) (w : World) (hn : xs.length = n) (hm : n ≤ 1048576) (ha : Rd w w.heap.size A (c64 xs)) :
    Calls Try.prog 14 #[.agg #[.int .i64 m, .slice A n c]] w fun e w' => ∃ g, e = .returned (.agg #[.int .i64 m, .slice (some ⟨g, 0, none⟩) n n]) ∧ Own w' w.heap.size w'.heap.size (some ⟨g, 0, none⟩) (c64 xs) ∧ Below w.heap.size w w' := by
  have HA := Lib.hid ha
  clear ha
  go_enter Try.func14, Try.ntmps14
  go_wp2_with fail
  obtain ⟨w3, hw3⟩ : ∃ w3, w3 = ((w.alloc (.cells #[.int .i64 m, .slice A n c] 30)).alloc (.cells #[.int .i64 0, .slice none 0 0] 35)).alloc (.cells #[.int .i64 m, .slice none 0 0] 35) := ⟨_, rfl⟩
  have hb3 : Below w.heap.size w w3 := by
    rw [hw3]
    exact (((Below.refl _ _).alloc (Nat.le_refl _) _).alloc (by simp) _).alloc (by simp; omega) _
  have hz3 : w3.heap.size = w.heap.size + 3 := by rw [hw3]; simp
  have c10 : w3.cell? ⟨w.heap.size + 1, 0, none⟩ = some (.int .i64 0) := by rw [hw3]; simp [go_sem]
  have c11 : w3.cell? ⟨w.heap.size + 1, 1, none⟩ = some (.slice none 0 0) := by rw [hw3]; simp [go_sem]
  have c20 : w3.cell? ⟨w.heap.size + 1 + 1, 0, none⟩ = some (.int .i64 m) := by rw [hw3]; simp [go_sem]
  have c21 : w3.cell? ⟨w.heap.size + 1 + 1, 1, none⟩ = some (.slice none 0 0) := by rw [hw3]; simp [go_sem]
  have f10 : w3.frozen? ⟨w.heap.size + 1, 0, none⟩ = false := by rw [hw3]; simp [go_sem]
  have f11 : w3.frozen? ⟨w.heap.size + 1, 1, none⟩ = false := by rw [hw3]; simp [go_sem]
  have f21 : w3.frozen? ⟨w.heap.size + 1 + 1, 1, none⟩ = false := by rw [hw3]; simp [go_sem]
  rw [← hw3]
  have hrd : Rd w3 w3.heap.size A (c64 xs) := fun h => by
    obtain ⟨ad, e1, e2, e3⟩ := (HA.out.below hb3 (Nat.le_refl _)) h
    exact ⟨ad, e1, Nat.lt_of_lt_of_le e2 hb3.size, e3⟩
  refine (toClueS_some A n c xs w3 hn hm hrd).mono ?_
  rintro e w4 ⟨⟨g, rfl, ho⟩, hb4⟩
  have d10 := (hb4.cell (p := ⟨w.heap.size + 1, 0, none⟩) (by show w.heap.size + 1 < w3.heap.size; omega)).trans c10
  have d11 := (hb4.cell (p := ⟨w.heap.size + 1, 1, none⟩) (by show w.heap.size + 1 < w3.heap.size; omega)).trans c11
  have d20 := (hb4.cell (p := ⟨w.heap.size + 1 + 1, 0, none⟩) (by show w.heap.size + 1 + 1 < w3.heap.size; omega)).trans c20
  have d21 := (hb4.cell (p := ⟨w.heap.size + 1 + 1, 1, none⟩) (by show w.heap.size + 1 + 1 < w3.heap.size; omega)).trans c21
  have g10 := (hb4.frozen (p := ⟨w.heap.size + 1, 0, none⟩) (by show w.heap.size + 1 < w3.heap.size; omega)).trans f10
  have g11 := (hb4.frozen (p := ⟨w.heap.size + 1, 1, none⟩) (by show w.heap.size + 1 < w3.heap.size; omega)).trans f11
  have g21 := (hb4.frozen (p := ⟨w.heap.size + 1 + 1, 1, none⟩) (by show w.heap.size + 1 + 1 < w3.heap.size; omega)).trans f21
  have hB : Below w.heap.size w w4 := hb3.trans (hb4.mono hb3.size)
  have hB2 : Below w.heap.size w (((w4.setCell ⟨w.heap.size + 1 + 1, 1, none⟩ (.slice (some ⟨g, 0, none⟩) n n)).setCell ⟨w.heap.size + 1, 0, none⟩ (.int .i64 m)).setCell ⟨w.heap.size + 1, 1, none⟩ (.slice (some ⟨g, 0, none⟩) n n)) := ((hB.setCell (by show w.heap.size ≤ w.heap.size + 1 + 1; omega) _).setCell (by show w.heap.size ≤ w.heap.size + 1; omega) _).setCell (by show w.heap.size ≤ w.heap.size + 1; omega) _
  have hO2 : Own (((w4.setCell ⟨w.heap.size + 1 + 1, 1, none⟩ (.slice (some ⟨g, 0, none⟩) n n)).setCell ⟨w.heap.size + 1, 0, none⟩ (.int .i64 m)).setCell ⟨w.heap.size + 1, 1, none⟩ (.slice (some ⟨g, 0, none⟩) n n)) w.heap.size w4.heap.size (some ⟨g, 0, none⟩) (c64 xs) := (own_set9 (own_set9 (own_set9 ho (by show w.heap.size + 1 + 1 < _; omega)) (by show w.heap.size + 1 < _; omega)) (by show w.heap.size + 1 < _; omega)).wide hb3.size (Nat.le_refl _)
  have HB2 := Lib.hid hB2
  have HO2 := Lib.hid hO2
  clear hB2 hO2 hB ho hb4 hrd hb3 hz3 c10 c11 c20 c21 f10 f11 f21 hw3
  go_wp2
  exact bodyPost_ret (v := .agg #[.int .i64 m, .slice (some ⟨g, 0, none⟩) n n]) (by simp [results, Try.results14, go_sem, d10, d11]) rfl ⟨g, rfl, by simpa using HO2.out, HB2.out⟩
set_option maxRecDepth 4000 in
set_option maxHeartbeats 1600000 in
theorem impl_AddClue_no (m : Int) (A : Option Addr) (n c lo : Nat) (xs : List Clu) (q : Clu) (w : World) (hn : xs.length = n) (hm : n ≤ 1048576) (ha : Own w lo w.heap.size A (c64 xs)) (hno : okp9 m xs = false ∨ okc9 q = false ∨ n = 6) :
    Calls Try.prog 24 #[.agg #[.int .i64 m, .slice A n c], .agg #[.int .i64 q.k, .int .i64 q.a, .int .i64 q.b]] w (ResZ false 0 [] w) := by
  obtain ⟨bx, bc, rm, b0, z0⟩ := entryA9 w m A n c q 35 25 35
  have HP := Lib.hid (isPuzzle_any m A n c _ _ xs _ hn hm (ha.below b0 (Nat.le_refl _)) b0.size)
  have HQ := Lib.hid fun W => isClue_any q W
  have HB0 := Lib.hid b0
  have HR0 := Lib.hid rm
  have HX0 := Lib.hid bx
  have HC0 := Lib.hid bc
  cases hok : okp9 m xs with
  | false =>
    rw [hok] at HP
    clear ha bx bc rm b0 hno hok
    go_enter Try.func24, Try.ntmps24
    go_wp2_with (go_at_call 15; refine HP.out.mono ?_; rintro e w1 ⟨rfl, b1⟩; have HB1 := Lib.hid b1; obtain ⟨r0, r1, f0, f1⟩ := HR0.out.below b1 (by rw [z0]; exact Nat.le_refl _); clear b1)
    have HB := Lib.hid (set2_below9 (HB0.out.trans (HB1.out.mono HB0.out.size)) (Nat.le_add_right w.heap.size 2) (.int .i64 0) (.slice none 0 0))
    exact bodyPost_ret (v := .tuple #[.agg #[.int .i64 0, .slice none 0 0], .bool false]) (by simp [results, Try.results24, go_sem, r0, r1]) rfl ⟨none, 0, rfl, Own.none_, HB.out⟩
  | true =>
    rw [hok] at HP
    have hno2 := hno.resolve_left (by rw [hok]; simp)
    cases hoc : okc9 q with
    | false =>
      rw [hoc] at HQ
      clear ha bx bc rm b0 hno hno2 hok hoc
      go_enter Try.func24, Try.ntmps24
      go_wp2_with (first
        | (go_at_call 15; refine HP.out.mono ?_; rintro e w1 ⟨rfl, b1⟩; have HB1 := Lib.hid (HB0.out.trans (b1.mono HB0.out.size)); have HR1 := Lib.hid (HR0.out.below b1 (by rw [z0]; exact Nat.le_refl _)); obtain ⟨k0, k1, k2⟩ := HC0.out.below b1 (by rw [z0]; omega); have hz1 : w.heap.size + 3 ≤ w1.heap.size := (by have := b1.size; rw [z0] at this; exact this); clear b1)
        | (go_at_call 11; refine (HQ.out _).mono ?_; rintro e w2 ⟨rfl, b2⟩; have HB2 := Lib.hid (HB1.out.trans (b2.mono HB1.out.size)); obtain ⟨r0, r1, f0, f1⟩ := HR1.out.below b2 hz1; clear b2))
      have HB := Lib.hid (set2_below9 HB2.out (Nat.le_add_right w.heap.size 2) (.int .i64 0) (.slice none 0 0))
      exact bodyPost_ret (v := .tuple #[.agg #[.int .i64 0, .slice none 0 0], .bool false]) (by simp [results, Try.results24, go_sem, r0, r1]) rfl ⟨none, 0, rfl, Own.none_, HB.out⟩
    | true =>
      rw [hoc] at HQ
      obtain rfl : n = 6 := hno2.resolve_left (by rw [hoc]; simp)
      clear ha bx bc rm b0 hno hno2 hok hoc
      go_enter Try.func24, Try.ntmps24
      go_wp2_with (first
        | (go_at_call 15; refine HP.out.mono ?_; rintro e w1 ⟨rfl, b1⟩; have HB1 := Lib.hid (HB0.out.trans (b1.mono HB0.out.size)); have HR1 := Lib.hid (HR0.out.below b1 (by rw [z0]; exact Nat.le_refl _)); have HX1 := Lib.hid (HX0.out.below b1 (by rw [z0]; omega)); obtain ⟨k0, k1, k2⟩ := HC0.out.below b1 (by rw [z0]; omega); have hz1 : w.heap.size + 3 ≤ w1.heap.size := (by have := b1.size; rw [z0] at this; exact this); clear b1)
        | (go_at_call 11; refine (HQ.out _).mono ?_; rintro e w2 ⟨rfl, b2⟩; have HB2 := Lib.hid (HB1.out.trans (b2.mono HB1.out.size)); obtain ⟨r0, r1, f0, f1⟩ := HR1.out.below b2 hz1; obtain ⟨c0, c1⟩ := (HX1.out.below b2 (by omega)).cells; clear b2))
      have HB := Lib.hid (set2_below9 HB2.out (Nat.le_add_right w.heap.size 2) (.int .i64 0) (.slice none 0 0))
      exact bodyPost_ret (v := .tuple #[.agg #[.int .i64 0, .slice none 0 0], .bool false]) (by simp [results, Try.results24, go_sem, r0, r1]) rfl ⟨none, 0, rfl, Own.none_, HB.out⟩
/-! ### made by thA.py -/
set_option maxHeartbeats 800000 in
/-- A copy of a slice of clues. -/
theorem cloneClues_any (g o n c : Nat) (X : List Value) (w : World) (hl : X.length = n * 3) (h1 : ∀ u ∈ X, u.oneCell' = true) (hn : n ≤ 524288) (hc : ∀ W, Below w.heap.size w W → ∀ j u, X[j]? = some u → W.cell? ((⟨g, o, none⟩ : Addr).add j) = some u) :
    Calls Try.prog 46 #[.slice (some ⟨g, o, none⟩) n c] w fun e w' => (∃ B d, e = .returned (.slice B n d) ∧ w'.ownsRow w.heap.size 25 3 (.slice B n d) n X) ∧ Below w.heap.size w w' := by
  obtain ⟨i0, hi0, hz0, hz1, hz2⟩ := info_parts infoClue
  have HL := Lib.hid hl
  have HO := Lib.hid h1
  have HC := Lib.hid hc
  have HT : Hid ((w.alloc (.cells #[] 25)).ownsRow w.heap.size 25 3 (.slice (some ⟨w.heap.size, 0, none⟩) 0 0) 0 []) := Lib.hid (World.ownsRow_lit w #[] 0 (Nat.le_refl _) (by unfold maxLen; omega) rfl)
  have HB := Lib.hid ((Below.refl w.heap.size w).alloc (Nat.le_refl _) (.cells #[] 25))
  clear hl h1 hc
  have hne : ∀ w : World, (binOp .eql 33 (.slice (some ⟨g, o, none⟩) n c) (.slice none 0 0)).run Try.prog w = .ok (.bool false) w := fun w => by
    rw [Lib.run_eql_slice_nil w _ _ _ _ _ _ _ Try.underlying33]
    rfl
  go_enter Try.func46, Try.ntmps46
  go_wp2_with (at_builtin; refine wpList_append_own _ rfl _ _ 33 rfl w.heap.size 25 i0 (.agg #[.int .i64 0, .int .i64 0, .int .i64 0]) 3 24 Try.underlying33 hi0 hz0 hz1 hz2 rfl (by decide) _ _ _ rfl HT.out ⟨g, o, none⟩ n c X rfl HL.out (HC.out _ HB.out) HO.out (by unfold maxLen; omega) (by omega) HB.out.size ?_; intro v' w2 hown' hgrow _; obtain ⟨B, d, rfl⟩ := row_form hown'; rw [Nat.zero_add, List.nil_append] at hown'; have HB2 := Lib.hid (HB.out.grown hgrow HB.out.size (fun g hg => (HT.out.lt g hg).1)); have HO2 := Lib.hid hown'; clear hown' hgrow)
  go_ret
  exact ⟨⟨B, d, by simp, HO2.out⟩, HB2.out⟩
set_option maxRecDepth 8000 in
set_option maxHeartbeats 6400000 in
theorem impl_AddClue_yes (m : Int) (g o n c lo : Nat) (xs : List Clu) (qk qa qb : Int) (w : World) (hn : xs.length = n) (ha : Own w lo w.heap.size (some ⟨g, o, none⟩) (c64 xs)) (hok : okp9 m xs = true) (hoc : okc9 ⟨qk, qa, qb⟩ = true) (h6 : n < 6) :
    Calls Try.prog 24 #[.agg #[.int .i64 m, .slice (some ⟨g, o, none⟩) n c], .agg #[.int .i64 qk, .int .i64 qa, .int .i64 qb]] w (ResZ true m (xs ++ [⟨qk, qa, qb⟩]) w) := by
  obtain ⟨i0, hi0, hz0, hz1, hz2⟩ := info_parts infoClue
  obtain ⟨bx, bc, rm, b0, z0⟩ := entryA9 w m (some ⟨g, o, none⟩) n c ⟨qk, qa, qb⟩ 35 25 35
  have HP := Lib.hid (isPuzzle_any m (some ⟨g, o, none⟩) n c _ _ xs _ hn (by omega) (ha.below b0 (Nat.le_refl _)) b0.size)
  have HQ := Lib.hid fun W => isClue_any ⟨qk, qa, qb⟩ W
  rw [hok] at HP
  rw [hoc] at HQ
  have HB0 := Lib.hid b0
  have HR0 := Lib.hid rm
  have HX0 := Lib.hid bx
  have HC0 := Lib.hid bc
  have HXL : Hid ((c64 xs).length = n * 3) := Lib.hid (by rw [c64_len, hn])
  have HXO := Lib.hid (c64_one xs)
  have HS0 : Hid (∀ W, Below w.heap.size w W → ∀ j u, (c64 xs)[j]? = some u → W.cell? ((⟨g, o, none⟩ : Addr).add j) = some u) := Lib.hid fun W hb j u hu => by
    have h := front_cells9 (k := xs.length) ha W hb j u
    rw [List.take_length] at h
    exact h hu
  have HW : Hid (c64 (xs ++ [⟨qk, qa, qb⟩]) = c64 xs ++ [.int .i64 qk, .int .i64 qa, .int .i64 qb]) := Lib.hid (snoc_c64 xs qk qa qb).symm
  have HWL : Hid ((xs ++ [(⟨qk, qa, qb⟩ : Clu)]).length = n + 1) := Lib.hid (by simp [hn])
  generalize c64 xs = X at *
  have hni : ¬ ((n : Int) = 6) := by omega
  have hnb : ((n : Int) == 6) = false := by simp; omega
  clear ha bx bc rm b0 hok hoc hn
  go_enter Try.func24, Try.ntmps24
  go_wp2_with (first
    | (go_at_call 15; refine HP.out.mono ?_; rintro e w1 ⟨rfl, b1⟩; have HB1 := Lib.hid (HB0.out.trans (b1.mono HB0.out.size)); have HR1 := Lib.hid (HR0.out.below b1 (by rw [z0]; exact Nat.le_refl _)); have HX1 := Lib.hid (HX0.out.below b1 (by rw [z0]; omega)); have HC1 := Lib.hid (HC0.out.below b1 (by rw [z0]; omega)); obtain ⟨k0, k1, k2⟩ := HC1.out; have hz1' : w.heap.size + 3 ≤ w1.heap.size := (by have := b1.size; rw [z0] at this; exact this); clear b1)
    | (go_at_call 11; refine (HQ.out _).mono ?_; rintro e w2 ⟨rfl, b2⟩; have HB2 := Lib.hid (HB1.out.trans (b2.mono HB1.out.size)); have HR2 := Lib.hid (HR1.out.below b2 hz1'); have HX2 := Lib.hid (HX1.out.below b2 (by omega)); have HC2 := Lib.hid (HC1.out.below b2 (by omega)); have hle : w.heap.size + 3 ≤ w2.heap.size := Nat.le_trans hz1' b2.size; obtain ⟨c0, c1⟩ := HX2.out.cells; clear b2))
  have HSRC : Hid (∀ W, Below (w.heap.size + 3) w2 W → ∀ j u, X[j]? = some u → W.cell? ((⟨g, o, none⟩ : Addr).add j) = some u) := Lib.hid fun W hb => HS0.out W (HB2.out.trans (hb.mono (by omega)))
  have HK : Hid (∀ W, Below (w.heap.size + 3) w2 W → (W.cell? ⟨w.heap.size, 0, none⟩ = some (.int .i64 m) ∧ W.cell? ⟨w.heap.size, 1, none⟩ = some (.slice (some ⟨g, o, none⟩) n c)) ∧ (W.cell? ⟨w.heap.size + 1, 0, none⟩ = some (.int .i64 qk) ∧ W.cell? ⟨w.heap.size + 1, 1, none⟩ = some (.int .i64 qa) ∧ W.cell? ⟨w.heap.size + 1, 2, none⟩ = some (.int .i64 qb))) := Lib.hid fun W hb => ⟨(HX2.out.below hb (by omega)).cells, HC2.out.below hb (by omega)⟩
  have HK2 : Hid (∀ W, Below (w.heap.size + 2) w2 W → (W.cell? ⟨w.heap.size, 0, none⟩ = some (.int .i64 m) ∧ W.cell? ⟨w.heap.size, 1, none⟩ = some (.slice (some ⟨g, o, none⟩) n c)) ∧ (W.cell? ⟨w.heap.size + 1, 0, none⟩ = some (.int .i64 qk) ∧ W.cell? ⟨w.heap.size + 1, 1, none⟩ = some (.int .i64 qa) ∧ W.cell? ⟨w.heap.size + 1, 2, none⟩ = some (.int .i64 qb))) := Lib.hid fun W hb => ⟨(HX2.out.below hb (by omega)).cells, HC2.out.below hb (by omega)⟩
  have HCL : Hid (∀ W, Below (w.heap.size + 3) w2 W → Calls Try.prog 46 #[.slice (some ⟨g, o, none⟩) n c] W fun e w' => (∃ B d, e = .returned (.slice B n d) ∧ w'.ownsRow W.heap.size 25 3 (.slice B n d) n X) ∧ Below W.heap.size W w') := Lib.hid fun W hb => cloneClues_any g o n c X W HXL.out HXO.out (by omega) fun W' hb' => HSRC.out _ (hb.trans (hb'.mono (Nat.le_trans hle hb.size)))
  go_region_held_law (fun W => (W.cell? ⟨w.heap.size, 0, none⟩ = some (.int .i64 m) ∧ W.cell? ⟨w.heap.size, 1, none⟩ = some (.slice (some ⟨g, o, none⟩) n c)) ∧ (W.cell? ⟨w.heap.size + 1, 0, none⟩ = some (.int .i64 qk) ∧ W.cell? ⟨w.heap.size + 1, 1, none⟩ = some (.int .i64 qa) ∧ W.cell? ⟨w.heap.size + 1, 2, none⟩ = some (.int .i64 qb)))
    (first | with_reducible exact HK.out _ (Below.refl _ _) | with_reducible exact HK.out _ (Below.refl _ _).drew | with_reducible exact HK.out _ ((Below.refl _ _).drew.alloc hle _) | with_reducible exact HK.out _ ((Below.refl _ _).alloc hle _).drew | with_reducible exact HK.out _ hb5 | with_reducible exact HK.out _ (hb5.alloc hs5' _) | with_reducible exact HK.out _ hb6 | with_reducible exact HK.out _ hb7 | exact HK2.out _ (set2_below9 (hb7.mono (Nat.le_succ _)) (Nat.le_refl _) _ _))
    (first
      | (go_at_call 46; refine (HCL.out _ (Below.refl _ w2).drew).mono ?_; rintro e w5 ⟨⟨B1, d1, rfl, hown0⟩, b5⟩; have hown1 := row_wide9 hown0 hle; have hb5 : Below (w.heap.size + 3) w2 w5 := (Below.refl _ w2).drew.trans (b5.mono hle); have hs5' : w.heap.size + 3 ≤ w5.heap.size := Nat.le_trans hle hb5.size; clear hown0 b5)
      | (go_at_call 46; refine (HCL.out _ ((Below.refl _ w2).drew.alloc hle (.cells #[.int .i64 qk, .int .i64 qa, .int .i64 qb] 25))).mono ?_; rintro e w5 ⟨⟨B1, d1, rfl, hown0⟩, b5⟩; have hown1 := row_wide9 hown0 (le_alloc9 (w := w2.drew) hle); have hb5 : Below (w.heap.size + 3) w2 w5 := ((Below.refl _ w2).drew.alloc hle (.cells #[.int .i64 qk, .int .i64 qa, .int .i64 qb] 25)).trans (b5.mono (le_alloc9 (w := w2.drew) hle)); have hs5' : w.heap.size + 3 ≤ w5.heap.size := Nat.le_trans hle hb5.size; have hn5 : ∀ j u, [Value.int .i64 qk, .int .i64 qa, .int .i64 qb][j]? = some u → w5.cell? ((⟨w2.heap.size, 0, none⟩ : Addr).add j) = some u := (fun j u hu => World.news_of_block ((b5.block w2.heap.size (by simp)).trans (heap_alloc_new w2.drew _)) j u hu); clear hown0 b5)
      | (refine step_append9 rfl (.tmp 24) (.tmp 26) 33 rfl (w.heap.size + 3) 25 i0 (.agg #[.int .i64 0, .int .i64 0, .int .i64 0]) 3 24 Try.underlying33 hi0 hz0 hz1 hz2 rfl (by decide) (.slice B1 n d1) n X (by first | rfl | simp [Act.eval] | simp [Act.eval, Act.put]) hown1 ⟨w2.heap.size, 0, none⟩ 1 1 [.int .i64 qk, .int .i64 qa, .int .i64 qb] (by first | rfl | simp [Act.eval] | simp [Act.eval, Act.put]) rfl hn5 (one9 _ _ _) (by unfold maxLen; omega) (by omega) hs5' ?_; intro v2 w6 hown2 hgrow2; obtain ⟨B2, d2, rfl⟩ := row_form hown2; have hb6 : Below (w.heap.size + 3) w2 w6 := hb5.grown hgrow2 hs5' (fun g e => (hown1.lt g e).1); have HO6 := Lib.hid (own_of_row hown2); clear hown2 hgrow2)
      | (refine step_append9 rfl (.tmp 24) (.tmp 26) 33 rfl (w.heap.size + 3) 25 i0 (.agg #[.int .i64 0, .int .i64 0, .int .i64 0]) 3 24 Try.underlying33 hi0 hz0 hz1 hz2 rfl (by decide) (.slice B1 n d1) n X (by first | rfl | simp [Act.eval] | simp [Act.eval, Act.put]) (hown1.alloc _) ⟨w5.heap.size, 0, none⟩ 1 1 [.int .i64 qk, .int .i64 qa, .int .i64 qb] (by first | rfl | simp [Act.eval] | simp [Act.eval, Act.put]) rfl (cell9' _ _ _ _ _) (one9 _ _ _) (by unfold maxLen; omega) (by omega) (le_alloc9 hs5') ?_; intro v2 w6 hown2 hgrow2; obtain ⟨B2, d2, rfl⟩ := row_form hown2; have hb6 : Below (w.heap.size + 3) w2 w6 := (hb5.alloc hs5' _).grown hgrow2 (le_alloc9 hs5') (fun g e => (hown1.lt g e).1); have HO6 := Lib.hid (own_of_row hown2); clear hown2 hgrow2)
      | (go_at_call 45; refine (withClues_any m (some ⟨g, o, none⟩) B2 n c (n + 1) d2 w6).mono ?_; rintro e w7 ⟨rfl, b7⟩; have hb7 : Below (w.heap.size + 3) w2 w7 := hb6.trans (b7.mono (Nat.le_trans hle hb6.size)); obtain ⟨r0, r1, f0, f1⟩ := HR2.out.below hb7 (Nat.le_refl _); have HO7 := Lib.hid ((HO6.out.below b7 (Nat.le_refl _)).wide (Nat.le_refl _) b7.size); clear b7))
  all_goals
    have HBf := Lib.hid (set2_below9 (hb7.mono (Nat.le_succ _)) (Nat.le_refl (w.heap.size + 2)) (.int .i64 m) (.slice B2 (n + 1) d2))
    have HBg := Lib.hid (HB2.out.trans (HBf.out.mono (by omega)))
    have HOf := Lib.hid (own_far9 HO7.out (Q := w.heap.size + 2) (Nat.lt_succ_self _) (.int .i64 m) (.slice B2 (n + 1) d2))
    have HZf := Lib.hid (set2_size9 w7 (w.heap.size + 2) (.int .i64 m) (.slice B2 (n + 1) d2))
    clear hb5 hb6 hb7 hown1 c0 c1
    go_wp2
    exact bodyPost_ret (v := .tuple #[.agg #[.int .i64 m, .slice B2 (n + 1) d2], .bool true]) (by simp [results, Try.results24, go_sem, r0, r1]) rfl ⟨B2, d2, by rw [HWL.out], (by rw [HZf.out, HW.out]; exact HOf.out.wide (by omega) (Nat.le_refl _)), HBg.out⟩
end Go.Proofs.Ytmpajeldfbchhaa
