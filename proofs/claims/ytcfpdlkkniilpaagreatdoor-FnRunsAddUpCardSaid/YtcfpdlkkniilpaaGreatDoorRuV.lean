/- Chapter 5: the law SignedRuns. -/
import Derived.Test.YtcfpdlkkniilpaaGreatDoorRuU
namespace Go.Proofs.YtcfpdlkkniilpaaGreatDoor
open Go.ChangeShapes Go.WideShapes Go.ChangeAt Go.RowKit Go.Shelf Go.Sort

/-- Four cells of a new block, as what is to be appended. -/
theorem four_new (w : World) (a b c d : Value) (t : TypeId) : ∀ j u, [a, b, c, d][j]? = some u → (w.alloc (.cells #[a, b, c, d] t)).cell? ((⟨w.heap.size, 0, none⟩ : Addr).add j) = some u := by
  intro j u hj
  match j, hj with
  | 0, hj => simp at hj; subst hj; simp [Addr.add]
  | 1, hj => simp at hj; subst hj; simp [Addr.add]
  | 2, hj => simp at hj; subst hj; simp [Addr.add]
  | 3, hj => simp at hj; subst hj; simp [Addr.add]
theorem prs_two (xs : List (Int × Int)) (a b c d : Int) : prs xs ++ [.int .i64 a, .int .i64 b, .int .i64 c, .int .i64 d] = prs (xs ++ [(a, b), (c, d)]) := by simp [prs]
theorem runs_b (n : Int) (h0 : 1 ≤ n) (h1 : n ≤ 1000000) : ∀ r ∈ runsL n, 0 ≤ r.1 ∧ r.1 ≤ 10000000 ∧ 0 ≤ r.2 ∧ r.2 ≤ 10000000 := fun r hr => by
  obtain ⟨a, b, a1, a2, a3, a4, rfl⟩ := (mem_runsL n h0 r).1 hr
  have hb : b ≤ 2 * n := by
    have := Int.mul_le_mul_of_nonneg_right a1 (show 0 ≤ b by omega)
    omega
  simp only
  omega
set_option maxHeartbeats 3200000 in
theorem impl_SignedRuns_yes (n : Int) (w : World) (h0 : 1 ≤ n) (h1 : n ≤ 1000000) :
    Calls Tryz.prog 12 #[.int .i64 n] w (ResP true (signedL n) w) := by
  obtain ⟨i0, hi0, hz0, hz1, hz2⟩ := info_parts infoRun
  have HA := Lib.hid (betr_yes h0 h1)
  have hlen := runs_len n h0 h1
  have HB := Lib.hid (runs_b n h0 h1)
  have HFA := Lib.hid fun W => runsOf_any n W h0 h1
  have HPM := Lib.hid (signed_perm n h0)
  have HLT := Lib.hid (signed_lt n)
  have HNE := Lib.hid (List.length_pos_iff.2 (runs_ne n h0))
  have HLL := Lib.hid (signed_perm n h0).length_eq
  obtain ⟨ys, hys⟩ : ∃ ys, ys = signedL n := ⟨_, rfl⟩
  rw [← hys] at HPM HLT HLL ⊢
  obtain ⟨xs, hxs⟩ : ∃ xs, xs = runsL n := ⟨_, rfl⟩
  rw [← hxs] at HFA HB hlen HPM HNE HLL
  obtain ⟨N, hN⟩ : ∃ N, N = xs.length := ⟨_, rfl⟩
  rw [← hN] at HFA hlen HNE
  have HN := Lib.hid hN
  clear hxs hN hys
  go_enter Tryz.func12, Tryz.ntmps12
  go_wp2_with (first
    | (go_at_call 32; refine (isRunned_any _ _).mono ?_; rw [HA.out]; rintro e w' ⟨rfl, rfl⟩)
    | (go_at_call 33; refine (HFA.out _).mono ?_; rintro e w1 ⟨A, c, rfl, ho, hb0⟩; have HO := Lib.hid ho; clear ho))
  have hz01 := hb0.size
  go_loopw [4, 13] (fun v i wr => ∃ k : Nat, k ≤ N ∧ i = .int .i64 (k : Int) ∧ Hid (wr.ownsRow w1.heap.size 31 2 v (2 * k) (prs (signedP (xs.take k)))) ∧ Hid (Below w1.heap.size w1 wr)) (fun _ i _ => N - (intOf i).toNat)
  case atStart => exact ⟨0, by omega, by simp, Lib.hid (by simp only [List.take_zero, signedP, List.flatMap_nil]; exact World.ownsRow_nil _ _ _ _), Lib.hid (Below.refl _ _)⟩
  case round =>
    obtain ⟨k, hk, rfl, hown, HBW⟩ := hrel
    by_cases hlt : k < N
    · have hlx : k < xs.length := by rw [← HN.out]; exact hlt
      obtain ⟨g, o, rfl, _, hg, hca0, hca1⟩ := (HO.out.below HBW.out (Nat.le_refl _)).pair_ hlx
      obtain ⟨x0, x1, x2, x3⟩ := HB.out _ (List.getElem_mem hlx)
      have hsu : signedP (xs.take (k + 1)) = signedP (xs.take k) ++ [xs[k], lessR xs[k]] := by rw [List.take_succ_eq_append_getElem hlx, signedP_app]
      obtain ⟨p, hp⟩ : ∃ p, p = xs[k] := ⟨_, rfl⟩
      rw [← hp] at hca0 hca1 x0 x1 x2 x3 hsu
      obtain ⟨f, l⟩ := p
      simp only [lessR] at hca0 hca1 x0 x1 x2 x3 hsu
      have HSU := Lib.hid hsu
      have hkN : (k : Int) < (N : Int) := by omega
      clear hp hlx hsu
      go_wp2_with fail
      generalize hW : wr.alloc (.cells #[.int .i64 f, .int .i64 l] 31) = w2 at *
      have c0 : w2.cell? ⟨wr.heap.size, 0, none⟩ = some (.int .i64 f) := by rw [← hW]; simp [go_sem]
      have c1 : w2.cell? ⟨wr.heap.size, 1, none⟩ = some (.int .i64 l) := by rw [← hW]; simp [go_sem]
      have zQ : wr.heap.size < w2.heap.size := by rw [← hW]; simp
      have hb2 : Below wr.heap.size wr w2 := by rw [← hW]; exact (Below.refl _ _).alloc (Nat.le_refl _) _
      have HO2 : Hid (w2.ownsRow w1.heap.size 31 2 u4 (2 * k) (prs (signedP (xs.take k)))) := Lib.hid (row_below hown.out hb2 (Nat.le_refl _))
      have HB3 : Hid (Below w1.heap.size w1 w2) := Lib.hid (HBW.out.trans (hb2.mono HBW.out.size))
      obtain ⟨Q, hQ⟩ : ∃ Q, Q = wr.heap.size := ⟨_, rfl⟩
      rw [← hQ] at c0 c1 zQ ⊢
      clear hQ hb2 hown hca0 hca1 HBW hW
      go_region_law (first
        | (go_simp; go_at_call 37; refine (withLess_any _ _ _ x0 x1 x2 x3).mono ?_; rintro e w3 ⟨rfl, hb4⟩; have HB4 := Lib.hid hb4; have d0 := (hb4.cell (p := ⟨Q, 0, none⟩) (by simpa using zQ)).trans c0; have d1 := (hb4.cell (p := ⟨Q, 1, none⟩) (by simpa using zQ)).trans c1; have HL3 := Lib.hid (row_below HO2.out (Below.trans (below_drewN (Below.refl w2.heap.size w2) 1) hb4) (Nat.le_refl _)); have HLW := Lib.hid (HL3.out.alloc (.cells #[.int .i64 f, .int .i64 l, .int .i64 (1 - f), .int .i64 (f + l - 1 + f)] 31)); clear hb4)
        | (refine step_append_lies _ rfl (.tmp 17) (.tmp 21) 25 rfl w1.heap.size 31 i0 (.agg #[.int .i64 0, .int .i64 0]) 2 16 Tryz.underlying25 hi0 hz0 hz1 hz2 rfl (by decide) u4 (2 * k) (prs (signedP (xs.take k))) (by simp [Act.eval]) HLW.out ⟨w3.heap.size, 0, none⟩ 2 2 [.int .i64 f, .int .i64 l, .int .i64 (1 - f), .int .i64 (f + l - 1 + f)] (by simp [Act.eval]) rfl (four_new w3 _ _ _ _ _) (by intro u hu; simp at hu; rcases hu with rfl | rfl | rfl | rfl <;> rfl) (by omega) (by unfold maxLen; omega) (by omega) (by have := HB4.out.size; have := HB3.out.size; simp at *; omega) _ rfl ?_; intro g' cap w4 hown' hgrow hat hlt; have HO4 := Lib.hid hown'; have HG4 := Lib.hid hgrow; clear hown' hgrow hat))
      all_goals
        have hbA : Below w1.heap.size w1 w3 := HB3.out.trans ((below_drewN (Below.refl w2.heap.size w2) 1).trans HB4.out |>.mono HB3.out.size)
        have HBB : Hid (Below w1.heap.size w1 w4) := Lib.hid ((hbA.alloc hbA.size _).grown HG4.out (by have := hbA.size; simp; omega) fun g hg => (HLW.out.lt g hg).1)
        have HO5 : Hid (w4.ownsRow w1.heap.size 31 2 (.slice (some ⟨g', 0, none⟩) (2 * k + 2) cap) (2 * (k + 1)) (prs (signedP (xs.take (k + 1))))) := Lib.hid (by rw [HSU.out, ← prs_two, show 2 * (k + 1) = 2 * k + 2 by omega]; exact HO4.out)
        clear hbA
        go_wp2
        go_roundw
        case rel => exact ⟨k + 1, by omega, by go_num, HO5, HBB⟩
        case measure => simp [intOf]; omega
    · obtain rfl : k = N := by omega
      have hrow := hown.out
      rw [show xs.take k = xs by rw [HN.out]; exact List.take_length] at hrow
      obtain ⟨B, d, rfl⟩ := row_form hrow
      have ho := own_of_row hrow
      have hl2 : (signedP xs).length = 2 * k := by rw [signedP_len, ← HN.out]
      obtain ⟨g, o, rfl, hg1, hg2, _⟩ := ho (by rw [prs_len, hl2]; have := HNE.out; omega)
      have hzz := HBW.out.size
      have HS : ∀ W : World, Hid (W = wr → Calls Tryz.prog 38 #[.slice (some ⟨g, o, none⟩) (2 * k) d, .func (.func 39) #[] #[]] W fun e w' => e = .returned (.tuple #[]) ∧ Own w' w.heap.size wr.heap.size (some ⟨g, o, none⟩) (prs ys) ∧ Below w.heap.size W w') := fun W => Lib.hid (by
        rintro rfl
        have ho2 := ho.wide hz01 (Nat.le_refl _)
        exact sortRuns_any g o d _ _ (2 * k) (signedP xs) ys W hl2 (by omega) ho2 (Nat.le_refl _) (by omega) hg2 HPM.out HLT.out)
      have HE : Hid (∀ w', Own w' w.heap.size wr.heap.size (some ⟨g, o, none⟩) (prs ys) → Below w.heap.size wr w' → ResP true ys w (.returned (.tuple #[.slice (some ⟨g, o, none⟩) (2 * k) d, .bool true])) w') := Lib.hid fun w' h1 h2 =>
        ⟨_, d, by rw [← HLL.out, hl2], h1.wide (Nat.le_refl _) h2.size, (hb0.trans (HBW.out.mono hz01)).trans h2⟩
      clear hrow ho hown hl2
      go_wp2_with (go_at_call 38; refine ((HS _).out rfl).mono ?_; rintro e w5 ⟨rfl, ho5, hb5⟩; have HRES := Lib.hid (HE.out _ ho5 hb5); clear ho5 hb5)
      go_ret2
      exact HRES.out
theorem ruAll_signed (n : Int) (w : World) (h0 : 1 ≤ n) (h1 : n ≤ 1000000) :
    Calls Tryz.prog 35 #[.int .i64 n, .bool true] w fun e w' => ∃ A c, e = .returned (.slice A (signedL n).length c) ∧ Own w' w.heap.size w'.heap.size A (prs (signedL n)) ∧ Below w.heap.size w w' :=
  ruAll_true n w h0 h1
theorem spec_SignedRuns_yes (n : Int) (w : World) (h0 : 1 ≤ n) (h1 : n ≤ 1000000) :
    Calls Tryz.prog 13 #[.int .i64 n] w (ResP true (signedL n) w) := by
  have HA := Lib.hid (betr_yes h0 h1)
  have HC := Lib.hid fun W => ruAll_signed n W h0 h1
  obtain ⟨xs, hxs⟩ : ∃ xs, xs = signedL n := ⟨_, rfl⟩
  rw [← hxs] at HC ⊢
  clear hxs
  go_enter Tryz.func13, Tryz.ntmps13
  go_wp2_with (first
    | (go_at_call 34; refine (ruGood_any _ _).mono ?_; rw [HA.out]; rintro e w' ⟨rfl, rfl⟩)
    | (go_at_call 35; refine (HC.out _).mono ?_; rintro e w1 ⟨A, c, rfl, ho, hb1⟩; have HO := Lib.hid ho; clear ho))
  go_ret2
  exact ⟨A, c, rfl, HO.out, hb1⟩
theorem spec_SignedRuns_no (n : Int) (w : World) (h : n < 1 ∨ 1000000 < n) :
    Calls Tryz.prog 13 #[.int .i64 n] w (ResP false [] w) := by
  have HA := Lib.hid (betr_no h)
  clear h
  go_enter Tryz.func13, Tryz.ntmps13
  go_wp2_with (go_at_call 34; refine (ruGood_any _ _).mono ?_; rw [HA.out]; rintro e w' ⟨rfl, rfl⟩)
  go_ret2
  exact resP_nil (Below.refl _ _)
theorem impl_SignedRuns_no (n : Int) (w : World) (h : n < 1 ∨ 1000000 < n) :
    Calls Tryz.prog 12 #[.int .i64 n] w (ResP false [] w) := by
  have HA := Lib.hid (betr_no h)
  clear h
  go_enter Tryz.func12, Tryz.ntmps12
  go_wp2_with (go_at_call 32; refine (isRunned_any _ _).mono ?_; rw [HA.out]; rintro e w' ⟨rfl, rfl⟩)
  go_ret2
  exact resP_nil (Below.refl _ _)
end Go.Proofs.YtcfpdlkkniilpaaGreatDoor
