/- Chapter 5: the law TrianglesApart. -/
import Derived.Test.YtcfpdlkkniilpaaGreatDoorRuZ
import Derived.Test.YtcfpdlkkniilpaaGreatDoorRuV
namespace Go.Proofs.YtcfpdlkkniilpaaGreatDoor
open Go.ChangeShapes Go.WideShapes Go.ChangeAt Go.RowKit Go.Shelf Go.Sort

set_option maxHeartbeats 3200000 in
theorem impl_TrianglesApart_yes (n : Int) (w : World) (h0 : 1 ≤ n) (h1 : n ≤ 1000000) :
    Calls Tryz.prog 14 #[.int .i64 n] w (ResSS true ((runsL n).map triR).reverse w) := by
  obtain ⟨ir, hir, hzr0, hzr1, hzr2⟩ := info_parts infoRow2
  have HA := Lib.hid (betr_yes h0 h1)
  have hlen := runs_len n h0 h1
  have HB := Lib.hid (runs_b n h0 h1)
  have HFA := Lib.hid fun W => runsOf_any n W h0 h1
  have HKY : Hid (((runsL n).map triR).Pairwise fun x y => y.getD 0 0 < x.getD 0 0) := Lib.hid (by
    rw [List.pairwise_map]
    exact (tri_falls n h0).imp fun h => by simpa [triR] using h)
  obtain ⟨xs, hxs⟩ : ∃ xs, xs = runsL n := ⟨_, rfl⟩
  rw [← hxs] at HFA HB HKY hlen ⊢
  obtain ⟨N, hN⟩ : ∃ N, N = xs.length := ⟨_, rfl⟩
  rw [← hN] at HFA hlen
  have HN := Lib.hid hN
  clear hxs hN
  go_enter Tryz.func14, Tryz.ntmps14
  go_wp2_with (first
    | (go_at_call 32; refine (isRunned_any _ _).mono ?_; rw [HA.out]; rintro e w' ⟨rfl, rfl⟩)
    | (go_at_call 33; refine (HFA.out _).mono ?_; rintro e w1 ⟨A, c, rfl, ho, hb0⟩; have HO := Lib.hid ho; clear ho))
  have hz01 := hb0.size
  go_loopw [4, 13] (fun v i wr => ∃ (k : Nat) (rs : List Value), k ≤ N ∧ i = .int .i64 (k : Int) ∧ rs.length ≤ k ∧ Hid (Lists wr w1.heap.size v rs ((xs.take k).map triR)) ∧ Hid (Below w1.heap.size w1 wr)) (fun _ i _ => N - (intOf i).toNat)
  case atStart => exact ⟨0, [], by omega, by simp, by simp, Lib.hid (by simpa using Lists.nil _ _), Lib.hid (Below.refl _ _)⟩
  case round =>
    obtain ⟨k, rs, hk, rfl, hrk, HL, HBW⟩ := hrel
    by_cases hlt : k < N
    · have hlx : k < xs.length := by rw [← HN.out]; exact hlt
      obtain ⟨g, o, rfl, _, hg, hca0, hca1⟩ := (HO.out.below HBW.out (Nat.le_refl _)).pair_ hlx
      obtain ⟨x0, x1, x2, x3⟩ := HB.out _ (List.getElem_mem hlx)
      have hsu := take_map_snoc triR xs k hlx
      obtain ⟨p, hp⟩ : ∃ p, p = xs[k] := ⟨_, rfl⟩
      rw [← hp] at hca0 hca1 x0 x1 x2 x3 hsu
      obtain ⟨a, b⟩ := p
      simp only [triR] at hca0 hca1 x0 x1 x2 x3 hsu
      have HSU := Lib.hid hsu
      have hkN : (k : Int) < (N : Int) := by omega
      have q1 : IntKind.i64.wrap (a - 1) = a - 1 := IntWalk.i64_in _ (by omega)
      clear hp hlx hsu
      go_wp2_with fail
      generalize hW : wr.alloc (.cells #[.int .i64 a, .int .i64 b] 31) = w2 at *
      have c0 : w2.cell? ⟨wr.heap.size, 0, none⟩ = some (.int .i64 a) := by rw [← hW]; simp [go_sem]
      have c1 : w2.cell? ⟨wr.heap.size, 1, none⟩ = some (.int .i64 b) := by rw [← hW]; simp [go_sem]
      have zQ : wr.heap.size < w2.heap.size := by rw [← hW]; simp
      have HB2 : Hid (Below wr.heap.size wr w2) := Lib.hid (by rw [← hW]; exact (Below.refl _ _).alloc (Nat.le_refl _) _)
      have HO2 : Hid (w2.ownsRow w1.heap.size 40 1 u4 rs.length rs) := Lib.hid (row_below HL.out.2.1 HB2.out (Nat.le_refl _))
      have HZ : Hid (w1.heap.size ≤ w2.heap.size) := Lib.hid (Nat.le_trans HBW.out.size HB2.out.size)
      obtain ⟨Q, hQ⟩ : ∃ Q, Q = wr.heap.size := ⟨_, rfl⟩
      have HQ := Lib.hid hQ
      rw [← hQ] at c0 c1 zQ ⊢
      clear hQ hca0 hca1 hW
      go_region_law (first
        | (go_simp; go_at_call 40; refine (last_below _ _ _ (by omega) (by omega) (by omega) (by omega)).mono ?_; rintro e w3 ⟨rfl, hb4⟩; have HB4 := Lib.hid hb4; have d0 := (hb4.cell (p := ⟨Q, 0, none⟩) (by simpa using zQ)).trans c0; have d1 := (hb4.cell (p := ⟨Q, 1, none⟩) (by simpa using zQ)).trans c1; have HL3 := Lib.hid (row_below HO2.out (Below.trans (below_drewN (Below.refl w2.heap.size w2) 1) hb4) (Nat.le_refl _)); have HLW := Lib.hid ((HL3.out.alloc (.cells #[.int .i64 (a + b - 1), .int .i64 (a - 1)] 3)).alloc (.cells #[.slice (some ⟨w3.heap.size, 0, none⟩) 2 2] 40)); clear hb4)
        | (refine step_append_lies _ rfl (.tmp 17) (.tmp 24) 34 rfl w1.heap.size 40 ir (.slice none 0 0) 1 24 Tryz.underlying34 hir hzr0 hzr1 hzr2 rfl (by decide) u4 rs.length rs (by simp [Act.eval]) HLW.out ⟨w3.heap.size + 1, 0, none⟩ 1 1 [.slice (some ⟨w3.heap.size, 0, none⟩) 2 2] (by simp [Act.eval]) rfl (two_one_new w3 _ _ _ _ _) (by intro u hu; simp at hu; subst hu; rfl) (by omega) (by unfold maxLen; omega) (by omega) (by have := HB4.out.size; have := HZ.out; simp at *; omega) _ rfl ?_; intro g' cap w4 hown' hgrow hat hlt; have HO4 := Lib.hid hown'; have HG4 := Lib.hid hgrow; clear hown' hgrow hat))
      all_goals
        have hbA : Below wr.heap.size wr w3 := HB2.out.trans (((below_drewN (Below.refl w2.heap.size w2) 1).trans HB4.out).mono HB2.out.size)
        have HL5 : Hid (Lists w4 w1.heap.size (.slice (some ⟨g', 0, none⟩) (rs.length + 1) cap) (rs ++ [.slice (some ⟨w3.heap.size, 0, none⟩) 2 2]) ((xs.take (k + 1)).map triR)) := Lib.hid (by rw [HSU.out]; exact HL.out.two hbA HBW.out.size HO4.out HG4.out)
        have HBB : Hid (Below w1.heap.size w1 w4) := Lib.hid (Lists.two_below (HBW.out.trans (hbA.mono HBW.out.size)) (Nat.le_trans HBW.out.size hbA.size) (Nat.le_refl _) HL3.out HG4.out)
        clear hbA
        go_wp2
        go_roundw
        case rel => exact ⟨k + 1, _, by omega, by go_num, by simp; omega, HL5, HBB⟩
        case measure => simp [intOf]; omega
    · obtain rfl : k = N := by omega
      have hL := HL.out
      rw [show xs.take k = xs by rw [HN.out]; exact List.take_length] at hL
      obtain ⟨B, d, F, Af, cf, rfl, hfall, hres⟩ := resSS_turned (w0 := w) (w2 := wr) hL hz01 HBW.out.size (hb0.trans (HBW.out.mono hz01)) (by rw [List.length_map, ← HN.out]; omega) (by intro y hy; obtain ⟨x, _, rfl⟩ := List.mem_map.1 hy; simp [triR]) HKY.out
      rw [List.length_map, ← HN.out] at hfall hres ⊢
      have HS : ∀ W : World, Hid (W = wr → Calls Tryz.prog 41 #[.slice B k d] W fun e w' => e = .returned (.tuple #[]) ∧ ResSS true (xs.map triR).reverse w (.returned (.tuple #[.slice B k d, .bool true])) w') := fun W => Lib.hid (by
        rintro rfl
        exact (sortByFirst_any d _ _ k B F Af cf W hfall).mono fun e w' ⟨he, ht⟩ => ⟨he, hres _ ht⟩)
      clear hL hfall hres HL
      go_wp2_with (go_at_call 41; refine ((HS _).out rfl).mono ?_; rintro e w5 ⟨rfl, hr⟩; have HRES := Lib.hid hr; clear hr)
      go_ret2
      exact HRES.out
end Go.Proofs.YtcfpdlkkniilpaaGreatDoor
