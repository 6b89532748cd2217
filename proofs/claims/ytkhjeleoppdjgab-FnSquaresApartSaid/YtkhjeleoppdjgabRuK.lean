/- Chapter 5: the law OddRunsOf. -/
import Derived.Test.YtkhjeleoppdjgabRuJ
import Derived.Test.YtkhjeleoppdjgabRuF
namespace Go.Proofs.Ytkhjeleoppdjgab
open Go.ChangeShapes Go.WideShapes Go.ChangeAt Go.RowKit

theorem alikes_any (n : Int) (w : World) (h0 : 1 ≤ n) (h1 : n ≤ 1000000) :
    Calls Try.prog 71 #[.int .i64 n] w fun e w' => ∃ A c, e = .returned (.slice A (alikes n).length c) ∧ Own w' w.heap.size w'.heap.size A (prs (alikes n)) ∧ Below w.heap.size w w' := by
  have hmf : ∀ (fn : Fn) (first cap : Array Value) (w : World), (Instr.makeFunc fn first cap).run Try.prog w = .ok (.func fn first cap) w := fun _ _ _ _ => rfl
  have hlen := facs_len n h0 (by omega)
  have HF := Lib.hid fun W => factorsOf_cap n W h0 (by omega)
  have HD := Lib.hid fun A c lo hi w h1' h2 h3 h4 => deleteFunc_any A c lo hi (facs n).length (facs n) w rfl (by omega) (facs_b n h0 (by omega)) h1' h2 h3 h4
  have HE : Hid (fil (facs n) (facs n).length = alikes n) := Lib.hid (by unfold fil; rw [List.take_length]; rfl)
  rw [HE.out] at HD
  obtain ⟨N, hN⟩ : ∃ N, N = (facs n).length := ⟨_, rfl⟩
  rw [← hN] at HF HD
  clear hN HE
  go_enter Try.func71, Try.ntmps71
  go_wp2_with (first
    | (go_at_call 76; refine (HF.out _).mono ?_; rintro e w1 ⟨A, c, rfl, ho, hb1, hc⟩; have HO := Lib.hid ho; clear ho)
    | (go_at_call 128; refine (HD.out _ _ _ _ _ HO.out (Nat.le_refl _) hb1.size hc).mono ?_; rintro e w2 ⟨A2, c2, rfl, ho2, hb2, hz2⟩; have HO2 := Lib.hid ho2; clear ho2))
  go_ret
  exact ⟨A2, c2, rfl, HO2.out.wide (Nat.le_refl _) hz2, hb1.trans hb2⟩

/-- The odd runs of the first k pairs. -/
theorem take_map_snoc {α β : Type} (f : α → β) (xs : List α) (k : Nat) (h : k < xs.length) : (xs.take (k + 1)).map f = (xs.take k).map f ++ [f xs[k]] := by
  rw [List.take_succ_eq_append_getElem h, List.map_append]
  rfl
set_option maxHeartbeats 3200000 in
theorem impl_OddRunsOf_yes (n : Int) (w : World) (h0 : 1 ≤ n) (h1 : n ≤ 1000000) :
    Calls Try.prog 11 #[.int .i64 n] w (ResP true ((alikes n).map oddR) w) := by
  obtain ⟨i0, hi0, hz0, hz1, hz2⟩ := info_parts infoRun
  have HA := Lib.hid (betr_yes h0 h1)
  have hlen := alikes_len n h0 h1
  have HB : Hid (∀ x ∈ alikes n, PairB x) := Lib.hid fun x hx => facs_b n h0 (by omega) x (List.mem_filter.1 hx).1
  have HFA := Lib.hid fun W => alikes_any n W h0 h1
  obtain ⟨xs, hxs⟩ : ∃ xs, xs = alikes n := ⟨_, rfl⟩
  rw [← hxs] at HFA HB hlen ⊢
  obtain ⟨N, hN⟩ : ∃ N, N = xs.length := ⟨_, rfl⟩
  rw [← hN] at HFA hlen
  have HN := Lib.hid hN
  clear hxs hN
  go_enter Try.func11, Try.ntmps11
  go_wp2_with (first
    | (go_at_call 70; refine (isRunned_any _ _).mono ?_; rw [HA.out]; rintro e w' ⟨rfl, rfl⟩)
    | (go_at_call 71; refine (HFA.out _).mono ?_; rintro e w1 ⟨A, c, rfl, ho, hb0⟩; have HO := Lib.hid ho; clear ho))
  have hz01 := hb0.size
  go_loopw [4, 13] (fun v i wr => ∃ k : Nat, k ≤ N ∧ i = .int .i64 (k : Int) ∧ Hid (wr.ownsRow w1.heap.size 36 2 v k (prs ((xs.take k).map oddR))) ∧ Hid (Below w1.heap.size w1 wr)) (fun _ i _ => N - (intOf i).toNat)
  case atStart => exact ⟨0, by omega, by simp, Lib.hid (by simp only [List.take_zero, List.map_nil]; exact World.ownsRow_nil _ _ _ _), Lib.hid (Below.refl _ _)⟩
  case round =>
    obtain ⟨k, hk, rfl, hown, HBW⟩ := hrel
    by_cases hlt : k < N
    · have hlx : k < xs.length := by rw [← HN.out]; exact hlt
      obtain ⟨g, o, rfl, _, hg, hca0, hca1⟩ := (HO.out.below HBW.out (Nat.le_refl _)).pair_ hlx
      obtain ⟨x0, x1, x2⟩ := HB.out _ (List.getElem_mem hlx)
      have hsu := take_map_snoc oddR xs k hlx
      obtain ⟨p, hp⟩ : ∃ p, p = xs[k] := ⟨_, rfl⟩
      rw [← hp] at hca0 hca1 x0 x1 x2 hsu
      obtain ⟨a, b⟩ := p
      simp only [oddR] at hca0 hca1 x0 x1 x2 hsu
      have HSU := Lib.hid hsu
      have hkN : (k : Int) < (N : Int) := by omega
      clear hp hlx hsu
      have q1 : IntKind.i64.wrap (b - a + 1) = b - a + 1 := IntWalk.i64_in _ (by omega)
      go_wp2_with fail
      generalize hW : wr.alloc (.cells #[.int .i64 a, .int .i64 b] 66) = w2 at *
      have c0 : w2.cell? ⟨wr.heap.size, 0, none⟩ = some (.int .i64 a) := by rw [← hW]; simp [go_sem]
      have c1 : w2.cell? ⟨wr.heap.size, 1, none⟩ = some (.int .i64 b) := by rw [← hW]; simp [go_sem]
      have zQ : wr.heap.size < w2.heap.size := by rw [← hW]; simp
      have hb2 : Below wr.heap.size wr w2 := by rw [← hW]; exact (Below.refl _ _).alloc (Nat.le_refl _) _
      have HO2 : Hid (w2.ownsRow w1.heap.size 36 2 u4 k (prs ((xs.take k).map oddR))) := Lib.hid (row_below hown.out hb2 (Nat.le_refl _))
      have HB3 : Hid (Below w1.heap.size w1 w2) := Lib.hid (HBW.out.trans (hb2.mono HBW.out.size))
      obtain ⟨Q, hQ⟩ : ∃ Q, Q = wr.heap.size := ⟨_, rfl⟩
      rw [← hQ] at c0 c1 zQ ⊢
      clear hQ hb2 hown hca0 hca1 HBW hW
      go_region_law (first
        | (go_simp; go_at_call 72; refine (apart_below _ _ _ x0 (by omega) (by omega) (by omega)).mono ?_; rintro e w3 ⟨rfl, hb4⟩; have HB4 := Lib.hid hb4; have d0 := (hb4.cell (p := ⟨Q, 0, none⟩) (by simpa using zQ)).trans c0; have d1 := (hb4.cell (p := ⟨Q, 1, none⟩) (by simpa using zQ)).trans c1; have HL3 := Lib.hid (row_below HO2.out (Below.trans (below_drewN (Below.refl w2.heap.size w2) 1) hb4) (Nat.le_refl _)); have HLW := Lib.hid (HL3.out.alloc (.cells #[.int .i64 (b - a + 1), .int .i64 a] 36)); clear hb4)
        | (refine step_append_lies _ rfl (.tmp 17) (.tmp 24) 27 rfl w1.heap.size 36 i0 (.agg #[.int .i64 0, .int .i64 0]) 2 16 Try.underlying27 hi0 hz0 hz1 hz2 rfl (by decide) u4 k (prs ((xs.take k).map oddR)) (by simp [Act.eval]) HLW.out ⟨w3.heap.size, 0, none⟩ 1 1 [.int .i64 (b - a + 1), .int .i64 a] (by simp [Act.eval]) rfl (two_new w3 _ _ _) (by intro u hu; simp at hu; rcases hu with rfl | rfl <;> rfl) (by omega) (by unfold maxLen; omega) (by omega) (by have := HB4.out.size; have := HB3.out.size; simp at *; omega) _ rfl ?_; intro g' cap w4 hown' hgrow hat hlt; have HO4 := Lib.hid hown'; have HG4 := Lib.hid hgrow; clear hown' hgrow hat))
      all_goals
        have hbA : Below w1.heap.size w1 w3 := HB3.out.trans ((below_drewN (Below.refl w2.heap.size w2) 1).trans HB4.out |>.mono HB3.out.size)
        have HBB : Hid (Below w1.heap.size w1 w4) := Lib.hid ((hbA.alloc hbA.size _).grown HG4.out (by have := hbA.size; simp; omega) fun g hg => (HLW.out.lt g hg).1)
        have HO5 : Hid (w4.ownsRow w1.heap.size 36 2 (.slice (some ⟨g', 0, none⟩) (k + 1) cap) (k + 1) (prs ((xs.take (k + 1)).map oddR))) := Lib.hid (by rw [HSU.out, ← prs_app]; exact HO4.out)
        clear hbA
        go_wp2
        go_roundw
        case rel => exact ⟨k + 1, by omega, by go_num, HO5, HBB⟩
        case measure => simp [intOf]; omega
    · obtain rfl : k = N := by omega
      obtain ⟨B, d, rfl⟩ := row_form hown.out
      have HE : Hid (Own wr w.heap.size wr.heap.size B (prs (xs.map oddR))) := Lib.hid (by
        have h := own_of_row hown.out
        rw [HN.out, List.take_length] at h
        exact h.wide hz01 (Nat.le_refl _))
      go_wp2
      go_ret2
      exact ⟨B, d, by rw [List.length_map, ← HN.out]; rfl, HE.out, hb0.trans (HBW.out.mono hz01)⟩
set_option maxHeartbeats 3200000 in
theorem spec_OddRunsOf_yes (n : Int) (w : World) (h0 : 1 ≤ n) (h1 : n ≤ 1000000) :
    Calls Try.prog 12 #[.int .i64 n] w (ResP true ((alikes n).map oddR) w) := by
  obtain ⟨i0, hi0, hz0, hz1, hz2⟩ := info_parts infoRun
  have HA := Lib.hid (betr_yes h0 h1)
  have HF : Hid ((alikes n).map oddR = sel (fO n) (rt n).toNat) := Lib.hid (odd_eq n).symm
  have hr := rootN n h0 (by omega)
  generalize (rt n).toNat = R at hr HF
  have HLE := Lib.hid hr.le
  have hgt := hr.gt
  have htop := hr.top
  have r0 := hr.r0
  have r1 := hr.r1
  clear hr
  go_enter Try.func12, Try.ntmps12
  go_wp2_with (go_at_call 74; refine (ruGood_any _ _).mono ?_; rw [HA.out]; rintro e w' ⟨rfl, rfl⟩)
  go_loopw [4, 5, 6] (fun v i _ wr => ∃ k m : Nat, k ≤ R ∧ i = .int .i64 ((k : Int) + 1) ∧ Hid (m = (sel (fO n) k).length) ∧ m ≤ k ∧ Hid (wr.ownsRow w.heap.size 36 2 v m (prs (sel (fO n) k))) ∧ Below w.heap.size w wr) (fun _ i _ _ => (R + 1 - intOf i).toNat)
  case atStart => exact ⟨0, 0, by omega, by simp, Lib.hid (by simp [sel_zero]), by omega, Lib.hid (by rw [sel_zero]; exact World.ownsRow_nil _ _ _ _), Below.refl _ _⟩
  case round =>
    obtain ⟨k, m, hk, rfl, HM, hmk, hown, hb⟩ := hrel
    obtain ⟨d, hd⟩ : ∃ d : Int, d = (k : Int) + 1 := ⟨_, rfl⟩
    have HD := Lib.hid hd
    have s0 := sq_nn d
    rw [← hd]
    by_cases hlt : k < R
    · have hle := HLE.out k hlt
      rw [← hd] at hle
      have d1 : 1 ≤ d := by omega
      have d2 : d ≤ 1415 := by omega
      clear hgt htop
      have hq0 : 0 ≤ n / d := Int.ediv_nonneg (by omega) (by omega)
      have hq1 : n / d ≤ n := Int.ediv_le_self _ (by omega)
      by_cases hc : n % d = 0
      · by_cases hp : (n / d - d + 1) % 2 = 0
        · have hs := sel_none (fO n) k (by rw [← hd, fO, if_neg (by rintro ⟨_, h⟩; exact h hp)])
          have HM2 : Hid (m = (sel (fO n) (k + 1)).length) := Lib.hid (by rw [hs]; exact HM.out)
          have HO : Hid (wr.ownsRow w.heap.size 36 2 u4 m (prs (sel (fO n) (k + 1)))) := Lib.hid (by rw [hs]; exact hown.out)
          have q1 : (n / d - d + 1).tmod 2 = 0 := (tmod2 _).2 hp
          have q4 : ((n / d - d + 1).tmod 2 != 0) = false := by simp [q1]
          clear hd hs hp q1
          go_wp2
          go_roundw
          case rel => exact ⟨k + 1, m, by omega, by rw [HD.out]; go_num, HM2, by omega, HO, hb⟩
          case measure => have := HD.out; simp [intOf]; omega
        · have HS := Lib.hid (sel_some (fO n) k (x := (n / d - d + 1, d)) (by rw [← hd, fO, if_pos ⟨hc, hp⟩]))
          have q1 : ¬ (n / d - d + 1).tmod 2 = 0 := fun h => hp ((tmod2 _).1 h)
          have q4 : ((n / d - d + 1).tmod 2 != 0) = true := by simpa using q1
          clear hd hp q1
          go_wp2_with (at_builtin; refine wpList_append_own _ rfl _ _ 27 rfl w.heap.size 36 i0 (.agg #[.int .i64 0, .int .i64 0]) 2 16 Try.underlying27 hi0 hz0 hz1 hz2 rfl (by decide) _ _ _ rfl (hown.out.alloc _) ⟨wr.heap.size, 0, none⟩ 1 1 [.int .i64 (n / d - d + 1), .int .i64 d] rfl rfl ?c1 ?c2 ?c3 ?c4 ?c5 ?_)
          case c1 =>
            intro k u hk
            match k, hk with
            | 0, hk => simp at hk; subst hk; simp [Addr.add]
            | 1, hk => simp at hk; subst hk; simp [Addr.add]
          case c2 => intro u hu; simp at hu; rcases hu with rfl | rfl <;> rfl
          case c3 => unfold maxLen; omega
          case c4 => omega
          case c5 => have := hb.size; simp; omega
          · intro v' w1 hown' hgrow _
            rw [prs_app, ← HS.out] at hown'
            have hb1 : Below w.heap.size w w1 := (hb.alloc hb.size _).grown hgrow (by have := hb.size; simp; omega) fun g hg => (hown.out.lt g hg).1
            have HO := Lib.hid hown'
            have HM2 : Hid (m + 1 = (sel (fO n) (k + 1)).length) := Lib.hid (by rw [HS.out, HM.out]; simp)
            clear hown' hown hgrow hb HS
            go_wp2
            go_roundw
            case rel => exact ⟨k + 1, m + 1, by omega, by rw [HD.out]; go_num, HM2, by omega, HO, hb1⟩
            case measure => have := HD.out; simp [intOf]; omega
      · have hs := sel_none (fO n) k (by rw [← hd, fO, if_neg (by rintro ⟨h, _⟩; exact hc h)])
        have HM2 : Hid (m = (sel (fO n) (k + 1)).length) := Lib.hid (by rw [hs]; exact HM.out)
        have HO : Hid (wr.ownsRow w.heap.size 36 2 u4 m (prs (sel (fO n) (k + 1)))) := Lib.hid (by rw [hs]; exact hown.out)
        have q4 : (n % d != 0) = true := by simpa using hc
        clear hd hs hc
        go_wp2
        go_roundw
        case rel => exact ⟨k + 1, m, by omega, by rw [HD.out]; go_num, HM2, by omega, HO, hb⟩
        case measure => have := HD.out; simp [intOf]; omega
    · obtain rfl : k = R := by omega
      rw [← hd] at hgt htop
      have hnd : decide (d * d ≤ n) = false := by simp; omega
      obtain ⟨A, c, rfl⟩ := row_form hown.out
      have HO := Lib.hid (own_of_row hown.out)
      clear hd
      go_wp2
      go_ret2
      exact ⟨A, c, by rw [HF.out, ← HM.out]; rfl, by rw [HF.out]; exact HO.out, hb⟩
theorem spec_OddRunsOf_no (n : Int) (w : World) (h : n < 1 ∨ 1000000 < n) :
    Calls Try.prog 12 #[.int .i64 n] w (ResP false [] w) := by
  have HA := Lib.hid (betr_no h)
  clear h
  go_enter Try.func12, Try.ntmps12
  go_wp2_with (go_at_call 74; refine (ruGood_any _ _).mono ?_; rw [HA.out]; rintro e w' ⟨rfl, rfl⟩)
  go_ret2
  exact resP_nil (Below.refl _ _)
theorem impl_OddRunsOf_no (n : Int) (w : World) (h : n < 1 ∨ 1000000 < n) :
    Calls Try.prog 11 #[.int .i64 n] w (ResP false [] w) := by
  have HA := Lib.hid (betr_no h)
  clear h
  go_enter Try.func11, Try.ntmps11
  go_wp2_with (go_at_call 70; refine (isRunned_any _ _).mono ?_; rw [HA.out]; rintro e w' ⟨rfl, rfl⟩)
  go_ret2
  exact resP_nil (Below.refl _ _)
end Go.Proofs.Ytkhjeleoppdjgab
