/- Chapter 5: the program's pairs of factors and runs. -/
import Derived.Test.YtcfpdlkkniilpaaGreatDoorRuA
import Derived.BigRegion
import Derived.Deep.AppendLies
import Derived.Deep.RegionLaw
namespace Go.Proofs.YtcfpdlkkniilpaaGreatDoor
open Go.ChangeShapes Go.WideShapes Go.ChangeAt Go.RowKit

theorem infoPair : (Tryz.prog.info? 69).map (fun i => (i.zero, i.size, i.bytes)) = some (some (.agg #[.int .i64 0, .int .i64 0]), 2, 16) := by kernel_rfl
theorem infoRun : (Tryz.prog.info? 31).map (fun i => (i.zero, i.size, i.bytes)) = some (some (.agg #[.int .i64 0, .int .i64 0]), 2, 16) := by kernel_rfl

/-- The root as a number of rounds. -/
structure RootN (n : Int) (R : Nat) : Prop where
  e : (rt n).toNat = R
  le : ∀ k : Nat, k < R → ((k : Int) + 1) * ((k : Int) + 1) ≤ n
  gt : n < ((R : Int) + 1) * ((R : Int) + 1)
  top : ((R : Int) + 1) * ((R : Int) + 1) ≤ 4000000
  r0 : 1 ≤ R
  r1 : R ≤ 1415
theorem rootN (n : Int) (h0 : 1 ≤ n) (h1 : n ≤ 2000000) : RootN n (rt n).toNat := by
  obtain ⟨a, b, c⟩ := rt_is n (by omega)
  obtain ⟨d, e⟩ := rt_small n h0 h1
  refine ⟨rfl, fun k hk => (rfits_iff n _ (by omega) (by omega)).2 (by omega), ?_, ?_, by omega, by omega⟩
  · rw [show (((rt n).toNat : Nat) : Int) = rt n by omega]; exact c
  · rw [show (((rt n).toNat : Nat) : Int) = rt n by omega]
    have := sq_le (rt n + 1) 1416 (by omega) (by omega)
    omega

theorem own_cap {w : World} {base n c size : Nat} {e : TypeId} {A : Option Addr} {cs : List Value} (h : w.ownsRow base e size (.slice A n c) n cs) : n ≤ c := by
  rcases h.2 with ⟨hv, h0⟩ | ⟨g, cap, cur, hv, _, _, hnc, _⟩
  · subst h0; omega
  · injection hv with _ _ h3
    omega
set_option maxHeartbeats 1600000 in
theorem factorsOf_cap (n : Int) (w : World) (h0 : 1 ≤ n) (h1 : n ≤ 2000000) :
    Calls Tryz.prog 52 #[.int .i64 n] w fun e w' => ∃ A c, e = .returned (.slice A (facs n).length c) ∧ Own w' w.heap.size w'.heap.size A (prs (facs n)) ∧ Below w.heap.size w w' ∧ (facs n).length ≤ c := by
  obtain ⟨i0, hi0, hz0, hz1, hz2⟩ := info_parts infoPair
  have HF : Hid (facs n = sel (fP n) (rt n).toNat) := Lib.hid rfl
  have hr := rootN n h0 h1
  generalize (rt n).toNat = R at hr HF
  have HLE := Lib.hid hr.le
  have hgt := hr.gt
  have htop := hr.top
  have r0 := hr.r0
  have r1 := hr.r1
  have HG := Lib.hid hgt
  clear hr
  go_enter Tryz.func52, Tryz.ntmps52
  go_wp2
  go_loopw [3, 4] (fun v i wr => ∃ k m : Nat, k ≤ R ∧ i = .int .i64 ((k : Int) + 1) ∧ Hid (m = (sel (fP n) k).length) ∧ m ≤ k ∧ Hid (wr.ownsRow w.heap.size 69 2 v m (prs (sel (fP n) k))) ∧ Below w.heap.size w wr) (fun _ i _ => (R + 1 - intOf i).toNat)
  case atStart => exact ⟨0, 0, by omega, by simp, Lib.hid (by simp [sel_zero]), by omega, Lib.hid (by rw [sel_zero]; exact World.ownsRow_nil _ _ _ _), Below.refl _ _⟩
  case round =>
    obtain ⟨k, m, hk, rfl, HM, hmk, hown, hb⟩ := hrel
    obtain ⟨d, hd⟩ : ∃ d : Int, d = (k : Int) + 1 := ⟨_, rfl⟩
    have HD := Lib.hid hd
    have s0 := sq_nn d
    rw [← hd]
    by_cases hlt : k < R
    · have hle := HLE.out k hlt
      rw [← hd] at hle
      have d1 : 1 ≤ d := by omega
      have d2 : d ≤ 1415 := by omega
      clear hgt htop
      by_cases hc : n % d = 0
      · have HS := Lib.hid (sel_some (fP n) k (x := (d, n / d)) (by rw [← hd, fP, if_pos hc]))
        have hq0 : 0 ≤ n / d := Int.ediv_nonneg (by omega) (by omega)
        have hq1 : n / d ≤ n := Int.ediv_le_self _ (by omega)
        clear hd
        go_wp2_with (at_builtin; refine wpList_append_own _ rfl _ _ 66 rfl w.heap.size 69 i0 (.agg #[.int .i64 0, .int .i64 0]) 2 16 Tryz.underlying66 hi0 hz0 hz1 hz2 rfl (by decide) _ _ _ rfl (hown.out.alloc _) ⟨wr.heap.size, 0, none⟩ 1 1 [.int .i64 d, .int .i64 (n / d)] rfl rfl ?c1 ?c2 ?c3 ?c4 ?c5 ?_)
        case c1 =>
          intro k u hk
          match k, hk with
          | 0, hk => simp at hk; subst hk; simp [Addr.add]
          | 1, hk => simp at hk; subst hk; simp [Addr.add]
        case c2 => intro u hu; simp at hu; rcases hu with rfl | rfl <;> rfl
        case c3 => unfold maxLen; omega
        case c4 => omega
        case c5 => have := hb.size; simp; omega
        · intro v' w1 hown' hgrow _
          rw [prs_app, ← HS.out] at hown'
          have hb1 : Below w.heap.size w w1 := (hb.alloc hb.size _).grown hgrow (by have := hb.size; simp; omega) fun g hg => (hown.out.lt g hg).1
          have HO := Lib.hid hown'
          have HM2 : Hid (m + 1 = (sel (fP n) (k + 1)).length) := Lib.hid (by rw [HS.out, HM.out]; simp)
          clear hown' hown hgrow hb HS
          go_wp2
          go_roundw
          case rel => exact ⟨k + 1, m + 1, by omega, by rw [HD.out]; go_num, HM2, by omega, HO, hb1⟩
          case measure => have := HD.out; simp [intOf]; omega
      · have hs := sel_none (fP n) k (by rw [← hd, fP, if_neg hc])
        have HM2 : Hid (m = (sel (fP n) (k + 1)).length) := Lib.hid (by rw [hs]; exact HM.out)
        have HO : Hid (wr.ownsRow w.heap.size 69 2 u3 m (prs (sel (fP n) (k + 1)))) := Lib.hid (by rw [hs]; exact hown.out)
        have hcb : (n % d == 0) = false := by simpa using hc
        clear hd hs hc
        go_wp2
        go_roundw
        case rel => exact ⟨k + 1, m, by omega, by rw [HD.out]; go_num, HM2, by omega, HO, hb⟩
        case measure => have := HD.out; simp [intOf]; omega
    · obtain rfl : k = R := by omega
      rw [← hd] at hgt htop
      have hnd : decide (d * d ≤ n) = false := by simp; omega
      obtain ⟨A, c, rfl⟩ := row_form hown.out
      have HO := Lib.hid (own_of_row hown.out)
      have HC := Lib.hid (own_cap hown.out)
      clear hd
      go_wp2
      go_ret
      exact ⟨A, c, by rw [HF.out, ← HM.out]; rfl, by rw [HF.out]; exact HO.out, hb, by rw [HF.out, ← HM.out]; exact HC.out⟩
theorem factorsOf_any (n : Int) (w : World) (h0 : 1 ≤ n) (h1 : n ≤ 2000000) :
    Calls Tryz.prog 52 #[.int .i64 n] w fun e w' => ∃ A c, e = .returned (.slice A (facs n).length c) ∧ Own w' w.heap.size w'.heap.size A (prs (facs n)) ∧ Below w.heap.size w w' :=
  (factorsOf_cap n w h0 h1).mono fun _ _ ⟨A, c, h1, h2, h3, _⟩ => ⟨A, c, h1, h2, h3⟩

theorem apart_below (a b : Int) (w : World) (a1 : 0 ≤ a) (a2 : a ≤ 100000000000000) (b1 : 0 ≤ b) (b2 : b ≤ 100000000000000) :
    Calls Tryz.prog 54 #[.agg #[.int .i64 a, .int .i64 b]] w fun e w' => e = .returned (.int .i64 (b - a)) ∧ Below w.heap.size w w' :=
  (apart_any a b w a1 a2 b1 b2).mono fun _ _ ⟨he, hw⟩ => ⟨he, hw ▸ (Below.refl _ _).alloc (Nat.le_refl _) _⟩
/-- Two cells of a new block, as what is to be appended. -/
theorem two_new (w : World) (a b : Value) (t : TypeId) : ∀ j u, [a, b][j]? = some u → (w.alloc (.cells #[a, b] t)).cell? ((⟨w.heap.size, 0, none⟩ : Addr).add j) = some u := by
  intro j u hj
  match j, hj with
  | 0, hj => simp at hj; subst hj; simp [Addr.add]
  | 1, hj => simp at hj; subst hj; simp [Addr.add]
/-- The first k pairs' runs. -/
def gRk (xs : List (Int × Int)) (k : Nat) : List (Int × Int) := (xs.take k).filterMap gR
theorem gRk_succ (xs : List (Int × Int)) (k : Nat) (h : k < xs.length) : gRk xs (k + 1) = gRk xs k ++ (gR xs[k]).toList := by
  unfold gRk
  rw [List.take_succ_eq_append_getElem h, List.filterMap_append]
  cases hg : gR xs[k] <;> simp [hg]
theorem gRk_len (xs : List (Int × Int)) (k : Nat) : (gRk xs k).length ≤ k := by
  refine Nat.le_trans (List.length_filterMap_le _ _) ?_
  simp
  omega
/-- What the walks over a list of pairs of factors ask of each. -/
def PairB (x : Int × Int) : Prop := 0 ≤ x.1 ∧ x.1 ≤ x.2 ∧ x.2 ≤ 2000000
theorem facs_b (n : Int) (h0 : 1 ≤ n) (h1 : n ≤ 2000000) : ∀ x ∈ facs n, PairB x := fun x hx => by
  obtain ⟨a, b, c⟩ := (mem_facs n h0 x).1 hx
  refine ⟨by omega, b, ?_⟩
  have := Int.mul_le_mul_of_nonneg_right a (show 0 ≤ x.2 by omega)
  omega

set_option maxHeartbeats 3200000 in
theorem runsOf_any (n : Int) (w : World) (h0 : 1 ≤ n) (h1 : n ≤ 1000000) :
    Calls Tryz.prog 33 #[.int .i64 n] w fun e w' => ∃ A c, e = .returned (.slice A (runsL n).length c) ∧ Own w' w.heap.size w'.heap.size A (prs (runsL n)) ∧ Below w.heap.size w w' := by
  obtain ⟨i0, hi0, hz0, hz1, hz2⟩ := info_parts infoRun
  have hlen := facs_len (2 * n) (by omega) (by omega)
  have HB := Lib.hid (facs_b (2 * n) (by omega) (by omega))
  have HFA := Lib.hid fun W => factorsOf_any (2 * n) W (by omega) (by omega)
  have HR : Hid (runsL n = gRk (facs (2 * n)) (facs (2 * n)).length) := Lib.hid (by rw [gRk, List.take_length]; rfl)
  obtain ⟨xs, hxs⟩ : ∃ xs, xs = facs (2 * n) := ⟨_, rfl⟩
  rw [← hxs] at HR HFA HB hlen
  obtain ⟨N, hN⟩ : ∃ N, N = xs.length := ⟨_, rfl⟩
  rw [← hN] at HR HFA hlen
  have HN := Lib.hid hN
  clear hxs hN
  go_enter Tryz.func33, Tryz.ntmps33
  go_wp2_with (go_at_call 52; refine (HFA.out _).mono ?_; rintro e w1 ⟨A, c, rfl, ho, hb0⟩; have HA := Lib.hid ho; clear ho)
  have hz01 := hb0.size
  go_loopw [3, 10] (fun v i wr => ∃ k m : Nat, k ≤ N ∧ i = .int .i64 (k : Int) ∧ Hid (m = (gRk xs k).length) ∧ m ≤ k ∧ Hid (wr.ownsRow w1.heap.size 31 2 v m (prs (gRk xs k))) ∧ Below w1.heap.size w1 wr) (fun _ i _ => N - (intOf i).toNat)
  case atStart => exact ⟨0, 0, by omega, by simp, Lib.hid (by simp [gRk]), by omega, Lib.hid (by simp only [gRk, List.take_zero, List.filterMap_nil]; exact World.ownsRow_nil _ _ _ _), Below.refl _ _⟩
  case round =>
    obtain ⟨k, m, hk, rfl, HM, hmk, hown, hb⟩ := hrel
    by_cases hlt : k < N
    · have hlx : k < xs.length := by rw [← HN.out]; exact hlt
      obtain ⟨g, o, rfl, _, hg, hca0, hca1⟩ := (HA.out.below hb (Nat.le_refl _)).pair_ hlx
      obtain ⟨x0, x1, x2⟩ := HB.out _ (List.getElem_mem hlx)
      have hsu := gRk_succ xs k hlx
      obtain ⟨p, hp⟩ : ∃ p, p = xs[k] := ⟨_, rfl⟩
      rw [← hp] at hca0 hca1 x0 x1 x2 hsu
      obtain ⟨a, b⟩ := p
      simp only at hca0 hca1 x0 x1 x2
      have HSU := Lib.hid hsu
      have hkN : (k : Int) < (N : Int) := by omega
      clear hp hlx hsu
      by_cases hal : (b - a) % 2 = 0
      · have HAL : Hid (alikeB (a, b) = true) := Lib.hid (by simp [alikeB, hal])
        have HG : Hid (gRk xs (k + 1) = gRk xs k) := Lib.hid (by rw [HSU.out, gR, if_pos hal]; simp)
        have HM2 : Hid (m = (gRk xs (k + 1)).length) := Lib.hid (by rw [HG.out]; exact HM.out)
        clear hal
        go_wp2_with (go_at_call 53; refine (areAlike_any _ _ _ x0 x1 (by omega)).mono ?_; rw [HAL.out]; rintro e w2 ⟨rfl, hb2⟩; have HO2 : Hid (w2.ownsRow w1.heap.size 31 2 u3 m (prs (gRk xs (k + 1)))) := Lib.hid (by rw [HG.out]; exact row_below (hown.out.alloc _) hb2 (Nat.le_refl _)); have hb3 : Below w1.heap.size w1 w2 := (hb.alloc hb.size _).trans (hb2.mono (by have := hb.size; simp; omega)))
        go_roundw
        case rel => exact ⟨k + 1, m, by omega, by go_num, HM2, by omega, HO2, hb3⟩
        case measure => simp [intOf]; omega
      · have HAL : Hid (alikeB (a, b) = false) := Lib.hid (by simp [alikeB, hal])
        obtain ⟨f, hf⟩ : ∃ f, f = (b - a + 1) / 2 := ⟨_, rfl⟩
        have HG : Hid (gRk xs (k + 1) = gRk xs k ++ [(f, a)]) := Lib.hid (by rw [HSU.out, gR, if_neg hal, hf]; simp)
        have HM2 : Hid (m + 1 = (gRk xs (k + 1)).length) := Lib.hid (by rw [HG.out, HM.out]; simp)
        have q1 : IntKind.i64.wrap (b - a + 1) = b - a + 1 := IntWalk.i64_in _ (by omega)
        have q2 : IntKind.i64.wrap ((b - a + 1).tdiv 2) = f := by rw [Int.tdiv_eq_ediv_of_nonneg (by omega), ← hf]; exact IntWalk.i64_in _ (by omega)
        clear hal hf
        go_wp2_with (go_at_call 53; refine (areAlike_any _ _ _ x0 x1 (by omega)).mono ?_; rw [HAL.out]; rintro e w2 ⟨rfl, hb2⟩; have c0 : w2.cell? ⟨wr.heap.size, 0, none⟩ = some (.int .i64 a) := (hb2.cell (p := ⟨wr.heap.size, 0, none⟩) (by simp)).trans (by simp [go_sem]); have c1 : w2.cell? ⟨wr.heap.size, 1, none⟩ = some (.int .i64 b) := (hb2.cell (p := ⟨wr.heap.size, 1, none⟩) (by simp)).trans (by simp [go_sem]); have zQ : wr.heap.size < w2.heap.size := by have := hb2.size; simp at this; omega)
        have HO2 : Hid (w2.ownsRow w1.heap.size 31 2 u3 m (prs (gRk xs k))) := Lib.hid (row_below (hown.out.alloc _) hb2 (Nat.le_refl _))
        have hb3 : Below w1.heap.size w1 w2 := (hb.alloc hb.size _).trans (hb2.mono (by have := hb.size; simp; omega))
        obtain ⟨Q, hQ⟩ : ∃ Q, Q = wr.heap.size := ⟨_, rfl⟩
        rw [← hQ] at c0 c1 zQ ⊢
        have HB3 := Lib.hid hb3
        clear hQ hb2 hb3 hown hca0 hca1 hb
        go_region_law (first
          | (go_simp; go_at_call 54; refine (apart_below _ _ _ x0 (by omega) (by omega) (by omega)).mono ?_; rintro e w3 ⟨rfl, hb4⟩; have HB4 := Lib.hid hb4; have d0 := (hb4.cell (p := ⟨Q, 0, none⟩) (by simpa using zQ)).trans c0; have d1 := (hb4.cell (p := ⟨Q, 1, none⟩) (by simpa using zQ)).trans c1; have HL3 := Lib.hid (row_below HO2.out (Below.trans (below_drewN (Below.refl w2.heap.size w2) 1) hb4) (Nat.le_refl _)); have HLW := Lib.hid (HL3.out.alloc (.cells #[.int .i64 f, .int .i64 a] 31)); clear hb4)
          | (refine step_append_lies _ rfl (.tmp 17) (.tmp 25) 25 rfl w1.heap.size 31 i0 (.agg #[.int .i64 0, .int .i64 0]) 2 16 Tryz.underlying25 hi0 hz0 hz1 hz2 rfl (by decide) u3 m (prs (gRk xs k)) (by simp [Act.eval]) HLW.out ⟨w3.heap.size, 0, none⟩ 1 1 [.int .i64 f, .int .i64 a] (by simp [Act.eval]) rfl (two_new w3 _ _ _) (by intro u hu; simp at hu; rcases hu with rfl | rfl <;> rfl) (by omega) (by unfold maxLen; omega) (by omega) (by have := HB4.out.size; have := HB3.out.size; simp at *; omega) _ rfl ?_; intro g' cap w4 hown' hgrow hat hlt; have HO4 := Lib.hid hown'; have HG4 := Lib.hid hgrow; clear hown' hgrow hat))
        all_goals
          have hbA : Below w1.heap.size w1 w3 := HB3.out.trans ((below_drewN (Below.refl w2.heap.size w2) 1).trans HB4.out |>.mono HB3.out.size)
          have hbB : Below w1.heap.size w1 w4 := (hbA.alloc hbA.size _).grown HG4.out (by have := hbA.size; simp; omega) fun g hg => (HLW.out.lt g hg).1
          have HO5 : Hid (w4.ownsRow w1.heap.size 31 2 (.slice (some ⟨g', 0, none⟩) (m + 1) cap) (m + 1) (prs (gRk xs (k + 1)))) := Lib.hid (by rw [HG.out, ← prs_app]; exact HO4.out)
          clear hbA
          go_wp2
          go_roundw
          case rel => exact ⟨k + 1, m + 1, by omega, by go_num, HM2, by omega, HO5, hbB⟩
          case measure => simp [intOf]; omega
    · obtain rfl : k = N := by omega
      obtain ⟨B, d, rfl⟩ := row_form hown.out
      have HO := Lib.hid (own_of_row hown.out)
      go_wp2
      go_ret
      exact ⟨B, d, by rw [HR.out, ← HM.out]; rfl, by rw [HR.out]; exact HO.out.wide hz01 (Nat.le_refl _), hb0.trans (hb.mono hz01)⟩
end Go.Proofs.YtcfpdlkkniilpaaGreatDoor
