/- Chapter 5: the program's pairs of factors and runs. -/
import Derived.Test.YtkhjeleoppdjgabRuA
import Derived.BigRegion
import Derived.Deep.AppendLies
import Derived.Deep.RegionLaw
namespace Go.Proofs.Ytkhjeleoppdjgab
open Go.ChangeShapes Go.WideShapes Go.ChangeAt Go.RowKit

theorem infoPair : (Try.prog.info? 66).map (fun i => (i.zero, i.size, i.bytes)) = some (some (.agg #[.int .i64 0, .int .i64 0]), 2, 16) := by kernel_rfl
theorem infoRun : (Try.prog.info? 36).map (fun i => (i.zero, i.size, i.bytes)) = some (some (.agg #[.int .i64 0, .int .i64 0]), 2, 16) := by kernel_rfl

/-- The root as a number of rounds. -/
structure RootN (n : Int) (R : Nat) : Prop where
  e : (rt n).toNat = R
  le : ∀ k : Nat, k < R → ((k : Int) + 1) * ((k : Int) + 1) ≤ n
  gt : n < ((R : Int) + 1) * ((R : Int) + 1)
  top : ((R : Int) + 1) * ((R : Int) + 1) ≤ 4000000
  r0 : 1 ≤ R
  r1 : R ≤ 1415
theorem rootN (n : Int) (h0 : 1 ≤ n) (h1 : n ≤ 2000000) : RootN n (rt n).toNat := by
  obtain ⟨a, b, c⟩ := rt_is n (by omega)
  obtain ⟨d, e⟩ := rt_small n h0 h1
  refine ⟨rfl, fun k hk => (rfits_iff n _ (by omega) (by omega)).2 (by omega), ?_, ?_, by omega, by omega⟩
  · rw [show (((rt n).toNat : Nat) : Int) = rt n by omega]; exact c
  · rw [show (((rt n).toNat : Nat) : Int) = rt n by omega]
    have := sq_le (rt n + 1) 1416 (by omega) (by omega)
    omega

theorem own_cap {w : World} {base n c size : Nat} {e : TypeId} {A : Option Addr} {cs : List Value} (h : w.ownsRow base e size (.slice A n c) n cs) : n ≤ c := by
  rcases h.2 with ⟨hv, h0⟩ | ⟨g, cap, cur, hv, _, _, hnc, _⟩
  · subst h0; omega
  · injection hv with _ _ h3
    omega
set_option maxHeartbeats 1600000 in
theorem factorsOf_cap (n : Int) (w : World) (h0 : 1 ≤ n) (h1 : n ≤ 2000000) :
    Calls Try.prog 76 #[.int .i64 n] w fun e w' => ∃ A c, e = .returned (.slice A (facs n).length c) ∧ Own w' w.heap.size w'.heap.size A (prs (facs n)) ∧ Below w.heap.size w w' ∧ (facs n).length ≤ c := by
  obtain ⟨i0, hi0, hz0, hz1, hz2⟩ := info_parts infoPair
  have HF : Hid (facs n = sel (fP n) (rt n).toNat) := Lib.hid rfl
  have hr := rootN n h0 h1
  generalize (rt n).toNat = R at hr HF
  have HLE := Lib.hid hr.le
  have hgt := hr.gt
  have htop := hr.top
  have r0 := hr.r0
  have r1 := hr.r1
  have HG := Lib.hid hgt
  clear hr
  go_enter Try.func76, Try.ntmps76
  go_wp2
  go_loopw [3, 4] (fun v i wr => ∃ k m : Nat, k ≤ R ∧ i = .int .i64 ((k : Int) + 1) ∧ Hid (m = (sel (fP n) k).length) ∧ m ≤ k ∧ Hid (wr.ownsRow w.heap.size 66 2 v m (prs (sel (fP n) k))) ∧ Below w.heap.size w wr) (fun _ i _ => (R + 1 - intOf i).toNat)
  case atStart => exact ⟨0, 0, by omega, by simp, Lib.hid (by simp [sel_zero]), by omega, Lib.hid (by rw [sel_zero]; exact World.ownsRow_nil _ _ _ _), Below.refl _ _⟩
  case round =>
    obtain ⟨k, m, hk, rfl, HM, hmk, hown, hb⟩ := hrel
    obtain ⟨d, hd⟩ : ∃ d : Int, d = (k : Int) + 1 := ⟨_, rfl⟩
    have HD := Lib.hid hd
    have s0 := sq_nn d
    rw [← hd]
    by_cases hlt : k < R
    · have hle := HLE.out k hlt
      rw [← hd] at hle
      have d1 : 1 ≤ d := by omega
      have d2 : d ≤ 1415 := by omega
      clear hgt htop
      by_cases hc : n % d = 0
      · have HS := Lib.hid (sel_some (fP n) k (x := (d, n / d)) (by rw [← hd, fP, if_pos hc]))
        have hq0 : 0 ≤ n / d := Int.ediv_nonneg (by omega) (by omega)
        have hq1 : n / d ≤ n := Int.ediv_le_self _ (by omega)
        clear hd
        go_wp2_with (at_builtin; refine wpList_append_own _ rfl _ _ 63 rfl w.heap.size 66 i0 (.agg #[.int .i64 0, .int .i64 0]) 2 16 Try.underlying63 hi0 hz0 hz1 hz2 rfl (by decide) _ _ _ rfl (hown.out.alloc _) ⟨wr.heap.size, 0, none⟩ 1 1 [.int .i64 d, .int .i64 (n / d)] rfl rfl ?c1 ?c2 ?c3 ?c4 ?c5 ?_)
        case c1 =>
          intro k u hk
          match k, hk with
          | 0, hk => simp at hk; subst hk; simp [Addr.add]
          | 1, hk => simp at hk; subst hk; simp [Addr.add]
        case c2 => intro u hu; simp at hu; rcases hu with rfl | rfl <;> rfl
        case c3 => unfold maxLen; omega
        case c4 => omega
        case c5 => have := hb.size; simp; omega
        · intro v' w1 hown' hgrow _
          rw [prs_app, ← HS.out] at hown'
          have hb1 : Below w.heap.size w w1 := (hb.alloc hb.size _).grown hgrow (by have := hb.size; simp; omega) fun g hg => (hown.out.lt g hg).1
          have HO := Lib.hid hown'
          have HM2 : Hid (m + 1 = (sel (fP n) (k + 1)).length) := Lib.hid (by rw [HS.out, HM.out]; simp)
          clear hown' hown hgrow hb HS
          go_wp2
          go_roundw
          case rel => exact ⟨k + 1, m + 1, by omega, by rw [HD.out]; go_num, HM2, by omega, HO, hb1⟩
          case measure => have := HD.out; simp [intOf]; omega
      · have hs := sel_none (fP n) k (by rw [← hd, fP, if_neg hc])
        have HM2 : Hid (m = (sel (fP n) (k + 1)).length) := Lib.hid (by rw [hs]; exact HM.out)
        have HO : Hid (wr.ownsRow w.heap.size 66 2 u3 m (prs (sel (fP n) (k + 1)))) := Lib.hid (by rw [hs]; exact hown.out)
        have hcb : (n % d == 0) = false := by simpa using hc
        clear hd hs hc
        go_wp2
        go_roundw
        case rel => exact ⟨k + 1, m, by omega, by rw [HD.out]; go_num, HM2, by omega, HO, hb⟩
        case measure => have := HD.out; simp [intOf]; omega
    · obtain rfl : k = R := by omega
      rw [← hd] at hgt htop
      have hnd : decide (d * d ≤ n) = false := by simp; omega
      obtain ⟨A, c, rfl⟩ := row_form hown.out
      have HO := Lib.hid (own_of_row hown.out)
      have HC := Lib.hid (own_cap hown.out)
      clear hd
      go_wp2
      go_ret
      exact ⟨A, c, by rw [HF.out, ← HM.out]; rfl, by rw [HF.out]; exact HO.out, hb, by rw [HF.out, ← HM.out]; exact HC.out⟩
theorem factorsOf_any (n : Int) (w : World) (h0 : 1 ≤ n) (h1 : n ≤ 2000000) :
    Calls Try.prog 76 #[.int .i64 n] w fun e w' => ∃ A c, e = .returned (.slice A (facs n).length c) ∧ Own w' w.heap.size w'.heap.size A (prs (facs n)) ∧ Below w.heap.size w w' :=
  (factorsOf_cap n w h0 h1).mono fun _ _ ⟨A, c, h1, h2, h3, _⟩ => ⟨A, c, h1, h2, h3⟩

theorem apart_below (a b : Int) (w : World) (a1 : 0 ≤ a) (a2 : a ≤ 100000000000000) (b1 : 0 ≤ b) (b2 : b ≤ 100000000000000) :
    Calls Try.prog 72 #[.agg #[.int .i64 a, .int .i64 b]] w fun e w' => e = .returned (.int .i64 (b - a)) ∧ Below w.heap.size w w' :=
  (apart_any a b w a1 a2 b1 b2).mono fun _ _ ⟨he, hw⟩ => ⟨he, hw ▸ (Below.refl _ _).alloc (Nat.le_refl _) _⟩
/-- Two cells of a new block, as what is to be appended. -/
theorem two_new (w : World) (a b : Value) (t : TypeId) : ∀ j u, [a, b][j]? = some u → (w.alloc (.cells #[a, b] t)).cell? ((⟨w.heap.size, 0, none⟩ : Addr).add j) = some u := by
  intro j u hj
  match j, hj with
  | 0, hj => simp at hj; subst hj; simp [Addr.add]
  | 1, hj => simp at hj; subst hj; simp [Addr.add]
/-- The first k pairs' runs. -/
def gRk (xs : List (Int × Int)) (k : Nat) : List (Int × Int) := (xs.take k).filterMap gR
theorem gRk_succ (xs : List (Int × Int)) (k : Nat) (h : k < xs.length) : gRk xs (k + 1) = gRk xs k ++ (gR xs[k]).toList := by
  unfold gRk
  rw [List.take_succ_eq_append_getElem h, List.filterMap_append]
  cases hg : gR xs[k] <;> simp [hg]
theorem gRk_len (xs : List (Int × Int)) (k : Nat) : (gRk xs k).length ≤ k := by
  refine Nat.le_trans (List.length_filterMap_le _ _) ?_
  simp
  omega
/-- What the walks over a list of pairs of factors ask of each. -/
def PairB (x : Int × Int) : Prop := 0 ≤ x.1 ∧ x.1 ≤ x.2 ∧ x.2 ≤ 2000000
theorem facs_b (n : Int) (h0 : 1 ≤ n) (h1 : n ≤ 2000000) : ∀ x ∈ facs n, PairB x := fun x hx => by
  obtain ⟨a, b, c⟩ := (mem_facs n h0 x).1 hx
  refine ⟨by omega, b, ?_⟩
  have := Int.mul_le_mul_of_nonneg_right a (show 0 ≤ x.2 by omega)
  omega

end Go.Proofs.Ytkhjeleoppdjgab
