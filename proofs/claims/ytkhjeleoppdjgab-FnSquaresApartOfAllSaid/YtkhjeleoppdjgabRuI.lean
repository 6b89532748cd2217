/- Chapter 5: the law RectanglesOf. -/
import Derived.Test.YtkhjeleoppdjgabRuH
import Derived.Test.YtkhjeleoppdjgabRuL
namespace Go.Proofs.Ytkhjeleoppdjgab
open Go.ChangeShapes Go.WideShapes Go.ChangeAt Go.RowKit

def abL (x : Int × Int) : List Int := [x.1, x.2]
/-- What a function that hands back lists owes, out of its last world. -/
theorem resSS_of {w w1 : World} {V : Value} {rs : List Value} {yss : List (List Int)} (h : Lists w1 w.heap.size V rs yss) (hb : Below w.heap.size w w1) : ResSS true yss w (.returned (.tuple #[V, .bool true])) w1 := by
  obtain ⟨A, c, Af, cf, rfl, ho⟩ := h.ownL
  exact ⟨A, c, Af, cf, rfl, ho, hb⟩
theorem pre_lists (yss : List (List Int)) (L : Nat) (hn : yss.length ≤ 100000) (h : ∀ xs ∈ yss, xs.length ≤ L) (hL : L ≤ 1000) : pre (rowsOf yss) yss.length ≤ 1000000000 := by
  have := pre_le (rowsOf yss) yss.length L fun i hi => by
    have e : rowsOf yss i = yss[i] := by simp [rowsOf, List.getD_eq_getElem?_getD, hi]
    rw [e]
    exact h _ (List.getElem_mem hi)
  have h2 := Nat.mul_le_mul hn hL
  omega

set_option maxHeartbeats 1600000 in
theorem spec_RectanglesOf_yes (n : Int) (w : World) (h0 : 1 ≤ n) (h1 : n ≤ 1000000) :
    Calls Try.prog 14 #[.int .i64 n] w (ResSS true ((facs n).map abL) w) := by
  obtain ⟨ir, hir, hzr0, hzr1, hzr2⟩ := info_parts infoRow2
  have HA := Lib.hid (betr_yes h0 h1)
  have HF : Hid (facs n = sel (fP n) (rt n).toNat) := Lib.hid rfl
  have hr := rootN n h0 (by omega)
  generalize (rt n).toNat = R at hr HF
  have HLE := Lib.hid hr.le
  have hgt := hr.gt
  have htop := hr.top
  have r0 := hr.r0
  have r1 := hr.r1
  clear hr
  go_enter Try.func14, Try.ntmps14
  go_wp2_with (go_at_call 74; refine (ruGood_any _ _).mono ?_; rw [HA.out]; rintro e w' ⟨rfl, rfl⟩)
  go_loopw [4, 5] (fun v i wr => ∃ (k : Nat) (rs : List Value), k ≤ R ∧ i = .int .i64 ((k : Int) + 1) ∧ rs.length ≤ k ∧ Hid (Lists wr w.heap.size v rs ((sel (fP n) k).map abL)) ∧ Below w.heap.size w wr) (fun _ i _ => (R + 1 - intOf i).toNat)
  case atStart => exact ⟨0, [], by omega, by simp, by simp, Lib.hid (by rw [sel_zero]; exact Lists.nil _ _), Below.refl _ _⟩
  case round =>
    obtain ⟨k, rs, hk, rfl, hrk, HL, hb⟩ := hrel
    obtain ⟨d, hd⟩ : ∃ d : Int, d = (k : Int) + 1 := ⟨_, rfl⟩
    have HD := Lib.hid hd
    have s0 := sq_nn d
    rw [← hd]
    by_cases hlt : k < R
    · have hle := HLE.out k hlt
      rw [← hd] at hle
      have d1 : 1 ≤ d := by omega
      have d2 : d ≤ 1415 := by omega
      clear hgt htop
      by_cases hc : n % d = 0
      · have HS := Lib.hid (sel_some (fP n) k (x := (d, n / d)) (by rw [← hd, fP, if_pos hc]))
        have hq0 : 0 ≤ n / d := Int.ediv_nonneg (by omega) (by omega)
        have hq1 : n / d ≤ n := Int.ediv_le_self _ (by omega)
        clear hd
        go_wp2_with (at_builtin; refine wpList_append_own _ rfl _ _ 22 rfl w.heap.size 34 ir (.slice none 0 0) 1 24 Try.underlying22 hir hzr0 hzr1 hzr2 rfl (by decide) _ rs.length rs rfl ((HL.out.2.1.alloc _).alloc _) ⟨wr.heap.size + 1, 0, none⟩ 1 1 [.slice (some ⟨wr.heap.size, 0, none⟩) 2 2] rfl rfl ?c1 ?c2 ?c3 ?c4 ?c5 ?_)
        case c1 =>
          intro j u hj
          match j, hj with
          | 0, hj => simp at hj; subst hj; simp [Addr.add, go_sem]
        case c2 => intro u hu; simp at hu; subst hu; rfl
        case c3 => unfold maxLen; omega
        case c4 => omega
        case c5 => have := hb.size; simp at this ⊢; omega
        · intro v' w1 hown' hgrow _
          have HL2 : Hid (Lists w1 w.heap.size v' (rs ++ [.slice (some ⟨wr.heap.size, 0, none⟩) 2 2]) ((sel (fP n) (k + 1)).map abL)) := Lib.hid (by rw [HS.out, List.map_append]; exact HL.out.two (Below.refl _ _) hb.size hown' hgrow)
          have hb1 : Below w.heap.size w w1 := Lists.two_below hb hb.size (Nat.le_refl _) HL.out.2.1 hgrow
          clear hown' hgrow hb HS HL
          go_wp2
          go_roundw
          case rel => exact ⟨k + 1, _, by omega, by rw [HD.out]; go_num, by simp; omega, HL2, hb1⟩
          case measure => have := HD.out; simp [intOf]; omega
      · have hs := sel_none (fP n) k (by rw [← hd, fP, if_neg hc])
        have HL2 : Hid (Lists wr w.heap.size u4 rs ((sel (fP n) (k + 1)).map abL)) := Lib.hid (by rw [hs]; exact HL.out)
        have hcb : (n % d == 0) = false := by simpa using hc
        clear hd hs hc
        go_wp2
        go_roundw
        case rel => exact ⟨k + 1, rs, by omega, by rw [HD.out]; go_num, by omega, HL2, hb⟩
        case measure => have := HD.out; simp [intOf]; omega
    · obtain rfl : k = R := by omega
      rw [← hd] at hgt htop
      have hnd : decide (d * d ≤ n) = false := by simp; omega
      have HE := Lib.hid (resSS_of HL.out hb)
      clear hd
      go_wp2
      go_ret2
      rw [HF.out]
      exact HE.out
set_option maxHeartbeats 1600000 in
theorem impl_RectanglesOf_yes (n : Int) (w : World) (h0 : 1 ≤ n) (h1 : n ≤ 1000000) :
    Calls Try.prog 13 #[.int .i64 n] w (ResSS true ((facs n).map abL) w) := by
  obtain ⟨ir, hir, hzr0, hzr1, hzr2⟩ := info_parts infoRow2
  have HA := Lib.hid (betr_yes h0 h1)
  have hlen := facs_len n h0 (by omega)
  have HFA := Lib.hid fun W => factorsOf_any n W h0 (by omega)
  obtain ⟨xs, hxs⟩ : ∃ xs, xs = facs n := ⟨_, rfl⟩
  rw [← hxs] at HFA hlen ⊢
  obtain ⟨N, hN⟩ : ∃ N, N = xs.length := ⟨_, rfl⟩
  rw [← hN] at HFA hlen
  have HN := Lib.hid hN
  clear hxs hN
  go_enter Try.func13, Try.ntmps13
  go_wp2_with (first
    | (go_at_call 70; refine (isRunned_any _ _).mono ?_; rw [HA.out]; rintro e w' ⟨rfl, rfl⟩)
    | (go_at_call 76; refine (HFA.out _).mono ?_; rintro e w1 ⟨A, c, rfl, ho, hb0⟩; have HO := Lib.hid ho; clear ho))
  have hz01 := hb0.size
  go_loopw [4, 13] (fun v i wr => ∃ (k : Nat) (rs : List Value), k ≤ N ∧ i = .int .i64 (k : Int) ∧ rs.length ≤ k ∧ Hid (Lists wr w1.heap.size v rs ((xs.take k).map abL)) ∧ Below w1.heap.size w1 wr) (fun _ i _ => N - (intOf i).toNat)
  case atStart => exact ⟨0, [], by omega, by simp, by simp, Lib.hid (by simpa using Lists.nil _ _), Below.refl _ _⟩
  case round =>
    obtain ⟨k, rs, hk, rfl, hrk, HL, hb⟩ := hrel
    by_cases hlt : k < N
    · have hlx : k < xs.length := by rw [← HN.out]; exact hlt
      obtain ⟨g, o, rfl, _, hg, hca0, hca1⟩ := (HO.out.below hb (Nat.le_refl _)).pair_ hlx
      have HS := Lib.hid (List.take_succ_eq_append_getElem hlx)
      obtain ⟨p, hp⟩ : ∃ p, p = xs[k] := ⟨_, rfl⟩
      rw [← hp] at hca0 hca1 HS
      obtain ⟨a, b⟩ := p
      simp only at hca0 hca1
      have hkN : (k : Int) < (N : Int) := by omega
      have hbw := hb.alloc hb.size (.cells #[.int .i64 a, .int .i64 b] 66)
      clear hp hlx
      go_wp2_with (at_builtin; refine wpList_append_own _ rfl _ _ 22 rfl w1.heap.size 34 ir (.slice none 0 0) 1 24 Try.underlying22 hir hzr0 hzr1 hzr2 rfl (by decide) _ rs.length rs rfl (((HL.out.2.1.alloc _).alloc _).alloc _) ⟨wr.heap.size + 1 + 1, 0, none⟩ 1 1 [.slice (some ⟨wr.heap.size + 1, 0, none⟩) 2 2] rfl rfl ?c1 ?c2 ?c3 ?c4 ?c5 ?_)
      case c1 =>
        intro j u hj
        match j, hj with
        | 0, hj => simp at hj; subst hj; simp [Addr.add, go_sem]
      case c2 => intro u hu; simp at hu; subst hu; rfl
      case c3 => unfold maxLen; omega
      case c4 => omega
      case c5 => have := hbw.size; simp at this ⊢; omega
      · intro v' w2 hown' hgrow _
        have e : (wr.alloc (.cells #[.int .i64 a, .int .i64 b] 66)).heap.size = wr.heap.size + 1 := by simp
        rw [← e] at hown' hgrow
        have HL2 : Hid (Lists w2 w1.heap.size v' (rs ++ [.slice (some ⟨(wr.alloc (.cells #[.int .i64 a, .int .i64 b] 66)).heap.size, 0, none⟩) 2 2]) ((xs.take (k + 1)).map abL)) := Lib.hid (by rw [HS.out, List.map_append]; exact HL.out.two ((Below.refl _ _).alloc (Nat.le_refl _) _) hb.size hown' hgrow)
        have hb1 : Below w1.heap.size w1 w2 := Lists.two_below hbw hbw.size (Nat.le_refl _) (HL.out.2.1.alloc _) hgrow
        clear hown' hgrow hb HS HL hbw hca0 hca1 e
        go_wp2
        go_roundw
        case rel => exact ⟨k + 1, _, by omega, by go_num, by simp; omega, HL2, hb1⟩
        case measure => simp [intOf]; omega
    · obtain rfl : k = N := by omega
      have HE : Hid (ResSS true (xs.map abL) w (.returned (.tuple #[u4, .bool true])) wr) := Lib.hid (by
        have h := HL.out
        rw [HN.out, List.take_length] at h
        exact resSS_of (h.wide hz01) (hb0.trans (hb.mono hz01)))
      go_wp2
      go_ret2
      exact HE.out
theorem spec_RectanglesOf_no (n : Int) (w : World) (h : n < 1 ∨ 1000000 < n) :
    Calls Try.prog 14 #[.int .i64 n] w (ResSS false [] w) := by
  have HA := Lib.hid (betr_no h)
  clear h
  go_enter Try.func14, Try.ntmps14
  go_wp2_with (go_at_call 74; refine (ruGood_any _ _).mono ?_; rw [HA.out]; rintro e w' ⟨rfl, rfl⟩)
  go_ret2
  exact resSS_nil (Below.refl _ _)
theorem impl_RectanglesOf_no (n : Int) (w : World) (h : n < 1 ∨ 1000000 < n) :
    Calls Try.prog 13 #[.int .i64 n] w (ResSS false [] w) := by
  have HA := Lib.hid (betr_no h)
  clear h
  go_enter Try.func13, Try.ntmps13
  go_wp2_with (go_at_call 70; refine (isRunned_any _ _).mono ?_; rw [HA.out]; rintro e w' ⟨rfl, rfl⟩)
  go_ret2
  exact resSS_nil (Below.refl _ _)
end Go.Proofs.Ytkhjeleoppdjgab
