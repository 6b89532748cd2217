/- Chapter 5: the law TrianglesApart: the specification's side, the law. -/
import Derived.Test.YtcfpdlkkniilpaaGreatDoorRuZA
namespace Go.Proofs.YtcfpdlkkniilpaaGreatDoor
open Go.ChangeShapes Go.WideShapes Go.ChangeAt Go.RowKit Go.Shelf Go.Sort

theorem drop_rev (xs : List (Int × Int)) (f : Int × Int → List Int) (m : Nat) (h : m < xs.length) : ((xs.drop m).reverse).map f = ((xs.drop (m + 1)).reverse).map f ++ [f xs[m]] := by
  rw [List.drop_eq_getElem_cons h, List.reverse_cons, List.map_append]
  rfl
set_option maxHeartbeats 3200000 in
theorem spec_TrianglesApart_yes (n : Int) (w : World) (h0 : 1 ≤ n) (h1 : n ≤ 1000000) :
    Calls Tryz.prog 15 #[.int .i64 n] w (ResSS true ((runsL n).map triR).reverse w) := by
  obtain ⟨ir, hir, hzr0, hzr1, hzr2⟩ := info_parts infoRow2
  have HA := Lib.hid (betr_yes h0 h1)
  have hlen := runs_len n h0 h1
  have HB := Lib.hid (runs_b n h0 h1)
  have HFA := Lib.hid fun W => ruAll_runs n W h0 h1
  obtain ⟨xs, hxs⟩ : ∃ xs, xs = runsL n := ⟨_, rfl⟩
  rw [← hxs] at HFA HB hlen ⊢
  obtain ⟨N, hN⟩ : ∃ N, N = xs.length := ⟨_, rfl⟩
  rw [← hN] at HFA hlen
  have HN := Lib.hid hN
  clear hxs hN
  go_enter Tryz.func15, Tryz.ntmps15
  go_wp2_with (first
    | (go_at_call 34; refine (ruGood_any _ _).mono ?_; rw [HA.out]; rintro e w' ⟨rfl, rfl⟩)
    | (go_at_call 35; refine (HFA.out _).mono ?_; rintro e w1 ⟨A, c, rfl, ho, hb0⟩; have HO := Lib.hid ho; clear ho))
  have hz01 := hb0.size
  go_loopw [4, 6, 7] (fun v i _ wr => ∃ (j : Nat) (rs : List Value), j ≤ N ∧ i = .int .i64 ((j : Int) - 1) ∧ rs.length + j ≤ N ∧ Hid (Lists wr w1.heap.size v rs (((xs.drop j).reverse).map triR)) ∧ Below w1.heap.size w1 wr) (fun _ i _ _ => (intOf i + 1).toNat)
  case atStart => exact ⟨N, [], by omega, rfl, by simp, Lib.hid (by rw [HN.out, List.drop_length]; exact Lists.nil _ _), Below.refl _ _⟩
  case round =>
    obtain ⟨j, rs, hj, rfl, hrj, HL, hb⟩ := hrel
    by_cases hlt : 0 < j
    · obtain ⟨m, rfl⟩ : ∃ m, j = m + 1 := ⟨j - 1, by omega⟩
      have hcast : ((m + 1 : Nat) : Int) - 1 = (m : Int) := by omega
      rw [hcast]
      have hlx : m < xs.length := by rw [← HN.out]; omega
      obtain ⟨g, o, rfl, _, hg, hca0, hca1⟩ := (HO.out.below hb (Nat.le_refl _)).pair_ hlx
      obtain ⟨x0, x1, x2, x3⟩ := HB.out _ (List.getElem_mem hlx)
      have hsu := drop_rev xs triR m hlx
      obtain ⟨p, hp⟩ : ∃ p, p = xs[m] := ⟨_, rfl⟩
      rw [← hp] at hca0 hca1 x0 x1 x2 x3 hsu
      obtain ⟨a, b⟩ := p
      simp only [triR] at hca0 hca1 x0 x1 x2 x3 hsu
      have HSU := Lib.hid hsu
      have hmN : (m : Int) < (N : Int) := by omega
      have hbw := hb.alloc hb.size (.cells #[.int .i64 a, .int .i64 b] 31)
      clear hp hlx hsu hcast
      go_wp2_with (at_builtin; refine wpList_append_own _ rfl _ _ 34 rfl w1.heap.size 40 ir (.slice none 0 0) 1 24 Tryz.underlying34 hir hzr0 hzr1 hzr2 rfl (by decide) _ rs.length rs rfl (((HL.out.2.1.alloc _).alloc _).alloc _) ⟨wr.heap.size + 1 + 1, 0, none⟩ 1 1 [.slice (some ⟨wr.heap.size + 1, 0, none⟩) 2 2] rfl rfl ?c1 ?c2 ?c3 ?c4 ?c5 ?_)
      case c1 =>
        intro j u hj
        match j, hj with
        | 0, hj => simp at hj; subst hj; simp [Addr.add, go_sem]
      case c2 => intro u hu; simp at hu; subst hu; rfl
      case c3 => unfold maxLen; omega
      case c4 => omega
      case c5 => have := hbw.size; simp at this ⊢; omega
      · intro v' w2 hown' hgrow _
        have e : (wr.alloc (.cells #[.int .i64 a, .int .i64 b] 31)).heap.size = wr.heap.size + 1 := by simp
        rw [← e] at hown' hgrow
        have HL2 : Hid (Lists w2 w1.heap.size v' (rs ++ [.slice (some ⟨(wr.alloc (.cells #[.int .i64 a, .int .i64 b] 31)).heap.size, 0, none⟩) 2 2]) (((xs.drop m).reverse).map triR)) := Lib.hid (by rw [HSU.out]; exact HL.out.two ((Below.refl _ _).alloc (Nat.le_refl _) _) hb.size hown' hgrow)
        have hb1 : Below w1.heap.size w1 w2 := Lists.two_below hbw hbw.size (Nat.le_refl _) (HL.out.2.1.alloc _) hgrow
        clear hown' hgrow hb HL hbw hca0 hca1 e HSU
        go_wp2
        go_roundw
        case rel => exact ⟨m, _, by omega, rfl, by simp; omega, HL2, hb1⟩
        case measure => simp [intOf]
    · obtain rfl : j = 0 := by omega
      have HE : Hid (ResSS true (xs.map triR).reverse w (.returned (.tuple #[u4, .bool true])) wr) := Lib.hid (by
        have h := HL.out
        rw [List.drop_zero, List.map_reverse] at h
        exact resSS_of (h.wide hz01) (hb0.trans (hb.mono hz01)))
      go_wp2
      go_ret2
      exact HE.out
theorem tris_len (n : Int) (h0 : 1 ≤ n) (h1 : n ≤ 1000000) : (((runsL n).map triR).reverse).length ≤ 1500 := by
  have := runs_len n h0 h1
  simp
  omega
theorem spec_TrianglesApart_no (n : Int) (w : World) (h : n < 1 ∨ 1000000 < n) :
    Calls Tryz.prog 15 #[.int .i64 n] w (ResSS false [] w) := by
  have HA := Lib.hid (betr_no h)
  clear h
  go_enter Tryz.func15, Tryz.ntmps15
  go_wp2_with (go_at_call 34; refine (ruGood_any _ _).mono ?_; rw [HA.out]; rintro e w' ⟨rfl, rfl⟩)
  go_ret2
  exact resSS_nil (Below.refl _ _)
theorem impl_TrianglesApart_no (n : Int) (w : World) (h : n < 1 ∨ 1000000 < n) :
    Calls Tryz.prog 14 #[.int .i64 n] w (ResSS false [] w) := by
  have HA := Lib.hid (betr_no h)
  clear h
  go_enter Tryz.func14, Tryz.ntmps14
  go_wp2_with (go_at_call 32; refine (isRunned_any _ _).mono ?_; rw [HA.out]; rintro e w' ⟨rfl, rfl⟩)
  go_ret2
  exact resSS_nil (Below.refl _ _)
end Go.Proofs.YtcfpdlkkniilpaaGreatDoor
