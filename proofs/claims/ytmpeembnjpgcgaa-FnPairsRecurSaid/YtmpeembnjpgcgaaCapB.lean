/- GoOnBy's list and its capacity (the specification's). No condition. -/
import Derived.Test.YtmpeembnjpgcgaaCapA
import Derived.Test.YtmpeembnjpgcgaaAnR
namespace Go.Proofs.Ytmpeembnjpgcgaa
open Go.ChangeShapes Go.WideShapes Go.ChangeAt Go.RowKit
set_option maxHeartbeats 1600000 in
theorem spec_GoOnBy_cap (a b f c : Int) (N : Nat) (w : World) (h : GoOk a b f c N) :
    Calls Try.prog 19 #[.int .i64 a, .int .i64 b, .int .i64 f, .int .i64 c, .int .i64 N] w (ResC true (tab (gOn a b f c) N) w) := by
  obtain ⟨i0, hi0, hz0, hz1, hz2⟩ := info_parts infoInt
  obtain ⟨⟨a1, a2, b1, b2, c1, c2⟩, ⟨f1, f2⟩, m1, m2⟩ := h
  have HT := Lib.hid (allIn3 a b c (-1000) 1000 ⟨a1, a2, b1, b2, c1, c2⟩)
  have HF := Lib.hid (betw_yes f1 f2)
  have HM := Lib.hid (betw_yes m1 m2)
  have HBD := Lib.hid (gOn_11 a b f c a1 a2 b1 b2 c1 c2 f1 f2)
  go_enter Try.func19, Try.ntmps19
  go_wp2_with (first
    | (go_at_call 41; refine (l1All_any _ 3 3 [a, b, c] _ _ _ _ rfl (by omega) (rd_three w a b c _)).mono ?_; rw [HT.out]; rintro e w' ⟨rfl, rfl⟩)
    | (go_at_call 40; refine (in_any _ _ _ _).mono ?_; (first | rw [HF.out] | rw [HM.out]); rintro e w' ⟨rfl, rfl⟩))
  have hb0 : Below w.heap.size w (w.alloc (.cells #[.int .i64 a, .int .i64 b, .int .i64 c] 3)) := (Below.refl _ _).alloc (Nat.le_refl _) _
  generalize w.alloc (.cells #[.int .i64 a, .int .i64 b, .int .i64 c] 3) = w1 at *
  go_loopw [12, 13] (fun v i wr => ∃ k : Nat, k ≤ N ∧ i = .int .i64 k ∧ Hid (wr.ownsRow w.heap.size 3 1 v k (i64s (tab (gOn a b f c) k))) ∧ Below w.heap.size w wr) (fun _ i _ => N - (intOf i).toNat)
  case atStart => exact ⟨0, Nat.zero_le _, rfl, Lib.hid (World.ownsRow_nil _ _ _ _), hb0⟩
  case round =>
    obtain ⟨k, hk, rfl, hown, hb⟩ := hrel
    by_cases hlt : k < N
    · have hki : (k : Int) < (N : Int) := by omega
      have HS : Hid (i64s (tab (gOn a b f c) k) ++ [Value.int .i64 (gOn a b f c k)] = i64s (tab (gOn a b f c) (k + 1))) := Lib.hid (by rw [tab_snoc]; simp)
      match k, hk, hlt, hki, hown, HS with
      | 0, hk, hlt, hki, hown, HS =>
        have HS : Hid (_ ++ [Value.int .i64 a] = _) := HS
        have ho4 := Lib.hid hown.out
        go_wp2_with (at_builtin; refine wpList_append_own _ rfl _ _ 22 rfl w.heap.size 3 i0 (.int .i64 0) 1 8 Try.underlying22 hi0 hz0 hz1 hz2 rfl (by decide) _ _ _ rfl (ho4.out.alloc _) ⟨wr.heap.size, 0, none⟩ 1 1 [.int .i64 a] rfl rfl ?c1 ?c2 ?c3 ?c4 ?c5 ?_)
        case c1 =>
          intro j u hj
          match j, hj with
          | 0, hj => simp at hj; subst hj; simp [Addr.add]
        case c2 => intro u hu; simp at hu; subst hu; rfl
        case c3 => unfold maxLen; omega
        case c4 => omega
        case c5 => have := hb.size; simp; omega
        · intro v' w5 hown' hgrow _
          rw [HS.out] at hown'
          have hb5 : Below w.heap.size w w5 := (hb.alloc hb.size _).grown hgrow (by have := hb.size; simp; omega) fun g hg => (ho4.out.lt g hg).1
          have HO := Lib.hid hown'
          clear hown' hgrow hb hown
          go_wp2
          go_roundw
          case rel => exact ⟨1, by omega, by go_num, HO, hb5⟩
          case measure => simp [intOf]; omega
      | 1, hk, hlt, hki, hown, HS =>
        have HS : Hid (_ ++ [Value.int .i64 b] = _) := HS
        have ho4 := Lib.hid hown.out
        go_wp2_with (at_builtin; refine wpList_append_own _ rfl _ _ 22 rfl w.heap.size 3 i0 (.int .i64 0) 1 8 Try.underlying22 hi0 hz0 hz1 hz2 rfl (by decide) _ _ _ rfl (ho4.out.alloc _) ⟨wr.heap.size, 0, none⟩ 1 1 [.int .i64 b] rfl rfl ?c1 ?c2 ?c3 ?c4 ?c5 ?_)
        case c1 =>
          intro j u hj
          match j, hj with
          | 0, hj => simp at hj; subst hj; simp [Addr.add]
        case c2 => intro u hu; simp at hu; subst hu; rfl
        case c3 => unfold maxLen; omega
        case c4 => omega
        case c5 => have := hb.size; simp; omega
        · intro v' w5 hown' hgrow _
          rw [HS.out] at hown'
          have hb5 : Below w.heap.size w w5 := (hb.alloc hb.size _).grown hgrow (by have := hb.size; simp; omega) fun g hg => (ho4.out.lt g hg).1
          have HO := Lib.hid hown'
          clear hown' hgrow hb hown
          go_wp2
          go_roundw
          case rel => exact ⟨2, by omega, by go_num, HO, hb5⟩
          case measure => simp [intOf]; omega
      | j + 2, hk, hlt, hki, hown, HS =>
        obtain ⟨g, cap, rfl⟩ : ∃ g cap, u12 = .slice (some ⟨g, 0, none⟩) (j + 2) cap := by
          rcases hown.out.2 with ⟨_, h⟩ | ⟨g, cap, cur, h, _⟩
          · omega
          · exact ⟨g, cap, h⟩
        have hrow : Row wr w.heap.size g (j + 2) cap (gOn a b f c) := hown.out
        have e1 := hrow.cell (j := j + 1) (by omega)
        have e0 := hrow.cell (j := j) (by omega)
        obtain ⟨x1a, x1b⟩ := HBD.out (j + 1) (by omega)
        obtain ⟨x0a, x0b⟩ := HBD.out j (by omega)
        rw [gOn_two] at HS
        generalize gOn a b f c (j + 1) = x1 at *
        generalize gOn a b f c j = x0 at *
        obtain ⟨p1, p2⟩ := ten_le f x1 743008370688000 f1 f2 x1a x1b
        have q1 : IntKind.i64.wrap (f * x1) = f * x1 := IntWalk.i64_in _ (by omega)
        have q2 : IntKind.i64.wrap (f * x1 - x0) = f * x1 - x0 := IntWalk.i64_in _ (by omega)
        have q3 : IntKind.i64.wrap (f * x1 - x0 + c) = f * x1 - x0 + c := IntWalk.i64_in _ (by omega)
        clear hrow
        go_wp2_with fail
        have HW := Lib.hid (show wr.drew.ownsRow w.heap.size 3 1 (.slice (some ⟨g, 0, none⟩) (j + 2) cap) (j + 2) (i64s (tab (gOn a b f c) (j + 2))) from hown.out.drew)
        have HLW := Lib.hid (HW.out.alloc (.cells #[.int .i64 (f * x1 - x0 + c)] 3))
        have HBB := Lib.hid (show Below w.heap.size w wr.drew from hb.drew)
        have w1e : IntKind.i64.wrap ((j : Int) + 2 - 1) = (j : Int) + 1 := by rw [IntWalk.i64_in _ (by omega)]; omega
        have w2e : IntKind.i64.wrap (j : Int) = (j : Int) := IntWalk.i64_in _ (by omega)
        have i1 : (0 : Int) ≤ (j : Int) + 1 := by omega
        have i2 : (j : Int) + 1 < (j : Int) + 2 := by omega
        have i3 : (0 : Int) ≤ (j : Int) := by omega
        have i4 : (j : Int) < (j : Int) + 2 := by omega
        have i5 : ((j : Int) + 1).toNat = j + 1 := by omega
        clear hown hb
        go_region_law (refine step_append_lies _ rfl (.tmp 36) (.tmp 52) 22 rfl w.heap.size 3 i0 (.int .i64 0) 1 8 Try.underlying22 hi0 hz0 hz1 hz2 rfl (by decide) (.slice (some ⟨g, 0, none⟩) (j + 2) cap) (j + 2) (i64s (tab (gOn a b f c) (j + 2))) (by simp [Act.eval]) HLW.out ⟨wr.drew.heap.size, 0, none⟩ 1 1 [.int .i64 (f * x1 - x0 + c)] (by simp [Act.eval]) rfl (cell_one_new wr.drew _ _) (by intro u hu; simp at hu; subst hu; rfl) (by omega) (by unfold maxLen; omega) (by omega) (by have := HBB.out.size; simp at this ⊢; omega) _ rfl ?_; intro g2 cap2 w3 hown' hgrow hat hlt2; have HO := Lib.hid hown'; have HG := Lib.hid hgrow; clear hown' hgrow hat)
        all_goals
          clear q1 q2 q3 w1e w2e i1 i2 i3 i4 i5 p1 p2 e0 e1
          have HO2 : Hid (w3.ownsRow w.heap.size 3 1 (.slice (some ⟨g2, 0, none⟩) (j + 2 + 1) cap2) (j + 2 + 1) (i64s (tab (gOn a b f c) (j + 2 + 1)))) := Lib.hid (HS.out ▸ HO.out)
          have hb5 : Below w.heap.size w w3 := (HBB.out.alloc HBB.out.size _).grown HG.out (by have := HBB.out.size; simp at this ⊢; omega) fun g hg => (HW.out.lt g hg).1
          clear HG HBB HLW HW HO
          go_wp2
          go_roundw
          case rel => exact ⟨j + 3, by omega, by go_num, HO2, hb5⟩
          case measure => simp [intOf]; omega
    · obtain rfl : k = N := by omega
      obtain ⟨B, d, rfl⟩ := row_form hown.out
      go_wp2
      go_ret2
      exact ⟨B, d, by rw [tab_len]; exact row_cap hown.out, by rw [tab_len]; rfl, own_of_row hown.out, hb⟩
theorem spec_GoOnBy_c (a b f c m : Int) (w : World) : Calls Try.prog 19 #[.int .i64 a, .int .i64 b, .int .i64 f, .int .i64 c, .int .i64 m] w (ResC (goB a b f c m) (goL a b f c m) w) := by
  by_cases h : GoOk a b f c m
  · have e : goB a b f c m = true := decide_eq_true h
    rw [goL, e, cond_true]
    obtain ⟨N, rfl⟩ := Int.eq_ofNat_of_zero_le (show 0 ≤ m from h.2.2.1)
    exact spec_GoOnBy_cap a b f c N w h
  · have e : goB a b f c m = false := decide_eq_false h
    rw [goL, e, cond_false]
    exact (spec_GoOnBy_no a b f c m w h).mono fun _ _ h => resC_nil h
end Go.Proofs.Ytmpeembnjpgcgaa
