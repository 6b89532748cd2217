/- Chapter 4: going on by a recurrence: the mathematics, the specification's side, the law's frame. -/
import Derived.Test.YtmpeembnjpgcgaaSdH
import Derived.Deep.RegionLaw
import Derived.Deep.AppendLies
namespace Go.Proofs.Ytmpeembnjpgcgaa
open Go.ChangeShapes Go.WideShapes Go.ChangeAt Go.RowKit

/-- The numbers of a recurrence. -/
def gOn (a b f c : Int) : Nat → Int
  | 0 => a
  | 1 => b
  | n + 2 => f * gOn a b f c (n + 1) - gOn a b f c n + c
theorem gOn_two (a b f c : Int) (n : Nat) : gOn a b f c (n + 2) = f * gOn a b f c (n + 1) - gOn a b f c n + c := rfl
theorem ten_le (f x B : Int) (h1 : -10 ≤ f) (h2 : f ≤ 10) (h3 : -B ≤ x) (h4 : x ≤ B) : f * x ≤ 10 * B ∧ -(10 * B) ≤ f * x := by
  have hB : 0 ≤ B := by omega
  rcases Int.le_total 0 f with h | h
  · have a1 := Int.mul_le_mul_of_nonneg_left h4 h
    have a2 := Int.mul_le_mul_of_nonneg_left h3 h
    have a3 := Int.mul_le_mul_of_nonneg_right h2 hB
    rw [Int.mul_neg] at a2
    omega
  · have a1 := Int.mul_le_mul_of_nonneg_left h4 (show 0 ≤ -f by omega)
    have a2 := Int.mul_le_mul_of_nonneg_left h3 (show 0 ≤ -f by omega)
    have a3 := Int.mul_le_mul_of_nonneg_right (show -f ≤ 10 by omega) hB
    simp only [Int.neg_mul, Int.mul_neg, Int.neg_neg] at a1 a2 a3
    omega
theorem gOn_bd (a b f c : Int) (a1 : -1000 ≤ a) (a2 : a ≤ 1000) (b1 : -1000 ≤ b) (b2 : b ≤ 1000) (c1 : -1000 ≤ c) (c2 : c ≤ 1000) (f1 : -10 ≤ f) (f2 : f ≤ 10) (n : Nat) :
    (-(1000 * 12 ^ n) ≤ gOn a b f c n ∧ gOn a b f c n ≤ 1000 * 12 ^ n) ∧ (-(1000 * 12 ^ (n + 1)) ≤ gOn a b f c (n + 1) ∧ gOn a b f c (n + 1) ≤ 1000 * 12 ^ (n + 1)) := by
  induction n with
  | zero => simp [gOn]; omega
  | succ n ih =>
    refine ⟨ih.2, ?_⟩
    obtain ⟨⟨i1, i2⟩, i3, i4⟩ := ih
    have hp : (1 : Int) ≤ 12 ^ n := Int.pow_pos (by omega)
    have e1 : (12 : Int) ^ (n + 1) = 12 ^ n * 12 := Int.pow_succ _ _
    have e2 : (12 : Int) ^ (n + 1 + 1) = 12 ^ n * 12 * 12 := by rw [Int.pow_succ, e1]
    have ht := ten_le f (gOn a b f c (n + 1)) (1000 * 12 ^ (n + 1)) f1 f2 i3 i4
    rw [gOn_two]
    rw [e1] at ht i3 i4
    rw [e2]
    omega
theorem gOn_11 (a b f c : Int) (a1 : -1000 ≤ a) (a2 : a ≤ 1000) (b1 : -1000 ≤ b) (b2 : b ≤ 1000) (c1 : -1000 ≤ c) (c2 : c ≤ 1000) (f1 : -10 ≤ f) (f2 : f ≤ 10) (n : Nat) (hn : n ≤ 11) :
    -743008370688000 ≤ gOn a b f c n ∧ gOn a b f c n ≤ 743008370688000 := by
  have h := (gOn_bd a b f c a1 a2 b1 b2 c1 c2 f1 f2 n).1
  have hp : (12 : Int) ^ n ≤ 743008370688 := (show ∀ n : Nat, n ≤ 11 → (12 : Int) ^ n ≤ 743008370688 by decide) n hn
  omega
/-- A number lies between two. -/
def betw (x lo hi : Int) : Bool := decide (lo ≤ x ∧ x ≤ hi)
theorem betw_yes {x lo hi : Int} (h1 : lo ≤ x) (h2 : x ≤ hi) : betw x lo hi = true := decide_eq_true ⟨h1, h2⟩
theorem betw_no {x lo hi : Int} (h : x < lo ∨ hi < x) : betw x lo hi = false := decide_eq_false (by omega)
theorem in_any (x lo hi : Int) (w : World) : Calls Try.prog 40 #[.int .i64 x, .int .i64 lo, .int .i64 hi] w fun e w' => e = .returned (.bool (betw x lo hi)) ∧ w = w' := by
  by_cases h : x < lo ∨ hi < x
  · rw [betw_no h]; exact in_no _ _ _ _ h
  · rw [betw_yes (x := x) (lo := lo) (hi := hi) (by omega) (by omega)]; exact in_yes _ _ _ _ (by omega) (by omega)
theorem tab_snoc (f : Nat → Int) (n : Nat) : tab f (n + 1) = tab f n ++ [f n] := by simp [tab, List.range_succ]
theorem rd_three (w : World) (a b c : Int) (t : TypeId) : Rd (w.alloc (.cells #[.int .i64 a, .int .i64 b, .int .i64 c] t)) (w.alloc (.cells #[.int .i64 a, .int .i64 b, .int .i64 c] t)).heap.size (some ⟨w.heap.size, 0, none⟩) (i64s [a, b, c]) := fun _ => by
  refine ⟨⟨w.heap.size, 0, none⟩, rfl, by simp, fun j u hu => ?_⟩
  match j, hu with
  | 0, hu => simp at hu; subst hu; simp [Addr.add]
  | 1, hu => simp at hu; subst hu; simp [Addr.add, go_sem]
  | 2, hu => simp at hu; subst hu; simp [Addr.add, go_sem]
theorem allIn3 (a b c lo hi : Int) (h : lo ≤ a ∧ a ≤ hi ∧ lo ≤ b ∧ b ≤ hi ∧ lo ≤ c ∧ c ≤ hi) : allIn [a, b, c] lo hi = true := by
  simp only [allIn, List.all_cons, List.all_nil, Bool.and_true, Bool.and_eq_true, decide_eq_true_eq]
  omega
theorem allIn3_no (a b c lo hi : Int) (h : ¬ (lo ≤ a ∧ a ≤ hi ∧ lo ≤ b ∧ b ≤ hi ∧ lo ≤ c ∧ c ≤ hi)) : allIn [a, b, c] lo hi = false := by
  simp only [allIn, List.all_cons, List.all_nil, Bool.and_true, Bool.and_eq_false_iff, decide_eq_false_iff_not]
  omega
/-- What is asked of the five. -/
def GoOk (a b f c m : Int) : Prop := (-1000 ≤ a ∧ a ≤ 1000 ∧ -1000 ≤ b ∧ b ≤ 1000 ∧ -1000 ≤ c ∧ c ≤ 1000) ∧ (-10 ≤ f ∧ f ≤ 10) ∧ (0 ≤ m ∧ m ≤ 12)
set_option maxHeartbeats 800000 in
theorem spec_GoOnBy_no (a b f c m : Int) (w : World) (h : ¬ GoOk a b f c m) :
    Calls Try.prog 19 #[.int .i64 a, .int .i64 b, .int .i64 f, .int .i64 c, .int .i64 m] w (ResI false [] w) := by
  by_cases h1 : -1000 ≤ a ∧ a ≤ 1000 ∧ -1000 ≤ b ∧ b ≤ 1000 ∧ -1000 ≤ c ∧ c ≤ 1000
  · have HT := Lib.hid (allIn3 a b c (-1000) 1000 h1)
    by_cases h2 : -10 ≤ f ∧ f ≤ 10
    · have h3 : m < 0 ∨ 12 < m := by
        rcases Int.lt_or_le m 0 with h5 | h5
        · exact .inl h5
        · rcases Int.lt_or_le 12 m with h6 | h6
          · exact .inr h6
          · exact absurd ⟨h1, h2, h5, h6⟩ h
      have HM := Lib.hid (betw_no h3)
      have HF := Lib.hid (betw_yes h2.1 h2.2)
      clear h h1 h2 h3
      go_enter Try.func19, Try.ntmps19
      go_wp2_with (first
        | (go_at_call 41; refine (l1All_any _ 3 3 [a, b, c] _ _ _ _ rfl (by omega) (rd_three w a b c _)).mono ?_; rw [HT.out]; rintro e w' ⟨rfl, rfl⟩)
        | (go_at_call 40; refine (in_any _ _ _ _).mono ?_; (first | rw [HF.out] | rw [HM.out]); rintro e w' ⟨rfl, rfl⟩))
      go_ret2
      exact resI_nil ((Below.refl _ _).alloc (Nat.le_refl _) _)
    · have HF : Hid (betw f (-10) 10 = false) := Lib.hid (betw_no (by omega))
      have HM := HF
      clear h h1 h2
      go_enter Try.func19, Try.ntmps19
      go_wp2_with (first
        | (go_at_call 41; refine (l1All_any _ 3 3 [a, b, c] _ _ _ _ rfl (by omega) (rd_three w a b c _)).mono ?_; rw [HT.out]; rintro e w' ⟨rfl, rfl⟩)
        | (go_at_call 40; refine (in_any _ _ _ _).mono ?_; (first | rw [HF.out] | rw [HM.out]); rintro e w' ⟨rfl, rfl⟩))
      go_ret2
      exact resI_nil ((Below.refl _ _).alloc (Nat.le_refl _) _)
  · have HT := Lib.hid (allIn3_no a b c (-1000) 1000 h1)
    clear h h1
    go_enter Try.func19, Try.ntmps19
    go_wp2_with (go_at_call 41; refine (l1All_any _ 3 3 [a, b, c] _ _ _ _ rfl (by omega) (rd_three w a b c _)).mono ?_; rw [HT.out]; rintro e w' ⟨rfl, rfl⟩)
    go_ret2
    exact resI_nil ((Below.refl _ _).alloc (Nat.le_refl _) _)
set_option maxHeartbeats 1600000 in
theorem spec_GoOnBy_yes (a b f c : Int) (N : Nat) (w : World) (h : GoOk a b f c N) :
    Calls Try.prog 19 #[.int .i64 a, .int .i64 b, .int .i64 f, .int .i64 c, .int .i64 N] w (ResI true (tab (gOn a b f c) N) w) := by
  obtain ⟨i0, hi0, hz0, hz1, hz2⟩ := info_parts infoInt
  obtain ⟨⟨a1, a2, b1, b2, c1, c2⟩, ⟨f1, f2⟩, m1, m2⟩ := h
  have HT := Lib.hid (allIn3 a b c (-1000) 1000 ⟨a1, a2, b1, b2, c1, c2⟩)
  have HF := Lib.hid (betw_yes f1 f2)
  have HM := Lib.hid (betw_yes m1 m2)
  have HBD := Lib.hid (gOn_11 a b f c a1 a2 b1 b2 c1 c2 f1 f2)
  go_enter Try.func19, Try.ntmps19
  go_wp2_with (first
    | (go_at_call 41; refine (l1All_any _ 3 3 [a, b, c] _ _ _ _ rfl (by omega) (rd_three w a b c _)).mono ?_; rw [HT.out]; rintro e w' ⟨rfl, rfl⟩)
    | (go_at_call 40; refine (in_any _ _ _ _).mono ?_; (first | rw [HF.out] | rw [HM.out]); rintro e w' ⟨rfl, rfl⟩))
  have hb0 : Below w.heap.size w (w.alloc (.cells #[.int .i64 a, .int .i64 b, .int .i64 c] 3)) := (Below.refl _ _).alloc (Nat.le_refl _) _
  generalize w.alloc (.cells #[.int .i64 a, .int .i64 b, .int .i64 c] 3) = w1 at *
  go_loopw [12, 13] (fun v i wr => ∃ k : Nat, k ≤ N ∧ i = .int .i64 k ∧ Hid (wr.ownsRow w.heap.size 3 1 v k (i64s (tab (gOn a b f c) k))) ∧ Below w.heap.size w wr) (fun _ i _ => N - (intOf i).toNat)
  case atStart => exact ⟨0, Nat.zero_le _, rfl, Lib.hid (World.ownsRow_nil _ _ _ _), hb0⟩
  case round =>
    obtain ⟨k, hk, rfl, hown, hb⟩ := hrel
    by_cases hlt : k < N
    · have hki : (k : Int) < (N : Int) := by omega
      have HS : Hid (i64s (tab (gOn a b f c) k) ++ [Value.int .i64 (gOn a b f c k)] = i64s (tab (gOn a b f c) (k + 1))) := Lib.hid (by rw [tab_snoc]; simp)
      match k, hk, hlt, hki, hown, HS with
      | 0, hk, hlt, hki, hown, HS =>
        have HS : Hid (_ ++ [Value.int .i64 a] = _) := HS
        have ho4 := Lib.hid hown.out
        go_wp2_with (at_builtin; refine wpList_append_own _ rfl _ _ 22 rfl w.heap.size 3 i0 (.int .i64 0) 1 8 Try.underlying22 hi0 hz0 hz1 hz2 rfl (by decide) _ _ _ rfl (ho4.out.alloc _) ⟨wr.heap.size, 0, none⟩ 1 1 [.int .i64 a] rfl rfl ?c1 ?c2 ?c3 ?c4 ?c5 ?_)
        case c1 =>
          intro j u hj
          match j, hj with
          | 0, hj => simp at hj; subst hj; simp [Addr.add]
        case c2 => intro u hu; simp at hu; subst hu; rfl
        case c3 => unfold maxLen; omega
        case c4 => omega
        case c5 => have := hb.size; simp; omega
        · intro v' w5 hown' hgrow _
          rw [HS.out] at hown'
          have hb5 : Below w.heap.size w w5 := (hb.alloc hb.size _).grown hgrow (by have := hb.size; simp; omega) fun g hg => (ho4.out.lt g hg).1
          have HO := Lib.hid hown'
          clear hown' hgrow hb hown
          go_wp2
          go_roundw
          case rel => exact ⟨1, by omega, by go_num, HO, hb5⟩
          case measure => simp [intOf]; omega
      | 1, hk, hlt, hki, hown, HS =>
        have HS : Hid (_ ++ [Value.int .i64 b] = _) := HS
        have ho4 := Lib.hid hown.out
        go_wp2_with (at_builtin; refine wpList_append_own _ rfl _ _ 22 rfl w.heap.size 3 i0 (.int .i64 0) 1 8 Try.underlying22 hi0 hz0 hz1 hz2 rfl (by decide) _ _ _ rfl (ho4.out.alloc _) ⟨wr.heap.size, 0, none⟩ 1 1 [.int .i64 b] rfl rfl ?c1 ?c2 ?c3 ?c4 ?c5 ?_)
        case c1 =>
          intro j u hj
          match j, hj with
          | 0, hj => simp at hj; subst hj; simp [Addr.add]
        case c2 => intro u hu; simp at hu; subst hu; rfl
        case c3 => unfold maxLen; omega
        case c4 => omega
        case c5 => have := hb.size; simp; omega
        · intro v' w5 hown' hgrow _
          rw [HS.out] at hown'
          have hb5 : Below w.heap.size w w5 := (hb.alloc hb.size _).grown hgrow (by have := hb.size; simp; omega) fun g hg => (ho4.out.lt g hg).1
          have HO := Lib.hid hown'
          clear hown' hgrow hb hown
          go_wp2
          go_roundw
          case rel => exact ⟨2, by omega, by go_num, HO, hb5⟩
          case measure => simp [intOf]; omega
      | j + 2, hk, hlt, hki, hown, HS =>
        obtain ⟨g, cap, rfl⟩ : ∃ g cap, u12 = .slice (some ⟨g, 0, none⟩) (j + 2) cap := by
          rcases hown.out.2 with ⟨_, h⟩ | ⟨g, cap, cur, h, _⟩
          · omega
          · exact ⟨g, cap, h⟩
        have hrow : Row wr w.heap.size g (j + 2) cap (gOn a b f c) := hown.out
        have e1 := hrow.cell (j := j + 1) (by omega)
        have e0 := hrow.cell (j := j) (by omega)
        obtain ⟨x1a, x1b⟩ := HBD.out (j + 1) (by omega)
        obtain ⟨x0a, x0b⟩ := HBD.out j (by omega)
        rw [gOn_two] at HS
        generalize gOn a b f c (j + 1) = x1 at *
        generalize gOn a b f c j = x0 at *
        obtain ⟨p1, p2⟩ := ten_le f x1 743008370688000 f1 f2 x1a x1b
        have q1 : IntKind.i64.wrap (f * x1) = f * x1 := IntWalk.i64_in _ (by omega)
        have q2 : IntKind.i64.wrap (f * x1 - x0) = f * x1 - x0 := IntWalk.i64_in _ (by omega)
        have q3 : IntKind.i64.wrap (f * x1 - x0 + c) = f * x1 - x0 + c := IntWalk.i64_in _ (by omega)
        clear hrow
        go_wp2_with fail
        have HW := Lib.hid (show wr.drew.ownsRow w.heap.size 3 1 (.slice (some ⟨g, 0, none⟩) (j + 2) cap) (j + 2) (i64s (tab (gOn a b f c) (j + 2))) from hown.out.drew)
        have HLW := Lib.hid (HW.out.alloc (.cells #[.int .i64 (f * x1 - x0 + c)] 3))
        have HBB := Lib.hid (show Below w.heap.size w wr.drew from hb.drew)
        have w1e : IntKind.i64.wrap ((j : Int) + 2 - 1) = (j : Int) + 1 := by rw [IntWalk.i64_in _ (by omega)]; omega
        have w2e : IntKind.i64.wrap (j : Int) = (j : Int) := IntWalk.i64_in _ (by omega)
        have i1 : (0 : Int) ≤ (j : Int) + 1 := by omega
        have i2 : (j : Int) + 1 < (j : Int) + 2 := by omega
        have i3 : (0 : Int) ≤ (j : Int) := by omega
        have i4 : (j : Int) < (j : Int) + 2 := by omega
        have i5 : ((j : Int) + 1).toNat = j + 1 := by omega
        clear hown hb
        go_region_law (refine step_append_lies _ rfl (.tmp 36) (.tmp 52) 22 rfl w.heap.size 3 i0 (.int .i64 0) 1 8 Try.underlying22 hi0 hz0 hz1 hz2 rfl (by decide) (.slice (some ⟨g, 0, none⟩) (j + 2) cap) (j + 2) (i64s (tab (gOn a b f c) (j + 2))) (by simp [Act.eval]) HLW.out ⟨wr.drew.heap.size, 0, none⟩ 1 1 [.int .i64 (f * x1 - x0 + c)] (by simp [Act.eval]) rfl (cell_one_new wr.drew _ _) (by intro u hu; simp at hu; subst hu; rfl) (by omega) (by unfold maxLen; omega) (by omega) (by have := HBB.out.size; simp at this ⊢; omega) _ rfl ?_; intro g2 cap2 w3 hown' hgrow hat hlt2; have HO := Lib.hid hown'; have HG := Lib.hid hgrow; clear hown' hgrow hat)
        all_goals
          clear q1 q2 q3 w1e w2e i1 i2 i3 i4 i5 p1 p2 e0 e1
          have HO2 : Hid (w3.ownsRow w.heap.size 3 1 (.slice (some ⟨g2, 0, none⟩) (j + 2 + 1) cap2) (j + 2 + 1) (i64s (tab (gOn a b f c) (j + 2 + 1)))) := Lib.hid (HS.out ▸ HO.out)
          have hb5 : Below w.heap.size w w3 := (HBB.out.alloc HBB.out.size _).grown HG.out (by have := HBB.out.size; simp at this ⊢; omega) fun g hg => (HW.out.lt g hg).1
          clear HG HBB HLW HW HO
          go_wp2
          go_roundw
          case rel => exact ⟨j + 3, by omega, by go_num, HO2, hb5⟩
          case measure => simp [intOf]; omega
    · obtain rfl : k = N := by omega
      obtain ⟨B, d, rfl⟩ := row_form hown.out
      go_wp2
      go_ret2
      exact ⟨B, d, by rw [tab_len]; rfl, own_of_row hown.out, hb⟩
end Go.Proofs.Ytmpeembnjpgcgaa
