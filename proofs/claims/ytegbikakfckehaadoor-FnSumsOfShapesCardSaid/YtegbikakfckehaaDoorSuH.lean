/- The laws FnExactCountDifferentSums and FnExactNoDifferentSum: the program counts sums of different places as the specification does, whatever the arguments. No condition. -/
import Derived.Test.YtegbikakfckehaaDoorMb
namespace Go.Proofs.YtegbikakfckehaaDoor
open Go.ChangeShapes Go.WideShapes Go.ChangeAt Go.RowKit

theorem spec_CountDifferentSums_no (s n : Int) (w : World) (h : (s < 3 ∨ 24 < s) ∨ (n < 0 ∨ 3000 < n)) :
    Calls Tryd.prog 23 #[.int .i64 s, .int .i64 n] w fun e w' => e = .returned (.tuple #[.int .i64 0, .bool false]) ∧ Below w.heap.size w w' := by
  have H := Lib.hid h
  clear h
  go_enter Tryd.func23, Tryd.ntmps23
  go_wp2_with (go_at_call 44; refine (suGood_no _ _ _ H.out).mono ?_; rintro e w' ⟨rfl, rfl⟩)
  go_ret2
  exact ⟨rfl, Below.refl _ _⟩
theorem impl_CountDifferentSums_no (s n : Int) (w : World) (h : (s < 3 ∨ 24 < s) ∨ (n < 0 ∨ 3000 < n)) :
    Calls Tryd.prog 22 #[.int .i64 s, .int .i64 n] w fun e w' => e = .returned (.tuple #[.int .i64 0, .bool false]) ∧ Below w.heap.size w w' := by
  have H := Lib.hid h
  clear h
  go_enter Tryd.func22, Tryd.ntmps22
  go_wp2_with (go_at_call 38; refine (assum_no _ _ _ H.out).mono ?_; rintro e w' ⟨rfl, rfl⟩)
  go_ret2
  exact ⟨rfl, Below.refl _ _⟩

theorem spec_CountDifferentSums_yes (s : Int) (N : Nat) (w : World) (h1 : 3 ≤ s) (h2 : s ≤ 24) (hN : N ≤ 3000) :
    Calls Tryd.prog 23 #[.int .i64 s, .int .i64 N] w fun e w' => e = .returned (.tuple #[.int .i64 (D s (pl s N).toNat N), .bool true]) ∧ Below w.heap.size w w' := by
  have i1 : (0 : Int) ≤ (N : Int) := by omega
  have i2 : (N : Int) ≤ 3000 := by omega
  go_enter Tryd.func23, Tryd.ntmps23
  go_wp2_with (first
    | (go_at_call 44; refine (suGood_yes _ _ _ h1 h2 i1 i2).mono ?_; rintro e w' ⟨rfl, rfl⟩)
    | (go_at_call 49; refine (suDifferent_any _ _ _ h1 h2 hN).mono ?_; rintro e w1 ⟨⟨g, c, rfl, hr⟩, hb⟩; have hc := hr.cell (j := N) (by omega)))
  go_ret2
  exact ⟨rfl, hb⟩
theorem impl_CountDifferentSums_yes (s : Int) (N : Nat) (w : World) (h1 : 3 ≤ s) (h2 : s ≤ 24) (hN : N ≤ 3000) :
    Calls Tryd.prog 22 #[.int .i64 s, .int .i64 N] w fun e w' => e = .returned (.tuple #[.int .i64 (D s (pl s N).toNat N), .bool true]) ∧ Below w.heap.size w w' := by
  have i1 : (0 : Int) ≤ (N : Int) := by omega
  have i2 : (N : Int) ≤ 3000 := by omega
  have p1 := pl_77 s N h1 (by omega) (by omega)
  go_enter Tryd.func22, Tryd.ntmps22
  go_wp2_with (first
    | (go_at_call 38; refine (assum_yes _ _ _ h1 h2 i1 i2).mono ?_; rintro e w' ⟨rfl, rfl⟩)
    | (go_at_call 40; refine (numbersByPlace_any _ _ _ h1 h2 hN).mono ?_; rintro e w1 ⟨⟨g, c, rfl, hr⟩, hb⟩; have HR := Lib.hid hr; clear hr)
    | (go_at_call 48; refine (differentWays_any _ _ _ _ _ _ h1 h2 hN HR.out).mono ?_; rintro e w2 ⟨⟨v, rs, rfl, hl, hws⟩, hb2⟩; have HL := Lib.hid hl; have HW := Lib.hid hws; clear hl hws)
    | (go_at_call 47; refine (lastOf_any _ _ _ _ _ _ HW.out (by rw [HL.out]; omega) (by rw [HL.out]; omega)).mono ?_; rintro e w3 ⟨⟨g3, c3, rfl, hr3⟩, rfl⟩; have hc := hr3.cell (j := N) (by omega)))
  go_ret2
  refine ⟨?_, hb.trans (hb2.mono hb.size)⟩
  show Ending.returned (.tuple #[.int .i64 (D s (rs.length - 1) N), .bool true]) = _
  rw [HL.out, Nat.add_sub_cancel]
theorem spec_NoDifferentSum_no (s n : Int) (w : World) (h : (s < 3 ∨ 24 < s) ∨ (n < 0 ∨ 3000 < n)) :
    Calls Tryd.prog 21 #[.int .i64 s, .int .i64 n] w (ResI false [] w) := by
  have H := Lib.hid h
  clear h
  go_enter Tryd.func21, Tryd.ntmps21
  go_wp2_with (go_at_call 44; refine (suGood_no _ _ _ H.out).mono ?_; rintro e w' ⟨rfl, rfl⟩)
  go_ret2
  exact resI_nil (Below.refl _ _)
theorem impl_NoDifferentSum_no (s n : Int) (w : World) (h : (s < 3 ∨ 24 < s) ∨ (n < 0 ∨ 3000 < n)) :
    Calls Tryd.prog 20 #[.int .i64 s, .int .i64 n] w (ResI false [] w) := by
  have H := Lib.hid h
  clear h
  go_enter Tryd.func20, Tryd.ntmps20
  go_wp2_with (go_at_call 38; refine (assum_no _ _ _ H.out).mono ?_; rintro e w' ⟨rfl, rfl⟩)
  go_ret2
  exact resI_nil (Below.refl _ _)

/-- The numbers below n at which f is 0. -/
def zl (f : Nat → Int) (n : Nat) : List Int := ((List.range n).filter fun m => f m == 0).map fun (m : Nat) => (m : Int)
theorem zl_zero (f : Nat → Int) : zl f 0 = [] := rfl
theorem zl_hit (f : Nat → Int) (k : Nat) (h : f k = 0) : zl f (k + 1) = zl f k ++ [(k : Int)] := by
  simp [zl, List.range_succ, List.filter_append, h]
theorem zl_miss (f : Nat → Int) (k : Nat) (h : f k ≠ 0) : zl f (k + 1) = zl f k := by
  simp [zl, List.range_succ, List.filter_append, h]
theorem zl_len (f : Nat → Int) (n : Nat) : (zl f n).length ≤ n := by
  unfold zl
  rw [List.length_map]
  refine Nat.le_trans (List.length_filter_le _ _) ?_
  simp

set_option maxHeartbeats 800000 in
theorem spec_NoDifferentSum_yes (s : Int) (N : Nat) (f : Nat → Int) (hf : f = fun (m : Nat) => (D s (pl s N).toNat m : Int)) (w : World) (h1 : 3 ≤ s) (h2 : s ≤ 24) (hN : N ≤ 3000) :
    Calls Tryd.prog 21 #[.int .i64 s, .int .i64 N] w (ResI true (zl f (N + 1)) w) := by
  obtain ⟨i0, hi0, hz0, hz1, hz2⟩ := info_parts infoInt
  have i1 : (0 : Int) ≤ (N : Int) := by omega
  have i2 : (N : Int) ≤ 3000 := by omega
  go_enter Tryd.func21, Tryd.ntmps21
  go_wp2_with (first
    | (go_at_call 44; refine (suGood_yes _ _ _ h1 h2 i1 i2).mono ?_; rintro e w' ⟨rfl, rfl⟩)
    | (go_at_call 49; refine (suDifferent_any _ _ _ h1 h2 hN).mono ?_; rintro e w1 ⟨⟨g, c, rfl, hr⟩, hb⟩))
  have hr2 : Row w1 w.heap.size g (N + 1) c f := by rw [hf]; exact hr
  have HR := Lib.hid hr2
  clear hr hr2 hf
  go_loopw [6, 17] (fun v i wr => ∃ k : Nat, k ≤ N + 1 ∧ i = .int .i64 k ∧ Hid (wr.ownsRow w1.heap.size 3 1 v (zl f k).length (i64s (zl f k))) ∧ Below w1.heap.size w1 wr) (fun _ i _ => N + 1 - (intOf i).toNat)
  case atStart => exact ⟨0, Nat.zero_le _, rfl, Lib.hid (World.ownsRow_nil _ _ _ _), Below.refl _ _⟩
  case round =>
    obtain ⟨k, hk, rfl, hown, hb2⟩ := hrel
    have hlz := zl_len f k
    by_cases hlt : k < N + 1
    · have hi : (k : Int) < (N : Int) + 1 := by omega
      have hc := (HR.out.below hb2 (Nat.le_refl _)).cell (j := k) hlt
      by_cases hz : f k = 0
      · have HZ := Lib.hid (zl_hit f k hz)
        rw [hz] at hc
        go_wp2_with (at_builtin; refine wpList_append_own _ rfl _ _ 25 rfl w1.heap.size 3 i0 (.int .i64 0) 1 8 Tryd.underlying25 hi0 hz0 hz1 hz2 rfl (by decide) _ _ _ rfl (hown.out.alloc _) ⟨wr.heap.size, 0, none⟩ 1 1 [.int .i64 (k : Int)] rfl rfl ?c1 ?c2 ?c3 ?c4 ?c5 ?_)
        case c1 =>
          intro j u hj
          match j, hj with
          | 0, hj => simp at hj; subst hj; simp [Addr.add]
        case c2 => intro u hu; simp at hu; subst hu; rfl
        case c3 => unfold maxLen; omega
        case c4 => omega
        case c5 => have := hb2.size; simp; omega
        · intro v' w5 hown' hgrow _
          rw [snoc_i64] at hown'
          have hb5 : Below w1.heap.size w1 w5 := (hb2.alloc hb2.size _).grown hgrow (by have := hb2.size; simp; omega) fun g hg => (hown.out.lt g hg).1
          have HO : Hid (w5.ownsRow w1.heap.size 3 1 v' (zl f (k + 1)).length (i64s (zl f (k + 1)))) := Lib.hid (by rw [HZ.out]; simpa using hown')
          clear hown' hgrow hown hb2 hc
          go_wp2
          go_roundw
          case rel => exact ⟨k + 1, by omega, by go_num, HO, hb5⟩
          case measure => simp [intOf]; omega
      · have HO : Hid (wr.ownsRow w1.heap.size 3 1 u6 (zl f (k + 1)).length (i64s (zl f (k + 1)))) := Lib.hid (by rw [zl_miss f k hz]; exact hown.out)
        clear hown
        go_wp2
        go_roundw
        case rel => exact ⟨k + 1, by omega, by go_num, HO, hb2⟩
        case measure => simp [intOf]; omega
    · obtain rfl : k = N + 1 := by omega
      obtain ⟨A, c, rfl⟩ := row_form hown.out
      go_wp2
      go_ret2
      exact ⟨A, c, rfl, (own_of_row hown.out).wide hb.size (Nat.le_refl _), hb.trans (hb2.mono hb.size)⟩

set_option maxHeartbeats 800000 in
theorem impl_NoDifferentSum_yes (s : Int) (N : Nat) (f : Nat → Int) (hf : f = fun (m : Nat) => (D s (pl s N).toNat m : Int)) (w : World) (h1 : 3 ≤ s) (h2 : s ≤ 24) (hN : N ≤ 3000) :
    Calls Tryd.prog 20 #[.int .i64 s, .int .i64 N] w (ResI true (zl f (N + 1)) w) := by
  obtain ⟨i0, hi0, hz0, hz1, hz2⟩ := info_parts infoInt
  have i1 : (0 : Int) ≤ (N : Int) := by omega
  have i2 : (N : Int) ≤ 3000 := by omega
  have p1 := pl_77 s N h1 (by omega) (by omega)
  go_enter Tryd.func20, Tryd.ntmps20
  go_wp2_with (first
    | (go_at_call 38; refine (assum_yes _ _ _ h1 h2 i1 i2).mono ?_; rintro e w' ⟨rfl, rfl⟩)
    | (go_at_call 40; refine (numbersByPlace_any _ _ _ h1 h2 hN).mono ?_; rintro e w1 ⟨⟨g, c, rfl, hr⟩, hb⟩; have HRN := Lib.hid hr; clear hr)
    | (go_at_call 48; refine (differentWays_any _ _ _ _ _ _ h1 h2 hN HRN.out).mono ?_; rintro e w2 ⟨⟨v, rs, rfl, hl, hws⟩, hb2⟩; have HL := Lib.hid hl; have HW := Lib.hid hws; clear hl hws)
    | (go_at_call 47; refine (lastOf_any _ _ _ _ _ _ HW.out (by rw [HL.out]; omega) (by rw [HL.out]; omega)).mono ?_; rintro e w3 ⟨⟨g3, c3, rfl, hr3⟩, rfl⟩; have HR3 := Lib.hid hr3; clear hr3))
  have hr2 : Row w2 w1.heap.size g3 (N + 1) c3 f := by
    rw [hf]
    have h := HR3.out
    rw [HL.out, Nat.add_sub_cancel] at h
    exact h
  have HR := Lib.hid hr2
  have HB := Lib.hid (hb.trans (hb2.mono hb.size))
  clear hr2 hf hb2
  go_loopw [6, 20] (fun v i wr => ∃ k : Nat, k ≤ N + 1 ∧ i = .int .i64 k ∧ Hid (wr.ownsRow w2.heap.size 3 1 v (zl f k).length (i64s (zl f k))) ∧ Below w2.heap.size w2 wr) (fun _ i _ => N + 1 - (intOf i).toNat)
  case atStart => exact ⟨0, Nat.zero_le _, rfl, Lib.hid (World.ownsRow_nil _ _ _ _), Below.refl _ _⟩
  case round =>
    obtain ⟨k, hk, rfl, hown, hb2⟩ := hrel
    have hlz := zl_len f k
    by_cases hlt : k < N + 1
    · have hi : (k : Int) < (N : Int) + 1 := by omega
      have hc := (HR.out.below hb2 (Nat.le_refl _)).cell (j := k) hlt
      by_cases hz : f k = 0
      · have HZ := Lib.hid (zl_hit f k hz)
        rw [hz] at hc
        go_wp2_with (at_builtin; refine wpList_append_own _ rfl _ _ 25 rfl w2.heap.size 3 i0 (.int .i64 0) 1 8 Tryd.underlying25 hi0 hz0 hz1 hz2 rfl (by decide) _ _ _ rfl (hown.out.alloc _) ⟨wr.heap.size, 0, none⟩ 1 1 [.int .i64 (k : Int)] rfl rfl ?c1 ?c2 ?c3 ?c4 ?c5 ?_)
        case c1 =>
          intro j u hj
          match j, hj with
          | 0, hj => simp at hj; subst hj; simp [Addr.add]
        case c2 => intro u hu; simp at hu; subst hu; rfl
        case c3 => unfold maxLen; omega
        case c4 => omega
        case c5 => have := hb2.size; simp; omega
        · intro v' w5 hown' hgrow _
          rw [snoc_i64] at hown'
          have hb5 : Below w2.heap.size w2 w5 := (hb2.alloc hb2.size _).grown hgrow (by have := hb2.size; simp; omega) fun g hg => (hown.out.lt g hg).1
          have HO : Hid (w5.ownsRow w2.heap.size 3 1 v' (zl f (k + 1)).length (i64s (zl f (k + 1)))) := Lib.hid (by rw [HZ.out]; simpa using hown')
          clear hown' hgrow hown hb2 hc
          go_wp2
          go_roundw
          case rel => exact ⟨k + 1, by omega, by go_num, HO, hb5⟩
          case measure => simp [intOf]; omega
      · have HO : Hid (wr.ownsRow w2.heap.size 3 1 u6 (zl f (k + 1)).length (i64s (zl f (k + 1)))) := Lib.hid (by rw [zl_miss f k hz]; exact hown.out)
        clear hown
        go_wp2
        go_roundw
        case rel => exact ⟨k + 1, by omega, by go_num, HO, hb2⟩
        case measure => simp [intOf]; omega
    · obtain rfl : k = N + 1 := by omega
      obtain ⟨A, c, rfl⟩ := row_form hown.out
      go_wp2
      go_ret2
      exact ⟨A, c, rfl, (own_of_row hown.out).wide HB.out.size (Nat.le_refl _), HB.out.trans (hb2.mono HB.out.size)⟩
end Go.Proofs.YtegbikakfckehaaDoor
