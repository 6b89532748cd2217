/- The law FnExactShapesOf: the program's list of shapes is the specification's, and its memory is its own, whatever the argument. No condition. -/
import Derived.Test.YtjfkeflmbgfhmaaGreatDoorLwE
import Derived.Test.YtjfkeflmbgfhmaaGreatDoorOwS
namespace Go.Proofs.YtjfkeflmbgfhmaaGreatDoor
open Go.ChangeShapes Go.WideShapes Go.ChangeAt Go.RowKit

theorem infoShape : (Tryz.prog.info? 30).map (fun i => (i.zero, i.size, i.bytes)) = some (some (.agg #[.int .i64 0, .int .i64 0]), 2, 16) := by kernel_rfl

open Classical in
/-- The shapes of n with 3, .., 2 + j sides. -/
noncomputable def shps (n : Int) : Nat → List (Int × Int)
  | 0 => []
  | j + 1 => shps n j ++ if 3 ≤ pl ((j : Int) + 3) n ∧ num ((j : Int) + 3) (pl ((j : Int) + 3) n) = n then [((j : Int) + 3, pl ((j : Int) + 3) n)] else []
theorem shps_yes {n : Int} {j : Nat} (h : 3 ≤ pl ((j : Int) + 3) n ∧ num ((j : Int) + 3) (pl ((j : Int) + 3) n) = n) : shps n (j + 1) = shps n j ++ [((j : Int) + 3, pl ((j : Int) + 3) n)] := by
  rw [shps, if_pos h]
theorem shps_no {n : Int} {j : Nat} (h : ¬ (3 ≤ pl ((j : Int) + 3) n ∧ num ((j : Int) + 3) (pl ((j : Int) + 3) n) = n)) : shps n (j + 1) = shps n j := by
  rw [shps, if_neg h, List.append_nil]
theorem shps_le (n : Int) (j : Nat) : (shps n j).length ≤ j := by
  induction j with
  | zero => simp [shps]
  | succ j ih =>
    by_cases h : 3 ≤ pl ((j : Int) + 3) n ∧ num ((j : Int) + 3) (pl ((j : Int) + 3) n) = n
    · rw [shps_yes h]; simp; omega
    · rw [shps_no h]; omega
theorem shps_app {n : Int} {j : Nat} (h : 3 ≤ pl ((j : Int) + 3) n ∧ num ((j : Int) + 3) (pl ((j : Int) + 3) n) = n) : prs (shps n j) ++ [.int .i64 ((j : Int) + 3), .int .i64 (pl ((j : Int) + 3) n)] = prs (shps n (j + 1)) ∧ (shps n j).length + 1 = (shps n (j + 1)).length := by
  rw [shps_yes h]
  exact ⟨prs_app _ _ _, by simp⟩

set_option maxRecDepth 4000 in
set_option maxHeartbeats 800000 in
theorem shShapes_any (n : Int) (w : World) (h3 : 0 ≤ n) (h4 : n ≤ 1000000) :
    Calls Tryz.prog 40 #[.int .i64 n] w fun e w' => ∃ A c, e = .returned (.slice A (shps n 22).length c) ∧ Own w' w.heap.size w'.heap.size A (prs (shps n 22)) ∧ Below w.heap.size w w' := by
  obtain ⟨i0, hi0, hz0, hz1, hz2⟩ := info_parts infoShape
  go_enter Tryz.func40, Tryz.ntmps40
  go_wp2
  go_loopw [3, 4, 5] (fun v i _ wr => ∃ j m : Nat, j ≤ 22 ∧ i = .int .i64 ((j : Int) + 3) ∧ Hid (m = (shps n j).length) ∧ m ≤ j ∧ Hid (wr.ownsRow w.heap.size 30 2 v m (prs (shps n j))) ∧ Below w.heap.size w wr) (fun _ i _ _ => (25 - intOf i).toNat)
  case atStart => exact ⟨0, 0, by omega, by simp, Lib.hid (by simp [shps]), by omega, Lib.hid (World.ownsRow_nil _ _ _ _), Below.refl _ _⟩
  case round =>
    obtain ⟨j, m, hj, rfl, HM, hmj, hown, hb⟩ := hrel
    by_cases hlt : j < 22
    · have p0 := pl_nn ((j : Int) + 3) n (by omega) h3
      have p1 := pl_le ((j : Int) + 3) n (by omega) h3 (by omega)
      by_cases hc : 3 ≤ pl ((j : Int) + 3) n ∧ num ((j : Int) + 3) (pl ((j : Int) + 3) n) = n
      · have HA := Lib.hid (shps_app hc)
        have g1 : 3 ≤ pl ((j : Int) + 3) n := hc.1
        have g2 : (num ((j : Int) + 3) (pl ((j : Int) + 3) n) == n) = true := by simpa using hc.2
        clear hc
        go_wp2_with (first
          | (go_at_call 65; refine (shBelow_any _ _ _ (by omega) (by omega) h3 (by omega)).mono ?_; rintro e w' ⟨rfl, rfl⟩)
          | (go_at_call 35; refine (shNumber_any _ _ _ (by omega) (by omega) (by omega) (by omega)).mono ?_; rintro e w' ⟨rfl, rfl⟩)
          | (at_builtin; refine wpList_append_own _ rfl _ _ 25 rfl w.heap.size 30 i0 (.agg #[.int .i64 0, .int .i64 0]) 2 16 Tryz.underlying25 hi0 hz0 hz1 hz2 rfl (by decide) _ _ _ rfl (hown.out.alloc _) ⟨wr.heap.size, 0, none⟩ 1 1 [.int .i64 ((j : Int) + 3), .int .i64 (pl ((j : Int) + 3) n)] rfl rfl ?c1 ?c2 ?c3 ?c4 ?c5 ?_))
        case c1 =>
          intro k u hk
          match k, hk with
          | 0, hk => simp at hk; subst hk; simp [Addr.add]
          | 1, hk => simp at hk; subst hk; simp [Addr.add]
        case c2 => intro u hu; simp at hu; rcases hu with rfl | rfl <;> rfl
        case c3 => unfold maxLen; omega
        case c4 => omega
        case c5 => have := hb.size; simp; omega
        · intro v' w1 hown' hgrow _
          rw [HA.out.1] at hown'
          have hb1 : Below w.heap.size w w1 := (hb.alloc hb.size _).grown hgrow (by have := hb.size; simp; omega) fun g hg => (hown.out.lt g hg).1
          have HO := Lib.hid hown'
          have HM2 : Hid (m + 1 = (shps n (j + 1)).length) := Lib.hid (by rw [HM.out]; exact HA.out.2)
          clear hown' hown hgrow hb HA
          go_wp2
          go_roundw
          case rel => exact ⟨j + 1, m + 1, by omega, by go_num, HM2, by omega, HO, hb1⟩
          case measure => simp [intOf]; omega
      · have hq := shps_no hc
        have HM2 : Hid (m = (shps n (j + 1)).length) := Lib.hid (by rw [HM.out, hq])
        have HO2 : Hid (wr.ownsRow w.heap.size 30 2 u3 m (prs (shps n (j + 1)))) := Lib.hid (by rw [hq]; exact hown.out)
        clear hq
        by_cases g1 : 3 ≤ pl ((j : Int) + 3) n
        · have g2 : (num ((j : Int) + 3) (pl ((j : Int) + 3) n) == n) = false := by
            have : ¬ num ((j : Int) + 3) (pl ((j : Int) + 3) n) = n := fun h => hc ⟨g1, h⟩
            simpa using this
          clear hc
          go_wp2_with (first
            | (go_at_call 65; refine (shBelow_any _ _ _ (by omega) (by omega) h3 (by omega)).mono ?_; rintro e w' ⟨rfl, rfl⟩)
            | (go_at_call 35; refine (shNumber_any _ _ _ (by omega) (by omega) (by omega) (by omega)).mono ?_; rintro e w' ⟨rfl, rfl⟩))
          go_roundw
          case rel => exact ⟨j + 1, m, by omega, by go_num, HM2, by omega, HO2, hb⟩
          case measure => simp [intOf]; omega
        · have g2 : decide (3 ≤ pl ((j : Int) + 3) n) = false := by simp; omega
          clear hc g1
          go_wp2_with (first
            | (go_at_call 65; refine (shBelow_any _ _ _ (by omega) (by omega) h3 (by omega)).mono ?_; rintro e w' ⟨rfl, rfl⟩)
            | (go_at_call 35; refine (shNumber_any _ _ _ (by omega) (by omega) (by omega) (by omega)).mono ?_; rintro e w' ⟨rfl, rfl⟩))
          go_roundw
          case rel => exact ⟨j + 1, m, by omega, by go_num, HM2, by omega, HO2, hb⟩
          case measure => simp [intOf]; omega
    · obtain rfl : j = 22 := by omega
      obtain ⟨A, c, rfl⟩ := row_form hown.out
      go_wp2
      go_ret
      exact ⟨A, c, by rw [← HM.out]; rfl, own_of_row hown.out, hb⟩

theorem spec_ShapesOf_no (n : Int) (w : World) (h : n < 0 ∨ 1000000 < n) :
    Calls Tryz.prog 7 #[.int .i64 n] w (ResP false [] w) := by
  have H := Lib.hid h
  clear h
  go_enter Tryz.func7, Tryz.ntmps7
  go_wp2_with (go_at_call 39; refine (in_no _ _ _ _ H.out).mono ?_; rintro e w' ⟨rfl, rfl⟩)
  go_ret2
  exact resP_nil (Below.refl _ _)
theorem spec_ShapesOf_yes (n : Int) (w : World) (h3 : 0 ≤ n) (h4 : n ≤ 1000000) :
    Calls Tryz.prog 7 #[.int .i64 n] w (ResP true (shps n 22) w) := by
  go_enter Tryz.func7, Tryz.ntmps7
  go_wp2_with (first
    | (go_at_call 39; refine (in_yes _ _ _ _ h3 h4).mono ?_; rintro e w' ⟨rfl, rfl⟩)
    | (go_at_call 40; refine (shShapes_any _ _ h3 h4).mono ?_; rintro e w1 ⟨A, c, rfl, ho, hb⟩))
  go_ret2
  exact ⟨A, c, rfl, ho, hb⟩

/-- shapeWith: the shape of these sides, or the zero shape. -/
theorem shapeWith_yes (s n : Int) (w : World) (h1 : 3 ≤ s) (h2 : s ≤ 24) (h3 : 0 ≤ n) (h4 : n ≤ 1000000000000) (hc : 3 ≤ pl s n ∧ num s (pl s n) = n) :
    Calls Tryz.prog 38 #[.int .i64 s, .int .i64 n] w fun e w' => e = .returned (.agg #[.int .i64 s, .int .i64 (pl s n)]) ∧ Below w.heap.size w w' := by
  have g1 := hc.1
  have HC := Lib.hid hc.2
  clear hc
  go_enter Tryz.func38, Tryz.ntmps38
  go_wp2_with (first
    | (go_at_call 42; refine (polygonRule_any _ _ h1 h2).mono ?_; rintro e w1 ⟨rfl, hb1⟩; obtain ⟨c1, f1⟩ := bcell hb1; have z1 : w.heap.size < w1.heap.size := by have := hb1.size; simp at this; omega)
    | (go_at_call 56; refine (placeOf_yes _ _ _ _ _ _ _ (poly_fits s n h1 h2 h3 h4) HC.out).mono ?_; rintro e w2 ⟨rfl, hb2⟩; obtain ⟨c2, f2⟩ := bcell hb2; have z2 : w.heap.size < w2.heap.size := by have := hb2.size; omega))
  have hB : Below w.heap.size w w2 := ((Below.refl _ _).alloc (Nat.le_refl _) _).trans ((hb1.mono (by simp)).trans (hb2.mono (Nat.le_of_lt z1)))
  exact bodyPost_ret (v := .agg #[.int .i64 s, .int .i64 (pl s n)]) (by simp [results, Tryz.results38, go_sem, c1, c2, z1]) rfl ⟨rfl, (hB.setCell (by simp) _).setCell (by simp) _⟩
set_option maxRecDepth 4000 in
theorem shapeWith_no (s n : Int) (w : World) (h1 : 3 ≤ s) (h2 : s ≤ 24) (h3 : 0 ≤ n) (h4 : n ≤ 1000000000000) (hc : ¬ (3 ≤ pl s n ∧ num s (pl s n) = n)) :
    Calls Tryz.prog 38 #[.int .i64 s, .int .i64 n] w fun e w' => e = .returned (.agg #[.int .i64 0, .int .i64 0]) ∧ Below w.heap.size w w' := by
  by_cases hn : num s (pl s n) = n
  · have g1 : decide (pl s n < 3) = true := by
      have : ¬ 3 ≤ pl s n := fun h => hc ⟨h, hn⟩
      simp
      omega
    have HC := Lib.hid hn
    clear hc hn
    go_enter Tryz.func38, Tryz.ntmps38
    go_wp2_with (first
      | (go_at_call 42; refine (polygonRule_any _ _ h1 h2).mono ?_; rintro e w1 ⟨rfl, hb1⟩; obtain ⟨c1, f1⟩ := bcell hb1; have z1 : w.heap.size < w1.heap.size := by have := hb1.size; simp at this; omega)
      | (go_at_call 56; refine (placeOf_yes _ _ _ _ _ _ _ (poly_fits s n h1 h2 h3 h4) HC.out).mono ?_; rintro e w2 ⟨rfl, hb2⟩; obtain ⟨c2, f2⟩ := bcell hb2; have z2 : w.heap.size < w2.heap.size := by have := hb2.size; omega))
    have hB : Below w.heap.size w w2 := ((Below.refl _ _).alloc (Nat.le_refl _) _).trans ((hb1.mono (by simp)).trans (hb2.mono (Nat.le_of_lt z1)))
    exact bodyPost_ret (v := .agg #[.int .i64 0, .int .i64 0]) (by simp [results, Tryz.results38, go_sem, c1, c2, z1]) rfl ⟨rfl, (hB.setCell (by simp) _).setCell (by simp) _⟩
  · have HC := Lib.hid hn
    clear hc hn
    go_enter Tryz.func38, Tryz.ntmps38
    go_wp2_with (first
      | (go_at_call 42; refine (polygonRule_any _ _ h1 h2).mono ?_; rintro e w1 ⟨rfl, hb1⟩; obtain ⟨c1, f1⟩ := bcell hb1; have z1 : w.heap.size < w1.heap.size := by have := hb1.size; simp at this; omega)
      | (go_at_call 56; refine (placeOf_no _ _ _ _ _ _ _ (poly_fits s n h1 h2 h3 h4) HC.out).mono ?_; rintro e w2 ⟨rfl, hb2⟩; obtain ⟨c2, f2⟩ := bcell hb2; have z2 : w.heap.size < w2.heap.size := by have := hb2.size; omega))
    have hB : Below w.heap.size w w2 := ((Below.refl _ _).alloc (Nat.le_refl _) _).trans ((hb1.mono (by simp)).trans (hb2.mono (Nat.le_of_lt z1)))
    exact bodyPost_ret (v := .agg #[.int .i64 0, .int .i64 0]) (by simp [results, Tryz.results38, go_sem, c1, c2, z1]) rfl ⟨rfl, (hB.setCell (by simp) _).setCell (by simp) _⟩

theorem impl_ShapesOf_no (n : Int) (w : World) (h : n < 0 ∨ 1000000 < n) :
    Calls Tryz.prog 6 #[.int .i64 n] w (ResP false [] w) := by
  have H := Lib.hid h
  clear h
  go_enter Tryz.func6, Tryz.ntmps6
  go_wp2_with (go_at_call 37; refine (within_no _ _ _ _ H.out).mono ?_; rintro e w' ⟨rfl, rfl⟩)
  go_ret2
  exact resP_nil (Below.refl _ _)
set_option maxRecDepth 4000 in
set_option maxHeartbeats 800000 in
theorem impl_ShapesOf_yes (n : Int) (w : World) (h3 : 0 ≤ n) (h4 : n ≤ 1000000) :
    Calls Tryz.prog 6 #[.int .i64 n] w (ResP true (shps n 22) w) := by
  obtain ⟨i0, hi0, hz0, hz1, hz2⟩ := info_parts infoShape
  go_enter Tryz.func6, Tryz.ntmps6
  go_wp2_with (go_at_call 37; refine (within_yes _ _ _ _ h3 h4).mono ?_; rintro e w' ⟨rfl, rfl⟩)
  go_loopw [4, 5, 6] (fun v i _ wr => ∃ j m : Nat, j ≤ 22 ∧ i = .int .i64 ((j : Int) + 3) ∧ Hid (m = (shps n j).length) ∧ m ≤ j ∧ Hid (wr.ownsRow w.heap.size 30 2 v m (prs (shps n j))) ∧ Below w.heap.size w wr) (fun _ i _ _ => (25 - intOf i).toNat)
  case atStart => exact ⟨0, 0, by omega, by simp, Lib.hid (by simp [shps]), by omega, Lib.hid (World.ownsRow_nil _ _ _ _), Below.refl _ _⟩
  case round =>
    obtain ⟨j, m, hj, rfl, HM, hmj, hown, hb⟩ := hrel
    by_cases hlt : j < 22
    · by_cases hc : 3 ≤ pl ((j : Int) + 3) n ∧ num ((j : Int) + 3) (pl ((j : Int) + 3) n) = n
      · have HA := Lib.hid (shps_app hc)
        have g1 : 3 ≤ pl ((j : Int) + 3) n := hc.1
        have HC := Lib.hid hc
        clear hc
        go_wp2_with fail
        refine (shapeWith_yes _ _ _ (by omega) (by omega) h3 (by omega) HC.out).mono ?_
        rintro e w2 ⟨rfl, hb2⟩
        have ho2 := Lib.hid (row_below hown.out hb2 (Nat.le_refl _))
        have hbw := hb.trans (hb2.mono hb.size)
        clear hown hb hb2
        have gs : ((j : Int) + 3 == 0) = false := by simp; omega
        go_wp2_with (at_builtin; refine wpList_append_own _ rfl _ _ 25 rfl w.heap.size 30 i0 (.agg #[.int .i64 0, .int .i64 0]) 2 16 Tryz.underlying25 hi0 hz0 hz1 hz2 rfl (by decide) _ _ _ rfl ((ho2.out.alloc _).alloc _) ⟨w2.heap.size + 1, 0, none⟩ 1 1 [.int .i64 ((j : Int) + 3), .int .i64 (pl ((j : Int) + 3) n)] rfl rfl ?c1 ?c2 ?c3 ?c4 ?c5 ?_)
        case c1 =>
          intro k u hk
          match k, hk with
          | 0, hk => simp at hk; subst hk; simp [Addr.add, go_sem]
          | 1, hk => simp at hk; subst hk; simp [Addr.add, go_sem]
        case c2 => intro u hu; simp at hu; rcases hu with rfl | rfl <;> rfl
        case c3 => unfold maxLen; omega
        case c4 => omega
        case c5 => have := hbw.size; simp; omega
        · intro v' w1 hown' hgrow _
          rw [HA.out.1] at hown'
          have hb1 : Below w.heap.size w w1 := ((hbw.alloc hbw.size _).alloc (by have := hbw.size; simp; omega) _).grown hgrow (by have := hbw.size; simp; omega) fun g hg => (ho2.out.lt g hg).1
          have HO := Lib.hid hown'
          have HM2 : Hid (m + 1 = (shps n (j + 1)).length) := Lib.hid (by rw [HM.out]; exact HA.out.2)
          clear hown' ho2 hgrow hbw HA gs
          go_wp2
          go_roundw
          case rel => exact ⟨j + 1, m + 1, by omega, by go_num, HM2, by omega, HO, hb1⟩
          case measure => simp [intOf]; omega
      · have hq := shps_no hc
        have HM2 : Hid (m = (shps n (j + 1)).length) := Lib.hid (by rw [HM.out, hq])
        have HC := Lib.hid hc
        clear hc
        go_wp2_with fail
        refine (shapeWith_no _ _ _ (by omega) (by omega) h3 (by omega) HC.out).mono ?_
        rintro e w2 ⟨rfl, hb2⟩
        have HO2 : Hid ((w2.alloc (.cells #[.int .i64 0, .int .i64 0] 30)).ownsRow w.heap.size 30 2 u4 m (prs (shps n (j + 1)))) := Lib.hid (by rw [hq]; exact (row_below hown.out hb2 (Nat.le_refl _)).alloc _)
        have hbw := (hb.trans (hb2.mono hb.size)).alloc (Nat.le_trans hb.size hb2.size) (.cells #[.int .i64 0, .int .i64 0] 30)
        clear hown hb hb2 hq
        go_wp2
        go_roundw
        case rel => exact ⟨j + 1, m, by omega, by go_num, HM2, by omega, HO2, hbw⟩
        case measure => simp [intOf]; omega
    · obtain rfl : j = 22 := by omega
      obtain ⟨A, c, rfl⟩ := row_form hown.out
      go_wp2
      go_ret2
      exact ⟨A, c, by rw [← HM.out]; rfl, own_of_row hown.out, hb⟩
end Go.Proofs.YtjfkeflmbgfhmaaGreatDoor
