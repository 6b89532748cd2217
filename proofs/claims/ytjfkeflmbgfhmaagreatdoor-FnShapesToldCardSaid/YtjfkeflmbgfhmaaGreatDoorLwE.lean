/- The law FnExactPolygonalUpTo: the program's list of polygonal numbers is the specification's, and its memory is its own, whatever the arguments. No condition. -/
import Derived.Test.YtjfkeflmbgfhmaaGreatDoorLwB
import Derived.Test.YtjfkeflmbgfhmaaGreatDoorOwn
import Derived.OwnWalk
namespace Go.Proofs.YtjfkeflmbgfhmaaGreatDoor
open Go.ChangeShapes Go.WideShapes Go.ChangeAt Go.RowKit

theorem infoInt : (Tryz.prog.info? 3).map (fun i => (i.zero, i.size, i.bytes)) = some (some (.int .i64 0), 1, 8) := by kernel_rfl

/-- The polygonal numbers of the places 1, .., n. -/
def nums (s : Int) (n : Nat) : List Int := (List.range n).map fun (j : Nat) => num s ((j : Int) + 1)
theorem nums_len (s : Int) (n : Nat) : (nums s n).length = n := by simp [nums]
theorem nums_succ (s : Int) (n : Nat) : nums s (n + 1) = nums s n ++ [num s ((n : Int) + 1)] := by simp [nums, List.range_succ]
theorem nums_app (s : Int) (n : Nat) : i64s (nums s n) ++ [.int .i64 (num s ((n : Int) + 1))] = i64s (nums s (n + 1)) := by simp [nums_succ]

theorem spec_PolygonalUpTo_no (s p : Int) (w : World) (h : (s < 3 ∨ 24 < s) ∨ (p < 0 ∨ 100000 < p)) :
    Calls Tryz.prog 14 #[.int .i64 s, .int .i64 p] w (ResI false [] w) := by
  by_cases hs : s < 3 ∨ 24 < s
  · have H := Lib.hid hs
    clear h hs
    go_enter Tryz.func14, Tryz.ntmps14
    go_wp2_with (go_at_call 49; refine (shSides_no _ _ H.out).mono ?_; rintro e w' ⟨rfl, rfl⟩)
    go_ret2
    exact resI_nil (Below.refl _ _)
  · have h1 : 3 ≤ s := by omega
    have h2 : s ≤ 24 := by omega
    have H : Hid (p < 0 ∨ 100000 < p) := Lib.hid (by omega)
    clear h hs
    go_enter Tryz.func14, Tryz.ntmps14
    go_wp2_with (first
      | (go_at_call 49; refine (shSides_yes _ _ h1 h2).mono ?_; rintro e w' ⟨rfl, rfl⟩)
      | (go_at_call 39; refine (in_no _ _ _ _ H.out).mono ?_; rintro e w' ⟨rfl, rfl⟩))
    go_ret2
    exact resI_nil (Below.refl _ _)

set_option maxRecDepth 4000 in
set_option maxHeartbeats 400000 in
theorem spec_PolygonalUpTo_yes (s p : Int) (w : World) (h1 : 3 ≤ s) (h2 : s ≤ 24) (h3 : 0 ≤ p) (h4 : p ≤ 100000) :
    Calls Tryz.prog 14 #[.int .i64 s, .int .i64 p] w (ResI true (nums s (pl s p).toNat) w) := by
  obtain ⟨i0, hi0, hz0, hz1, hz2⟩ := info_parts infoInt
  have p0 := pl_nn s p h1 h3
  have p1 := pl_le s p h1 h3 (by omega)
  go_enter Tryz.func14, Tryz.ntmps14
  go_wp2_with (first
    | (go_at_call 49; refine (shSides_yes _ _ h1 h2).mono ?_; rintro e w' ⟨rfl, rfl⟩)
    | (go_at_call 39; refine (in_yes _ _ _ _ h3 h4).mono ?_; rintro e w' ⟨rfl, rfl⟩))
  go_loopw [6, 7] (fun v i wr => ∃ k : Nat, (k : Int) ≤ pl s p ∧ i = .int .i64 ((k : Int) + 1) ∧ Hid (wr.ownsRow w.heap.size 3 1 v k (i64s (nums s k))) ∧ Below w.heap.size w wr) (fun _ i _ => (pl s p + 1 - intOf i).toNat)
  case atStart => exact ⟨0, p0, by simp, Lib.hid (World.ownsRow_nil _ _ _ _), Below.refl _ _⟩
  case round =>
    obtain ⟨k, hk, rfl, hown, hb⟩ := hrel
    have hm := fits_iff s p ((k : Int) + 1) h1 h3 (by omega)
    by_cases hlt : (k : Int) + 1 ≤ pl s p
    · have hn := hm.2 hlt
      clear hm
      go_wp2_with (first
        | (go_at_call 35; refine (shNumber_any _ _ _ h1 h2 (by omega) (by omega)).mono ?_; rintro e w' ⟨rfl, rfl⟩)
        | (at_builtin; refine wpList_append_own _ rfl _ _ 39 rfl w.heap.size 3 i0 (.int .i64 0) 1 8 Tryz.underlying39 hi0 hz0 hz1 hz2 rfl (by decide) _ _ _ rfl (hown.out.alloc _) ⟨wr.heap.size, 0, none⟩ 1 1 [.int .i64 (num s ((k : Int) + 1))] rfl rfl ?c1 ?c2 ?c3 ?c4 ?c5 ?_))
      case c1 =>
        intro j u hj
        match j, hj with
        | 0, hj => simp at hj; subst hj; simp [Addr.add]
      case c2 => intro u hu; simp at hu; subst hu; rfl
      case c3 => unfold maxLen; omega
      case c4 => omega
      case c5 => have := hb.size; simp; omega
      · intro v' w1 hown' hgrow _
        rw [nums_app] at hown'
        have hb1 : Below w.heap.size w w1 := (hb.alloc hb.size _).grown hgrow (by have := hb.size; simp; omega) fun g hg => (hown.out.lt g hg).1
        have HO := Lib.hid hown'
        clear hown' hown hgrow hb
        go_wp2
        go_roundw
        case rel => exact ⟨k + 1, by omega, by go_num, HO, hb1⟩
        case measure => simp [intOf]; omega
    · have hn : p < num s ((k : Int) + 1) := by
        rcases Int.lt_or_le p (num s ((k : Int) + 1)) with h | h
        · exact h
        · exact absurd (hm.1 h) hlt
      have hke : (pl s p).toNat = k := by omega
      have HK := Lib.hid hke
      clear hm hke
      obtain ⟨A, c, rfl⟩ := row_form hown.out
      go_wp2_with (go_at_call 35; refine (shNumber_any _ _ _ h1 h2 (by omega) (by omega)).mono ?_; rintro e w' ⟨rfl, rfl⟩)
      go_ret2
      rw [HK.out]
      exact ⟨A, c, by rw [nums_len]; rfl, (own_of_row hown.out), hb⟩

theorem impl_PolygonalUpTo_no (s p : Int) (w : World) (h : (s < 3 ∨ 24 < s) ∨ (p < 0 ∨ 100000 < p)) :
    Calls Tryz.prog 13 #[.int .i64 s, .int .i64 p] w (ResI false [] w) := by
  by_cases hs : s < 3 ∨ 24 < s
  · have H := Lib.hid hs
    clear h hs
    go_enter Tryz.func13, Tryz.ntmps13
    go_wp2_with (go_at_call 48; refine (areSides_no _ _ H.out).mono ?_; rintro e w' ⟨rfl, rfl⟩)
    go_ret2
    exact resI_nil (Below.refl _ _)
  · have h1 : 3 ≤ s := by omega
    have h2 : s ≤ 24 := by omega
    have H : Hid (p < 0 ∨ 100000 < p) := Lib.hid (by omega)
    clear h hs
    go_enter Tryz.func13, Tryz.ntmps13
    go_wp2_with (first
      | (go_at_call 48; refine (areSides_yes _ _ h1 h2).mono ?_; rintro e w' ⟨rfl, rfl⟩)
      | (go_at_call 37; refine (within_no _ _ _ _ H.out).mono ?_; rintro e w' ⟨rfl, rfl⟩))
    go_ret2
    exact resI_nil (Below.refl _ _)

set_option maxRecDepth 4000 in
set_option maxHeartbeats 800000 in
theorem impl_PolygonalUpTo_yes (s p : Int) (w : World) (h1 : 3 ≤ s) (h2 : s ≤ 24) (h3 : 0 ≤ p) (h4 : p ≤ 100000) :
    Calls Tryz.prog 13 #[.int .i64 s, .int .i64 p] w (ResI true (nums s (pl s p).toNat) w) := by
  obtain ⟨i0, hi0, hz0, hz1, hz2⟩ := info_parts infoInt
  have p0 := pl_nn s p h1 h3
  have p1 := pl_le s p h1 h3 (by omega)
  go_enter Tryz.func13, Tryz.ntmps13
  go_wp2_with (first
    | (go_at_call 48; refine (areSides_yes _ _ h1 h2).mono ?_; rintro e w' ⟨rfl, rfl⟩)
    | (go_at_call 37; refine (within_yes _ _ _ _ h3 h4).mono ?_; rintro e w' ⟨rfl, rfl⟩)
    | (go_at_call 42; refine (polygonRule_any _ _ h1 h2).mono ?_; rintro e w1 ⟨rfl, hb1⟩))
  generalize hw2 : w1.alloc (.cells #[.int .i64 0, .int .i64 (4 - s), .int .i64 (s - 2)] 57) = w2
  have d0 : w2.cell? ⟨w1.heap.size, 0, none⟩ = some (.int .i64 0) := by rw [← hw2]; simp [go_sem]
  have d1 : w2.cell? ⟨w1.heap.size, 1, none⟩ = some (.int .i64 (4 - s)) := by rw [← hw2]; simp [go_sem]
  have d2 : w2.cell? ⟨w1.heap.size, 2, none⟩ = some (.int .i64 (s - 2)) := by rw [← hw2]; simp [go_sem]
  have hz : w2.heap.size = w1.heap.size + 1 := by rw [← hw2]; simp
  have hB : Below w.heap.size w w2 := by rw [← hw2]; exact hb1.alloc hb1.size _
  generalize w1.heap.size = R at *
  have HZ := Lib.hid hz
  have HW := Lib.hid hB
  clear hw2 hb1 hz hB
  go_loopw [7, 8] (fun v i wr => ∃ k : Nat, (k : Int) ≤ pl s p ∧ i = .int .i64 ((k : Int) + 1) ∧ Hid (wr.ownsRow w2.heap.size 3 1 v k (i64s (nums s k))) ∧ Below w2.heap.size w2 wr) (fun _ i _ => (pl s p + 1 - intOf i).toNat)
  case atStart => exact ⟨0, p0, by simp, Lib.hid (World.ownsRow_nil _ _ _ _), Below.refl _ _⟩
  case round =>
    obtain ⟨k, hk, rfl, hown, hb⟩ := hrel
    have hR : R < w2.heap.size := by have := HZ.out; omega
    have e0 := (hb.cell (p := ⟨R, 0, none⟩) hR).trans d0
    have e1 := (hb.cell (p := ⟨R, 1, none⟩) hR).trans d1
    have e2 := (hb.cell (p := ⟨R, 2, none⟩) hR).trans d2
    have hm := fits_iff s p ((k : Int) + 1) h1 h3 (by omega)
    have rb := polyRule_bds s ((k : Int) + 1) h1 h2 (by omega) (by omega)
    have hR2 : R < wr.heap.size := by have := hb.size; omega
    by_cases hlt : (k : Int) + 1 ≤ pl s p
    · have hn := hm.2 hlt
      clear hm
      go_wp2_with fail
      refine (numberAt_any _ _ _ _ _ _ rb).mono ?_
      rintro e w3 ⟨rfl, hb3⟩
      have f0 := (hb3.cell (p := ⟨R, 0, none⟩) hR2).trans e0
      have f1 := (hb3.cell (p := ⟨R, 1, none⟩) hR2).trans e1
      have f2 := (hb3.cell (p := ⟨R, 2, none⟩) hR2).trans e2
      go_wp2_with fail
      refine (numberAt_any _ _ _ _ _ _ rb).mono ?_
      rintro e w4 ⟨rfl, hb4⟩
      have ho4 := Lib.hid (row_below (row_below hown.out hb3 (Nat.le_refl _)) hb4 (Nat.le_refl _))
      have hb24 : Below w2.heap.size w2 w4 := hb.trans ((hb3.mono hb.size).trans (hb4.mono (Nat.le_trans hb.size hb3.size)))
      clear e0 e1 e2 f0 f1 f2 hb3 hb4 hown hR hR2 rb hb
      go_wp2_with (at_builtin; refine wpList_append_own _ rfl _ _ 39 rfl w2.heap.size 3 i0 (.int .i64 0) 1 8 Tryz.underlying39 hi0 hz0 hz1 hz2 rfl (by decide) _ _ _ rfl (ho4.out.alloc _) ⟨w4.heap.size, 0, none⟩ 1 1 [.int .i64 (num s ((k : Int) + 1))] rfl rfl ?c1 ?c2 ?c3 ?c4 ?c5 ?_)
      case c1 =>
        intro j u hj
        match j, hj with
        | 0, hj => simp at hj; subst hj; simp [Addr.add]
      case c2 => intro u hu; simp at hu; subst hu; rfl
      case c3 => unfold maxLen; omega
      case c4 => omega
      case c5 => have := hb24.size; simp; omega
      · intro v' w5 hown' hgrow _
        rw [nums_app] at hown'
        have hb5 : Below w2.heap.size w2 w5 := (hb24.alloc hb24.size _).grown hgrow (by have := hb24.size; simp; omega) fun g hg => (ho4.out.lt g hg).1
        have HO := Lib.hid hown'
        clear hown' hgrow hb24 ho4
        go_wp2
        go_roundw
        case rel => exact ⟨k + 1, by omega, by go_num, HO, hb5⟩
        case measure => simp [intOf]; omega
    · have hn : p < num s ((k : Int) + 1) := by
        rcases Int.lt_or_le p (num s ((k : Int) + 1)) with h | h
        · exact h
        · exact absurd (hm.1 h) hlt
      have hke : (pl s p).toNat = k := by omega
      have HK := Lib.hid hke
      clear hm hke
      obtain ⟨A, c, rfl⟩ := row_form hown.out
      go_wp2_with fail
      refine (numberAt_any _ _ _ _ _ _ rb).mono ?_
      rintro e w3 ⟨rfl, hb3⟩
      go_wp2
      go_ret2
      rw [HK.out]
      have hw2 : w.heap.size ≤ w2.heap.size := HW.out.size
      exact ⟨A, c, by rw [nums_len]; rfl, ((own_of_row (row_below hown.out hb3 (Nat.le_refl _))).wide hw2 (Nat.le_refl _)), HW.out.trans ((hb.mono hw2).trans (hb3.mono (Nat.le_trans hw2 hb.size)))⟩
theorem nums_small (s p : Int) (h1 : 3 ≤ s) (h3 : 0 ≤ p) (h4 : p ≤ 100000) : (nums s (pl s p).toNat).length ≤ 1000000000 := by
  have := pl_le s p h1 h3 (by omega)
  rw [nums_len]
  omega
end Go.Proofs.YtjfkeflmbgfhmaaGreatDoor
