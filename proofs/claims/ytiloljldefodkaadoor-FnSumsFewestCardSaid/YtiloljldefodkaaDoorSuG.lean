/- The law FnExactGreedyParts: the program's greedy parts are the specification's, and their memory is its own, whatever the arguments. No condition. -/
import Derived.Test.YtiloljldefodkaaDoorMb
namespace Go.Proofs.YtiloljldefodkaaDoor
open Go.ChangeShapes Go.WideShapes Go.ChangeAt Go.RowKit

/-- Greedy parts, f of them at most. -/
noncomputable def greedy (s : Int) : Nat → Int → List Int
  | 0, _ => []
  | f + 1, n => if n ≤ 0 then [] else pl s n :: greedy s f (n - num s (pl s n))
theorem greedy_fuel (s : Int) (hs : 3 ≤ s) (g : Nat) : ∀ (f : Nat) (n : Int), n ≤ f → n ≤ g → greedy s f n = greedy s g n := by
  induction g with
  | zero =>
    intro f n h1 h2
    cases f with
    | zero => rfl
    | succ f => simp [greedy, show n ≤ 0 from by omega]
  | succ g ih =>
    intro f n h1 h2
    by_cases h : n ≤ 0
    · cases f with
      | zero => simp [greedy, h]
      | succ f => simp [greedy, h]
    · cases f with
      | zero => omega
      | succ f =>
        have h3 := num_pos s _ hs (pl_pos s n hs (by omega))
        simp only [greedy, if_neg h]
        rw [ih f _ (by omega) (by omega)]
noncomputable def gre (s n : Int) : List Int := greedy s n.toNat n
theorem gre_step (s n : Int) (hs : 3 ≤ s) (h : 0 < n) : gre s n = pl s n :: gre s (n - num s (pl s n)) := by
  have h3 := num_pos s _ hs (pl_pos s n hs h)
  unfold gre
  obtain ⟨m, hm⟩ : ∃ m, n.toNat = m + 1 := ⟨n.toNat - 1, by omega⟩
  rw [hm, greedy, if_neg (by omega), greedy_fuel s hs (n - num s (pl s n)).toNat m _ (by omega) (by omega)]
theorem gre_zero (s : Int) : gre s 0 = [] := by simp [gre, greedy]
theorem gre_len (s : Int) (hs : 3 ≤ s) (f : Nat) : ∀ n : Int, 0 ≤ n → (greedy s f n).length ≤ f := by
  induction f with
  | zero => intro n _; simp [greedy]
  | succ f ih =>
    intro n hn
    by_cases h : n ≤ 0
    · simp [greedy, h]
    · have h3 := (pl_is s n hs hn).2.1
      simp only [greedy, if_neg h, List.length_cons]
      have := ih (n - num s (pl s n)) (by omega)
      omega
theorem gre_small (s n : Int) (hs : 3 ≤ s) (h0 : 0 ≤ n) (h : n ≤ 3000) : (gre s n).length ≤ 3000 := by
  have := gre_len s hs n.toNat n h0
  unfold gre
  omega

theorem spec_GreedyParts_no (s n : Int) (w : World) (h : (s < 3 ∨ 24 < s) ∨ (n < 0 ∨ 3000 < n)) :
    Calls Tryd.prog 12 #[.int .i64 s, .int .i64 n] w (ResI false [] w) := by
  have H := Lib.hid h
  clear h
  go_enter Tryd.func12, Tryd.ntmps12
  go_wp2_with (go_at_call 34; refine (suGood_no _ _ _ H.out).mono ?_; rintro e w' ⟨rfl, rfl⟩)
  go_ret2
  exact resI_nil (Below.refl _ _)
theorem impl_GreedyParts_no (s n : Int) (w : World) (h : (s < 3 ∨ 24 < s) ∨ (n < 0 ∨ 3000 < n)) :
    Calls Tryd.prog 11 #[.int .i64 s, .int .i64 n] w (ResI false [] w) := by
  have H := Lib.hid h
  clear h
  go_enter Tryd.func11, Tryd.ntmps11
  go_wp2_with (go_at_call 30; refine (assum_no _ _ _ H.out).mono ?_; rintro e w' ⟨rfl, rfl⟩)
  go_ret2
  exact resI_nil (Below.refl _ _)

set_option maxHeartbeats 800000 in
theorem spec_GreedyParts_yes (s n : Int) (w : World) (h1 : 3 ≤ s) (h2 : s ≤ 24) (h3 : 0 ≤ n) (h4 : n ≤ 3000) :
    Calls Tryd.prog 12 #[.int .i64 s, .int .i64 n] w (ResI true (gre s n) w) := by
  obtain ⟨i0, hi0, hz0, hz1, hz2⟩ := info_parts infoInt
  have hsm := Lib.hid (gre_small s n h1 h3 h4)
  go_enter Tryd.func12, Tryd.ntmps12
  go_wp2_with (go_at_call 34; refine (suGood_yes _ _ _ h1 h2 h3 h4).mono ?_; rintro e w' ⟨rfl, rfl⟩)
  go_loopw [1, 6] (fun l v wr => ∃ (m : Int) (xs : List Int), 0 ≤ m ∧ m ≤ 3000 ∧ l = .int .i64 m ∧ Hid (xs ++ gre s m = gre s n) ∧ Hid (wr.ownsRow w.heap.size 3 1 v xs.length (i64s xs)) ∧ Below w.heap.size w wr) (fun l _ _ => (intOf l).toNat)
  case atStart => exact ⟨n, [], h3, h4, rfl, Lib.hid rfl, Lib.hid (World.ownsRow_nil _ _ _ _), Below.refl _ _⟩
  case round =>
    obtain ⟨m, xs, hm0, hm1, rfl, hx, hown, hb⟩ := hrel
    by_cases hlt : 0 < m
    · have hp := pl_pos s m h1 hlt
      obtain ⟨hp0, hp1, hp2⟩ := pl_is s m h1 hm0
      have hn1 := num_pos s _ h1 hp
      have hq := pl_le s m h1 hm0 (by omega)
      clear hp2
      have hlen : xs.length ≤ 3000 := by
        have h5 := hsm.out
        rw [← hx.out, List.length_append] at h5
        omega
      have hst := Lib.hid (gre_step s m h1 hlt)
      go_wp2_with (first
        | (go_at_call 36; refine (shBelow_any _ _ _ h1 h2 hm0 (by omega)).mono ?_; rintro e w' ⟨rfl, rfl⟩)
        | (go_at_call 41; refine (shNumber_any _ _ _ h1 h2 (by omega) (by omega)).mono ?_; rintro e w' ⟨rfl, rfl⟩)
        | (at_builtin; refine wpList_append_own _ rfl _ _ 26 rfl w.heap.size 3 i0 (.int .i64 0) 1 8 Tryd.underlying26 hi0 hz0 hz1 hz2 rfl (by decide) _ _ _ rfl (hown.out.alloc _) ⟨wr.heap.size, 0, none⟩ 1 1 [.int .i64 (pl s m)] rfl rfl ?c1 ?c2 ?c3 ?c4 ?c5 ?_))
      case c1 =>
        intro j u hj
        match j, hj with
        | 0, hj => simp at hj; subst hj; simp [Addr.add]
      case c2 => intro u hu; simp at hu; subst hu; rfl
      case c3 => unfold maxLen; omega
      case c4 => omega
      case c5 => have := hb.size; simp; omega
      · intro v' w1 hown' hgrow _
        rw [snoc_i64] at hown'
        have hb1 : Below w.heap.size w w1 := (hb.alloc hb.size _).grown hgrow (by have := hb.size; simp; omega) fun g hg => (hown.out.lt g hg).1
        have HO : Hid (w1.ownsRow w.heap.size 3 1 v' (xs ++ [pl s m]).length (i64s (xs ++ [pl s m]))) := Lib.hid (by simpa using hown')
        have HX : Hid ((xs ++ [pl s m]) ++ gre s (m - num s (pl s m)) = gre s n) := Lib.hid (by rw [← hx.out, hst.out]; simp)
        clear hown' hown hgrow hb hx hst
        go_wp2_with (go_at_call 41; refine (shNumber_any _ _ _ h1 h2 (by omega) (by omega)).mono ?_; rintro e w' ⟨rfl, rfl⟩)
        go_roundw
        case rel => exact ⟨m - num s (pl s m), xs ++ [pl s m], by omega, by omega, rfl, HX, HO, hb1⟩
        case measure => simp [intOf]; omega
    · obtain rfl : m = 0 := by omega
      have hxe : xs = gre s n := by
        have := hx.out
        rwa [gre_zero, List.append_nil] at this
      have HE := Lib.hid hxe
      clear hxe hx
      obtain ⟨A, c, rfl⟩ := row_form hown.out
      go_wp2
      go_ret2
      rw [← HE.out]
      exact ⟨A, c, rfl, own_of_row hown.out, hb⟩

set_option maxHeartbeats 1600000 in
theorem impl_GreedyParts_yes (s n : Int) (w : World) (h1 : 3 ≤ s) (h2 : s ≤ 24) (h3 : 0 ≤ n) (h4 : n ≤ 3000) :
    Calls Tryd.prog 11 #[.int .i64 s, .int .i64 n] w (ResI true (gre s n) w) := by
  obtain ⟨i0, hi0, hz0, hz1, hz2⟩ := info_parts infoInt
  have hsm := Lib.hid (gre_small s n h1 h3 h4)
  go_enter Tryd.func11, Tryd.ntmps11
  go_wp2_with (first
    | (go_at_call 30; refine (assum_yes _ _ _ h1 h2 h3 h4).mono ?_; rintro e w' ⟨rfl, rfl⟩)
    | (go_at_call 38; refine (polygonRule_any _ _ h1 h2).mono ?_; rintro e w1 ⟨rfl, hb1⟩))
  generalize hw2 : w1.alloc (.cells #[.int .i64 0, .int .i64 (4 - s), .int .i64 (s - 2)] 55) = w2
  have d0 : w2.cell? ⟨w1.heap.size, 0, none⟩ = some (.int .i64 0) := by rw [← hw2]; simp [go_sem]
  have d1 : w2.cell? ⟨w1.heap.size, 1, none⟩ = some (.int .i64 (4 - s)) := by rw [← hw2]; simp [go_sem]
  have d2 : w2.cell? ⟨w1.heap.size, 2, none⟩ = some (.int .i64 (s - 2)) := by rw [← hw2]; simp [go_sem]
  have hz : w2.heap.size = w1.heap.size + 1 := by rw [← hw2]; simp
  have hB : Below w.heap.size w w2 := by rw [← hw2]; exact hb1.alloc hb1.size _
  generalize w1.heap.size = R at *
  have HZ := Lib.hid hz
  have HW := Lib.hid hB
  clear hw2 hb1 hz hB
  go_loopw [7, 8] (fun v l wr => ∃ (m : Int) (xs : List Int), 0 ≤ m ∧ m ≤ 3000 ∧ l = .int .i64 m ∧ Hid (xs ++ gre s m = gre s n) ∧ Hid (wr.ownsRow w2.heap.size 3 1 v xs.length (i64s xs)) ∧ Below w2.heap.size w2 wr) (fun _ l _ => (intOf l).toNat)
  case atStart => exact ⟨n, [], h3, h4, rfl, Lib.hid rfl, Lib.hid (World.ownsRow_nil _ _ _ _), Below.refl _ _⟩
  case round =>
    obtain ⟨m, xs, hm0, hm1, rfl, hx, hown, hb⟩ := hrel
    have hR : R < w2.heap.size := by have := HZ.out; omega
    have e0 := (hb.cell (p := ⟨R, 0, none⟩) hR).trans d0
    have e1 := (hb.cell (p := ⟨R, 1, none⟩) hR).trans d1
    have e2 := (hb.cell (p := ⟨R, 2, none⟩) hR).trans d2
    by_cases hlt : 0 < m
    · have hp := pl_pos s m h1 hlt
      obtain ⟨hp0, hp1, hp2⟩ := pl_is s m h1 hm0
      have hn1 := num_pos s _ h1 hp
      have hq := pl_le s m h1 hm0 (by omega)
      clear hp2
      have hlen : xs.length ≤ 3000 := by
        have h5 := hsm.out
        rw [← hx.out, List.length_append] at h5
        omega
      have hst := Lib.hid (gre_step s m h1 hlt)
      have hfit := Lib.hid (poly_fits s m h1 h2 hm0 (by omega))
      have rb := polyRule_bds s (pl s m) h1 h2 (by omega) (by omega)
      go_wp2_with fail
      refine (lastPlace_any _ _ _ _ _ _ _ hfit.out).mono ?_
      rintro e w3 ⟨rfl, hb3⟩
      have ho3 := Lib.hid (row_below hown.out hb3 (Nat.le_refl _))
      have hb23 : Below w2.heap.size w2 w3 := hb.trans (hb3.mono hb.size)
      have f0 := (hb23.cell (p := ⟨R, 0, none⟩) hR).trans d0
      have f1 := (hb23.cell (p := ⟨R, 1, none⟩) hR).trans d1
      have f2 := (hb23.cell (p := ⟨R, 2, none⟩) hR).trans d2
      clear e0 e1 e2 hb3 hown hb
      go_wp2_with (at_builtin; refine wpList_append_own _ rfl _ _ 26 rfl w2.heap.size 3 i0 (.int .i64 0) 1 8 Tryd.underlying26 hi0 hz0 hz1 hz2 rfl (by decide) _ _ _ rfl (ho3.out.alloc _) ⟨w3.heap.size, 0, none⟩ 1 1 [.int .i64 (pl s m)] rfl rfl ?c1 ?c2 ?c3 ?c4 ?c5 ?_)
      case c1 =>
        intro j u hj
        match j, hj with
        | 0, hj => simp at hj; subst hj; simp [Addr.add]
      case c2 => intro u hu; simp at hu; subst hu; rfl
      case c3 => unfold maxLen; omega
      case c4 => omega
      case c5 => have := hb23.size; simp; omega
      · intro v' w4 hown' hgrow _
        rw [snoc_i64] at hown'
        have hb4 : Below w2.heap.size w2 w4 := (hb23.alloc hb23.size _).grown hgrow (by have := hb23.size; simp; omega) fun g hg => (ho3.out.lt g hg).1
        have HO : Hid (w4.ownsRow w2.heap.size 3 1 v' (xs ++ [pl s m]).length (i64s (xs ++ [pl s m]))) := Lib.hid (by simpa using hown')
        have HX : Hid ((xs ++ [pl s m]) ++ gre s (m - num s (pl s m)) = gre s n) := Lib.hid (by rw [← hx.out, hst.out]; simp)
        have e0 := (hb4.cell (p := ⟨R, 0, none⟩) hR).trans d0
        have e1 := (hb4.cell (p := ⟨R, 1, none⟩) hR).trans d1
        have e2 := (hb4.cell (p := ⟨R, 2, none⟩) hR).trans d2
        clear hown' hgrow hb23 hx hst f0 f1 f2 ho3
        go_wp2_with fail
        refine (numberAt_any _ _ _ _ _ _ rb).mono ?_
        rintro e w5 ⟨rfl, hb5⟩
        have HO5 := Lib.hid (row_below HO.out hb5 (Nat.le_refl _))
        have hb25 : Below w2.heap.size w2 w5 := hb4.trans (hb5.mono hb4.size)
        clear hb5 hb4 HO e0 e1 e2
        go_wp2
        go_roundw
        case rel => exact ⟨m - num s (pl s m), xs ++ [pl s m], by omega, by omega, rfl, HX, HO5, hb25⟩
        case measure => simp [intOf]; omega
    · obtain rfl : m = 0 := by omega
      have hxe : xs = gre s n := by
        have := hx.out
        rwa [gre_zero, List.append_nil] at this
      have HE := Lib.hid hxe
      clear hxe hx
      obtain ⟨A, c, rfl⟩ := row_form hown.out
      go_wp2
      go_ret2
      rw [← HE.out]
      have hw2 : w.heap.size ≤ w2.heap.size := HW.out.size
      exact ⟨A, c, rfl, (own_of_row hown.out).wide hw2 (Nat.le_refl _), HW.out.trans (hb.mono hw2)⟩
end Go.Proofs.YtiloljldefodkaaDoor
