/- The law FnExactFirstDifferentSum: the program's first sum of different places is the specification's, whatever the arguments. No condition. -/
import Derived.Test.YtegbikakfckehaaDoorSuI
namespace Go.Proofs.YtegbikakfckehaaDoor
open Go.ChangeShapes Go.WideShapes Go.ChangeAt Go.RowKit

theorem spec_FirstDifferentSum_no (s n : Int) (w : World) (h : (s < 3 ∨ 24 < s) ∨ (n < 0 ∨ 3000 < n)) :
    Calls Tryd.prog 25 #[.int .i64 s, .int .i64 n] w (ResI false [] w) := by
  have H := Lib.hid h
  clear h
  go_enter Tryd.func25, Tryd.ntmps25
  go_wp2_with (go_at_call 44; refine (suGood_no _ _ _ H.out).mono ?_; rintro e w' ⟨rfl, rfl⟩)
  go_ret2
  exact resI_nil (Below.refl _ _)
theorem impl_FirstDifferentSum_no (s n : Int) (w : World) (h : (s < 3 ∨ 24 < s) ∨ (n < 0 ∨ 3000 < n)) :
    Calls Tryd.prog 24 #[.int .i64 s, .int .i64 n] w (ResI false [] w) := by
  have H := Lib.hid h
  clear h
  go_enter Tryd.func24, Tryd.ntmps24
  go_wp2_with (go_at_call 38; refine (assum_no _ _ _ H.out).mono ?_; rintro e w' ⟨rfl, rfl⟩)
  go_ret2
  exact resI_nil (Below.refl _ _)

theorem suUnlike_pl (s : Int) (N : Nat) (w : World) (h1 : 3 ≤ s) (h2 : s ≤ 24) (hN : N ≤ 3000) :
    Calls Tryd.prog 50 #[.int .i64 s, .int .i64 N, .int .i64 (pl s N)] w (ResI (uok s (pl s N).toNat N) (ufd s (pl s N).toNat N) w) := by
  have p0 := pl_nn s N h1 (by omega)
  have p1 := pl_77 s N h1 (by omega) (by omega)
  have e : pl s N = ((pl s N).toNat : Int) := by omega
  rw [e]
  simp only [Int.toNat_natCast]
  exact suUnlike_any s h1 h2 _ _ _ (by omega) (by omega) (by omega)
theorem spec_FirstDifferentSum_yes (s : Int) (N : Nat) (w : World) (h1 : 3 ≤ s) (h2 : s ≤ 24) (hN : N ≤ 3000) :
    Calls Tryd.prog 25 #[.int .i64 s, .int .i64 N] w (ResI (uok s (pl s N).toNat N) (ufd s (pl s N).toNat N) w) := by
  have i1 : (0 : Int) ≤ (N : Int) := by omega
  have i2 : (N : Int) ≤ 3000 := by omega
  by_cases hD : 0 < D s (pl s N).toNat N
  · have HU := Lib.hid (u_yes hD)
    go_enter Tryd.func25, Tryd.ntmps25
    go_wp2_with (first
      | (go_at_call 44; refine (suGood_yes _ _ _ h1 h2 i1 i2).mono ?_; rintro e w' ⟨rfl, rfl⟩)
      | (go_at_call 51; refine (shBelow_any _ _ _ h1 h2 i1 (by omega)).mono ?_; rintro e w' ⟨rfl, rfl⟩)
      | (go_at_call 50; refine (suUnlike_pl _ _ _ h1 h2 hN).mono ?_; rw [HU.out.1, HU.out.2]; rintro e w2 ⟨A, c, rfl, hown, hb2⟩))
    go_ret2
    rw [HU.out.1, HU.out.2]
    exact ⟨A, c, rfl, hown, hb2⟩
  · have HU := Lib.hid (u_no hD)
    go_enter Tryd.func25, Tryd.ntmps25
    go_wp2_with (first
      | (go_at_call 44; refine (suGood_yes _ _ _ h1 h2 i1 i2).mono ?_; rintro e w' ⟨rfl, rfl⟩)
      | (go_at_call 51; refine (shBelow_any _ _ _ h1 h2 i1 (by omega)).mono ?_; rintro e w' ⟨rfl, rfl⟩)
      | (go_at_call 50; refine (suUnlike_pl _ _ _ h1 h2 hN).mono ?_; rw [HU.out.1, HU.out.2]; rintro e w2 ⟨A, c, rfl, hown, hb2⟩))
    go_ret2
    rw [HU.out.1, HU.out.2]
    exact resI_nil hb2

set_option maxHeartbeats 1600000 in
theorem impl_FirstDifferentSum_yes (s : Int) (N : Nat) (w : World) (h1 : 3 ≤ s) (h2 : s ≤ 24) (hN : N ≤ 3000) :
    Calls Tryd.prog 24 #[.int .i64 s, .int .i64 N] w (ResI (uok s (pl s N).toNat N) (ufd s (pl s N).toNat N) w) := by
  obtain ⟨i0, hi0, hz0, hz1, hz2⟩ := info_parts infoInt
  have i1 : (0 : Int) ≤ (N : Int) := by omega
  have i2 : (N : Int) ≤ 3000 := by omega
  have p0 := pl_nn s N h1 (by omega)
  have p1 := pl_77 s N h1 (by omega) (by omega)
  have hK : (pl s N).toNat ≤ 77 := by omega
  have HNP := Lib.hid (fun w => numbersByPlace_any s N w h1 h2 hN)
  have HDW := Lib.hid (fun base0 g0 c0 w => differentWays_any s N base0 g0 c0 w h1 h2 hN)
  generalize (pl s N).toNat = K at *
  have hKI : (K : Int) ≤ 77 := by omega
  go_enter Tryd.func24, Tryd.ntmps24
  by_cases hD : 0 < D s K N
  · have HU := Lib.hid (u_yes hD)
    have hDI : ((D s K N : Int) == 0) = false := by simp; omega
    clear hD
    go_wp2_with (first
      | (go_at_call 38; refine (assum_yes _ _ _ h1 h2 i1 i2).mono ?_; rintro e w' ⟨rfl, rfl⟩)
      | (go_at_call 40; refine (HNP.out _).mono ?_; rintro e w1 ⟨⟨g, c, rfl, hr⟩, hb⟩; have HR := Lib.hid hr; clear hr)
      | (go_at_call 48; refine (HDW.out _ _ _ _ HR.out).mono ?_; rintro e w2 ⟨⟨v, rs, rfl, hl, hws⟩, hb2⟩; have HL := Lib.hid hl; have HW := Lib.hid hws; clear hl hws)
      | (go_at_call 47; refine (lastOf_any _ _ _ _ _ _ HW.out (by rw [HL.out]; omega) (by rw [HL.out]; omega)).mono ?_; rintro e w3 ⟨⟨g3, c3, rfl, hr3⟩, rfl⟩; have hc := hr3.cell (j := N) (by omega); rw [HL.out, Nat.add_sub_cancel] at hc; clear hr3))
    have HR2 := Lib.hid (HR.out.below hb2 (Nat.le_refl _))
    have HB := Lib.hid (hb.trans (hb2.mono hb.size))
    clear hc hb hb2 HR HNP HDW
    go_loopw [8, 9, 10] (fun l v p wr => ∃ (m : Int) (q : Nat) (xs : List Int), 0 ≤ m ∧ m ≤ N ∧ q ≤ K ∧ l = .int .i64 m ∧ p = .int .i64 q ∧ Hid (xs ++ fd s q m = fd s K N) ∧ Hid (wr.ownsRow w2.heap.size 3 1 v xs.length (i64s xs)) ∧ Below w2.heap.size w2 wr) (fun _ _ p _ => (intOf p).toNat)
    case atStart => exact ⟨N, K, [], i1, Int.le_refl _, Nat.le_refl _, rfl, rfl, Lib.hid rfl, Lib.hid (World.ownsRow_nil _ _ _ _), Below.refl _ _⟩
    case round =>
      obtain ⟨m, q, xs, hm0, hm1, hq, rfl, rfl, hx, hown, hb⟩ := hrel
      cases q with
      | zero =>
        have hxe : xs = fd s K N := by
          have := hx.out
          rwa [fd, List.append_nil] at this
        have HE := Lib.hid hxe
        clear hxe hx
        obtain ⟨A, c, rfl⟩ := row_form hown.out
        go_wp2
        go_ret2
        rw [HU.out.1, HU.out.2, ← HE.out]
        exact ⟨A, c, rfl, (own_of_row hown.out).wide HB.out.size (Nat.le_refl _), HB.out.trans (hb.mono HB.out.size)⟩
      | succ q =>
        have hcn := (HR2.out.below hb (Nat.le_refl _)).cell (j := q + 1) (by omega)
        have hxl : xs.length ≤ 77 := by
          have h5 := fd_len s K N
          rw [← hx.out, List.length_append] at h5
          omega
        have hnn := num_nn s (((q + 1 : Nat) : Int)) h1
        have hns := num_small s (((q + 1 : Nat) : Int)) h1 h2 (by omega) (by omega)
        have hqI : ((q + 1 : Nat) : Int) < (K : Int) + 1 := by omega
        have hqI2 : (0 : Int) ≤ ((q + 1 : Nat) : Int) := by omega
        have hqI3 : (0 : Int) < ((q + 1 : Nat) : Int) := by omega
        have hqe : (((q + 1 : Nat) : Int)) - 1 = (q : Int) := by omega
        have hcast : ((q + 1 : Nat) : Int) = (q : Int) + 1 := by omega
        obtain ⟨x, hxe⟩ : ∃ x, x = num s ((q : Int) + 1) := ⟨_, rfl⟩
        have HX := Lib.hid hxe
        have hcn2 : wr.cell? ⟨g, q + 1, none⟩ = some (.int .i64 x) := by rw [hcn, hcast, ← HX.out]
        rw [hcast, ← hxe] at hnn hns
        clear hcn hxe
        by_cases hrest : m - x < 0
        · have hD0 : ¬ 0 < D s q (m - num s ((q : Int) + 1)) := by rw [← HX.out, D_neg s h1 q (m - x) hrest]; omega
          have HM := Lib.hid (fd_miss s q m hD0)
          have HX2 : Hid (xs ++ fd s q m = fd s K N) := Lib.hid (by rw [← HM.out.1]; exact hx.out)
          clear hD0
          go_wp2
          go_roundw
          case rel => exact ⟨m, q, xs, hm0, hm1, by omega, rfl, by go_num, HX2, hown, hb⟩
          case measure => simp [intOf] <;> omega
        · obtain ⟨r, hr⟩ := Int.eq_ofNat_of_zero_le (show 0 ≤ m - x by omega)
          obtain ⟨gv, cv, g5, c5, hv, hgv, hcv, hr5⟩ := (HW.out.below hb (Nat.le_refl _)).get (j := q) (by rw [HL.out]; omega)
          subst hv
          have hc5 := hr5.cell (j := r) (by omega)
          have hlI : (q : Int) < ((rs.length : Nat) : Int) := by rw [HL.out]; omega
          have hrI : (r : Int) < (N : Int) + 1 := by omega
          have hrI0 : (0 : Int) ≤ (r : Int) := by omega
          have hqI0 : (0 : Int) ≤ (q : Int) := by omega
          clear hr5
          by_cases hDr : 0 < D s q r
          · have hDI2 : (0 : Int) < (D s q r : Int) := by omega
            have HH : Hid (fd s (q + 1) m = ((q : Int) + 1) :: fd s q r) := by
              have h := fd_hit s q m (by rw [← HX.out, hr]; exact hDr)
              rw [← HX.out, hr] at h
              exact Lib.hid h.1
            have HX2 : Hid ((xs ++ [(q : Int) + 1]) ++ fd s q r = fd s K N) := Lib.hid (by rw [← hx.out, HH.out]; simp)
            clear hDr
            go_wp2_with (at_builtin; refine wpList_append_own _ rfl _ _ 25 rfl w2.heap.size 3 i0 (.int .i64 0) 1 8 Tryd.underlying25 hi0 hz0 hz1 hz2 rfl (by decide) _ _ _ rfl (hown.out.alloc _) ⟨wr.heap.size, 0, none⟩ 1 1 [.int .i64 ((q : Int) + 1)] rfl rfl ?c1 ?c2 ?c3 ?c4 ?c5 ?_)
            case c2 => first | rfl | (intro u hu; simp at hu; subst hu; rfl)
            case c3 => unfold maxLen; omega
            case c4 => omega
            case c5 => have := hb.size; simp; omega
            · intro v' w5 hown' hgrow _
              rw [snoc_i64] at hown'
              have hb5 : Below w2.heap.size w2 w5 := (hb.alloc hb.size _).grown hgrow (by have := hb.size; simp; omega) fun g hg => (hown.out.lt g hg).1
              have HO : Hid (w5.ownsRow w2.heap.size 3 1 v' (xs ++ [(q : Int) + 1]).length (i64s (xs ++ [(q : Int) + 1]))) := Lib.hid (by simpa using hown')
              clear hown' hgrow hcn2 hcv hc5
              go_wp2
              go_roundw
              case rel => exact ⟨r, q, xs ++ [(q : Int) + 1], hrI0, by omega, by omega, rfl, by go_num, HX2, HO, hb5⟩
              case measure => simp [intOf] <;> omega
          · have hDI2 : (D s q r : Int) = 0 := by omega
            rw [hDI2] at hc5
            have HM : Hid (fd s (q + 1) m = fd s q m) := Lib.hid (fd_miss s q m (by rw [← HX.out, hr]; exact hDr)).1
            have HX2 : Hid (xs ++ fd s q m = fd s K N) := Lib.hid (by rw [← HM.out]; exact hx.out)
            clear hDr hDI2
            go_wp2
            go_roundw
            case rel => exact ⟨m, q, xs, hm0, hm1, by omega, rfl, by go_num, HX2, hown, hb⟩
            case measure => simp [intOf] <;> omega
  · have HU := Lib.hid (u_no hD)
    have hDI : (D s K N : Int) = 0 := by omega
    clear hD
    go_wp2_with (first
      | (go_at_call 38; refine (assum_yes _ _ _ h1 h2 i1 i2).mono ?_; rintro e w' ⟨rfl, rfl⟩)
      | (go_at_call 40; refine (HNP.out _).mono ?_; rintro e w1 ⟨⟨g, c, rfl, hr⟩, hb⟩; have HR := Lib.hid hr; clear hr)
      | (go_at_call 48; refine (HDW.out _ _ _ _ HR.out).mono ?_; rintro e w2 ⟨⟨v, rs, rfl, hl, hws⟩, hb2⟩; have HL := Lib.hid hl; have HW := Lib.hid hws; clear hl hws)
      | (go_at_call 47; refine (lastOf_any _ _ _ _ _ _ HW.out (by rw [HL.out]; omega) (by rw [HL.out]; omega)).mono ?_; rintro e w3 ⟨⟨g3, c3, rfl, hr3⟩, rfl⟩; have hc := hr3.cell (j := N) (by omega); rw [HL.out, Nat.add_sub_cancel, hDI] at hc; clear hr3))
    go_ret2
    rw [HU.out.1, HU.out.2]
    exact resI_nil (hb.trans (hb2.mono hb.size))
theorem ufd_small (s : Int) (N : Nat) (h1 : 3 ≤ s) (hN : N ≤ 3000) : (ufd s (pl s N).toNat N).length ≤ 1000000000 := by
  have p1 := pl_77 s N h1 (by omega) (by omega)
  have h := fd_len s (pl s N).toNat N
  unfold ufd
  split
  · omega
  · simp
end Go.Proofs.YtegbikakfckehaaDoor
