/- Chapter 6: the specification's side: WindowOf. -/
import Derived.Test.YtkhjeleoppdjgacSiE
import Derived.Test.YtkhjeleoppdjgacRuL
namespace Go.Proofs.Ytkhjeleoppdjgac
open Go.ChangeShapes Go.WideShapes Go.ChangeAt Go.RowKit

theorem siSS_of {w w1 : World} {V : Value} {rs : List Value} {yss : List (List Int)} (h : Lists w1 w.heap.size V rs yss) (hb : Below w.heap.size w w1) : ResSS true yss w (.returned (.tuple #[V, .bool true])) w1 := by
  obtain ⟨A, c, Af, cf, rfl, ho⟩ := h.ownL
  exact ⟨A, c, Af, cf, rfl, ho, hb⟩
/-- A row of a window, its rows. -/
def wro (x y : Int) (k : Nat) : List Int := (List.range k).map fun (j : Nat) => nu (x + j) y
def wnd (x y : Int) (wd k : Nat) : List (List Int) := (List.range k).map fun (j : Nat) => wro x (y - j) wd
theorem wro_len (x y : Int) (k : Nat) : (wro x y k).length = k := by simp [wro]
theorem wro_succ (x y : Int) (k : Nat) : wro x y (k + 1) = wro x y k ++ [nu (x + k) y] := by simp [wro, List.range_succ]
theorem wro_app (x y : Int) (k : Nat) : i64s (wro x y k) ++ [.int .i64 (nu (x + k) y)] = i64s (wro x y (k + 1)) := by simp [wro_succ]
theorem wnd_succ (x y : Int) (wd k : Nat) : wnd x y wd (k + 1) = wnd x y wd k ++ [wro x (y - k) wd] := by simp [wnd, List.range_succ]
/-- What the arguments of a window ask. -/
def wnOk (x y wd hg : Int) : Bool := isSpot x y && betr wd 0 20 && betr hg 0 20
theorem wnOk_bds {x y wd hg : Int} (h : wnOk x y wd hg = true) : isSpot x y = true ∧ 0 ≤ wd ∧ wd ≤ 20 ∧ 0 ≤ hg ∧ hg ≤ 20 := by
  simp [wnOk, betr] at h
  exact ⟨h.1.1, by omega, by omega, by omega, by omega⟩
theorem spec_WindowOf_no (x y wd hg : Int) (w : World) (h : wnOk x y wd hg = false) :
    Calls Try.prog 34 #[.agg #[.int .i64 x, .int .i64 y], .int .i64 wd, .int .i64 hg] w (ResSS false [] w) := by
  cases hx : isSpot x y
  · have HX := Lib.hid hx
    clear h hx
    go_enter Try.func34, Try.ntmps34
    go_wp2_with (go_at_call 100; refine (spIs_any _ _ _).mono ?_; rw [HX.out]; rintro e w1 ⟨rfl, hb1⟩; obtain ⟨cc, ff⟩ := bcell hb1; have z1 : w.heap.size < w1.heap.size := by have := hb1.size; simp at this; omega)
    go_ret2
    exact resSS_nil (((Below.refl _ _).alloc (Nat.le_refl _) _).trans (hb1.mono (by simp)))
  · cases hy : betr wd 0 20
    · have HX := Lib.hid hx
      have HY := Lib.hid hy
      clear h hx hy
      go_enter Try.func34, Try.ntmps34
      go_wp2_with (first
        | (go_at_call 100; refine (spIs_any _ _ _).mono ?_; rw [HX.out]; rintro e w1 ⟨rfl, hb1⟩; obtain ⟨cc, ff⟩ := bcell hb1; have z1 : w.heap.size < w1.heap.size := by have := hb1.size; simp at this; omega)
        | (go_at_call 104; refine (rin_any _ _ _ _).mono ?_; (first | rw [HY.out]); rintro e w' ⟨rfl, rfl⟩))
      go_ret2
      exact resSS_nil (((Below.refl _ _).alloc (Nat.le_refl _) _).trans (hb1.mono (by simp)))
    · have HN : Hid (betr hg 0 20 = false) := Lib.hid (by simpa [wnOk, hx, hy] using h)
      have HX := Lib.hid hx
      have HY := Lib.hid hy
      clear h hx hy
      go_enter Try.func34, Try.ntmps34
      go_wp2_with (first
        | (go_at_call 100; refine (spIs_any _ _ _).mono ?_; rw [HX.out]; rintro e w1 ⟨rfl, hb1⟩; obtain ⟨cc, ff⟩ := bcell hb1; have z1 : w.heap.size < w1.heap.size := by have := hb1.size; simp at this; omega)
        | (go_at_call 104; refine (rin_any _ _ _ _).mono ?_; (first | rw [HY.out] | rw [HN.out]); rintro e w' ⟨rfl, rfl⟩))
      go_ret2
      exact resSS_nil (((Below.refl _ _).alloc (Nat.le_refl _) _).trans (hb1.mono (by simp)))
set_option maxHeartbeats 3200000 in
theorem spec_WindowOf_yes (x y wd hg : Int) (w : World) (h : wnOk x y wd hg = true) :
    Calls Try.prog 34 #[.agg #[.int .i64 x, .int .i64 y], .int .i64 wd, .int .i64 hg] w (ResSS true (wnd x y wd.toNat hg.toNat) w) := by
  obtain ⟨i0, hi0, hz0, hz1, hz2⟩ := info_parts infoInt6
  obtain ⟨ir, hir, hzr0, hzr1, hzr2⟩ := info_parts infoRow2
  obtain ⟨hs, d0, d1, g0, g1⟩ := wnOk_bds h
  obtain ⟨x0, x1, y0, y1⟩ := isSpot_bds hs
  have HX := Lib.hid hs
  have HY := Lib.hid (betr_yes d0 d1)
  have HN := Lib.hid (betr_yes g0 g1)
  clear h hs
  obtain ⟨D, rfl⟩ := Int.eq_ofNat_of_zero_le d0
  obtain ⟨G, rfl⟩ := Int.eq_ofNat_of_zero_le g0
  rw [show (D : Int).toNat = D by omega, show (G : Int).toNat = G by omega]
  go_enter Try.func34, Try.ntmps34
  go_wp2_with (first
    | (go_at_call 100; refine (spIs_any _ _ _).mono ?_; rw [HX.out]; rintro e w1 ⟨rfl, hb1⟩; obtain ⟨cc, ff⟩ := bcell hb1; have z1 : w.heap.size < w1.heap.size := by have := hb1.size; simp at this; omega)
    | (go_at_call 104; refine (rin_any _ _ _ _).mono ?_; (first | rw [HY.out] | rw [HN.out]); rintro e w' ⟨rfl, rfl⟩))
  have HB : Hid (Below w.heap.size w w1) := Lib.hid (((Below.refl _ _).alloc (Nat.le_refl _) _).trans (hb1.mono (by simp)))
  have e0 : w1.cell? ⟨w.heap.size, 0, none⟩ = some (.int .i64 x) := by rw [cc _ _ (by simp)]; simp [go_sem]
  have e1 : w1.cell? ⟨w.heap.size, 1, none⟩ = some (.int .i64 y) := by rw [cc _ _ (by simp)]; simp [go_sem]
  clear cc ff hb1
  have HZ := Lib.hid z1
  clear z1
  generalize hR : w.heap.size = R at *
  go_loopw [8, 9] (fun v i wr => ∃ (k : Nat) (rs : List Value), k ≤ G ∧ i = .int .i64 (k : Int) ∧ rs.length ≤ k ∧ Hid (Lists wr w1.heap.size v rs (wnd x y D k)) ∧ Below w1.heap.size w1 wr) (fun _ i _ => (G - intOf i).toNat)
  case atStart => exact ⟨0, [], by omega, by simp, by simp, Lib.hid (Lists.nil _ _), Below.refl _ _⟩
  case round =>
    obtain ⟨k, rs, hk, rfl, hrk, HL, hb⟩ := hrel
    generalize wr = wo at *
    by_cases hlt : k < G
    · have hlt2 : (k : Int) < (G : Int) := by omega
      go_wp2
      go_loopw [10, 11] (fun v i w2 => ∃ j : Nat, j ≤ D ∧ i = .int .i64 (j : Int) ∧ Hid (w2.ownsRow wo.heap.size 3 1 v j (i64s (wro x (y - k) j))) ∧ Below wo.heap.size wo w2) (fun _ i _ => (D - intOf i).toNat)
      case atStart => exact ⟨0, by omega, by simp, Lib.hid (World.ownsRow_nil _ _ _ _), Below.refl _ _⟩
      case round =>
        obtain ⟨j, hj, rfl, hown, hbw⟩ := hrel
        by_cases hjl : j < D
        · have hjl2 : (j : Int) < (D : Int) := by omega
          have HBW := hb.trans (hbw.mono hb.size)
          have f0 := (HBW.cell (p := ⟨R, 0, none⟩) HZ.out).trans e0
          have f1 := (HBW.cell (p := ⟨R, 1, none⟩) HZ.out).trans e1
          have HS := Lib.hid fun W => spNumber_any (x + (j : Int)) (y - (k : Int)) W (by omega) (by omega) (by omega) (by omega)
          have HE := Lib.hid (wro_app x (y - (k : Int)) j)
          generalize nu (x + (j : Int)) (y - (k : Int)) = u at *
          clear HBW
          go_wp2_with (first
            | (go_at_call 93; refine (HS.out _).mono ?_; rintro e w3 ⟨rfl, hb8⟩; have hown1 := Lib.hid (row_below hown.out hb8 (Nat.le_refl _)); have hb9 := hbw.trans (hb8.mono hbw.size); clear hown hbw)
            | (at_builtin; refine wpList_append_own _ rfl _ _ 31 rfl wo.heap.size 3 i0 (.int .i64 0) 1 8 Try.underlying31 hi0 hz0 hz1 hz2 rfl (by decide) _ _ _ rfl (hown1.out.alloc _) ⟨w3.heap.size, 0, none⟩ 1 1 [.int .i64 u] rfl rfl ?c1 ?c2 ?c3 ?c4 ?c5 ?_))
          case c1 =>
            intro j u hj
            match j, hj with
            | 0, hj => simp at hj; subst hj; simp [Addr.add]
          case c2 => intro u hu; simp at hu; subst hu; rfl
          case c3 => unfold maxLen; omega
          case c4 => omega
          case c5 => have := hb9.size; simp; omega
          · intro v' w4 hown' hgrow _
            rw [HE.out] at hown'
            have hb1 : Below wo.heap.size wo w4 := (hb9.alloc hb9.size _).grown hgrow (by have := hb9.size; simp; omega) fun g hg => (hown1.out.lt g hg).1
            have HO := Lib.hid hown'
            clear hown' hown1 hgrow hb9
            go_wp2
            go_roundw
            case rel => exact ⟨j + 1, by omega, by go_num, HO, hb1⟩
            case measure => simp [intOf]; omega
        · obtain rfl : j = D := by omega
          obtain ⟨A, c, rfl⟩ := row_form hown.out
          have HZ1 := hb.size
          go_wp2_with (at_builtin; refine wpList_append_own _ rfl _ _ 49 rfl w1.heap.size 31 ir (.slice none 0 0) 1 24 Try.underlying49 hir hzr0 hzr1 hzr2 rfl (by decide) _ rs.length rs rfl ((HL.out.below hbw (Nat.le_refl _)).2.1.alloc _) ⟨wr.heap.size, 0, none⟩ 1 1 [.slice A j c] rfl rfl ?c1 ?c2 ?c3 ?c4 ?c5 ?_)
          case c1 =>
            intro j u hj
            match j, hj with
            | 0, hj => simp at hj; subst hj; simp [Addr.add, go_sem]
          case c2 => intro u hu; simp at hu; subst hu; rfl
          case c3 => unfold maxLen; omega
          case c4 => omega
          case c5 => have := hb.size; have := hbw.size; simp; omega
          · intro v' w5 hown' hgrow _
            have HL2 : Hid (Lists w5 w1.heap.size v' (rs ++ [.slice A j c]) (wnd x y j (k + 1))) := Lib.hid (by
              rw [wnd_succ]
              exact HL.out.app hbw hb.size (by rw [wro_len]; exact hown.out) hown' hgrow)
            have hb1 : Below w1.heap.size w1 w5 := ((hb.trans (hbw.mono hb.size)).alloc (Nat.le_trans hb.size hbw.size) _).grown hgrow (by have := hb.size; have := hbw.size; simp; omega) fun g hg => (HL.out.2.1.lt g hg).1
            clear hown' hgrow hb HL hown hbw
            go_wp2
            go_roundw
            case rel => exact ⟨k + 1, _, by omega, by go_num, by simp; omega, HL2, hb1⟩
            case measure => simp [intOf]; omega
    · obtain rfl : k = G := by omega
      go_wp2
      go_ret2
      exact siSS_of (HL.out.wide HB.out.size) ((hR ▸ HB.out).trans (hb.mono HB.out.size))
end Go.Proofs.Ytkhjeleoppdjgac
