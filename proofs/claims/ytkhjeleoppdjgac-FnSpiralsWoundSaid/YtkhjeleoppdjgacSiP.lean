/- Chapter 6: the specification's side: HexBeside. -/
import Derived.Test.YtkhjeleoppdjgacSiO
namespace Go.Proofs.Ytkhjeleoppdjgac
open Go.ChangeShapes Go.WideShapes Go.ChangeAt Go.RowKit

theorem hinfoInt : (Try.prog.info? 3).map (fun i => (i.zero, i.size, i.bytes)) = some (some (.int .i64 0), 1, 8) := by kernel_rfl
/-- The six steps to a spot's neighbours. -/
def nei : List (Int × Int) := [(1, 0), (0, 1), (-1, 1), (-1, 0), (0, -1), (1, -1)]
theorem nei_b : ∀ (i : Nat) (h : i < 6), -1 ≤ (nei[i]'h).1 ∧ (nei[i]'h).1 ≤ 1 ∧ -1 ≤ (nei[i]'h).2 ∧ (nei[i]'h).2 ≤ 1 ∧ -1 ≤ (nei[i]'h).1 + (nei[i]'h).2 ∧ (nei[i]'h).1 + (nei[i]'h).2 ≤ 1 := by decide
def hbe (x y : Int) (j : Nat) : List Int := (nei.take j).map fun s => hn (x + s.1) (y + s.2)
theorem hbe_len (x y : Int) (j : Nat) (h : j ≤ 6) : (hbe x y j).length = j := by
  have e : nei.length = 6 := rfl
  simp [hbe, e]
  omega
theorem hbe_succ (x y : Int) (j : Nat) (h : j < 6) : hbe x y (j + 1) = hbe x y j ++ [hn (x + (nei[j]'h).1) (y + (nei[j]'h).2)] := by
  unfold hbe
  rw [List.take_succ_eq_append_getElem (by exact h), List.map_append]
  rfl
theorem hbe_app (x y : Int) (j : Nat) (h : j < 6) : i64s (hbe x y j) ++ [.int .i64 (hn (x + (nei[j]'h).1) (y + (nei[j]'h).2))] = i64s (hbe x y (j + 1)) := by simp [hbe_succ x y j h]
theorem spec_HexBeside_no (n : Int) (w : World) (h : n < 0 ∨ 1000000 < n) :
    Calls Try.prog 42 #[.int .i64 n] w (ResI false [] w) := by
  have HA := Lib.hid (betr_no h)
  clear h
  go_enter Try.func42, Try.ntmps42
  go_wp2_with (go_at_call 87; refine (spGood_any _ _).mono ?_; rw [HA.out]; rintro e w' ⟨rfl, rfl⟩)
  go_ret2
  exact resI_nil (Below.refl _ _)
set_option maxHeartbeats 1600000 in
theorem spec_HexBeside_yes (n : Int) (w : World) (h0 : 0 ≤ n) (h1 : n ≤ 1000000) :
    Calls Try.prog 42 #[.int .i64 n] w (ResI true (hbe (hp n).1 (hp n).2 6) w) := by
  obtain ⟨i0, hi0, hz0, hz1, hz2⟩ := info_parts hinfoInt
  have HA := Lib.hid (betr_yes h0 h1)
  have HS := Lib.hid fun W => spHexSpot_any n W h0 (by omega)
  obtain ⟨x0, x1, y0, y1⟩ := hp_600 n h0 (by omega)
  have hsz1 : hsz (hp n).1 (hp n).2 ≤ 578 := by
    rw [hp_size n h0]
    exact hx_le n h0 (by omega)
  generalize (hp n).1 = x at *
  generalize (hp n).2 = y at *
  have HZ : Hid (∀ u v : Int, -1 ≤ u → u ≤ 1 → -1 ≤ v → v ≤ 1 → -1 ≤ u + v → u + v ≤ 1 → hsz (x + u) (y + v) ≤ 600) := Lib.hid fun u v _ _ _ _ _ _ => by
    unfold hsz ab at *
    omega
  clear hsz1
  go_enter Try.func42, Try.ntmps42
  go_wp2_with (first
    | (go_at_call 87; refine (spGood_any _ _).mono ?_; rw [HA.out]; rintro e w' ⟨rfl, rfl⟩)
    | (go_at_call 113; refine (HS.out _).mono ?_; rintro e w1 ⟨rfl, hb1⟩))
  have hB1 : Below w.heap.size w (w1.alloc (.cells #[.int .i64 x, .int .i64 y] 26)) := hb1.alloc hb1.size _
  generalize hL : (w1.alloc (.cells #[.int .i64 x, .int .i64 y] 26)).alloc (.cells #[.int .i64 1, .int .i64 0, .int .i64 0, .int .i64 1, .int .i64 (-1), .int .i64 1, .int .i64 (-1), .int .i64 0, .int .i64 0, .int .i64 (-1), .int .i64 1, .int .i64 (-1)] 26) = wl
  have hw1 := hb1.size
  have HB : Hid (Below w.heap.size w wl) := Lib.hid (by rw [← hL]; exact hB1.alloc (by simp; omega) _)
  have HO : Hid (Own wl (w1.heap.size + 1) (w1.heap.size + 2) (some ⟨w1.heap.size + 1, 0, none⟩) (prs nei)) := Lib.hid (fun _ => ⟨w1.heap.size + 1, 0, rfl, Nat.le_refl _, by omega, fun j u hu => ⟨by rw [← hL, World.cell?_alloc_at _ _ _ _ (by simp)]; simpa [prs, nei] using hu, by rw [← hL, World.frozen?_alloc_at _ _ _ _ (by simp)]⟩⟩)
  have e0 : wl.cell? ⟨w1.heap.size, 0, none⟩ = some (.int .i64 x) := by rw [← hL]; simp [go_sem]
  have e1 : wl.cell? ⟨w1.heap.size, 1, none⟩ = some (.int .i64 y) := by rw [← hL]; simp [go_sem]
  have hz : wl.heap.size = w1.heap.size + 2 := by rw [← hL]; simp
  have HZL := Lib.hid hz
  clear hL hB1 hb1 hw1 hz
  generalize w1.heap.size = R at *
  go_loopw [5, 21] (fun v i wr => ∃ j : Nat, j ≤ 6 ∧ i = .int .i64 (j : Int) ∧ Hid (wr.ownsRow wl.heap.size 3 1 v j (i64s (hbe x y j))) ∧ Below wl.heap.size wl wr) (fun _ i _ => (6 - intOf i).toNat)
  case atStart => exact ⟨0, by omega, by simp, Lib.hid (World.ownsRow_nil _ _ _ _), Below.refl _ _⟩
  case round =>
    obtain ⟨j, hj, rfl, hown, hb⟩ := hrel
    by_cases hlt : j < 6
    · have hlt2 : (j : Int) < 6 := by omega
      have hzz := HZL.out
      obtain ⟨g, o, hA, hg1, hg2, p0, p1⟩ := (HO.out.below hb (by omega)).pair_ (k := j) hlt
      obtain ⟨rfl, rfl⟩ : g = R + 1 ∧ o = 0 := by simp at hA; omega
      obtain ⟨s0, s1, t0, t1, st0, st1⟩ := nei_b j hlt
      rw [Nat.zero_add] at p0 p1
      have c0 := (hb.cell (p := ⟨R, 0, none⟩) (show R < wl.heap.size by omega)).trans e0
      have c1 := (hb.cell (p := ⟨R, 1, none⟩) (show R < wl.heap.size by omega)).trans e1
      have gl : R + 1 < wr.heap.size := by have := hb.size; omega
      have z0 : R < wr.heap.size := by omega
      have HE := Lib.hid (hbe_app x y j hlt)
      generalize (nei[j]'hlt).1 = u at *
      generalize (nei[j]'hlt).2 = v at *
      have HSN := Lib.hid fun W => spHexNumber_any (x + u) (y + v) W (by omega) (by omega) (by omega) (by omega) (HZ.out u v s0 s1 t0 t1 st0 st1)
      generalize hn (x + u) (y + v) = q at *
      clear hA hzz hg1 hg2
      go_wp2_with (first
        | (go_at_call 115; refine (HSN.out _).mono ?_; rintro e w3 ⟨rfl, hb8⟩; have hown1 := Lib.hid (row_below hown.out ((Below.refl _ _).alloc (Nat.le_refl _) _ |>.trans (hb8.mono (by simp))) (Nat.le_refl _)); have hb9 := (hb.alloc hb.size _).trans (hb8.mono (by have := hb.size; simp; omega)); clear hown hb)
        | (at_builtin; refine wpList_append_own _ rfl _ _ 31 rfl wl.heap.size 3 i0 (.int .i64 0) 1 8 Try.underlying31 hi0 hz0 hz1 hz2 rfl (by decide) _ _ _ rfl (hown1.out.alloc _) ⟨w3.heap.size, 0, none⟩ 1 1 [.int .i64 q] rfl rfl ?c1 ?c2 ?c3 ?c4 ?c5 ?_))
      case c1 =>
        intro j u hj
        match j, hj with
        | 0, hj => simp at hj; subst hj; simp [Addr.add]
      case c2 => intro u hu; simp at hu; subst hu; rfl
      case c3 => unfold maxLen; omega
      case c4 => omega
      case c5 => have := hb9.size; simp; omega
      · intro v' w4 hown' hgrow _
        rw [HE.out] at hown'
        have hb1 : Below wl.heap.size wl w4 := (hb9.alloc hb9.size _).grown hgrow (by have := hb9.size; simp; omega) fun g hg => (hown1.out.lt g hg).1
        have HOW := Lib.hid hown'
        clear hown' hown1 hgrow hb9
        go_wp2
        go_roundw
        case rel => exact ⟨j + 1, by omega, by go_num, HOW, hb1⟩
        case measure => simp [intOf]; omega
    · obtain rfl : j = 6 := by omega
      obtain ⟨A, c, rfl⟩ := row_form hown.out
      go_wp2
      go_ret2
      exact ⟨A, c, by rw [hbe_len x y 6 (by omega)]; rfl, (own_of_row hown.out).wide HB.out.size (Nat.le_refl _), HB.out.trans (hb.mono HB.out.size)⟩
end Go.Proofs.Ytkhjeleoppdjgac
