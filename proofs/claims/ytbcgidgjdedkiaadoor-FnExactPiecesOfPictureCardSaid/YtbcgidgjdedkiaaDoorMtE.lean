/- The texts XDtE XDtF XDtG XDtH XDtI XDtJ XDtK joined. -/
import Derived.Test.YtbcgidgjdedkiaaDoorMtD
import Derived.Lib.OthersKept
import Derived.WalkSmall
import Derived.Laws.OwnMore
import Derived.Laws.AppendOwnNone
/- Chapter 7: the specification's pictures of marked places. -/
namespace Go.Proofs.YtbcgidgjdedkiaaDoor
open Go.ChangeShapes Go.WideShapes Go.ChangeAt Go.RowKit

/-- The first x signs of a row. -/
def rowK (W : Nat) (d : Nat → Bool) (y x : Nat) : List UInt8 := (List.range x).map fun x => sgn (d (y * W + x))
theorem rowK_succ (W : Nat) (d : Nat → Bool) (y x : Nat) : rowK W d y (x + 1) = rowK W d y x ++ [sgn (d (y * W + x))] := by simp [rowK, List.range_succ]
theorem rowK_all (W : Nat) (d : Nat → Bool) (y : Nat) : rowK W d y W = gRow W d y := rfl
theorem rowK_len (W : Nat) (d : Nat → Bool) (y x : Nat) : (rowK W d y x).length = x := by simp [rowK]
theorem gRows_succ (W y : Nat) (d : Nat → Bool) : gRows W (y + 1) d = gRows W y d ++ [gRow W d y] := by simp [gRows, List.range_succ]
theorem sgn_app (a : List UInt8) (b : Bool) : bt a ++ bt [sgn b] = bt (a ++ [sgn b]) := bt_app _ _
set_option maxRecDepth 4000 in
set_option maxHeartbeats 1600000 in
theorem doMake_any (W H n c g : Nat) (d : Nat → Bool) (w : World) (hn : n = W * H) (w0 : 1 ≤ W) (w1 : W ≤ 50) (h0 : 1 ≤ H) (h1 : H ≤ 50) (hg : g < w.heap.size)
    (hC : ∀ i, i < n → w.cell? ⟨g, i, none⟩ = some (.bool (d i))) :
    Calls Tryd.prog 59 #[.int .i64 (W : Int), .int .i64 (H : Int), .slice (some ⟨g, 0, none⟩) n c] w fun e w' => e = .returned (.string (bt (gText W H d))) ∧ Below w.heap.size w w' := by
  obtain ⟨i0, hi0, hz0, hz1, hz2⟩ := info_parts infoStr
  have HC := Lib.hid hC
  have HN := Lib.hid hn
  have HT : Hid (∀ (g2 c2 : Nat) (W2 : World), H ≤ c2 → RowsAt W2 w.heap.size g2 H (gRows W H d) → Calls Tryd.prog 48 #[.slice (some ⟨g2, 0, none⟩) H c2] W2 fun e w' => e = .returned (.string (bt (gText W H d))) ∧ W2 = w') := Lib.hid fun g2 c2 W2 hc hr =>
    doText_any g2 0 H c2 (gRows W H d) W2 (gRows_len W H d).symm h0 (by omega) hc (fun r hr => by obtain ⟨y, _, rfl⟩ := List.mem_map.1 hr; rw [gRow_len]; omega) (fun j hj => by rw [Nat.zero_add]; exact hr.cell j hj)
  have HGL : Hid (∀ y, (gRows W y d).length = y) := Lib.hid fun y => gRows_len W y d
  clear hC hn
  have hW0 : (0 : Int) ≤ (W : Int) := by omega
  go_enter Tryd.func59, Tryd.ntmps59
  go_wp2
  go_loopw [7, 8] (fun v i wr => ∃ y : Nat, y ≤ H ∧ i = .int .i64 (y : Int) ∧ Hid (wr.ownsRow w.heap.size 9 1 v (gRows W y d).length (strs (gRows W y d))) ∧ Hid (Below w.heap.size w wr)) (fun _ i _ => H - (intOf i).toNat)
  case atStart => exact ⟨0, by omega, by simp, Lib.hid (World.ownsRow_nil _ _ _ _), Lib.hid (Below.refl _ _)⟩
  case round =>
    obtain ⟨y, hy, rfl, hown, hb⟩ := hrel
    by_cases hlt : y < H
    · have hlt2 : (y : Int) < (H : Int) := by omega
      have hm1 : y * W + W ≤ n := by
        rw [HN.out, Nat.mul_comm W H, ← Nat.succ_mul]
        exact Nat.mul_le_mul_right _ hlt
      have hm2 : n ≤ 2500 := by
        rw [HN.out]
        exact Nat.mul_le_mul (n₁ := W) (n₂ := 50) (m₁ := H) (m₂ := 50) w1 h1
      have hmw : IntKind.i64.wrap ((y : Int) * (W : Int)) = ((y * W : Nat) : Int) := by
        rw [IntWalk.i64_in]
        · push_cast; rfl
        · have : ((y * W : Nat) : Int) = (y : Int) * (W : Int) := by push_cast; rfl
          omega
      have HK := Lib.hid fun x => rowK_succ W d y x
      have HKL := Lib.hid fun x => rowK_len W d y x
      have HKA := Lib.hid (rowK_all W d y)
      have HSU := Lib.hid (gRows_succ W y d)
      have HCy : Hid (∀ x, x < W → wr.cell? ⟨g, y * W + x, none⟩ = some (.bool (d (y * W + x)))) := Lib.hid fun x hx => (hb.out.cell (p := ⟨g, y * W + x, none⟩) hg).trans (HC.out _ (by omega))
      generalize hM : y * W = M at *
      have HMM := Lib.hid hM
      clear hM
      go_wp2
      go_loopw [9, 10] (fun v i w2 => w2 = wr ∧ ∃ x : Nat, x ≤ W ∧ i = .int .i64 (x : Int) ∧ v = .string (bt (rowK W d y x))) (fun _ i _ => W - (intOf i).toNat)
      case atStart => exact ⟨rfl, 0, by omega, by simp, by simp [rowK, bt]⟩
      case round =>
        obtain ⟨rfl, x, hx, rfl, rfl⟩ := hrel
        by_cases hxl : x < W
        · have hxl2 : (x : Int) < (W : Int) := by omega
          have hc0 := HCy.out x hxl
          have hk := HK.out x
          have hkl := HKL.out x
          have i1 : (0 : Int) ≤ (M : Int) + (x : Int) := by omega
          have i2 : (M : Int) + (x : Int) < (n : Int) := by omega
          have i3 : ((M : Int) + (x : Int)).toNat = M + x := by omega
          generalize rowK W d y x = a at *
          cases hd : d (M + x)
          · rw [hd] at hc0 hk
            have kc := cat7 (bt a) ⟨#[46]⟩ (by simp [bt, ByteArray.size]; omega)
            rw [show (bt a ++ ⟨#[46]⟩ : ByteArray) = bt (rowK W d y (x + 1)) by rw [hk]; exact sgn_app a false] at kc
            clear hd hk hkl
            go_wp2
            go_roundw
            case rel => exact ⟨trivial, x + 1, by omega, by go_num, rfl⟩
            case measure => simp [intOf]; omega
          · rw [hd] at hc0 hk
            have kc := cat7 (bt a) ⟨#[111]⟩ (by simp [bt, ByteArray.size]; omega)
            rw [show (bt a ++ ⟨#[111]⟩ : ByteArray) = bt (rowK W d y (x + 1)) by rw [hk]; exact sgn_app a true] at kc
            clear hd hk hkl
            go_wp2
            go_roundw
            case rel => exact ⟨trivial, x + 1, by omega, by go_num, rfl⟩
            case measure => simp [intOf]; omega
        · obtain rfl : x = W := by omega
          rw [HKA.out]
          go_wp2_with (at_builtin; refine wpList_append_own _ rfl _ _ 31 rfl w.heap.size 9 i0 (.string ⟨#[]⟩) 1 16 Tryd.underlying31 hi0 hz0 hz1 hz2 rfl (by decide) _ _ _ rfl (hown.out.alloc _) ⟨wr.heap.size, 0, none⟩ 1 1 [.string (bt (gRow x d y))] rfl rfl ?c1 ?c2 ?c3 ?c4 ?c5 ?_)
          case c1 =>
            intro j u hj
            match j, hj with
            | 0, hj => simp at hj; subst hj; simp [Addr.add]
          case c2 => intro u hu; simp at hu; subst hu; rfl
          case c3 => rw [gRows_len]; unfold maxLen; omega
          case c4 => rw [gRows_len]; omega
          case c5 => have := hb.out.size; simp; omega
          · intro v' w4 hown' hgrow _
            have HO4 : Hid (w4.ownsRow w.heap.size 9 1 v' (gRows x (y + 1) d).length (strs (gRows x (y + 1) d))) := Lib.hid (by
              rw [HSU.out, ← strs_app, List.length_append]
              exact hown')
            have HB4 := Lib.hid ((hb.out.alloc hb.out.size _).grown hgrow (by have := hb.out.size; simp; omega) fun g hg => (hown.out.lt g hg).1)
            clear hown' hgrow hown hb
            go_wp2
            go_roundw
            case rel => exact ⟨y + 1, by omega, by go_num, HO4, HB4⟩
            case measure => simp [intOf]; omega
    · obtain rfl : y = H := by omega
      obtain ⟨g2, c2, rfl, hc2, hr⟩ := rows_of_row hown.out (by rw [gRows_len]; exact h0)
      have hr2 : RowsAt wr w.heap.size g2 y (gRows W y d) := by have := hr; rwa [gRows_len] at this
      rw [gRows_len] at hc2
      have HTT := Lib.hid (HT.out g2 c2 wr hc2 hr2)
      rw [HGL.out]
      go_wp2_with (go_at_call 48; refine HTT.out.mono ?_; rintro e w' ⟨rfl, rfl⟩)
      go_ret
      exact ⟨rfl, hb.out⟩
end Go.Proofs.YtbcgidgjdedkiaaDoor
/- Chapter 7: the specification's rows mirrored. -/
namespace Go.Proofs.YtbcgidgjdedkiaaDoor
open Go.ChangeShapes Go.WideShapes Go.ChangeAt Go.RowKit

theorem bt_cut1 (r : List UInt8) (x : Nat) (hx : x < r.length) : (bt r).extract x (x + 1) = bt [r.getD x 0] := by
  rw [show (bt r).extract x (x + 1) = bt ((r.take (x + 1)).drop x) from by rw [ba_cut]; rfl, List.take_succ_eq_append_getElem hx, List.drop_append]
  simp [List.getD, hx, List.drop_of_length_le, Nat.min_eq_left (Nat.le_of_lt hx)]
theorem rev_succ (r : List UInt8) (t : Nat) (h : t < r.length) : r.reverse.take (t + 1) = r.reverse.take t ++ [r.getD (r.length - 1 - t) 0] := by
  rw [List.take_succ_eq_append_getElem (by rw [List.length_reverse]; exact h), List.getElem_reverse]
  simp [List.getD, show r.length - 1 - t < r.length by omega]
theorem map_succ (R : List (List UInt8)) (f : List UInt8 → List UInt8) (j : Nat) (h : j < R.length) : (R.take (j + 1)).map f = (R.take j).map f ++ [f (R.getD j [])] := by
  rw [List.take_succ_eq_append_getElem h, List.map_append]
  simp [List.getD, h]
set_option maxRecDepth 4000 in
set_option maxHeartbeats 1600000 in
theorem doMirror_any (g n c : Nat) (R : List (List UInt8)) (w : World) (lo : Nat) (hr : RowsAt w lo g n R) (h1 : 1 ≤ n) (h2 : n ≤ 100) (hnc : n ≤ c) (hl : ∀ j, (R.getD j []).length ≤ 100) :
    Calls Tryd.prog 52 #[.slice (some ⟨g, 0, none⟩) n c] w fun e w' => ∃ g' c', e = .returned (.slice (some ⟨g', 0, none⟩) n c') ∧ n ≤ c' ∧ RowsAt w' w.heap.size g' n (R.map List.reverse) ∧ Below w.heap.size w w' := by
  obtain ⟨i0, hi0, hz0, hz1, hz2⟩ := info_parts infoStr
  have HC := Lib.hid hr.cell
  have hg := hr.hi
  have hn := hr.n
  have HL := Lib.hid hl
  have HM := Lib.hid fun j (h : j < n) => map_succ R List.reverse j (by omega)
  have HML : Hid (∀ j, j ≤ n → ((R.take j).map List.reverse).length = j) := Lib.hid fun j hj => by rw [List.length_map, List.length_take]; omega
  have HMA : Hid ((R.take n).map List.reverse = R.map List.reverse) := Lib.hid (by rw [List.take_of_length_le (by omega)])
  have HRN : Hid (R.length = n) := Lib.hid hn.symm
  clear hr hl hn
  go_enter Tryd.func52, Tryd.ntmps52
  go_wp2
  go_loopw [3, 10] (fun v i wr => ∃ j : Nat, j ≤ n ∧ i = .int .i64 (j : Int) ∧ Hid (wr.ownsRow w.heap.size 9 1 v ((R.take j).map List.reverse).length (strs ((R.take j).map List.reverse))) ∧ Hid (Below w.heap.size w wr)) (fun _ i _ => n - (intOf i).toNat)
  case atStart => exact ⟨0, by omega, by simp, Lib.hid (World.ownsRow_nil _ _ _ _), Lib.hid (Below.refl _ _)⟩
  case round =>
    obtain ⟨j, hj, rfl, hown, hb⟩ := hrel
    by_cases hlt : j < n
    · have hlt2 : (j : Int) < (n : Int) := by omega
      have c0 : wr.cell? ⟨g, j, none⟩ = some (.string (bt (R.getD j []))) := (hb.out.cell (p := ⟨g, j, none⟩) hg).trans (HC.out j hlt)
      have hrl := HL.out j
      have hm := HM.out j hlt
      have hml := HML.out j hj
      generalize R.getD j [] = r at *
      generalize (R.take j).map List.reverse = X at *
      have HS := Lib.hid fun t h => rev_succ r t h
      have HX := Lib.hid fun x h => bt_cut1 r x h
      have HRA : Hid (r.reverse.take r.length = r.reverse) := Lib.hid (List.take_of_length_le (by simp))
      have hsz : (bt r).size = r.length := bt_size r
      have HSU := Lib.hid hm
      clear hm
      obtain ⟨L, hL⟩ : ∃ L, L = r.length := ⟨_, rfl⟩
      have HLL := Lib.hid hL
      have HSZ : Hid ((bt r).size = L) := Lib.hid (hsz.trans hL.symm)
      rw [← hL] at hrl hsz
      clear hL
      generalize hbr : bt r = B at *
      have HBR := Lib.hid hbr
      clear hbr
      go_wp2
      go_loopw [6, 7] (fun v i w2 => w2 = wr ∧ ∃ t : Nat, t ≤ L ∧ i = .int .i64 (((L - t : Nat) : Int) - 1) ∧ v = .string (bt (r.reverse.take t))) (fun _ i _ => (intOf i + 1).toNat)
      case atStart => exact ⟨rfl, 0, by omega, by simp, by simp [bt]⟩
      case round =>
        obtain ⟨rfl, t, ht, rfl, rfl⟩ := hrel
        by_cases htl : t < L
        · obtain ⟨x, hx⟩ : ∃ x, L - t = x + 1 := ⟨L - t - 1, by omega⟩
          have hxe : (((L - t : Nat) : Int) - 1) = (x : Int) := by omega
          rw [hxe]
          have hx0 : (x : Int) ≥ 0 := by omega
          have hx1 : (x : Int) + 1 ≤ (L : Int) := by omega
          have hx2 : ((x : Int) + 1).toNat = x + 1 := by omega
          have hs := HS.out t (by rw [← HLL.out]; exact htl)
          have hcx := HX.out x (by rw [← HLL.out]; omega)
          rw [show r.length - 1 - t = x by rw [← HLL.out]; omega] at hs
          generalize r.getD x 0 = u at *
          have k1 := cat7 (bt (r.reverse.take t)) (bt [u]) (by simp [bt, ByteArray.size]; omega)
          rw [bt_app, ← hs] at k1
          clear hs hxe
          go_wp2
          go_roundw
          case rel => exact ⟨trivial, t + 1, by omega, by rw [show L - (t + 1) = x by omega], rfl⟩
          case measure => simp [intOf] <;> omega
        · obtain rfl : t = L := by omega
          have HRA2 : Hid (r.reverse.take t = r.reverse) := Lib.hid (by rw [HLL.out]; exact HRA.out)
          rw [HRA2.out]
          go_wp2_with (at_builtin; refine wpList_append_own _ rfl _ _ 31 rfl w.heap.size 9 i0 (.string ⟨#[]⟩) 1 16 Tryd.underlying31 hi0 hz0 hz1 hz2 rfl (by decide) _ _ _ rfl (hown.out.alloc _) ⟨wr.heap.size, 0, none⟩ 1 1 [.string (bt r.reverse)] rfl rfl ?c1 ?c2 ?c3 ?c4 ?c5 ?_)
          case c1 =>
            intro j u hj
            match j, hj with
            | 0, hj => simp at hj; subst hj; simp [Addr.add]
          case c2 => intro u hu; simp at hu; subst hu; rfl
          case c3 => unfold maxLen; omega
          case c4 => omega
          case c5 => have := hb.out.size; simp; omega
          · intro v' w4 hown' hgrow _
            have HO4 : Hid (w4.ownsRow w.heap.size 9 1 v' ((R.take (j + 1)).map List.reverse).length (strs ((R.take (j + 1)).map List.reverse))) := Lib.hid (by
              rw [HSU.out, ← strs_app, List.length_append, hml]
              exact hown')
            have HB4 := Lib.hid ((hb.out.alloc hb.out.size _).grown hgrow (by have := hb.out.size; simp; omega) fun g hg => (hown.out.lt g hg).1)
            clear hown' hgrow hown hb
            go_wp2
            go_roundw
            case rel => exact ⟨j + 1, by omega, by go_num, HO4, HB4⟩
            case measure => simp [intOf]; omega
    · obtain rfl : j = n := by omega
      have hml := HML.out j (Nat.le_refl _)
      obtain ⟨g2, c2, rfl, hc2, hr⟩ := rows_of_row hown.out (by rw [hml]; exact h1)
      rw [hml] at hc2
      have hr2 : RowsAt wr w.heap.size g2 j (R.map List.reverse) := by
        have := hr
        rw [HMA.out, List.length_map, HRN.out] at this
        exact this
      rw [hml]
      clear hml
      go_wp2
      go_ret
      exact ⟨g2, c2, rfl, hc2, hr2, hb.out⟩
end Go.Proofs.YtbcgidgjdedkiaaDoor
/- Chapter 7: the specification's rows turned by a quarter. -/
namespace Go.Proofs.YtbcgidgjdedkiaaDoor
open Go.ChangeShapes Go.WideShapes Go.ChangeAt Go.RowKit

/-- The first t signs of column x from below. -/
def clm (W H : Nat) (d : Nat → Bool) (x t : Nat) : List UInt8 := (List.range t).map fun j => sgn (d ((H - 1 - j) * W + x))
theorem clm_succ (W H : Nat) (d : Nat → Bool) (x t : Nat) : clm W H d x (t + 1) = clm W H d x t ++ [sgn (d ((H - 1 - t) * W + x))] := by simp [clm, List.range_succ]
theorem clm_len (W H : Nat) (d : Nat → Bool) (x t : Nat) : (clm W H d x t).length = t := by simp [clm]
theorem clm_all (W H : Nat) (d : Nat → Bool) (x : Nat) : clm W H d x H = gRow H (tD W H d) x := by
  unfold clm gRow
  refine List.map_congr_left fun j hj => ?_
  have hj2 : j < H := List.mem_range.1 hj
  have h0 : 0 < H := by omega
  unfold tD
  rw [Nat.mul_comm x H, Nat.mul_add_mod, Nat.mod_eq_of_lt hj2, Nat.mul_add_div h0, Nat.div_eq_of_lt hj2, Nat.add_zero]
theorem gRow_at (W : Nat) (d : Nat → Bool) (y x : Nat) (h : x < W) : (gRow W d y).getD x 0 = sgn (d (y * W + x)) := by simp [gRow, List.getD, h]
theorem gRows_at (W H : Nat) (d : Nat → Bool) (y : Nat) (h : y < H) : (gRows W H d).getD y [] = gRow W d y := by simp [gRows, List.getD, h]
theorem sgn_128 (b : Bool) : (sgn b).toNat < 128 := by cases b <;> decide
theorem bt_at (r : List UInt8) (x : Nat) (h : x < (bt r).size) : (bt r)[x]'h = r.getD x 0 := by
  have h2 : x < r.length := by rw [← bt_size r]; exact h
  simp only [List.getD, List.getElem?_eq_getElem h2]
  rfl
theorem gRow_128 (W : Nat) (d : Nat → Bool) (y x : Nat) (h : x < (bt (gRow W d y)).size) : ((bt (gRow W d y))[x]'h).toNat < 128 := by
  rw [bt_at, gRow_at _ _ _ _ (by rw [bt_size, gRow_len] at h; exact h)]
  exact sgn_128 _
set_option maxRecDepth 4000 in
set_option maxHeartbeats 1600000 in
theorem doTurn_any (g W H c lo : Nat) (d : Nat → Bool) (w : World) (w0 : 1 ≤ W) (w1 : W ≤ 50) (h0 : 1 ≤ H) (h1 : H ≤ 50) (hnc : H ≤ c) (hr : RowsAt w lo g H (gRows W H d)) :
    Calls Tryd.prog 49 #[.slice (some ⟨g, 0, none⟩) H c] w fun e w' => ∃ g' c', e = .returned (.slice (some ⟨g', 0, none⟩) W c') ∧ W ≤ c' ∧ RowsAt w' w.heap.size g' W (gRows H W (tD W H d)) ∧ Below w.heap.size w w' := by
  obtain ⟨i0, hi0, hz0, hz1, hz2⟩ := info_parts infoStr
  have HC : Hid (∀ y, y < H → w.cell? ⟨g, y, none⟩ = some (.string (bt (gRow W d y)))) := Lib.hid fun y hy => by rw [hr.cell y hy, gRows_at W H d y hy]
  have c0 := HC.out 0 (by omega)
  have hg := hr.hi
  have HGL : Hid (∀ x, (gRows H x (tD W H d)).length = x) := Lib.hid fun x => gRows_len H x _
  have HGS : Hid (∀ x, gRows H (x + 1) (tD W H d) = gRows H x (tD W H d) ++ [clm W H d x H]) := Lib.hid fun x => by rw [gRows_succ, clm_all]
  have hh : (0 : Int) < (H : Int) := by omega
  have H128 := Lib.hid fun x h => gRow_128 W d 0 x h
  have hsz : (bt (gRow W d 0)).size = W := by rw [bt_size, gRow_len]
  obtain ⟨s, hs⟩ : ∃ s, s = bt (gRow W d 0) := ⟨_, rfl⟩
  rw [← hs] at c0 hsz H128
  clear hr hs
  have hk0 : (w.iter s 0).heap[w.heap.size]? = some (.stringIter s 0) := by
    have h5 := World.iter_heap w s 0
    simpa using h5
  have hb0 : Hid (Below w.heap.size w (w.iter s 0)) := Lib.hid ((Below.refl _ w).alloc (Nat.le_refl _) _)
  have hz0' : Hid (w.heap.size + 1 ≤ (w.iter s 0).heap.size) := Lib.hid (by simp [World.iter])
  have HK0 := Lib.hid hk0
  clear hk0
  go_enter Tryd.func49, Tryd.ntmps49
  go_wp2
  go_loopw [3] (fun v wr => ∃ x : Nat, x ≤ W ∧ Hid (wr.heap[w.heap.size]? = some (.stringIter s x)) ∧ Hid (wr.ownsRow (w.heap.size + 1) 9 1 v (gRows H x (tD W H d)).length (strs (gRows H x (tD W H d)))) ∧ Hid (Below w.heap.size w wr) ∧ Hid (w.heap.size + 1 ≤ wr.heap.size)) (fun _ wr => W - wr.iterPos w.heap.size)
  case atStart => exact ⟨0, by omega, HK0, Lib.hid (World.ownsRow_nil _ _ _ _), hb0, hz0'⟩
  case round =>
    obtain ⟨x, hx, hk, hown, hb, hsz1⟩ := hrel
    clear HK0 hb0 hz0'
    by_cases hlt : x < W
    · have hxs : x < s.size := by omega
      have h128 := H128.out x hxs
      have hnext : ∀ ty, (Instr.next (.pointer (some ⟨w.heap.size, 0, none⟩)) true ty).run Tryd.prog wr = _ := fun ty => Lib.run_next_ascii_at wr w.heap.size s x ty hk.out hxs h128
      have hk1 := Lib.hid (Lib.iterAt_heap wr w.heap.size s x (x + 1) hk.out)
      have hb1 := Lib.hid (Lib.below_iterAt hb.out (Nat.le_refl _) s (x + 1))
      have hown1 := Lib.hid (ownsRow_iterAt hown.out (Nat.lt_succ_self _) s (x + 1))
      have hs2 : Hid (w.heap.size + 1 ≤ (wr.iterAt w.heap.size s (x + 1)).heap.size) := Lib.hid (by rw [Lib.iterAt_size]; exact hsz1.out)
      have hmu : wr.iterPos w.heap.size = x := by simp [World.iterPos, hk.out]
      generalize wr.iterAt w.heap.size s (x + 1) = W1 at hnext hk1 hb1 hown1 hs2
      have HC1 : Hid (∀ y, y < H → W1.cell? ⟨g, y, none⟩ = some (.string (bt (gRow W d y)))) := Lib.hid fun y hy => (hb1.out.cell (p := ⟨g, y, none⟩) hg).trans (HC.out y hy)
      have HCS := Lib.hid fun t => clm_succ W H d x t
      have HCL := Lib.hid fun t => clm_len W H d x t
      go_wp2
      go_loopw [5, 6] (fun v i w2 => w2 = W1 ∧ ∃ t : Nat, t ≤ H ∧ i = .int .i64 (((H - t : Nat) : Int) - 1) ∧ v = .string (bt (clm W H d x t))) (fun _ i _ => (intOf i + 1).toNat)
      case atStart => exact ⟨rfl, 0, by omega, by simp, by simp [bt, clm]⟩
      case round =>
        obtain ⟨rfl, t, ht, rfl, rfl⟩ := hrel
        by_cases htl : t < H
        · obtain ⟨y, hy⟩ : ∃ y, H - t = y + 1 := ⟨H - t - 1, by omega⟩
          have hye : (((H - t : Nat) : Int) - 1) = (y : Int) := by omega
          rw [hye]
          have hy0 : (y : Int) ≥ 0 := by omega
          have hy1 : (y : Int) < (H : Int) := by omega
          have cy := HC1.out y (by omega)
          have hs := HCS.out t
          have hl := HCL.out t
          rw [show H - 1 - t = y by omega] at hs
          have hcx := bt_cut1 (gRow W d y) x (by rw [gRow_len]; exact hlt)
          have hsr : (bt (gRow W d y)).size = W := by rw [bt_size, gRow_len]
          rw [gRow_at W d y x hlt] at hcx
          generalize bt (gRow W d y) = B at *
          generalize sgn (d (y * W + x)) = u at *
          generalize clm W H d x t = a at *
          have hx1 : (x : Int) + 1 ≤ (W : Int) := by omega
          have hx2 : ((x : Int) + 1).toNat = x + 1 := by omega
          have k1 := cat7 (bt a) (bt [u]) (by simp [bt, ByteArray.size]; omega)
          rw [bt_app, ← hs] at k1
          clear hs hye hl
          go_wp2
          go_roundw
          case rel => exact ⟨trivial, t + 1, by omega, by rw [show H - (t + 1) = y by omega], rfl⟩
          case measure => simp [intOf]
        · obtain rfl : t = H := by omega
          have hgl := HGL.out x
          have hgs := HGS.out x
          have hcl := HCL.out t
          have hx1 : x ≤ 50 := by omega
          generalize gRows t x (tD W t d) = X at *
          generalize clm W t d x t = a at *
          go_wp2_with (at_builtin; refine wpList_append_own _ rfl _ _ 31 rfl (w.heap.size + 1) 9 i0 (.string ⟨#[]⟩) 1 16 Tryd.underlying31 hi0 hz0 hz1 hz2 rfl (by decide) _ _ _ rfl (hown1.out.alloc _) ⟨wr.heap.size, 0, none⟩ 1 1 [.string (bt a)] rfl rfl ?c1 ?c2 ?c3 ?c4 ?c5 ?_)
          case c1 =>
            intro j u hj
            match j, hj with
            | 0, hj => simp at hj; subst hj; simp [Addr.add]
          case c2 => intro u hu; simp at hu; subst hu; rfl
          case c3 => unfold maxLen; omega
          case c4 => omega
          case c5 => have := hs2.out; simp; omega
          · intro v' w4 hown' hgrow _
            have HB5 : Hid (Below (w.heap.size + 1) wr w4) := Lib.hid (((Below.refl _ wr).alloc hs2.out _).grown hgrow (by have := hs2.out; simp; omega) fun g hg => (hown1.out.lt g hg).1)
            have HO4 : Hid (w4.ownsRow (w.heap.size + 1) 9 1 v' (gRows t (x + 1) (tD W t d)).length (strs (gRows t (x + 1) (tD W t d)))) := Lib.hid (by
              rw [hgs, ← strs_app, List.length_append, hgl]
              exact hown')
            have HB4 : Hid (Below w.heap.size w w4) := Lib.hid (hb1.out.trans ⟨HB5.out.os, HB5.out.tape, HB5.out.output, HB5.out.size, fun k hk => HB5.out.block k (by omega)⟩)
            have HK4 : Hid (w4.heap[w.heap.size]? = some (.stringIter s (x + 1))) := Lib.hid ((HB5.out.block _ (Nat.lt_succ_self _)).trans hk1.out)
            have HS4 : Hid (w.heap.size + 1 ≤ w4.heap.size) := Lib.hid (Nat.le_trans hs2.out HB5.out.size)
            have hmu2 : w4.iterPos w.heap.size = x + 1 := by simp [World.iterPos, HK4.out]
            have HMU := Lib.hid hmu
            have HMU2 := Lib.hid hmu2
            clear hmu hmu2 hown' hgrow hown1 hb1 hown hb hk hk1 hnext HB5 hgl hgs hcl
            go_wp2
            go_roundw
            case rel => exact ⟨x + 1, by omega, HK4, HO4, HB4, HS4⟩
            case measure => rw [HMU.out, HMU2.out]; omega
    · obtain rfl : x = W := by omega
      have hnext : ∀ ty, (Instr.next (.pointer (some ⟨w.heap.size, 0, none⟩)) true ty).run Tryd.prog wr = _ := fun ty => Lib.run_next_end_at wr w.heap.size s x ty hk.out (by omega)
      have hgl := HGL.out x
      obtain ⟨g2, c2, rfl, hc2, hr⟩ := rows_of_row hown.out (by rw [hgl]; exact w0)
      rw [hgl] at hc2
      have hr2 : RowsAt wr w.heap.size g2 x (gRows H x (tD x H d)) := by
        have h3 : RowsAt wr (w.heap.size + 1) g2 (gRows H x (tD x H d)).length (gRows H x (tD x H d)) := hr
        rw [hgl] at h3
        exact ⟨h3.cell, by have := h3.lo; omega, h3.hi, h3.n⟩
      rw [hgl]
      clear hgl
      go_wp2
      go_ret
      exact ⟨g2, c2, rfl, hc2, hr2, hb.out⟩
end Go.Proofs.YtbcgidgjdedkiaaDoor
/- Chapter 7: rows of marks in memory; the specification's marks of a picture. -/
namespace Go.Proofs.YtbcgidgjdedkiaaDoor
open Go.ChangeShapes Go.WideShapes Go.ChangeAt Go.RowKit

theorem infoBool : (Tryd.prog.info? 4).map (fun i => (i.zero, i.size, i.bytes)) = some (some (.bool false), 1, 1) := by kernel_rfl
/-- The marks d 0, .., d (n - 1). -/
def tbs (d : Nat → Bool) (n : Nat) : List Value := (List.range n).map fun i => Value.bool (d i)
theorem tbs_len (d : Nat → Bool) (n : Nat) : (tbs d n).length = n := by simp [tbs]
theorem tbs_get (d : Nat → Bool) (n j : Nat) (h : j < n) : (tbs d n)[j]? = some (.bool (d j)) := by simp [tbs, h]
theorem tbs_succ (d : Nat → Bool) (n : Nat) : tbs d (n + 1) = tbs d n ++ [.bool (d n)] := by simp [tbs, List.range_succ]
/-- d, but b at j. -/
def updB (d : Nat → Bool) (j : Nat) (b : Bool) : Nat → Bool := fun m => if m = j then b else d m
theorem tbs_set (d : Nat → Bool) (n j : Nat) (b : Bool) : (tbs d n).set j (.bool b) = tbs (updB d j b) n := by
  apply List.ext_getElem?
  intro i
  by_cases hi : i < n
  · rw [tbs_get _ _ _ hi, List.getElem?_set]
    by_cases e : j = i
    · subst e; simp [tbs_len, hi, updB]
    · have e2 : ¬ i = j := fun h => e h.symm
      rw [if_neg e, tbs_get _ _ _ hi]
      simp [updB, e2]
  · rw [List.getElem?_eq_none (by simp [tbs_len]; omega), List.getElem?_eq_none (by simp [tbs_len]; omega)]
theorem tbs_congr {d e : Nat → Bool} {n : Nat} (h : ∀ m, m < n → d m = e m) : tbs d n = tbs e n := by
  unfold tbs
  exact List.map_congr_left fun i hi => by rw [h i (List.mem_range.1 hi)]
/-- Block g is a row of the call's own that has the marks d 0, .., d (n - 1). -/
def Marks (w : World) (base g n c : Nat) (d : Nat → Bool) : Prop := w.ownsRow base 4 1 (.slice (some ⟨g, 0, none⟩) n c) n (tbs d n)
section
variable {w w' : World} {base g n c : Nat} {d e : Nat → Bool}
theorem Marks.cell (h : Marks w base g n c d) {j : Nat} (hj : j < n) : w.cell? ⟨g, j, none⟩ = some (.bool (d j)) := by
  rw [World.ownsRow.cellAt h j (by omega)]
  simp [tbs_get d n j hj]
theorem Marks.frozen (h : Marks w base g n c d) (j : Nat) : w.frozen? ⟨g, j, none⟩ = false := World.ownsRow.frozenAt h j
theorem Marks.set (h : Marks w base g n c d) (j : Nat) (b : Bool) : Marks (w.setCell ⟨g, j, none⟩ (.bool b)) base g n c (updB d j b) := by
  have h1 := (World.ownsRow.stored h j (.bool b)).1
  rw [tbs_set] at h1
  exact h1
theorem Marks.congr (h : Marks w base g n c d) (he : ∀ m, m < n → d m = e m) : Marks w base g n c e := by
  unfold Marks at h ⊢
  rwa [tbs_congr he] at h
theorem Marks.lt (h : Marks w base g n c d) : base ≤ g ∧ g < w.heap.size := World.ownsRow.lt h g rfl
theorem Marks.below {B : Nat} (h : Marks w base g n c d) (hb : Below B w w') (hB : w.heap.size ≤ B) : Marks w' base g n c d := row_below h hb hB
theorem Marks.mono {lo : Nat} (h : Marks w base g n c d) (hb : lo ≤ base) : Marks w lo g n c d := by
  refine ⟨h.1, ?_⟩
  rcases h.2 with h2 | ⟨a, b, u, q, r, s⟩
  · exact .inl h2
  · exact .inr ⟨a, b, u, q, by omega, s⟩
theorem marks_made (h : w.ownsRow base 4 1 (.slice (some ⟨g, 0, none⟩) n c) n (madeCells (Value.bool false).cells (n * 1)).toList) : Marks w base g n c (fun _ => false) := by
  unfold Marks
  have e : (madeCells (Value.bool false).cells (n * 1)).toList = tbs (fun _ => false) n := by
    rw [Nat.mul_one]
    show (madeCells #[Value.bool false] n).toList = _
    rw [toList_madeCells_one]
    apply List.ext_getElem?
    intro j
    by_cases hj : j < n
    · simp [tbs_get _ n j hj, hj]
    · rw [List.getElem?_eq_none (by simp; omega), List.getElem?_eq_none (by simp [tbs_len]; omega)]
  rwa [e] at h
end
theorem marks_of_row {w : World} {lo n : Nat} {V : Value} {d : Nat → Bool} (h : w.ownsRow lo 4 1 V n (tbs d n)) (h1 : 1 ≤ n) : ∃ g c, V = .slice (some ⟨g, 0, none⟩) n c ∧ n ≤ c ∧ c ≤ maxLen ∧ Marks w lo g n c d := by
  have hh := h
  rcases h.2 with ⟨_, h0⟩ | ⟨g, c, cur, rfl, hlo, hcell, hc, hmax, hsz, htk⟩
  · omega
  · exact ⟨g, c, rfl, hc, hmax, hh⟩
/-- A string's iterator moved on leaves a row a row. -/
theorem own_iterAt {w : World} {base : Nat} {e : TypeId} {size : Nat} {v : Value} {n : Nat} {xs : List Value} (h : w.ownsRow base e size v n xs) {k : Nat} {s : ByteArray} {pos : Nat} (hk : w.heap[k]? = some (.stringIter s pos)) (p : Nat) : (w.iterAt k s p).ownsRow base e size v n xs := by
  refine ⟨h.1, ?_⟩
  rcases h.2 with h2 | ⟨g, cap, cur, a, b, c, d⟩
  · exact .inl h2
  · refine .inr ⟨g, cap, cur, a, b, ?_, d⟩
    have hne : g ≠ k := by
      intro e1
      rw [e1, hk] at c
      cases c
    rw [Lib.iterAt_other _ _ _ _ _ hne]
    exact c
theorem iter_grown {w w' : World} {base : Nat} {e : TypeId} {size : Nat} {v : Value} {n : Nat} {xs : List Value} (h : w.ownsRow base e size v n xs) (hg : w.grownBy w' v.ownBlock) {k : Nat} {s : ByteArray} {pos : Nat} (hk : w.heap[k]? = some (.stringIter s pos)) : w'.heap[k]? = some (.stringIter s pos) := by
  have hlt : k < w.heap.size := (Array.getElem?_eq_some_iff.1 hk).1
  rw [hg.block k hlt ?_]
  · exact hk
  · intro e1
    rcases h.2 with ⟨h2, _⟩ | ⟨g, cap, cur, a, b, c, d⟩
    · rw [h2] at e1; cases e1
    · rw [a] at e1
      have e2 : k = g := by simpa [Value.ownBlock] using e1
      rw [← e2, hk] at c
      cases c
theorem iter_alloc {w : World} {k : Nat} {s : ByteArray} {pos : Nat} (hk : w.heap[k]? = some (.stringIter s pos)) (o : Obj) : (w.alloc o).heap[k]? = some (.stringIter s pos) := by
  have hlt : k < w.heap.size := (Array.getElem?_eq_some_iff.1 hk).1
  rw [(World.grownBy_alloc w o none).block k hlt (by simp)]
  exact hk
set_option maxRecDepth 4000 in
set_option maxHeartbeats 1600000 in
theorem doMarks_any (g W H c lo : Nat) (d : Nat → Bool) (w : World) (w0 : 1 ≤ W) (w1 : W ≤ 50) (h0 : 1 ≤ H) (h1 : H ≤ 50) (hnc : H ≤ c) (hr : RowsAt w lo g H (gRows W H d)) :
    Calls Tryd.prog 58 #[.slice (some ⟨g, 0, none⟩) H c] w fun e w' => ∃ g' c', e = .returned (.tuple #[.int .i64 (W : Int), .int .i64 (H : Int), .slice (some ⟨g', 0, none⟩) (W * H) c']) ∧ W * H ≤ c' ∧ Marks w' w.heap.size g' (W * H) c' d ∧ Below w.heap.size w w' := by
  obtain ⟨i0, hi0, hz0, hz1, hz2⟩ := info_parts infoBool
  have HC : Hid (∀ y, y < H → w.cell? ⟨g, y, none⟩ = some (.string (bt (gRow W d y)))) := Lib.hid fun y hy => by rw [hr.cell y hy, gRows_at W H d y hy]
  have hg := hr.hi
  have hh : (0 : Int) < (H : Int) := by omega
  have HTL := Lib.hid fun n => tbs_len d n
  have HTS := Lib.hid fun n => tbs_succ d n
  have HWH : Hid (W * H ≤ 2500) := Lib.hid (Nat.mul_le_mul (n₁ := W) (n₂ := 50) (m₁ := H) (m₂ := 50) w1 h1)
  clear hr
  go_enter Tryd.func58, Tryd.ntmps58
  go_wp2
  go_loopw [5, 11] (fun v i wr => ∃ y : Nat, y ≤ H ∧ i = .int .i64 (y : Int) ∧ Hid (wr.ownsRow w.heap.size 4 1 v (y * W) (tbs d (y * W))) ∧ Hid (Below w.heap.size w wr)) (fun _ i _ => H - (intOf i).toNat)
  case atStart => exact ⟨0, by omega, by simp, Lib.hid (by rw [Nat.zero_mul]; exact World.ownsRow_nil _ _ _ _), Lib.hid (Below.refl _ _)⟩
  case round =>
    obtain ⟨y, hy, rfl, hown, hb⟩ := hrel
    by_cases hlt : y < H
    · have hlt2 : (y : Int) < (H : Int) := by omega
      have c0 : wr.cell? ⟨g, y, none⟩ = some (.string (bt (gRow W d y))) := (hb.out.cell (p := ⟨g, y, none⟩) hg).trans (HC.out y hlt)
      have hM : Hid ((y + 1) * W = y * W + W) := Lib.hid (Nat.succ_mul y W)
      have hM2 : y * W + W ≤ 2500 := by
        rw [← hM.out]
        exact Nat.le_trans (Nat.mul_le_mul_right W hlt) (by rw [Nat.mul_comm]; exact HWH.out)
      have H128 := Lib.hid fun x h => gRow_128 W d y x h
      have HAT : Hid (∀ x (h : x < (bt (gRow W d y)).size), (bt (gRow W d y))[x]'h = sgn (d (y * W + x))) := Lib.hid fun x h => by
        rw [bt_at, gRow_at _ _ _ _ (by rw [bt_size, gRow_len] at h; exact h)]
      have hsz : (bt (gRow W d y)).size = W := by rw [bt_size, gRow_len]
      generalize bt (gRow W d y) = s at *
      generalize y * W = M at *
      have hk0 : Hid ((wr.iter s 0).heap[wr.heap.size]? = some (.stringIter s 0)) := Lib.hid (by
        have h5 := World.iter_heap wr s 0
        simpa using h5)
      have hb0 : Hid (Below w.heap.size w (wr.iter s 0)) := Lib.hid (hb.out.alloc hb.out.size _)
      have ho0 : Hid ((wr.iter s 0).ownsRow w.heap.size 4 1 u5 M (tbs d M)) := Lib.hid (hown.out.alloc _)
      have hwk : Hid (w.heap.size ≤ wr.heap.size) := Lib.hid hb.out.size
      go_wp2
      generalize wr.heap.size = k at *
      go_loopw [5] (fun v w2 => ∃ x : Nat, x ≤ W ∧ Hid (w2.heap[k]? = some (.stringIter s x)) ∧ Hid (w2.ownsRow w.heap.size 4 1 v (M + x) (tbs d (M + x))) ∧ Hid (Below w.heap.size w w2)) (fun _ w2 => W - w2.iterPos k)
      case atStart => exact ⟨0, by omega, hk0, ho0, hb0⟩
      case round =>
        obtain ⟨x, hx, hk, hown2, hb2⟩ := hrel
        clear hk0 ho0 hb0
        by_cases hxl : x < W
        · have hxs : x < s.size := by omega
          have h128 := H128.out x hxs
          have hat := HAT.out x hxs
          have hnext : ∀ ty, (Instr.next (.pointer (some ⟨k, 0, none⟩)) true ty).run Tryd.prog wr = _ := fun ty => Lib.run_next_ascii_at wr k s x ty hk.out hxs h128
          have hk1 := Lib.hid (Lib.iterAt_heap wr k s x (x + 1) hk.out)
          have hb1 := Lib.hid (Lib.below_iterAt hb2.out hwk.out s (x + 1))
          have hown1 := Lib.hid (own_iterAt hown2.out hk.out (x + 1))
          have hmu : wr.iterPos k = x := by simp [World.iterPos, hk.out]
          generalize wr.iterAt k s (x + 1) = W1 at hnext hk1 hb1 hown1
          have hbq : ((s[x].toNat : Int) == 111) = d (M + x) := by
            rw [hat]
            cases d (M + x) <;> decide
          have hts := HTS.out (M + x)
          have hM3 : M + x < 2500 := by omega
          have HMU := Lib.hid hmu
          clear hat hmu
          go_wp2_with (at_builtin; refine wpList_append_own _ rfl _ _ 59 rfl w.heap.size 4 i0 (.bool false) 1 1 Tryd.underlying59 hi0 hz0 hz1 hz2 rfl (by decide) _ _ _ rfl (hown1.out.alloc _) ⟨W1.heap.size, 0, none⟩ 1 1 [.bool (d (M + x))] rfl rfl ?c1 ?c2 ?c3 ?c4 ?c5 ?_)
          case c1 =>
            intro j u hj
            match j, hj with
            | 0, hj => simp at hj; subst hj; simp [Addr.add]
          case c2 => intro u hu; simp at hu; subst hu; rfl
          case c3 => unfold maxLen; omega
          case c4 => omega
          case c5 => have := hb1.out.size; simp; omega
          · intro v' w4 hown' hgrow _
            have HO4 : Hid (w4.ownsRow w.heap.size 4 1 v' (M + (x + 1)) (tbs d (M + (x + 1)))) := Lib.hid (by
              rw [← Nat.add_assoc, hts]
              exact hown')
            have HB4 : Hid (Below w.heap.size w w4) := Lib.hid ((hb1.out.alloc hb1.out.size _).grown hgrow (by have := hb1.out.size; simp; omega) fun g hg => (hown1.out.lt g hg).1)
            have HK4 : Hid (w4.heap[k]? = some (.stringIter s (x + 1))) := Lib.hid (iter_grown (hown1.out.alloc _) hgrow (iter_alloc hk1.out _))
            have hmu2 : w4.iterPos k = x + 1 := by simp [World.iterPos, HK4.out]
            have HMU2 := Lib.hid hmu2
            clear hmu2 hown' hgrow hown1 hb1 hown2 hb2 hk hk1 hnext hts hbq
            go_wp2
            go_roundw
            case rel => exact ⟨x + 1, by omega, HK4, HO4, HB4⟩
            case measure => rw [HMU.out, HMU2.out]; omega
        · obtain rfl : x = W := by omega
          have hnext : ∀ ty, (Instr.next (.pointer (some ⟨k, 0, none⟩)) true ty).run Tryd.prog wr = _ := fun ty => Lib.run_next_end_at wr k s x ty hk.out (by omega)
          have HO4 : Hid (wr.ownsRow w.heap.size 4 1 u5 ((y + 1) * x) (tbs d ((y + 1) * x))) := Lib.hid (by rw [hM.out]; exact hown2.out)
          clear hown2 hk
          go_wp2
          go_roundw
          case rel => exact ⟨y + 1, by omega, by go_num, HO4, hb2⟩
          case measure => simp [intOf]; omega
    · obtain rfl : y = H := by omega
      have c0 : wr.cell? ⟨g, 0, none⟩ = some (.string (bt (gRow W d 0))) := (hb.out.cell (p := ⟨g, 0, none⟩) hg).trans (HC.out 0 (by omega))
      have hsz : (bt (gRow W d 0)).size = W := by rw [bt_size, gRow_len]
      generalize bt (gRow W d 0) = s at *
      have hmul : y * W = W * y := Nat.mul_comm _ _
      have hpos : 1 ≤ W * y := Nat.mul_pos (by omega) (by omega)
      have hown2 : wr.ownsRow w.heap.size 4 1 u5 (W * y) (tbs d (W * y)) := by rw [← hmul]; exact hown.out
      obtain ⟨g2, c2, rfl, hc2, hcm, hr⟩ := marks_of_row hown2 hpos
      have HR2 := Lib.hid hr
      have HC2 := Lib.hid hc2
      clear hown hown2 hr hmul hpos hc2 hcm
      go_wp2
      go_ret3
      exact ⟨g2, c2, rfl, HC2.out, HR2.out, hb.out⟩
end Go.Proofs.YtbcgidgjdedkiaaDoor
/- Chapter 7: the specification's places beside one. -/
namespace Go.Proofs.YtbcgidgjdedkiaaDoor
open Go.ChangeShapes Go.WideShapes Go.ChangeAt Go.RowKit

theorem infoInt7 : (Tryd.prog.info? 3).map (fun i => (i.zero, i.size, i.bytes)) = some (some (.int .i64 0), 1, 8) := by kernel_rfl
/-- Places as numbers. -/
def ofN (xs : List Nat) : List Int := xs.map fun (x : Nat) => (x : Int)
/-- A row of the call's own that grows number by number. -/
structure Grw (w0 w : World) (v : Value) (xs : List Int) : Prop where
  row : w.ownsRow w0.heap.size 3 1 v xs.length (i64s xs)
  below : Below w0.heap.size w0 w
theorem Grw.cast {w0 w : World} {v : Value} {xs ys : List Int} (h : Grw w0 w v xs) (e : xs = ys) : Grw w0 w v ys := e ▸ h
theorem grw_nil (w : World) : Grw w w (.slice none 0 0) [] := ⟨World.ownsRow_nil _ _ _ _, Below.refl _ _⟩
theorem app_int {ops : Array Oper} {rest : List Oper} {o : Oper} {a : Act} {Q : Exit → Act → World → Prop} (w0 w : World) (hgd : o.guard = none) (s x : Operand)
    (ho : o.op = .call { callee := .builtin .append, args := #[s, x], argTypes := #[36, 36] }) (v : Value) (xs : List Int) (hs : a.eval s = v) (hG : Grw w0 w v xs) (z : Int)
    (hx : a.eval x = .slice (some ⟨w.heap.size, 0, none⟩) 1 1) (hl : xs.length ≤ 100000)
    (h : ∀ v' w', Grw w0 w' v' (xs ++ [z]) → wpList Tryd.prog ops Q rest (a.put o.dst v') w') : wpList Tryd.prog ops Q (o :: rest) a (w.alloc (.cells #[.int .i64 z] 3)) := by
  obtain ⟨i0, hi0, hz0, hz1, hz2⟩ := info_parts infoInt7
  refine wpList_append_own _ hgd s x 36 ho w0.heap.size 3 i0 (.int .i64 0) 1 8 Tryd.underlying36 hi0 hz0 hz1 hz2 rfl (by decide) v _ _ hs (hG.row.alloc _) ⟨w.heap.size, 0, none⟩ 1 1 [.int .i64 z] hx rfl ?c1 ?c2 ?c3 ?c4 ?c5 ?_
  case c1 =>
    intro j u hj
    match j, hj with
    | 0, hj => simp at hj; subst hj; simp [Addr.add]
  case c2 => intro u hu; simp at hu; subst hu; rfl
  case c3 => unfold maxLen; omega
  case c4 => omega
  case c5 => have := hG.below.size; simp; omega
  · intro v' w4 hown' hgrow _
    refine h v' w4 ⟨?_, (hG.below.alloc hG.below.size _).grown hgrow (by have := hG.below.size; simp; omega) fun g hg => (hG.row.lt g hg).1⟩
    rw [List.length_append]
    rw [show i64s (xs ++ [z]) = i64s xs ++ [.int .i64 z] by simp [i64s]]
    exact hown'
set_option maxRecDepth 4000 in
set_option maxHeartbeats 1600000 in
theorem doBeside_any (W H i : Nat) (w : World) (w0 : 1 ≤ W) (w1 : W ≤ 50) (h0 : 1 ≤ H) (h1 : H ≤ 50) (hi : i < W * H) :
    Calls Tryd.prog 61 #[.int .i64 (W : Int), .int .i64 (H : Int), .int .i64 (i : Int)] w fun e w' => ∃ v, e = .returned v ∧ Grw w w' v (ofN (nbs W H i)) := by
  have HWH : W * H ≤ 2500 := Nat.mul_le_mul (n₁ := W) (n₂ := 50) (m₁ := H) (m₂ := 50) w1 h1
  have hm : IntKind.i64.wrap ((W : Int) * ((H : Int) - 1)) = ((W * (H - 1) : Nat) : Int) := by
    have : ((W * (H - 1) : Nat) : Int) = (W : Int) * ((H : Int) - 1) := by
      rw [Int.natCast_mul, Int.natCast_sub h0]
      rfl
    rw [← this, IntWalk.i64_in]
    have hle : W * (H - 1) ≤ W * H := Nat.mul_le_mul_left W (by omega)
    omega
  have ht : (i : Int).tmod (W : Int) = ((i % W : Nat) : Int) := by
    rw [Int.tmod_eq_emod_of_nonneg (by omega)]
    rfl
  have hiw : i + W ≤ 2550 := by omega
  have HN : Hid (nbs W H i = (if 0 < i % W then [i - 1] else []) ++ (if i % W < W - 1 then [i + 1] else []) ++ (if W ≤ i then [i - W] else []) ++ (if i < W * (H - 1) then [i + W] else [])) := Lib.hid rfl
  have hmi : i % W ≤ i := Nat.mod_le _ _
  have hW0 : ¬ (W : Int) = 0 := by omega
  generalize W * (H - 1) = T at *
  generalize i % W = m at *
  generalize nbs W H i = N at *
  have HG := grw_nil w
  clear hi HWH
  go_enter Tryd.func61, Tryd.ntmps61
  go_wp2_with (at_builtin; refine app_int _ _ rfl _ _ rfl _ _ rfl HG _ rfl (by simp) ?_; clear HG; intro v' w' HG)
  all_goals
    go_ret
    refine ⟨_, rfl, HG.cast ?_⟩
    rw [HN.out]
    unfold ofN
    (repeat' split) <;> (first | (exfalso; omega) | (simp <;> omega))
end Go.Proofs.YtbcgidgjdedkiaaDoor
/- Chapter 7: the specification's border. -/
namespace Go.Proofs.YtbcgidgjdedkiaaDoor
open Go.ChangeShapes Go.WideShapes Go.ChangeAt Go.RowKit

/-- The border among the first a places. -/
def pbr (W H : Nat) (d : Nat → Bool) (a : Nat) (i : Nat) : Bool := decide (i < a) && brd W H d i
theorem pbr_zero (W H : Nat) (d : Nat → Bool) (i : Nat) : pbr W H d 0 i = false := by simp [pbr]
theorem pbr_succ (W H : Nat) (d : Nat → Bool) (a i : Nat) : updB (pbr W H d a) a (brd W H d a) i = pbr W H d (a + 1) i := by
  unfold updB pbr
  by_cases h : i = a
  · subst h
    simp
  · rw [if_neg h]
    have : (i < a) ↔ (i < a + 1) := by omega
    simp only [this]
theorem pbr_all (W H : Nat) (d : Nat → Bool) (n i : Nat) (h : i < n) : pbr W H d n i = brd W H d i := by simp [pbr, h]
/-- Whether a place is open by its first k places beside. -/
def opn (W H : Nat) (d : Nat → Bool) (i k : Nat) : Bool := decide ((nbs W H i).length < 4) || ((nbs W H i).take k).any fun j => !d j
theorem opn_succ (W H : Nat) (d : Nat → Bool) (i k : Nat) (h : k < (nbs W H i).length) : opn W H d i (k + 1) = (opn W H d i k || !d ((nbs W H i)[k])) := by
  unfold opn
  rw [List.take_succ_eq_append_getElem h, List.any_append]
  simp [Bool.or_assoc]
theorem opn_all (W H : Nat) (d : Nat → Bool) (i : Nat) : brd W H d i = (d i && opn W H d i (nbs W H i).length) := by
  unfold brd opn
  rw [List.take_length]
set_option maxRecDepth 4000 in
set_option maxHeartbeats 1600000 in
theorem doBorder_any (g W H n c lo : Nat) (d : Nat → Bool) (w : World) (hn : n = W * H) (w0 : 1 ≤ W) (w1 : W ≤ 50) (h0 : 1 ≤ H) (h1 : H ≤ 50) (hm : Marks w lo g n c d) :
    Calls Tryd.prog 68 #[.int .i64 (W : Int), .int .i64 (H : Int), .slice (some ⟨g, 0, none⟩) n c] w fun e w' => ∃ g' c', e = .returned (.slice (some ⟨g', 0, none⟩) n c') ∧ Marks w' w.heap.size g' n c' (brd W H d) ∧ Below w.heap.size w w' := by
  obtain ⟨i0, hi0, hz0, hz1, hz2⟩ := info_parts infoBool
  have hn2 : n ≤ 2500 := by
    rw [hn]
    exact Nat.mul_le_mul (n₁ := W) (n₂ := 50) (m₁ := H) (m₂ := 50) w1 h1
  have HN := Lib.hid hn
  have hg := hm.lt.2
  have HC : Hid (∀ j, j < n → w.cell? ⟨g, j, none⟩ = some (.bool (d j))) := Lib.hid fun j hj => hm.cell hj
  have HBE := Lib.hid fun i W' (h : i < n) => doBeside_any W H i W' w0 w1 h0 h1 (by rw [← hn]; exact h)
  have HNB : Hid (∀ i j, i < n → j ∈ nbs W H i → j < n) := Lib.hid fun i j hi hj => by rw [hn] at hi ⊢; exact nbs_lt hi hj
  clear hm hn
  obtain ⟨B, hB⟩ : ∃ B, w.heap.size = B := ⟨_, rfl⟩
  have HBB := Lib.hid hB
  have hgB : Hid (g < B) := Lib.hid (by rw [← hB]; exact hg)
  go_enter Tryd.func68, Tryd.ntmps68
  go_wp2_with (at_make; refine wpList_make_full _ rfl _ _ 59 rfl w.heap.size 4 i0 (.bool false) 1 Tryd.underlying59 hi0 hz0 hz1 _ _ _ _ n rfl rfl rfl rfl (by rw [hz2]; omega) (by unfold maxLen; omega) (Nat.le_refl _) ?_; intro w1 hown1 hgrow1)
  have hb1 : Hid (Below B w w1) := Lib.hid (by rw [← hB]; exact (Below.refl _ _).grown hgrow1 (Nat.le_refl _) (fun g hg => by cases hg))
  rw [hB] at hown1
  have HR1 : Hid (Marks w1 B B n n (pbr W H d 0)) := Lib.hid ((marks_made hown1).congr fun m _ => (pbr_zero W H d m).symm)
  clear hown1 hgrow1 hB hg
  go_wp2
  go_loopw [19] (fun i wr => ∃ a : Nat, a ≤ n ∧ i = .int .i64 (a : Int) ∧ Hid (Marks wr B B n n (pbr W H d a)) ∧ Hid (Below B w wr)) (fun i _ => n - (intOf i).toNat)
  case atStart => exact ⟨0, by omega, by simp, HR1, hb1⟩
  case round =>
    obtain ⟨a, ha, rfl, hr, hb⟩ := hrel
    clear HR1 hb1
    by_cases hlt : a < n
    · have hlt2 : (a : Int) < (n : Int) := by omega
      have c0 : wr.cell? ⟨g, a, none⟩ = some (.bool (d a)) := (hb.out.cell (p := ⟨g, a, none⟩) hgB.out).trans (HC.out a hlt)
      have HBA := Lib.hid (HBE.out a wr hlt)
      go_wp2_with (go_at_call 61; refine HBA.out.mono ?_; rintro e w2 ⟨v, rfl, HG⟩; obtain ⟨A, cc, rfl⟩ := row_form HG.row)
      have HB2 : Hid (Below B w w2) := Lib.hid (hb.out.trans ⟨HG.below.os, HG.below.tape, HG.below.output, HG.below.size, fun k hk => HG.below.block k (by have := hr.out.lt; omega)⟩)
      have HR2 : Hid (Marks w2 B B n n (pbr W H d a)) := Lib.hid (hr.out.below HG.below (Nat.le_refl _))
      have HO := Lib.hid (own_of_row HG.row)
      have HX : Hid (∀ k, k < (nbs W H a).length → ∃ g3 o3, A = some ⟨g3, o3, none⟩ ∧ w2.cell? ⟨g3, o3 + k, none⟩ = some (.int .i64 ((nbs W H a).getD k 0 : Nat)) ∧ (nbs W H a).getD k 0 < n ∧ w2.cell? ⟨g, (nbs W H a).getD k 0, none⟩ = some (.bool (d ((nbs W H a).getD k 0))) ∧ opn W H d a (k + 1) = (opn W H d a k || !d ((nbs W H a).getD k 0))) := Lib.hid fun k hk => by
        obtain ⟨g3, o3, hA, _, _, q, _⟩ := HO.out.at_ (k := k) (by simp [ofN]; exact hk)
        have e0 : (nbs W H a).getD k 0 = (nbs W H a)[k] := by simp [List.getD, hk]
        have hj : (nbs W H a).getD k 0 < n := HNB.out a _ hlt (by rw [e0]; exact List.getElem_mem hk)
        refine ⟨g3, o3, hA, ?_, hj, (HB2.out.cell (p := ⟨g, _, none⟩) hgB.out).trans (HC.out _ hj), ?_⟩
        · rw [q, e0]
          simp [ofN]
        · rw [e0]
          exact opn_succ W H d a k hk
      have HL : Hid ((ofN (nbs W H a)).length = (nbs W H a).length) := Lib.hid (by simp [ofN])
      have HOA := Lib.hid (opn_all W H d a)
      have HO0 : Hid (opn W H d a 0 = decide ((nbs W H a).length < 4)) := Lib.hid (by simp [opn])
      have hl4 : (nbs W H a).length ≤ 4 := by
        unfold nbs
        simp only [List.length_append]
        (repeat' split) <;> simp
      have hll := HL.out
      clear HG hr hb HO HBA
      generalize (ofN (nbs W H a)).length = l2 at *
      subst hll
      generalize nbs W H a = N at *
      generalize hL : N.length = L at *
      have HLL := Lib.hid hL
      clear hL
      generalize hop : opn W H d a = op at *
      have HOP := Lib.hid hop
      clear hop
      go_wp2
      go_loopw [11, 33] (fun o k w3 => w3 = w2 ∧ ∃ j : Nat, j ≤ L ∧ k = .int .i64 (j : Int) ∧ o = .bool (op j)) (fun _ k _ => L - (intOf k).toNat)
      case atStart => exact ⟨rfl, 0, by omega, by simp, by rw [HO0.out]; congr 1; rw [decide_eq_decide]; omega⟩
      case round =>
        obtain ⟨rfl, j, hj, rfl, rfl⟩ := hrel
        by_cases hjl : j < L
        · have hjl2 : (j : Int) < (L : Int) := by omega
          obtain ⟨g3, o3, rfl, q1, q2, q3, q4⟩ := HX.out j hjl
          generalize N.getD j 0 = x at *
          have hx0 : (0 : Int) ≤ (x : Int) := by omega
          have hx1 : (x : Int) < (n : Int) := by omega
          have HQ4 := Lib.hid q4
          clear q4
          cases hoj : op j
          · rw [hoj] at HQ4
            clear hoj
            go_wp2
            go_roundw
            case rel => exact ⟨trivial, j + 1, by omega, by go_num, by rw [HQ4.out]; simp⟩
            case measure => simp [intOf]; omega
          · rw [hoj] at HQ4
            clear hoj
            go_wp2
            go_roundw
            case rel => exact ⟨trivial, j + 1, by omega, by go_num, by rw [HQ4.out]; simp⟩
            case measure => simp [intOf]; omega
        · obtain rfl : j = L := by omega
          have cr := HR2.out.cell hlt
          have fr := HR2.out.frozen a
          have hset := (HR2.out.set a (d a && op j)).congr (e := pbr W H d (a + 1)) (fun m _ => by
            rw [← pbr_succ]
            unfold updB
            split
            · rw [HOA.out]
            · rfl)
          have HS := Lib.hid hset
          have HB3 := Lib.hid (HB2.out.setCell (p := ⟨B, a, none⟩) (Nat.le_refl _) (.bool (d a && op j)))
          clear hset HR2 HB2 HX
          generalize op j = oj at *
          cases hda : d a
          · rw [hda] at c0 HS HB3
            go_wp2
            go_roundw
            case rel => exact ⟨a + 1, by omega, by go_num, HS, HB3⟩
            case measure => simp [intOf]; omega
          · rw [hda] at c0 HS HB3
            go_wp2
            go_roundw
            case rel => exact ⟨a + 1, by omega, by go_num, HS, HB3⟩
            case measure => simp [intOf]; omega
    · obtain rfl : a = n := by omega
      have HF : Hid (Marks wr B B a a (brd W H d)) := Lib.hid (hr.out.congr fun m hm => pbr_all W H d a m hm)
      clear hr
      go_wp2
      go_ret
      exact ⟨B, a, rfl, by rw [HBB.out]; exact HF.out, by rw [HBB.out]; exact hb.out⟩
end Go.Proofs.YtbcgidgjdedkiaaDoor
/- Chapter 7: the specification's border taken away. -/
namespace Go.Proofs.YtbcgidgjdedkiaaDoor
open Go.ChangeShapes Go.WideShapes Go.ChangeAt Go.RowKit

/-- The dots left when the first a places are taken. -/
def ptk (W H : Nat) (d : Nat → Bool) (a : Nat) (i : Nat) : Bool := if i < a then tkn W H d i else d i
theorem ptk_zero (W H : Nat) (d : Nat → Bool) (i : Nat) : d i = ptk W H d 0 i := by simp [ptk]
theorem ptk_yes (W H : Nat) (d : Nat → Bool) (a i : Nat) (h : brd W H d a = true) : updB (ptk W H d a) a false i = ptk W H d (a + 1) i := by
  unfold updB ptk
  by_cases e : i = a
  · subst e
    rw [if_pos rfl, if_pos (by omega)]
    simp [tkn, h]
  · rw [if_neg e]
    have : (i < a) ↔ (i < a + 1) := by omega
    simp only [this]
theorem ptk_no (W H : Nat) (d : Nat → Bool) (a i : Nat) (h : brd W H d a = false) : ptk W H d a i = ptk W H d (a + 1) i := by
  unfold ptk
  by_cases e : i = a
  · subst e
    rw [if_neg (by omega), if_pos (by omega)]
    simp [tkn, h]
  · have : (i < a) ↔ (i < a + 1) := by omega
    simp only [this]
theorem ptk_all (W H : Nat) (d : Nat → Bool) (n i : Nat) (h : i < n) : ptk W H d n i = tkn W H d i := by simp [ptk, h]
theorem Marks.put {w : World} {base g n c b j : Nat} {d : Nat → Bool} (h : Marks w base g n c d) (hb : b < base) (v : Value) : Marks (w.setCell ⟨b, j, none⟩ v) base g n c d :=
  ownsRow_setCell_below h hb v
theorem grownBy_of_below {w w' : World} (h : Below w.heap.size w w') (row : Option Nat) : w.grownBy w' row := ⟨h.os, h.tape, h.output, h.size, fun k hk _ => h.block k hk⟩
theorem grownBy_trans {w w1 w2 : World} {row : Option Nat} (h : w.grownBy w1 row) (k : w1.grownBy w2 row) : w.grownBy w2 row :=
  ⟨k.os.trans h.os, k.tape.trans h.tape, k.output.trans h.output, Nat.le_trans h.size k.size, fun i hi hr => (k.block i (Nat.lt_of_lt_of_le hi h.size) hr).trans (h.block i hi hr)⟩
theorem grownBy_set {w w1 : World} {g j : Nat} (h : w.grownBy w1 (some g)) (v : Value) : w.grownBy (w1.setCell ⟨g, j, none⟩ v) (some g) := by
  have hb := (Below.refl g w1).setCell (p := ⟨g, j, none⟩) (Nat.le_refl _) v
  refine grownBy_trans h ⟨hb.os, hb.tape, hb.output, hb.size, fun i hi hr => ?_⟩
  have hne : ¬ i = g := fun e => hr (by rw [e])
  simp only [World.setCell]
  rw [Array.getElem?_modify, if_neg (fun e => hne e.symm)]
set_option maxRecDepth 4000 in
set_option maxHeartbeats 1600000 in
theorem doTake_any (g W H n c lo : Nat) (d : Nat → Bool) (w : World) (hn : n = W * H) (w0 : 1 ≤ W) (w1 : W ≤ 50) (h0 : 1 ≤ H) (h1 : H ≤ 50) (hm : Marks w lo g n c d) :
    Calls Tryd.prog 70 #[.int .i64 (W : Int), .int .i64 (H : Int), .slice (some ⟨g, 0, none⟩) n c] w fun e w' => e = .returned (.int .i64 (cnt (brd W H d) n : Int)) ∧ Marks w' lo g n c (tkn W H d) ∧ Below lo w w' ∧ w.heap.size ≤ w'.heap.size ∧ w.grownBy w' (some g) := by
  have hn2 : n ≤ 2500 := by
    rw [hn]
    exact Nat.mul_le_mul (n₁ := W) (n₂ := 50) (m₁ := H) (m₂ := 50) w1 h1
  have hg := Lib.hid hm.lt
  have HB := Lib.hid (doBorder_any g W H n c lo d w hn w0 w1 h0 h1 hm)
  have HM := Lib.hid hm
  have HCS := Lib.hid fun a => cnt_succ (brd W H d) a
  have HCL := Lib.hid fun a => cnt_le (brd W H d) a
  have HPY := Lib.hid fun a i => ptk_yes W H d a i
  have HPN := Lib.hid fun a i => ptk_no W H d a i
  have HPA := Lib.hid fun i => ptk_all W H d n i
  have HP0 := Lib.hid fun i => ptk_zero W H d i
  clear hm hn
  generalize brd W H d = b at *
  generalize ptk W H d = p at *
  generalize tkn W H d = t at *
  obtain ⟨B, hB⟩ : ∃ B, w.heap.size = B := ⟨_, rfl⟩
  have HBB := Lib.hid hB
  rw [hB] at HB hg
  clear hB
  go_enter Tryd.func70, Tryd.ntmps70
  go_wp2_with (go_at_call 68; refine HB.out.mono ?_; rintro e w1 ⟨g2, c2, rfl, hr2, hb2⟩)
  have HM1 : Hid (Marks w1 lo g n c (p 0)) := Lib.hid ((HM.out.below hb2 (by rw [HBB.out]; exact Nat.le_refl _)).congr fun m _ => HP0.out m)
  have HR2 := Lib.hid hr2
  have HB2 : Hid (w.grownBy w1 (some g)) := Lib.hid (grownBy_of_below (by rw [HBB.out]; exact hb2) _)
  clear hb2 hr2 HM HP0
  go_wp2
  go_loopw [7, 15] (fun v i wr => ∃ a : Nat, a ≤ n ∧ i = .int .i64 (a : Int) ∧ v = .int .i64 (cnt b a : Int) ∧ Hid (Marks wr lo g n c (p a)) ∧ Hid (Marks wr B g2 n c2 b) ∧ Hid (w.grownBy wr (some g))) (fun _ i _ => n - (intOf i).toNat)
  case atStart => exact ⟨0, by omega, by simp, by simp [cnt], HM1, HR2, HB2⟩
  case round =>
    obtain ⟨a, ha, rfl, rfl, hm, hr, hb⟩ := hrel
    clear HM1 HR2 HB2
    by_cases hlt : a < n
    · have hlt2 : (a : Int) < (n : Int) := by omega
      have ha0 : (0 : Int) ≤ (a : Int) := by omega
      have c0 := hr.out.cell hlt
      have cd := hm.out.cell hlt
      have fd := hm.out.frozen a
      have hcs := HCS.out a
      have hcl := HCL.out a
      generalize cnt b a = q at *
      generalize hq1 : cnt b (a + 1) = q1 at *
      cases hba : b a
      · rw [hba] at c0 hcs
        have HM2 : Hid (Marks wr lo g n c (p (a + 1))) := Lib.hid (hm.out.congr fun m _ => HPN.out a m hba)
        have HQ := Lib.hid hcs
        have HQ1 := Lib.hid hq1
        clear hba hm hcs hq1
        go_wp2
        go_roundw
        case rel => exact ⟨a + 1, by omega, by go_num, by rw [HQ1.out, HQ.out]; simp, HM2, hr, hb⟩
        case measure => simp [intOf]; omega
      · rw [hba] at c0 hcs
        have HM2 : Hid (Marks (wr.setCell ⟨g, a, none⟩ (.bool false)) lo g n c (p (a + 1))) := Lib.hid ((hm.out.set a false).congr fun m _ => HPY.out a m hba)
        have HR2 : Hid (Marks (wr.setCell ⟨g, a, none⟩ (.bool false)) B g2 n c2 b) := Lib.hid (hr.out.put hg.out.2 _)
        have HB2 : Hid (w.grownBy (wr.setCell ⟨g, a, none⟩ (.bool false)) (some g)) := Lib.hid (grownBy_set hb.out _)
        have HQ := Lib.hid hcs
        have HQ1 := Lib.hid hq1
        clear hba hm hcs hq1 hr hb
        go_wp2
        go_roundw
        case rel => exact ⟨a + 1, by omega, by go_num, by rw [HQ1.out, HQ.out]; go_num, HM2, HR2, HB2⟩
        case measure => simp [intOf]; omega
    · obtain rfl : a = n := by omega
      have HF : Hid (Marks wr lo g a c t) := Lib.hid (hm.out.congr fun m hm => HPA.out m hm)
      clear hm
      go_wp2
      go_ret
      exact ⟨rfl, HF.out, (Below.refl lo w).grown hb.out (by rw [HBB.out]; have := hg.out; omega) (fun k hk => by cases hk; exact hg.out.1), hb.out.size, hb.out⟩
end Go.Proofs.YtbcgidgjdedkiaaDoor
