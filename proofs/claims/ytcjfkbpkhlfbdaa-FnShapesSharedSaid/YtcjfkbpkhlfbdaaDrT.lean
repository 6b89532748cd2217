/- DrawIsShared: whatever the bytes (a million at most), three numbers come out, and no old memory changes. -/
import Derived.Test.YtcjfkbpkhlfbdaaDrS
import Derived.Test.YtcjfkbpkhlfbdaaShC
import Derived.Test.YtcjfkbpkhlfbdaaOwL
import Derived.Deep.RegionWith
namespace Go.Proofs.Ytcjfkbpkhlfbdaa
open Go.ChangeShapes Go.WideShapes Go.ChangeAt Go.RowKit

theorem own_drawnS {w w' : World} {lo hi r B k : Nat} {A' A : Option Addr} {n c : Nat} {cs : List Value} (h : Own w lo hi A' cs) (hr : r < lo) (hh : hi ≤ w.heap.size) (hd : Drawn w w' B r A n c k) : Own w' lo hi A' cs :=
  h.far hd.grown hh fun p hp h0 => by
    obtain ⟨g, o, e, h1, _⟩ := h h0
    rw [hp] at e
    injection e with e
    subst e
    intro e
    injection e with e
    simp at e
    omega
set_option maxHeartbeats 3200000 in
set_option maxRecDepth 4000 in
theorem DrawIsShared_any (A : Option Addr) (n c : Nat) (w : World) (h : Bys w A n) (hn : n ≤ 1000000000000) :
    Calls Try.prog 16 #[.slice A n c] w fun e w' => (∃ x y z : Int, e = .returned (.tuple #[.int .i64 x, .int .i64 y, .int .i64 z])) ∧ Below w.heap.size w w' := by
  have HC := cur_new w A n c 46 h
  have HG : (w.alloc (.cells #[.slice A n c, .int .i64 0, .int .u64 0] 46)).grownBy (w.alloc (.cells #[.slice A n c, .int .i64 0, .int .u64 0] 46)) (some w.heap.size) := World.grownBy.refl _ _
  go_enter Try.func16, Try.ntmps16
  go_upto_region 2 with (fail)
  generalize hw0 : w.alloc (.cells #[.slice A n c, .int .i64 0, .int .u64 0] 46) = w0 at HC HG ⊢
  have HW := Lib.hid hw0
  clear hw0
  go_wp2_with fail
  refine (sides_any _ _ _ _ _ _ _ HC (by omega) hn).mono ?_
  rintro e w1 ⟨x, ⟨rfl, x0, x1⟩, hd⟩
  replace HC := hd.cur
  replace HG := grown_trans HG hd.grown
  clear hd
  go_wp2_with fail
  refine (sides_any _ _ _ _ _ _ _ HC (by omega) hn).mono ?_
  rintro e w1 ⟨y, ⟨rfl, y0, y1⟩, hd⟩
  replace HC := hd.cur
  replace HG := grown_trans HG hd.grown
  clear hd
  go_wp2_with fail
  refine (spec_SharedUpTo_any x y 50000 _).mono ?_
  rintro e w2 ⟨L, cp, rfl, hO, hb1⟩
  have hlo : w.heap.size < w1.heap.size := HC.lt
  have hsz := hb1.size
  replace HC := HC.on hb1
  replace HG := grown_below HG hb1
  clear hb1
  rcases Bool.eq_false_or_eq_true (suB x y 50000) with hB | hB
  · have hf := su_first hB
    have hl := su_len hB
    simp only [hB]
    generalize suL x y 50000 = xs at *
    have hf0 := hf.1
    clear hf
    generalize hN : xs.length = N at *
    have hN0 : (0 : Int) < (N : Int) := by omega
    have hs2 : w2.heap.size ≤ w2.heap.size := Nat.le_refl _
    go_wp2_with fail
    refine (one_any _ _ _ _ _ _ _ _ HC (by omega) hn (by omega) (by omega)).mono ?_
    rintro e w3 ⟨b, rfl, hd⟩
    replace hO := own_drawnS hO hlo hs2 hd
    have hs3 : w2.heap.size ≤ w3.heap.size := hd.grown.size
    replace HC := hd.cur
    replace HG := grown_trans HG hd.grown
    clear hd
    cases b
    · have HO : Hid (Own w3.drew w1.heap.size w2.heap.size L (i64s xs)) := Lib.hid fun hn => hO hn
      clear hO
      have HCd : Cur w3.drew w.heap.size w.heap.size A n c 10 := ⟨HC.lo, HC.lt, HC.c0, HC.c1, HC.c2, HC.f1, HC.f2, HC.bs⟩
      have HGd : w0.grownBy w3.drew (some w.heap.size) := ⟨HG.os, HG.tape, HG.output, HG.size, HG.block⟩
      clear HC HG
      go_upto_region 5 with fail
      go_region_with (go_at_call 37; refine (pick_any _ _ _ _ _ _ _ _ HCd (by omega) hn (by omega) (by omega)).mono ?_; rintro e w4 ⟨q, rfl, q0, q1, hd⟩; obtain ⟨j, rfl⟩ := Int.eq_ofNat_of_zero_le q0; have hj : j < xs.length := by omega
                      obtain ⟨g, o, rfl, hg1, hg2, hc, hf⟩ := (own_drawnS HO.out hlo (show w2.heap.size ≤ w3.drew.heap.size from hs3) hd).at_ (k := j) (by simpa using hj)
                      have hc' : w4.cell? ⟨g, o + j, none⟩ = some (.int .i64 xs[j]) := by simpa using hc
                      clear hc)
      all_goals
        go_wp2
        go_ret3
        exact ⟨⟨x, y, _, rfl⟩, drew_below (by rw [HW.out]; exact grown_trans HGd hd.grown)⟩
    · clear hO
      go_wp2_with fail
      refine (pick_any _ _ _ _ _ _ _ _ HC (by omega) hn (by omega) (by omega)).mono ?_
      rintro e w4 ⟨u, rfl, u0, u1, hd⟩
      replace HC := hd.cur
      replace HG := grown_trans HG hd.grown
      clear hd
      go_wp2_with fail
      refine (among_any _ _ _ _ _ _ _ 8 _ [0, 1, 36, 1225, 1000000000000, 1000000000001, -1, u] _ _ _ (HC.alloc' _) (by omega) hn rfl (by omega) (by omega) (own_new _ [0, 1, 36, 1225, 1000000000000, 1000000000001, -1, u] _) (Or.inl HC.lt) (Nat.le_refl _)).mono ?_
      rintro e w5 ⟨z, rfl, zm, hd⟩
      replace HC := hd.cur
      replace HG := grown_trans (grown_alloc HG _) hd.grown
      clear hd
      go_wp2
      go_ret3
      exact ⟨⟨x, y, z, rfl⟩, drew_below (by rw [HW.out]; exact HG)⟩
  · simp only [hB]
    clear hO
    go_wp2_with fail
    refine (pick_any _ _ _ _ _ _ _ _ HC (by omega) hn (by omega) (by omega)).mono ?_
    rintro e w4 ⟨u, rfl, u0, u1, hd⟩
    replace HC := hd.cur
    replace HG := grown_trans HG hd.grown
    clear hd
    go_wp2_with fail
    refine (among_any _ _ _ _ _ _ _ 8 _ [0, 1, 36, 1225, 1000000000000, 1000000000001, -1, u] _ _ _ (HC.alloc' _) (by omega) hn rfl (by omega) (by omega) (own_new _ [0, 1, 36, 1225, 1000000000000, 1000000000001, -1, u] _) (Or.inl HC.lt) (Nat.le_refl _)).mono ?_
    rintro e w5 ⟨z, rfl, zm, hd⟩
    replace HC := hd.cur
    replace HG := grown_trans (grown_alloc HG _) hd.grown
    clear hd
    go_wp2
    go_ret3
    exact ⟨⟨x, y, z, rfl⟩, drew_below (by rw [HW.out]; exact HG)⟩
end Go.Proofs.Ytcjfkbpkhlfbdaa
