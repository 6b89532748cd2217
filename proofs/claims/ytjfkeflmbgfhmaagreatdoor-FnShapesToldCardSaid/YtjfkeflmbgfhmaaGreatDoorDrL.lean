/- The drawings of chapter 1's shapes told: whatever the bytes (a million at most), numbers, shapes and texts come out, and no old memory changes. -/
import Derived.Test.YtjfkeflmbgfhmaaGreatDoorDrD
import Derived.Test.YtjfkeflmbgfhmaaGreatDoorDrW
import Derived.Test.YtjfkeflmbgfhmaaGreatDoorDrH
import Derived.Test.YtjfkeflmbgfhmaaGreatDoorLwA
import Derived.Test.YtjfkeflmbgfhmaaGreatDoorLwC
import Derived.Test.YtjfkeflmbgfhmaaGreatDoorDoB
namespace Go.Proofs.YtjfkeflmbgfhmaaGreatDoor
open Go.ChangeShapes Go.WideShapes Go.ChangeAt Go.RowKit

set_option maxHeartbeats 3200000 in
set_option maxRecDepth 4000 in
theorem DrawShapesOf_any (A : Option Addr) (n c : Nat) (w : World) (h : Bys w A n) (hn : n ≤ 1000000000000) :
    Calls Tryz.prog 5 #[.slice A n c] w fun e w' => (∃ x : Int, e = .returned (.int .i64 x)) ∧ Below w.heap.size w w' := by
  have HC := cur_new w A n c 49 h
  have HG : (w.alloc (.cells #[.slice A n c, .int .i64 0, .int .u64 0] 49)).grownBy (w.alloc (.cells #[.slice A n c, .int .i64 0, .int .u64 0] 49)) (some w.heap.size) := World.grownBy.refl _ _
  go_enter Tryz.func5, Tryz.ntmps5
  go_upto_region 2 with (fail)
  generalize hw0 : w.alloc (.cells #[.slice A n c, .int .i64 0, .int .u64 0] 49) = w0 at HC HG ⊢
  have HW := Lib.hid hw0
  clear hw0
  go_wp2_with fail
  refine (one_any _ _ _ _ _ _ _ _ HC (by omega) hn (by omega) (by omega)).mono ?_
  rintro e w1 ⟨b, rfl, hd⟩
  replace HC := hd.cur
  replace HG := grown_trans HG hd.grown
  clear hd
  cases b
  · go_wp2_with fail
    refine (pick_any _ _ _ _ _ _ _ _ HC (by omega) hn (by omega) (by omega)).mono ?_
    rintro e w1 ⟨x, rfl, x0, x1, hd⟩
    replace HC := hd.cur
    replace HG := grown_trans HG hd.grown
    clear hd
    go_wp2_with fail
    refine (pick_any _ _ _ _ _ _ _ _ HC (by omega) hn (by omega) (by omega)).mono ?_
    rintro e w1 ⟨y, rfl, y0, y1, hd⟩
    replace HC := hd.cur
    replace HG := grown_trans HG hd.grown
    clear hd
    go_wp2_with fail
    refine (shNumber_any (3 + x) _ _ (by omega) (by omega) (by omega) (by omega)).mono ?_
    rintro e w1 ⟨rfl, rfl⟩
    go_wp2
    go_ret
    exact ⟨⟨_, rfl⟩, drew_below (by rw [HW.out]; exact HG)⟩
  · go_wp2_with fail
    refine (among_any _ _ _ _ _ _ _ 5 _ [-1, 0, 1, 1000000, 1000001] _ _ _ (HC.alloc' _) (by omega) hn rfl (by omega) (by omega) (own_new _ [-1, 0, 1, 1000000, 1000001] _) (Or.inl HC.lt) (Nat.le_refl _)).mono ?_
    rintro e w1 ⟨x, rfl, xm, hd⟩
    replace HC := hd.cur
    replace HG := grown_trans (grown_alloc HG _) hd.grown
    clear hd
    go_wp2
    go_ret
    exact ⟨⟨x, rfl⟩, drew_below (by rw [HW.out]; exact HG)⟩

set_option maxHeartbeats 3200000 in
set_option maxRecDepth 4000 in
theorem DrawPolygonalUpTo_any (A : Option Addr) (n c : Nat) (w : World) (h : Bys w A n) (hn : n ≤ 1000000000000) :
    Calls Tryz.prog 12 #[.slice A n c] w fun e w' => (∃ x y : Int, e = .returned (.tuple #[.int .i64 x, .int .i64 y])) ∧ Below w.heap.size w w' := by
  have HC := cur_new w A n c 49 h
  have HG : (w.alloc (.cells #[.slice A n c, .int .i64 0, .int .u64 0] 49)).grownBy (w.alloc (.cells #[.slice A n c, .int .i64 0, .int .u64 0] 49)) (some w.heap.size) := World.grownBy.refl _ _
  go_enter Tryz.func12, Tryz.ntmps12
  go_upto_region 2 with (fail)
  generalize hw0 : w.alloc (.cells #[.slice A n c, .int .i64 0, .int .u64 0] 49) = w0 at HC HG ⊢
  have HW := Lib.hid hw0
  clear hw0
  go_wp2_with fail
  refine (one_any _ _ _ _ _ _ _ _ HC (by omega) hn (by omega) (by omega)).mono ?_
  rintro e w1 ⟨b, rfl, hd⟩
  replace HC := hd.cur
  replace HG := grown_trans HG hd.grown
  clear hd
  cases b
  · go_wp2_with fail
    refine (sides_any _ _ _ _ _ _ _ HC (by omega) hn).mono ?_
    rintro e w1 ⟨x, ⟨rfl, x0, x1⟩, hd⟩
    replace HC := hd.cur
    replace HG := grown_trans HG hd.grown
    clear hd
    go_wp2_with fail
    refine (pick_any _ _ _ _ _ _ _ _ HC (by omega) hn (by omega) (by omega)).mono ?_
    rintro e w1 ⟨y, rfl, y0, y1, hd⟩
    replace HC := hd.cur
    replace HG := grown_trans HG hd.grown
    clear hd
    go_wp2
    go_ret2
    exact ⟨⟨_, _, rfl⟩, drew_below (by rw [HW.out]; exact HG)⟩
  · go_wp2_with fail
    refine (sides_any _ _ _ _ _ _ _ HC (by omega) hn).mono ?_
    rintro e w1 ⟨x, ⟨rfl, x0, x1⟩, hd⟩
    replace HC := hd.cur
    replace HG := grown_trans HG hd.grown
    clear hd
    go_wp2_with fail
    refine (among_any _ _ _ _ _ _ _ 4 _ [-1, 0, 100000, 100001] _ _ _ (HC.alloc' _) (by omega) hn rfl (by omega) (by omega) (own_new _ [-1, 0, 100000, 100001] _) (Or.inl HC.lt) (Nat.le_refl _)).mono ?_
    rintro e w1 ⟨y, rfl, ym, hd⟩
    replace HC := hd.cur
    replace HG := grown_trans (grown_alloc HG _) hd.grown
    clear hd
    go_wp2
    go_ret2
    exact ⟨⟨x, y, rfl⟩, drew_below (by rw [HW.out]; exact HG)⟩

set_option maxHeartbeats 3200000 in
set_option maxRecDepth 4000 in
theorem DrawWideNumber_any (A : Option Addr) (n c : Nat) (w : World) (h : Bys w A n) (hn : n ≤ 1000000000000) :
    Calls Tryz.prog 15 #[.slice A n c] w fun e w' => (∃ x y : Int, e = .returned (.tuple #[.int .i64 x, .int .i64 y])) ∧ Below w.heap.size w w' := by
  have HC := cur_new w A n c 49 h
  have HG : (w.alloc (.cells #[.slice A n c, .int .i64 0, .int .u64 0] 49)).grownBy (w.alloc (.cells #[.slice A n c, .int .i64 0, .int .u64 0] 49)) (some w.heap.size) := World.grownBy.refl _ _
  go_enter Tryz.func15, Tryz.ntmps15
  go_upto_region 2 with (fail)
  generalize hw0 : w.alloc (.cells #[.slice A n c, .int .i64 0, .int .u64 0] 49) = w0 at HC HG ⊢
  have HW := Lib.hid hw0
  clear hw0
  go_wp2_with fail
  refine (one_any _ _ _ _ _ _ _ _ HC (by omega) hn (by omega) (by omega)).mono ?_
  rintro e w1 ⟨b, rfl, hd⟩
  replace HC := hd.cur
  replace HG := grown_trans HG hd.grown
  clear hd
  cases b
  · go_wp2_with fail
    refine (sides_any _ _ _ _ _ _ _ HC (by omega) hn).mono ?_
    rintro e w1 ⟨x, ⟨rfl, x0, x1⟩, hd⟩
    replace HC := hd.cur
    replace HG := grown_trans HG hd.grown
    clear hd
    go_wp2_with fail
    refine (pick_any _ _ _ _ _ _ _ _ HC (by omega) hn (by omega) (by omega)).mono ?_
    rintro e w1 ⟨y, rfl, y0, y1, hd⟩
    replace HC := hd.cur
    replace HG := grown_trans HG hd.grown
    clear hd
    have hy8 : IntKind.i64.wrap (y - 40) = y - 40 := IntWalk.i64_in _ (by omega)
    go_wp2
    go_ret2
    exact ⟨⟨_, _, rfl⟩, drew_below (by rw [HW.out]; exact HG)⟩
  · go_wp2_with fail
    refine (sides_any _ _ _ _ _ _ _ HC (by omega) hn).mono ?_
    rintro e w1 ⟨x, ⟨rfl, x0, x1⟩, hd⟩
    replace HC := hd.cur
    replace HG := grown_trans HG hd.grown
    clear hd
    go_wp2_with fail
    refine (among_any _ _ _ _ _ _ _ 4 _ [-100001, -100000, 100000, 100001] _ _ _ (HC.alloc' _) (by omega) hn rfl (by omega) (by omega) (own_new _ [-100001, -100000, 100000, 100001] _) (Or.inl HC.lt) (Nat.le_refl _)).mono ?_
    rintro e w1 ⟨y, rfl, ym, hd⟩
    replace HC := hd.cur
    replace HG := grown_trans (grown_alloc HG _) hd.grown
    clear hd
    go_wp2
    go_ret2
    exact ⟨⟨x, y, rfl⟩, drew_below (by rw [HW.out]; exact HG)⟩

theorem DrawCentredNumber_any (A : Option Addr) (n c : Nat) (w : World) (h : Bys w A n) (hn : n ≤ 1000000000000) :
    Calls Tryz.prog 18 #[.slice A n c] w fun e w' => (∃ x y : Int, e = .returned (.tuple #[.int .i64 x, .int .i64 y])) ∧ Below w.heap.size w w' := by
  go_enter Tryz.func18, Tryz.ntmps18
  go_wp2_with fail
  refine (DrawPolygonNumber_any A n c _ h hn).mono ?_
  rintro e w1 ⟨⟨x, y, rfl⟩, hb⟩
  go_wp2
  go_ret2
  exact ⟨⟨x, y, rfl⟩, hb⟩

theorem cen_mid (s k : Int) (h1 : 3 ≤ s) (h2 : s ≤ 24) (h3 : 0 ≤ k) (h4 : k ≤ 100) : 0 ≤ cen s k ∧ cen s k ≤ 1000000 := by
  have hk : 0 ≤ k * (k - 1) ∧ k * (k - 1) ≤ 10000 := by
    rcases (show k = 0 ∨ 1 ≤ k by omega) with h | h
    · subst h; omega
    · refine ⟨Int.mul_nonneg h3 (by omega), ?_⟩
      have := Int.mul_le_mul h4 (show k - 1 ≤ 100 by omega) (by omega) (by omega)
      omega
  have q0 : 0 ≤ s * (k * (k - 1)) := Int.mul_nonneg (by omega) hk.1
  have q1 : s * (k * (k - 1)) ≤ 24 * 10000 := Int.mul_le_mul h2 hk.2 hk.1 (by omega)
  have e : s * k * (k - 1) = s * (k * (k - 1)) := Int.mul_assoc ..
  unfold cen
  omega

set_option maxHeartbeats 3200000 in
set_option maxRecDepth 4000 in
theorem DrawCentredPlace_any (A : Option Addr) (n c : Nat) (w : World) (h : Bys w A n) (hn : n ≤ 1000000000000) :
    Calls Tryz.prog 21 #[.slice A n c] w fun e w' => (∃ x y : Int, e = .returned (.tuple #[.int .i64 x, .int .i64 y])) ∧ Below w.heap.size w w' := by
  have HC := cur_new w A n c 49 h
  have HG : (w.alloc (.cells #[.slice A n c, .int .i64 0, .int .u64 0] 49)).grownBy (w.alloc (.cells #[.slice A n c, .int .i64 0, .int .u64 0] 49)) (some w.heap.size) := World.grownBy.refl _ _
  go_enter Tryz.func21, Tryz.ntmps21
  go_upto_region 2 with (fail)
  generalize hw0 : w.alloc (.cells #[.slice A n c, .int .i64 0, .int .u64 0] 49) = w0 at HC HG ⊢
  have HW := Lib.hid hw0
  clear hw0
  go_wp2_with fail
  refine (sides_any _ _ _ _ _ _ _ HC (by omega) hn).mono ?_
  rintro e w1 ⟨s, ⟨rfl, s0, s1⟩, hd⟩
  replace HC := hd.cur
  replace HG := grown_trans HG hd.grown
  clear hd
  by_cases hs : 3 ≤ s ∧ s ≤ 24
  · have h1 := hs.1
    have h2 := hs.2
    clear hs
    go_wp2_with fail
    refine (shSides_yes _ _ h1 h2).mono ?_
    rintro e w' ⟨rfl, rfl⟩
    go_wp2_with fail
    refine (one_any _ _ _ _ _ _ _ _ HC (by omega) hn (by omega) (by omega)).mono ?_
    rintro e w1 ⟨b, rfl, hd⟩
    replace HC := hd.cur
    replace HG := grown_trans HG hd.grown
    clear hd
    cases b
    · go_wp2_with fail
      refine (pick_any _ _ _ _ _ _ _ _ HC (by omega) hn (by omega) (by omega)).mono ?_
      rintro e w1 ⟨u, rfl, u0, u1, hd⟩
      replace HC := hd.cur
      replace HG := grown_trans HG hd.grown
      clear hd
      go_wp2_with fail
      refine (shCentred_any _ (1 + u) _ h1 h2 (by omega) (by omega)).mono ?_
      rintro e w' ⟨rfl, rfl⟩
      obtain ⟨v0, v1⟩ := cen_mid s (1 + u) h1 h2 (by omega) (by omega)
      go_wp2_with fail
      refine (pick_any _ _ _ _ _ _ _ _ HC (by omega) hn (by omega) (by omega)).mono ?_
      rintro e w1 ⟨v, rfl, v0, v1, hd⟩
      replace HC := hd.cur
      replace HG := grown_trans HG hd.grown
      clear hd
      go_wp2
      go_ret2
      exact ⟨⟨_, _, rfl⟩, drew_below (by rw [HW.out]; exact HG)⟩
    · go_wp2_with fail
      refine (number_any _ _ _ _ _ _ s s0 s1 _ HC (by omega) hn).mono ?_
      rintro e w1 ⟨y, rfl, hd⟩
      replace HC := hd.cur
      replace HG := grown_trans HG hd.grown
      clear hd
      go_wp2
      go_ret2
      exact ⟨⟨_, _, rfl⟩, drew_below (by rw [HW.out]; exact HG)⟩
  · have HS := Lib.hid (show s < 3 ∨ 24 < s by omega)
    clear hs
    go_wp2_with fail
    refine (shSides_no _ _ HS.out).mono ?_
    rintro e w' ⟨rfl, rfl⟩
    go_wp2_with fail
    refine (number_any _ _ _ _ _ _ s s0 s1 _ HC (by omega) hn).mono ?_
    rintro e w1 ⟨y, rfl, hd⟩
    replace HC := hd.cur
    replace HG := grown_trans HG hd.grown
    clear hd
    go_wp2
    go_ret2
    exact ⟨⟨_, _, rfl⟩, drew_below (by rw [HW.out]; exact HG)⟩

set_option maxHeartbeats 3200000 in
set_option maxRecDepth 4000 in
theorem DrawShapeText_any (A : Option Addr) (n c : Nat) (w : World) (h : Bys w A n) (hn : n ≤ 1000000000000) :
    Calls Tryz.prog 24 #[.slice A n c] w fun e w' => (∃ x y : Int, e = .returned (.agg #[.int .i64 x, .int .i64 y])) ∧ Below w.heap.size w w' := by
  go_enter Tryz.func24, Tryz.ntmps24
  go_upto_region 1 with (fail)
  have HX := spt_new w 30
  have hB0 : Below w.heap.size w (w.alloc (.cells #[.int .i64 0, .int .i64 0] 30)) := below_on _
  have hRl : w.heap.size ≤ w.heap.size := Nat.le_refl _
  replace h := h.on hB0
  generalize w.alloc (.cells #[.int .i64 0, .int .i64 0] 30) = w9 at h HX hB0 ⊢
  have HC := cur_new w9 A n c 49 h
  have HG : (w9.alloc (.cells #[.slice A n c, .int .i64 0, .int .u64 0] 49)).grownBy (w9.alloc (.cells #[.slice A n c, .int .i64 0, .int .u64 0] 49)) (some w9.heap.size) := World.grownBy.refl _ _
  have hne : w.heap.size ≠ w9.heap.size := Nat.ne_of_lt HX.z
  replace HX := HX.on (below_on (.cells #[.slice A n c, .int .i64 0, .int .u64 0] 49))
  go_upto_region 2 with (fail)
  generalize hw0 : w9.alloc (.cells #[.slice A n c, .int .i64 0, .int .u64 0] 49) = w0 at HC HG HX ⊢
  have HW := Lib.hid hw0
  clear hw0
  go_wp2_with fail
  refine (sides_any _ _ _ _ _ _ _ HC (by omega) hn).mono ?_
  rintro e w1 ⟨x, ⟨rfl, x0, x1⟩, hd⟩
  replace HC := hd.cur
  replace HG := grown_trans HG hd.grown
  replace HX := HX.grown hd.grown hne
  clear hd
  go_wp2_with fail
  refine (place_any _ _ _ _ _ _ _ HC (by omega) hn).mono ?_
  rintro e w1 ⟨y, rfl, hd⟩
  replace HC := hd.cur
  replace HG := grown_trans HG hd.grown
  replace HX := HX.grown hd.grown hne
  clear hd
  obtain ⟨hz, ⟨p0, c0⟩, ⟨p1, c1⟩, f0, f1⟩ := HX
  go_wp2
  exact bodyPost_ret (v := .agg #[.int .i64 (x), .int .i64 (y)]) (by simp [results, Tryz.results24, go_sem, c0, c1]) rfl ⟨⟨_, _, rfl⟩, (((hB0.trans ((drew_below (by rw [HW.out]; exact HG)).mono hB0.size)).setCell hRl _).setCell hRl _)⟩

theorem Drawn.below_on {w w1 w' : World} {B r : Nat} {A : Option Addr} {n c k : Nat} (h : Cur w1 B r A n c k) (hg : w.grownBy w1 (some r)) (hb : Below w1.heap.size w1 w') : Cur w' B r A n c k ∧ w.grownBy w' (some r) := ⟨h.on hb, grown_below hg hb⟩
theorem shTxt_sz (s p : Int) (h1 : s ≤ 1000000) (h2 : p ≤ 1000000) : (shTxt s p).size ≤ 1000 := by
  have la := dec_len s.toNat (by omega)
  have lb := dec_len p.toNat (by omega)
  have e : (shTxt s p).size = (shTxt s p).data.toList.length := by rw [Array.length_toList]; rfl
  rw [e, show (shTxt s p).data.toList = Lib.decDigits s.toNat ++ (58 :: Lib.decDigits p.toNat) from by unfold shTxt; simp]
  simp
  omega
set_option maxHeartbeats 3200000 in
set_option maxRecDepth 4000 in
theorem spoilt_any (B r : Nat) (A : Option Addr) (n c k : Nat) (s x : ByteArray) (w : World) (h : Cur w B r A n c k) (hk : k ≤ 700000) (hn : n ≤ 1000000000000) (hs : s.size ≤ 60000) (hx0 : 0 < x.size) (hx1 : x.size ≤ 60000) :
    Calls Tryz.prog 60 #[.pointer (some ⟨r, 0, none⟩), .string s, .string x] w fun e w' => (∃ t : ByteArray, e = .returned (.string t) ∧ t.size ≤ s.size + 2) ∧ Drawn w w' B r A n c (k + 40) := by
  have HC := h
  have HG : w.grownBy w (some r) := World.grownBy.refl _ _
  clear h
  have kc : ∀ (W : World) (x : Int) (c : Nat), (convert 22 9 (.slice (some ⟨W.heap.size, 0, none⟩) 1 c)).run Tryz.prog (W.alloc (.cells #[.int .u8 x] 5)) = .ok (.string ⟨#[UInt8.ofNat x.toNat]⟩) (W.alloc (.cells #[.int .u8 x] 5)) := fun W x c => conv_one _ _ x c (by simp [go_sem])
  go_enter Tryz.func60, Tryz.ntmps60
  go_wp2_with fail
  refine (pick_any _ _ _ _ _ _ _ _ HC (by omega) hn (by omega) (by omega)).mono ?_
  rintro e w1 ⟨y, rfl, y0, y1, hd⟩
  replace HC := hd.cur
  replace HG := grown_trans HG hd.grown
  clear hd
  go_wp2_with fail
  go_loopw [7, 1] (fun nv tv wr => ∃ (j : Nat) (t : ByteArray), nv = .int .i64 j ∧ j ≤ 2 ∧ tv = .string t ∧ t.size + j ≤ s.size + 2 ∧ Cur wr B r A n c (k + 2 + 12 * (2 - j)) ∧ w.grownBy wr (some r)) (fun nv _ _ => (intOf nv).toNat)
  case atStart =>
    obtain ⟨j, rfl⟩ : ∃ j : Nat, y = (j : Int) := ⟨y.toNat, by omega⟩
    exact ⟨j + 1, s, by go_num, by omega, rfl, by omega, HC.up (by omega), HG⟩
  case round =>
    obtain ⟨j, t, rfl, hj, rfl, hz, HC, HG⟩ := hrel
    rcases j with _ | j
    · simp only [Int.natCast_zero]
      go_wp2
      go_ret
      exact ⟨⟨t, rfl, by omega⟩, HC.up (by omega), HG⟩
    · simp only [Int.natCast_add, Int.natCast_one]
      have hj0 : (0 : Int) < (j : Int) + 1 := by omega
      rcases Nat.eq_zero_or_pos t.size with h0 | h0
      · have h1 : ¬ (0 : Int) < (t.size : Int) := by omega
        clear h0
        go_wp2
        go_ret
        exact ⟨⟨t, rfl, by omega⟩, HC.up (by omega), HG⟩
      · have h1 : (0 : Int) < (t.size : Int) := by omega
        have h3 : (0 : Int) < (x.size : Int) := by omega
        go_wp2_with fail
        refine (pick_any _ _ _ _ _ _ _ _ HC (by omega) hn (by omega) (by omega)).mono ?_
        rintro e w2 ⟨i, rfl, i0, i1, hd⟩
        obtain ⟨i, rfl⟩ : ∃ i' : Nat, i = (i' : Int) := ⟨i.toNat, by omega⟩
        replace HC := hd.cur
        replace HG := grown_trans HG hd.grown
        clear hd
        go_wp2_with fail
        refine (pick_any _ _ _ _ _ _ _ _ HC (by omega) hn (by omega) (by omega)).mono ?_
        rintro e w3 ⟨q, rfl, q0, q1, hd⟩
        replace HC := hd.cur
        replace HG := grown_trans HG hd.grown
        clear hd
        go_wp2_with fail
        refine (pick_any _ _ _ _ _ _ _ _ (HC.alloc' _) (by omega) hn (by omega) (by omega)).mono ?_
        rintro e w4 ⟨z, rfl, z0, z1, hd⟩
        replace HC := hd.cur
        replace HG := grown_trans (grown_alloc HG _) hd.grown
        clear hd
        have hw1 : (⟨#[x[q.toNat]]⟩ : ByteArray).size = 1 := rfl
        generalize (⟨#[x[q.toNat]]⟩ : ByteArray) = ww at hw1 ⊢
        have hi1 : (i : Int) ≤ (t.size : Int) := by omega
        have hi2 : (i : Int) + 1 ≤ (t.size : Int) := by omega
        have hi3 : i ≤ t.size := by omega
        have hi4 : i + 1 ≤ t.size := by omega
        have s1 : (t.extract 0 i).size = i := by simp; omega
        have s2 : (t.extract i t.size).size = t.size - i := by simp
        have s3 : (t.extract (i + 1) t.size).size = t.size - (i + 1) := by simp
        have c1 : ∀ W : World, (Op.stringOp .add (t.extract 0 i) ww).run Tryz.prog W = .ok (.string (t.extract 0 i ++ ww)) W := fun W => cat_run _ _ (by omega) W
        have s4 : (t.extract 0 i ++ ww).size = i + 1 := by rw [ByteArray.size_append, s1, hw1]
        have c2 : ∀ W : World, (Op.stringOp .add (t.extract 0 i ++ ww) (t.extract i t.size)).run Tryz.prog W = .ok (.string (t.extract 0 i ++ ww ++ t.extract i t.size)) W := fun W => cat_run _ _ (by omega) W
        have c3 : ∀ W : World, (Op.stringOp .add (t.extract 0 i ++ ww) (t.extract (i + 1) t.size)).run Tryz.prog W = .ok (.string (t.extract 0 i ++ ww ++ t.extract (i + 1) t.size)) W := fun W => cat_run _ _ (by omega) W
        have c4 : ∀ W : World, (Op.stringOp .add (t.extract 0 i) (t.extract (i + 1) t.size)).run Tryz.prog W = .ok (.string (t.extract 0 i ++ t.extract (i + 1) t.size)) W := fun W => cat_run _ _ (by omega) W
        have s5 : (t.extract 0 i ++ ww ++ t.extract i t.size).size = t.size + 1 := by rw [ByteArray.size_append, s4, s2]; omega
        have s6 : (t.extract 0 i ++ ww ++ t.extract (i + 1) t.size).size = t.size := by rw [ByteArray.size_append, s4, s3]; omega
        have s7 : (t.extract 0 i ++ t.extract (i + 1) t.size).size = t.size - 1 := by rw [ByteArray.size_append, s1, s3]; omega
        have SS := Lib.hid (And.intro s5 (And.intro s6 s7))
        clear s1 s2 s3 s4 s5 s6 s7
        have wj : IntKind.i64.wrap ((j : Int) + 1 - 1) = (j : Int) := by rw [IntWalk.i64_in _ (by omega)]; omega
        have wi : IntKind.i64.wrap ((i : Int) + 1) = ((i + 1 : Nat) : Int) := by rw [IntWalk.i64_in _ (by omega)]; omega
        have hi5 : ((i + 1 : Nat) : Int) ≤ (t.size : Int) := by omega
        have hi6 : (0 : Int) ≤ ((i + 1 : Nat) : Int) := by omega
        rcases (show z = 0 ∨ z = 1 ∨ z = 2 by omega) with rfl | rfl | rfl
        · go_wp2_with fail
          go_big_quiet (fail)
          go_wp2_with fail
          go_roundw
          case rel => exact ⟨j, _, by first | rfl | go_num, by omega, rfl, by have h := SS.out.1; omega, (HC.on (below_drewN (Below.refl _ _) _)).up (by omega), grown_below HG (below_drewN (Below.refl _ _) _)⟩
          case measure => simp [intOf]
        · go_wp2_with fail
          go_big_quiet (fail)
          go_wp2_with fail
          go_roundw
          case rel => exact ⟨j, _, by first | rfl | go_num, by omega, rfl, by have h := SS.out.2.1; omega, (HC.on (below_drewN (Below.refl _ _) _)).up (by omega), grown_below HG (below_drewN (Below.refl _ _) _)⟩
          case measure => simp [intOf]
        · go_wp2_with fail
          go_big_quiet (fail)
          go_wp2_with fail
          go_roundw
          case rel => exact ⟨j, _, by first | rfl | go_num, by omega, rfl, by have h := SS.out.2.2; omega, (HC.on (below_drewN (Below.refl _ _) _)).up (by omega), grown_below HG (below_drewN (Below.refl _ _) _)⟩
          case measure => simp [intOf]
set_option maxHeartbeats 3200000 in
set_option maxRecDepth 4000 in
theorem DrawParseShape_any (A : Option Addr) (n c : Nat) (w : World) (h : Bys w A n) (hn : n ≤ 1000000000000) :
    Calls Tryz.prog 26 #[.slice A n c] w fun e w' => (∃ t : ByteArray, e = .returned (.string t) ∧ t.size ≤ 1048576) ∧ Below w.heap.size w w' := by
  have HC := cur_new w A n c 49 h
  have HG : (w.alloc (.cells #[.slice A n c, .int .i64 0, .int .u64 0] 49)).grownBy (w.alloc (.cells #[.slice A n c, .int .i64 0, .int .u64 0] 49)) (some w.heap.size) := World.grownBy.refl _ _
  go_enter Tryz.func26, Tryz.ntmps26
  go_upto_region 2 with (fail)
  generalize hw0 : w.alloc (.cells #[.slice A n c, .int .i64 0, .int .u64 0] 49) = w0 at HC HG ⊢
  have HW := Lib.hid hw0
  clear hw0
  go_wp2_with fail
  refine (pick_any _ _ _ _ _ _ _ _ HC (by omega) hn (by omega) (by omega)).mono ?_
  rintro e w1 ⟨x, rfl, x0, x1, hd⟩
  replace HC := hd.cur
  replace HG := grown_trans HG hd.grown
  clear hd
  go_wp2_with fail
  refine (pick_any _ _ _ _ _ _ _ _ HC (by omega) hn (by omega) (by omega)).mono ?_
  rintro e w1 ⟨y, rfl, y0, y1, hd⟩
  replace HC := hd.cur
  replace HG := grown_trans HG hd.grown
  clear hd
  go_wp2_with fail
  refine (shText_any (3 + x) y _ (by omega) (by omega) (by omega) (by omega)).mono ?_
  rintro e w1 ⟨rfl, hb⟩
  replace HG := grown_below HG hb
  replace HC := HC.on hb
  clear hb
  have hz := shTxt_sz (3 + x) y (by omega) (by omega)
  generalize shTxt (3 + x) y = s at hz ⊢
  go_wp2_with fail
  refine (one_any _ _ _ _ _ _ _ _ HC (by omega) hn (by omega) (by omega)).mono ?_
  rintro e w1 ⟨b, rfl, hd⟩
  replace HC := hd.cur
  replace HG := grown_trans HG hd.grown
  clear hd
  cases b
  · go_wp2
    go_ret
    exact ⟨⟨s, rfl, by omega⟩, drew_below (by rw [HW.out]; exact HG)⟩
  · go_wp2_with fail
    refine (spoilt_any _ _ _ _ _ _ s _ _ HC (by omega) hn (by omega) (by decide) (by decide)).mono ?_
    rintro e w1 ⟨⟨t, rfl, ht⟩, hd⟩
    replace HC := hd.cur
    replace HG := grown_trans HG hd.grown
    clear hd
    go_wp2
    go_ret
    exact ⟨⟨t, rfl, by omega⟩, drew_below (by rw [HW.out]; exact HG)⟩

end Go.Proofs.YtjfkeflmbgfhmaaGreatDoor
