/- The drawings of the law FnFormsChange: whatever the bytes (a million at most), numbers and lists come out, and no old memory changes. -/
import Derived.Test.YtjfpnecnmdclfaaDrZ
namespace Go.Proofs.Ytjfpnecnmdclfaa
open Go.ChangeShapes Go.WideShapes Go.ChangeAt Go.RowKit

set_option maxHeartbeats 3200000 in
set_option maxRecDepth 4000 in
theorem DrawFormOfSums_any (A : Option Addr) (n c : Nat) (w : World) (h : Bys w A n) (hn : n ≤ 1000000000000) :
    Calls Try.prog 6 #[.slice A n c] w fun e w' => ∃ (L : Option Addr) (n2 c2 : Nat) (Z : List Int), e = .returned (.slice L n2 c2) ∧ Z.length = n2 ∧ n2 ≤ 20 ∧ n2 ≤ c2 ∧ Own w' w.heap.size w'.heap.size L (i64s Z) ∧ Below w.heap.size w w' := by
  have HC := cur_new w A n c 42 h
  go_enter Try.func6, Try.ntmps6
  go_upto_region 2 with (fail)
  have hlt0 : w.heap.size < (w.alloc (.cells #[.slice A n c, .int .i64 0, .int .u64 0] 42)).heap.size := by simp
  generalize hw0 : w.alloc (.cells #[.slice A n c, .int .i64 0, .int .u64 0] 42) = w0 at HC hlt0 ⊢
  have HW := Lib.hid hw0
  clear hw0
  go_wp2_with fail
  refine (drawform_any _ _ _ _ _ _ _ HC (by omega) hn).mono ?_
  rintro e w1 ⟨L, n2, c2, Z, rfl, hZ, hn2, hca, hl⟩
  go_wp2
  go_ret
  exact ⟨L, n2, c2, Z, rfl, hZ, hn2, hca, hl.own.wide (Nat.le_of_lt hlt0) (Nat.le_refl _), drew_below (by rw [HW.out]; exact hl.drawn.grown)⟩

set_option maxHeartbeats 3200000 in
set_option maxRecDepth 4000 in
theorem DrawDifferencesOf_any (A : Option Addr) (n c : Nat) (w : World) (h : Bys w A n) (hn : n ≤ 1000000000000) :
    Calls Try.prog 45 #[.slice A n c] w fun e w' => ∃ (L : Option Addr) (n2 c2 : Nat) (Z : List Int), e = .returned (.slice L n2 c2) ∧ Z.length = n2 ∧ n2 ≤ 20 ∧ n2 ≤ c2 ∧ Own w' w.heap.size w'.heap.size L (i64s Z) ∧ Below w.heap.size w w' := by
  have HC := cur_new w A n c 42 h
  go_enter Try.func45, Try.ntmps45
  go_upto_region 2 with (fail)
  have hlt0 : w.heap.size < (w.alloc (.cells #[.slice A n c, .int .i64 0, .int .u64 0] 42)).heap.size := by simp
  generalize hw0 : w.alloc (.cells #[.slice A n c, .int .i64 0, .int .u64 0] 42) = w0 at HC hlt0 ⊢
  have HW := Lib.hid hw0
  clear hw0
  go_wp2_with fail
  refine (drawlisted_any _ _ _ _ _ _ _ HC (by omega) hn).mono ?_
  rintro e w1 ⟨L, n2, c2, Z, rfl, hZ, hn2, hca, hl⟩
  go_wp2
  go_ret
  exact ⟨L, n2, c2, Z, rfl, hZ, hn2, hca, hl.own.wide (Nat.le_of_lt hlt0) (Nat.le_refl _), drew_below (by rw [HW.out]; exact hl.drawn.grown)⟩

theorem DrawTransformOf_any (A : Option Addr) (n c : Nat) (w : World) (h : Bys w A n) (hn : n ≤ 1000000000000) :
    Calls Try.prog 15 #[.slice A n c] w fun e w' => ∃ (L : Option Addr) (n2 c2 : Nat) (Z : List Int), e = .returned (.slice L n2 c2) ∧ Z.length = n2 ∧ n2 ≤ 20 ∧ n2 ≤ c2 ∧ Own w' w.heap.size w'.heap.size L (i64s Z) ∧ Below w.heap.size w w' := by
  go_enter Try.func15, Try.ntmps15
  go_wp2_with fail
  refine (DrawDifferencesOf_any A n c _ h hn).mono ?_
  rintro e w1 ⟨L, n2, c2, Z, rfl, hZ, hn2, hca, hO, hb⟩
  go_wp2
  go_ret
  exact ⟨L, n2, c2, Z, rfl, hZ, hn2, hca, hO, hb⟩

set_option maxHeartbeats 3200000 in
set_option maxRecDepth 4000 in
theorem DrawFormOfShape_any (A : Option Addr) (n c : Nat) (w : World) (h : Bys w A n) (hn : n ≤ 1000000000000) :
    Calls Try.prog 21 #[.slice A n c] w fun e w' => (∃ x : Int, e = .returned (.int .i64 x)) ∧ Below w.heap.size w w' := by
  have HC := cur_new w A n c 42 h
  have HG : (w.alloc (.cells #[.slice A n c, .int .i64 0, .int .u64 0] 42)).grownBy (w.alloc (.cells #[.slice A n c, .int .i64 0, .int .u64 0] 42)) (some w.heap.size) := World.grownBy.refl _ _
  go_enter Try.func21, Try.ntmps21
  go_upto_region 2 with (fail)
  generalize hw0 : w.alloc (.cells #[.slice A n c, .int .i64 0, .int .u64 0] 42) = w0 at HC HG ⊢
  have HW := Lib.hid hw0
  clear hw0
  go_wp2_with fail
  refine (sides_any _ _ _ _ _ _ _ HC (by omega) hn).mono ?_
  rintro e w1 ⟨x, ⟨rfl, x0, x1⟩, hd⟩
  replace HC := hd.cur
  replace HG := grown_trans HG hd.grown
  clear hd
  go_wp2
  go_ret
  exact ⟨⟨x, rfl⟩, drew_below (by rw [HW.out]; exact HG)⟩

set_option maxHeartbeats 3200000 in
set_option maxRecDepth 4000 in
theorem DrawChooseOf_any (A : Option Addr) (n c : Nat) (w : World) (h : Bys w A n) (hn : n ≤ 1000000000000) :
    Calls Try.prog 27 #[.slice A n c] w fun e w' => (∃ x y : Int, e = .returned (.tuple #[.int .i64 x, .int .i64 y]) ∧ y ≤ 9223372036854775807) ∧ Below w.heap.size w w' := by
  have HC := cur_new w A n c 42 h
  have HG : (w.alloc (.cells #[.slice A n c, .int .i64 0, .int .u64 0] 42)).grownBy (w.alloc (.cells #[.slice A n c, .int .i64 0, .int .u64 0] 42)) (some w.heap.size) := World.grownBy.refl _ _
  go_enter Try.func27, Try.ntmps27
  go_upto_region 2 with (fail)
  generalize hw0 : w.alloc (.cells #[.slice A n c, .int .i64 0, .int .u64 0] 42) = w0 at HC HG ⊢
  have HW := Lib.hid hw0
  clear hw0
  go_wp2_with fail
  refine (one_any _ _ _ _ _ _ _ _ HC (by omega) hn (by omega) (by omega)).mono ?_
  rintro e w1 ⟨b, rfl, hd⟩
  replace HC := hd.cur
  replace HG := grown_trans HG hd.grown
  clear hd
  cases b
  · go_wp2_with fail
    refine (pick_any _ _ _ _ _ _ _ _ HC (by omega) hn (by omega) (by omega)).mono ?_
    rintro e w1 ⟨x, rfl, x0, x1, hd⟩
    replace HC := hd.cur
    replace HG := grown_trans HG hd.grown
    clear hd
    have hx3 : IntKind.i64.wrap (x + 3) = x + 3 := IntWalk.i64_in _ (by omega)
    go_wp2_with fail
    refine (pick_any _ _ _ _ _ _ _ _ HC (by omega) hn (by omega) (by omega)).mono ?_
    rintro e w1 ⟨y, rfl, y0, y1, hd⟩
    replace HC := hd.cur
    replace HG := grown_trans HG hd.grown
    clear hd
    go_wp2
    go_ret2
    exact ⟨⟨x, y, rfl, by omega⟩, drew_below (by rw [HW.out]; exact HG)⟩
  · go_wp2_with fail
    refine (among_any _ _ _ _ _ _ _ 4 _ [-1, 0, 60, 61] _ _ _ (HC.alloc' _) (by omega) hn rfl (by omega) (by omega) (own_new _ [-1, 0, 60, 61] _) (Or.inl HC.lt) (Nat.le_refl _)).mono ?_
    rintro e w1 ⟨x, rfl, xm, hd⟩
    replace HC := hd.cur
    replace HG := grown_trans (grown_alloc HG _) hd.grown
    clear hd
    go_wp2_with fail
    refine (among_any _ _ _ _ _ _ _ 6 _ [-1, 0, 30, 60, 61, 4611686018427387904] _ _ _ (HC.alloc' _) (by omega) hn rfl (by omega) (by omega) (own_new _ [-1, 0, 30, 60, 61, 4611686018427387904] _) (Or.inl HC.lt) (Nat.le_refl _)).mono ?_
    rintro e w1 ⟨y, rfl, ym, hd⟩
    replace HC := hd.cur
    replace HG := grown_trans (grown_alloc HG _) hd.grown
    clear hd
    have hy9 : y ≤ 9223372036854775807 := by simp at ym; omega
    go_wp2
    go_ret2
    exact ⟨⟨x, y, rfl, hy9⟩, drew_below (by rw [HW.out]; exact HG)⟩

set_option maxHeartbeats 3200000 in
set_option maxRecDepth 4000 in
theorem DrawShapeOfList_any (A : Option Addr) (n c : Nat) (w : World) (h : Bys w A n) (hn : n ≤ 1000000000000) :
    Calls Try.prog 24 #[.slice A n c] w fun e w' => ∃ (L : Option Addr) (n2 c2 : Nat) (Z : List Int), e = .returned (.slice L n2 c2) ∧ Z.length = n2 ∧ n2 ≤ 20 ∧ n2 ≤ c2 ∧ Own w' w.heap.size w'.heap.size L (i64s Z) ∧ Below w.heap.size w w' := by
  obtain ⟨i0, hi0, hz0, hz1, hz2⟩ := info_parts infoInt
  have HC := cur_new w A n c 42 h
  go_enter Try.func24, Try.ntmps24
  go_upto_region 2 with (fail)
  have hlt0 : w.heap.size < (w.alloc (.cells #[.slice A n c, .int .i64 0, .int .u64 0] 42)).heap.size := by simp
  generalize hw0 : w.alloc (.cells #[.slice A n c, .int .i64 0, .int .u64 0] 42) = w0 at HC hlt0 ⊢
  have HW := Lib.hid hw0
  clear hw0
  have ST := Lib.hid (Stb.start HC)
  clear HC
  go_wp2_with fail
  refine (one_any _ _ _ _ _ _ _ _ ST.out.cur (by omega) hn (by omega) (by omega)).mono ?_
  rintro e w1 ⟨b, rfl, hd⟩
  have ST1 := Lib.hid (ST.out.drawn hd)
  clear hd ST
  have ST := ST1
  clear ST1
  cases b
  · go_wp2_with fail
    refine (pick_any _ _ _ _ _ _ _ _ ST.out.cur (by omega) hn (by omega) (by omega)).mono ?_
    rintro e w2 ⟨s, rfl, s0, s1, hd⟩
    have ST1 := Lib.hid (ST.out.drawn hd)
    clear hd
    clear ST
    have ST := ST1
    clear ST1
    have hs : IntKind.i64.wrap (3 + s) = 3 + s := IntWalk.i64_in _ (by omega)
    go_wp2_with fail
    refine (pick_any _ _ _ _ _ _ _ _ ST.out.cur (by omega) hn (by omega) (by omega)).mono ?_
    rintro e w3 ⟨k, rfl, k0, k1, hd⟩
    have ST1 := Lib.hid (ST.out.drawn hd)
    clear hd
    clear ST
    have ST := ST1
    clear ST1
    go_wp2_with fail
    refine (pick_any _ _ _ _ _ _ _ _ ST.out.cur (by omega) hn (by omega) (by omega)).mono ?_
    rintro e w4 ⟨y, rfl, y0, y1, hd⟩
    have ST1 := Lib.hid (ST.out.drawn hd)
    clear hd
    clear ST
    have ST := ST1
    clear ST1
    have hy : IntKind.i64.wrap (3 + y) = 3 + y := IntWalk.i64_in _ (by omega)
    obtain ⟨L0, hL0⟩ : ∃ L0, (3 + y).toNat = L0 := ⟨_, rfl⟩
    have hL3 : 3 ≤ L0 := by omega
    have HL0 := Lib.hid hL0
    clear hL0
    go_wp2_with fail
    go_loopw [5, 6, 7] (fun kv v i wr => ∃ (j : Nat) (xs : List Int) (q : Int), j ≤ 6 ∧ i = .int .i64 j ∧ kv = .int .i64 q ∧ 0 ≤ q ∧ q + (j : Int) ≤ 30 ∧ xs.length + j ≤ 6 ∧ xs.length + j = L0 ∧ Hid (Stb w0 w.heap.size w.heap.size A n c 20 v xs wr)) (fun _ _ i _ => (intOf i).toNat)
    case atStart => exact ⟨(3 + y).toNat, [], k, by omega, by rw [Int.toNat_of_nonneg (by omega)], rfl, k0, by omega, by simp; omega, by simpa using HL0.out, Lib.hid (ST.out.up (by omega))⟩
    case round =>
      obtain ⟨j, xs, q, hj, rfl, rfl, q0, q1, hx, hx0, ST⟩ := hrel
      by_cases hlt : 0 < j
      · have hji : (0 : Int) < (j : Int) := by omega
        go_wp2_with fail
        refine (shNumber_any _ _ _ (by omega) (by omega) (by omega) (by omega)).mono ?_
        rintro e w9 ⟨rfl, rfl⟩
        generalize num (3 + s) q = x
        go_wp2_with (at_builtin; refine wpList_append_own _ rfl _ _ 24 rfl w0.heap.size 3 i0 (.int .i64 0) 1 8 Try.underlying24 hi0 hz0 hz1 hz2 rfl (by decide) _ _ _ rfl (ST.out.row.alloc _) ⟨wr.heap.size, 0, none⟩ 1 1 [.int .i64 (x)] rfl rfl ?c1 ?c2 ?c3 ?c4 ?c5 ?_)
        case c1 =>
          intro j u hj
          match j, hj with
          | 0, hj => simp at hj; subst hj; simp [Addr.add]
        case c2 => intro u hu; simp at hu; subst hu; rfl
        case c3 => unfold maxLen; omega
        case c4 => omega
        case c5 => have := ST.out.grown.size; simp; omega
        · intro v' w5 hown' hgrow _
          have ST2 := Lib.hid ((ST.out.alloc _).app hown' hgrow)
          clear hown' hgrow ST
          have hw2 : IntKind.i64.wrap ((j : Int) - 1) = (j : Int) - 1 := IntWalk.i64_in _ (by omega)
          have hw3 : IntKind.i64.wrap (q + 1) = q + 1 := IntWalk.i64_in _ (by omega)
          go_wp2_with fail
          go_roundw
          case rel => exact ⟨j - 1, xs ++ [x], q + 1, by omega, by rw [show ((j - 1 : Nat) : Int) = (j : Int) - 1 by omega], rfl, by omega, by omega, by rw [List.length_append]; simp; omega, by rw [List.length_append]; simp; omega, Lib.hid (ST2.out.up (by omega))⟩
          case measure => simp [intOf] <;> omega
      · have hji : ¬ (0 : Int) < (j : Int) := by omega
        obtain rfl : j = 0 := by omega
        have hx6 : xs.length ≤ 6 := by omega
        have hx3 : 3 ≤ xs.length := by omega
        clear hlt hj hx hx0
        go_wp2_with fail
        refine (one_any _ _ _ _ _ _ _ _ ST.out.cur (by omega) hn (by omega) (by omega)).mono ?_
        rintro e w6 ⟨b, rfl, hd⟩
        have ST1 := Lib.hid (ST.out.drawn hd)
        clear hd ST
        obtain ⟨L2, d2, rfl⟩ := row_form ST1.out.row
        have hcap := rowcap8 ST1.out.row
        generalize hN : xs.length = N at *
        cases b
        · go_wp2_with fail
          go_ret
          exact ⟨L2, N, d2, xs, rfl, hN, by omega, hcap, (ST1.out.own.1).wide (Nat.le_of_lt hlt0) (Nat.le_refl _), drew_below (by rw [HW.out]; exact ST1.out.grown)⟩
        · go_wp2_with fail
          refine (pick_any _ _ _ _ _ _ _ _ ST1.out.cur (by omega) hn (by omega) (by omega)).mono ?_
          rintro e w7 ⟨p, rfl, p0, p1, hd⟩
          have ST9 := Lib.hid (ST1.out.drawn hd)
          clear hd ST1
          have hO := ST9.out.own.1
          have hGr := ST9.out.grown
          obtain ⟨j, rfl⟩ := Int.eq_ofNat_of_zero_le p0
          have hj : j < xs.length := by omega
          obtain ⟨g, o, rfl, hg1, hg2, hc, hf⟩ := hO.at_ (k := j) (by simpa using hj)
          have hset := hO.set_ j (by simpa using hj) (.int .i64 (wrap64 (xs[j] + 1)))
          have hc' : w7.cell? ⟨g, o + j, none⟩ = some (.int .i64 xs[j]) := by simpa using hc
          rw [← List.map_set] at hset
          have HSET := Lib.hid hset
          have HGR := Lib.hid (grown_set8' hGr hg1 (o + j) (.int .i64 (wrap64 (xs[j] + 1))))
          clear hset hc hO ST9 hGr
          generalize xs[j] = x at *
          go_wp2
          go_ret
          exact ⟨_, _, _, xs.set j (wrap64 (x + 1)), rfl, by rw [List.length_set, hN], by omega, hcap, HSET.out.wide (Nat.le_of_lt hlt0) (by simp [World.setCell]), drew_below (by rw [HW.out]; exact HGR.out)⟩
  · go_wp2_with fail
    refine (drawlisted_any _ _ _ _ _ _ _ ST.out.cur (by omega) hn).mono ?_
    rintro e w2 ⟨L, n2, c2, Z, rfl, hZ, hn2, hca, hl⟩
    have hsz := ST.out.grown.size
    go_wp2
    go_ret
    exact ⟨L, n2, c2, Z, rfl, hZ, hn2, hca, hl.own.wide (by omega) (Nat.le_refl _), drew_below (by rw [HW.out]; exact grown_trans ST.out.grown hl.drawn.grown)⟩

end Go.Proofs.Ytjfpnecnmdclfaa
