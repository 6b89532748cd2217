/- The drawings of chapter 4's pairs and recurrences: whatever the bytes (a million at most), numbers and a list come out, and no old memory changes. -/
import Derived.Test.YtmpeembnjpgcgaaDrW
import Derived.Test.YtmpeembnjpgcgaaCapB
import Derived.Test.YtmpeembnjpgcgaaAnW
namespace Go.Proofs.Ytmpeembnjpgcgaa
open Go.ChangeShapes Go.WideShapes Go.ChangeAt Go.RowKit
theorem results_tmp5 {fn : Func} {a b c d e : Tmp} (h : fn.results = #[.tmp a, .tmp b, .tmp c, .tmp d, .tmp e]) (tmps : Array Value) (P : Program) (w : World) :
    (results fn tmps).run P w = .ok (.tuple #[tmps.getD a undef, tmps.getD b undef, tmps.getD c undef, tmps.getD d undef, tmps.getD e undef]) w := by
  simp [results, h]

set_option maxHeartbeats 3200000 in
set_option maxRecDepth 4000 in
theorem DrawTwicePair_any (A : Option Addr) (n c : Nat) (w : World) (h : Bys w A n) (hn : n ≤ 1000000000000) :
    Calls Try.prog 26 #[.slice A n c] w fun e w' => (∃ x : Int, e = .returned (.int .i64 x)) ∧ Below w.heap.size w w' := by
  have HC := cur_new w A n c 63 h
  have HG : (w.alloc (.cells #[.slice A n c, .int .i64 0, .int .u64 0] 63)).grownBy (w.alloc (.cells #[.slice A n c, .int .i64 0, .int .u64 0] 63)) (some w.heap.size) := World.grownBy.refl _ _
  go_enter Try.func26, Try.ntmps26
  go_upto_region 2 with (fail)
  generalize hw0 : w.alloc (.cells #[.slice A n c, .int .i64 0, .int .u64 0] 63) = w0 at HC HG ⊢
  have HW := Lib.hid hw0
  clear hw0
  go_wp2_with fail
  refine (among_any _ _ _ _ _ _ _ 9 _ [0, 1, 2, 3, 4, 7, 12, 13, -1] _ _ _ (HC.alloc' _) (by omega) hn rfl (by omega) (by omega) (own_new _ [0, 1, 2, 3, 4, 7, 12, 13, -1] _) (Or.inl HC.lt) (Nat.le_refl _)).mono ?_
  rintro e w1 ⟨x, rfl, xm, hd⟩
  replace HC := hd.cur
  replace HG := grown_trans (grown_alloc HG _) hd.grown
  clear hd
  go_wp2
  go_ret
  exact ⟨⟨x, rfl⟩, drew_below (by rw [HW.out]; exact HG)⟩

set_option maxHeartbeats 3200000 in
set_option maxRecDepth 4000 in
theorem DrawHexagonsAre_any (A : Option Addr) (n c : Nat) (w : World) (h : Bys w A n) (hn : n ≤ 1000000000000) :
    Calls Try.prog 29 #[.slice A n c] w fun e w' => (∃ x : Int, e = .returned (.int .i64 x)) ∧ Below w.heap.size w w' := by
  have HC := cur_new w A n c 63 h
  have HG : (w.alloc (.cells #[.slice A n c, .int .i64 0, .int .u64 0] 63)).grownBy (w.alloc (.cells #[.slice A n c, .int .i64 0, .int .u64 0] 63)) (some w.heap.size) := World.grownBy.refl _ _
  go_enter Try.func29, Try.ntmps29
  go_upto_region 2 with (fail)
  generalize hw0 : w.alloc (.cells #[.slice A n c, .int .i64 0, .int .u64 0] 63) = w0 at HC HG ⊢
  have HW := Lib.hid hw0
  clear hw0
  go_wp2_with fail
  refine (pick_any _ _ _ _ _ _ _ _ HC (by omega) hn (by omega) (by omega)).mono ?_
  rintro e w1 ⟨y, rfl, y0, y1, hd⟩
  replace HC := hd.cur
  replace HG := grown_trans HG hd.grown
  clear hd
  go_wp2_with fail
  refine (among_any _ _ _ _ _ _ _ 8 _ [1, 2, 3, 50000, 50001, 0, -1, y] _ _ _ (HC.alloc' _) (by omega) hn rfl (by omega) (by omega) (own_new _ [1, 2, 3, 50000, 50001, 0, -1, y] _) (Or.inl HC.lt) (Nat.le_refl _)).mono ?_
  rintro e w1 ⟨x, rfl, xm, hd⟩
  replace HC := hd.cur
  replace HG := grown_trans (grown_alloc HG _) hd.grown
  clear hd
  go_wp2
  go_ret
  exact ⟨⟨x, rfl⟩, drew_below (by rw [HW.out]; exact HG)⟩

set_option maxHeartbeats 3200000 in
set_option maxRecDepth 4000 in
theorem DrawSquareOfOdd_any (A : Option Addr) (n c : Nat) (w : World) (h : Bys w A n) (hn : n ≤ 1000000000000) :
    Calls Try.prog 30 #[.slice A n c] w fun e w' => (∃ x : Int, e = .returned (.int .i64 x)) ∧ Below w.heap.size w w' := by
  have HC := cur_new w A n c 63 h
  have HG : (w.alloc (.cells #[.slice A n c, .int .i64 0, .int .u64 0] 63)).grownBy (w.alloc (.cells #[.slice A n c, .int .i64 0, .int .u64 0] 63)) (some w.heap.size) := World.grownBy.refl _ _
  go_enter Try.func30, Try.ntmps30
  go_upto_region 2 with (fail)
  generalize hw0 : w.alloc (.cells #[.slice A n c, .int .i64 0, .int .u64 0] 63) = w0 at HC HG ⊢
  have HW := Lib.hid hw0
  clear hw0
  go_wp2_with fail
  refine (place_any _ _ _ _ _ _ _ HC (by omega) hn).mono ?_
  rintro e w1 ⟨x, rfl, hd⟩
  replace HC := hd.cur
  replace HG := grown_trans HG hd.grown
  clear hd
  go_wp2
  go_ret
  exact ⟨⟨x, rfl⟩, drew_below (by rw [HW.out]; exact HG)⟩

set_option maxHeartbeats 3200000 in
set_option maxRecDepth 4000 in
theorem DrawGoOnBy_any (A : Option Addr) (n c : Nat) (w : World) (h : Bys w A n) (hn : n ≤ 1000000000000) :
    Calls Try.prog 28 #[.slice A n c] w fun e w' => (∃ x y z t u : Int, e = .returned (.tuple #[.int .i64 x, .int .i64 y, .int .i64 z, .int .i64 t, .int .i64 u])) ∧ Below w.heap.size w w' := by
  have HC := cur_new w A n c 63 h
  have HG : (w.alloc (.cells #[.slice A n c, .int .i64 0, .int .u64 0] 63)).grownBy (w.alloc (.cells #[.slice A n c, .int .i64 0, .int .u64 0] 63)) (some w.heap.size) := World.grownBy.refl _ _
  go_enter Try.func28, Try.ntmps28
  go_upto_region 2 with (fail)
  generalize hw0 : w.alloc (.cells #[.slice A n c, .int .i64 0, .int .u64 0] 63) = w0 at HC HG ⊢
  have HW := Lib.hid hw0
  clear hw0
  go_wp2_with fail
  refine (pick_any _ _ _ _ _ _ _ _ HC (by omega) hn (by omega) (by omega)).mono ?_
  rintro e w1 ⟨x, rfl, x0, x1, hd⟩
  replace HC := hd.cur
  replace HG := grown_trans HG hd.grown
  clear hd
  go_wp2_with fail
  refine (pick_any _ _ _ _ _ _ _ _ HC (by omega) hn (by omega) (by omega)).mono ?_
  rintro e w1 ⟨y, rfl, y0, y1, hd⟩
  replace HC := hd.cur
  replace HG := grown_trans HG hd.grown
  clear hd
  go_wp2_with fail
  refine (among_any _ _ _ _ _ _ _ 9 _ [2, 3, 6, 1, 0, -2, 10, -10, 11] _ _ _ (HC.alloc' _) (by omega) hn rfl (by omega) (by omega) (own_new _ [2, 3, 6, 1, 0, -2, 10, -10, 11] _) (Or.inl HC.lt) (Nat.le_refl _)).mono ?_
  rintro e w1 ⟨z, rfl, zm, hd⟩
  replace HC := hd.cur
  replace HG := grown_trans (grown_alloc HG _) hd.grown
  clear hd
  go_wp2_with fail
  refine (among_any _ _ _ _ _ _ _ 7 _ [0, 1, 2, -3, 1000, -1000, 1001] _ _ _ (HC.alloc' _) (by omega) hn rfl (by omega) (by omega) (own_new _ [0, 1, 2, -3, 1000, -1000, 1001] _) (Or.inl HC.lt) (Nat.le_refl _)).mono ?_
  rintro e w1 ⟨t, rfl, tm, hd⟩
  replace HC := hd.cur
  replace HG := grown_trans (grown_alloc HG _) hd.grown
  clear hd
  go_wp2_with fail
  refine (among_any _ _ _ _ _ _ _ 8 _ [0, 1, 2, 5, 8, 12, 13, -1] _ _ _ (HC.alloc' _) (by omega) hn rfl (by omega) (by omega) (own_new _ [0, 1, 2, 5, 8, 12, 13, -1] _) (Or.inl HC.lt) (Nat.le_refl _)).mono ?_
  rintro e w1 ⟨u, rfl, um, hd⟩
  replace HC := hd.cur
  replace HG := grown_trans (grown_alloc HG _) hd.grown
  clear hd
  go_wp2
  (try simp only [Exit.inBlock, Exit.then])
  refine bodyPost_ret (results_tmp5 rfl _ _ _) rfl ?_
  exact ⟨⟨_, _, _, _, _, rfl⟩, drew_below (by rw [HW.out]; exact HG)⟩

theorem own_pre {w : World} {lo hi : Nat} {A : Option Addr} {xs : List Int} (h : Own w lo hi A (i64s xs)) (k : Nat) : Own w lo hi A (i64s (xs.take k)) := fun hn => by
  obtain ⟨g, o, e, h1, h2, hc⟩ := h (by simp only [List.length_map, List.length_take] at hn ⊢; omega)
  refine ⟨g, o, e, h1, h2, fun j u hu => hc j u ?_⟩
  have e2 : i64s (xs.take k) = (i64s xs).take k := List.map_take
  rw [e2, List.getElem?_take] at hu
  split at hu
  · exact hu
  · cases hu
theorem own_drawn {w w' : World} {lo hi r B k : Nat} {A' A : Option Addr} {n c : Nat} {cs : List Value} (h : Own w lo hi A' cs) (hr : r < lo) (hh : hi ≤ w.heap.size) (hd : Drawn w w' B r A n c k) : Own w' lo hi A' cs :=
  h.far hd.grown hh fun p hp h0 => by
    obtain ⟨g, o, e, h1, _⟩ := h h0
    rw [hp] at e
    injection e with e
    subst e
    intro e
    injection e with e
    simp at e
    omega
theorem set_below {w w' : World} {o : Obj} {g k : Nat} {v : Value} (h : (w.alloc o).grownBy w' (some w.heap.size)) (hg : w.heap.size ≤ g) : Below w.heap.size w (w'.setCell ⟨g, k, none⟩ v) := (drew_below h).setCell hg _
set_option maxHeartbeats 3200000 in
set_option maxRecDepth 4000 in
theorem DrawRecurrenceOf_any (A : Option Addr) (n c : Nat) (w : World) (h : Bys w A n) (hn : n ≤ 1000000000000) :
    Calls Try.prog 27 #[.slice A n c] w fun e w' => ∃ (A2 : Option Addr) (n2 c2 : Nat) (Z : List Int), e = .returned (.slice A2 n2 c2) ∧ Z.length = n2 ∧ n2 ≤ 20 ∧ Own w' w.heap.size w'.heap.size A2 (i64s Z) ∧ Below w.heap.size w w' := by
  have HC := cur_new w A n c 63 h
  have HG : (w.alloc (.cells #[.slice A n c, .int .i64 0, .int .u64 0] 63)).grownBy (w.alloc (.cells #[.slice A n c, .int .i64 0, .int .u64 0] 63)) (some w.heap.size) := World.grownBy.refl _ _
  have HS : w.heap.size ≤ (w.alloc (.cells #[.slice A n c, .int .i64 0, .int .u64 0] 63)).heap.size := by simp
  go_enter Try.func27, Try.ntmps27
  go_upto_region 2 with (fail)
  have hy := h.on (below_on (w := w) (.cells #[.slice A n c, .int .i64 0, .int .u64 0] 63))
  generalize hw0 : w.alloc (.cells #[.slice A n c, .int .i64 0, .int .u64 0] 63) = w0 at HC HG HS hy ⊢
  have HW := Lib.hid hw0
  clear hw0
  go_wp2_with fail
  refine (DrawGoOnBy_any A n c _ hy hn).mono ?_
  rintro e w1 ⟨⟨a, b, f, add, d5, rfl⟩, hb1⟩
  replace HC := HC.on hb1
  replace HG := grown_below HG hb1
  clear hb1 hy
  go_wp2_with fail
  refine (pick_any _ _ _ _ _ _ _ _ HC (by omega) hn (by omega) (by omega)).mono ?_
  rintro e w1 ⟨y, rfl, y0, y1, hd⟩
  replace HC := hd.cur
  replace HG := grown_trans HG hd.grown
  clear hd
  have hy4 : IntKind.i64.wrap (4 + y) = 4 + y := IntWalk.i64_in _ (by omega)
  go_wp2_with fail
  refine (spec_GoOnBy_c a b f add (4 + y) _).mono ?_
  rintro e w2 ⟨L, cp, hcp, rfl, hO, hb1⟩
  have hlo : w.heap.size < w1.heap.size := HC.lt
  have hsz := hb1.size
  replace HC := HC.on hb1
  replace HG := grown_below HG hb1
  clear hb1 hy4
  rcases Bool.eq_false_or_eq_true (goB a b f add (4 + y)) with hB | hB
  rotate_left
  · simp only [hB]
    clear hO hcp
    go_wp2
    go_ret
    exact ⟨_, _, _, [0, 1, 36, 1225, 41616], rfl, rfl, by omega, (own_new w2 [0, 1, 36, 1225, 41616] _).wide (by omega) (Nat.le_refl _), (drew_below (by rw [HW.out]; exact HG)).alloc (by omega) _⟩
  · simp only [hB]
    obtain ⟨l1, l2, l3⟩ := go_len hB
    generalize goL a b f add (4 + y) = xs at *
    generalize hN : xs.length = N at *
    have hs2 : w2.heap.size ≤ w2.heap.size := Nat.le_refl _
    go_wp2_with fail
    refine (pick_any _ _ _ _ _ _ _ _ HC (by omega) hn (by omega) (by omega)).mono ?_
    rintro e w3 ⟨p, rfl, p0, p1, hd⟩
    replace hO := own_drawn hO hlo hs2 hd
    have hs3 : w2.heap.size ≤ w3.heap.size := hd.grown.size
    replace HC := hd.cur
    replace HG := grown_trans HG hd.grown
    clear hd
    by_cases h0 : p = 0
    · subst h0
      go_wp2_with fail
      refine (pick_any _ _ _ _ _ _ _ _ HC (by omega) hn (by omega) (by omega)).mono ?_
      rintro e w4 ⟨q, rfl, q0, q1, hd⟩
      replace hO := own_drawn hO hlo hs3 hd
      have hs4 : w3.heap.size ≤ w4.heap.size := hd.grown.size
      replace HC := hd.cur
      replace HG := grown_trans HG hd.grown
      clear hd
      obtain ⟨j, rfl⟩ := Int.eq_ofNat_of_zero_le q0
      have hj : j < xs.length := by omega
      obtain ⟨g, o, rfl, hg1, hg2, hc, hf⟩ := hO.at_ (k := j) (by simpa using hj)
      have hset := hO.set_ j (by simpa using hj) (.int .i64 (wrap64 (xs[j] + 1)))
      have hc' : w4.cell? ⟨g, o + j, none⟩ = some (.int .i64 xs[j]) := by simpa using hc
      rw [← List.map_set] at hset
      have HSET := Lib.hid hset
      clear hset hc hO
      generalize xs[j] = x at *
      go_wp2
      go_ret
      exact ⟨_, _, _, xs.set j (wrap64 (x + 1)), rfl, by rw [List.length_set, hN], by omega, HSET.out.wide (by omega) (by simp [World.setCell]; omega), set_below (by rw [HW.out]; exact HG) (by omega)⟩
    · by_cases h1 : p = 1
      · subst h1
        go_wp2_with fail
        refine (pick_any _ _ _ _ _ _ _ _ HC (by omega) hn (by omega) (by omega)).mono ?_
        rintro e w4 ⟨q, rfl, q0, q1, hd⟩
        replace hO := own_drawn hO hlo hs3 hd
        have hs4 : w3.heap.size ≤ w4.heap.size := hd.grown.size
        replace HC := hd.cur
        replace HG := grown_trans HG hd.grown
        clear hd
        go_wp2_with fail
        have hO2 := hO.below (below_on (w := w4) (.cells #[.int .i64 1000000000000000, .int .i64 1000000000000001, .int .i64 (-9223372036854775808)] 3)) (by omega)
        refine (among_any _ _ _ _ _ _ _ 3 _ [1000000000000000, 1000000000000001, -9223372036854775808] _ _ _ (HC.alloc' _) (by omega) hn rfl (by omega) (by omega) (own_new _ [1000000000000000, 1000000000000001, -9223372036854775808] _) (Or.inl HC.lt) (Nat.le_refl _)).mono ?_
        rintro e w5 ⟨v, rfl, vm, hd⟩
        replace hO := own_drawn hO2 hlo (by simp; omega) hd
        have hs5 : w4.heap.size ≤ w5.heap.size := by have := hd.grown.size; simp at this; omega
        replace HC := hd.cur
        replace HG := grown_trans (grown_alloc HG _) hd.grown
        clear hd hO2
        obtain ⟨j, rfl⟩ := Int.eq_ofNat_of_zero_le q0
        have hj : j < xs.length := by omega
        obtain ⟨g, o, rfl, hg1, hg2, hc, hf⟩ := hO.at_ (k := j) (by simpa using hj)
        have hset := hO.set_ j (by simpa using hj) (.int .i64 v)
        rw [← List.map_set] at hset
        have HSET := Lib.hid hset
        clear hset hO
        generalize (i64s xs)[j]'(by simpa using hj) = x at hc
        go_wp2
        go_ret
        exact ⟨_, _, _, xs.set j v, rfl, by rw [List.length_set, hN], by omega, HSET.out.wide (by omega) (by simp [World.setCell]; omega), set_below (by rw [HW.out]; exact HG) (by omega)⟩
      · by_cases h2 : p = 2
        · subst h2
          go_wp2_with fail
          refine (pick_any _ _ _ _ _ _ _ _ HC (by omega) hn (by omega) (by omega)).mono ?_
          rintro e w4 ⟨q, rfl, q0, q1, hd⟩
          replace hO := own_drawn hO hlo hs3 hd
          have hs4 : w3.heap.size ≤ w4.heap.size := hd.grown.size
          replace HC := hd.cur
          replace HG := grown_trans HG hd.grown
          clear hd
          obtain ⟨j, rfl⟩ := Int.eq_ofNat_of_zero_le q0
          obtain ⟨g, o, rfl, hg1, hg2, _⟩ := hO (by simp; omega)
          have HO := Lib.hid (own_pre hO j)
          have hjc : (j : Int) ≤ (cp : Int) := by omega
          clear hO
          go_wp2
          all_goals
            go_ret
            exact ⟨_, _, _, xs.take j, rfl, by rw [List.length_take]; omega, by omega, HO.out.wide (by omega) (by omega), drew_below (by rw [HW.out]; exact HG)⟩
        · have e0 : (p == 0) = false := by simpa using h0
          have e1 : (p == 1) = false := by simpa using h1
          have e2 : (p == 2) = false := by simpa using h2
          have HO := Lib.hid hO
          clear h0 h1 h2 hO
          go_wp2
          go_ret
          exact ⟨_, _, _, xs, rfl, hN, by omega, HO.out.wide (by omega) (by omega), drew_below (by rw [HW.out]; exact HG)⟩

end Go.Proofs.Ytmpeembnjpgcgaa
