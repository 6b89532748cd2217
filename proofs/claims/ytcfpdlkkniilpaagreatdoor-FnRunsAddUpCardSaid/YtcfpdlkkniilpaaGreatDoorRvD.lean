/- The law FnRunsAddUp, walked: whatever the arguments it answers true, where the library's table of the bits' places lies as the program's text lays it. -/
import Derived.Test.YtcfpdlkkniilpaaGreatDoorBase
import Derived.Test.YtcfpdlkkniilpaaGreatDoorRvB
import Derived.Test.YtcfpdlkkniilpaaGreatDoorAnW2
import Derived.Test.YtcfpdlkkniilpaaGreatDoorCut
import Derived.Test.YtcfpdlkkniilpaaGreatDoorMd
import Derived.Lib.Hide
import Derived.Deep.Cut
import Derived.Deep.CutBlock
namespace Go.Proofs.YtcfpdlkkniilpaaGreatDoor
open Go.ChangeShapes Go.WideShapes Go.ChangeAt Go.RowKit

theorem ru_small (n : Int) : (ruL n).length ≤ 1500 ∧ (sgL n).length ≤ 3000 ∧ (trL n).length ≤ 1500 := by
  rcases Bool.eq_false_or_eq_true (ruB n) with h | h
  · have e := ruE_of h
    have a := e.len
    have b := e.tri
    have c := e.few
    omega
  · simp [ruL, sgL, trL, h]
theorem tr_pre (n : Int) : pre (rowsOf (trL n)) (trL n).length ≤ 1000000000 := by
  rcases Bool.eq_false_or_eq_true (ruB n) with h | h
  · have hl := (ru_small n).2.2
    have hp := pre_le (rowsOf (trL n)) (trL n).length 2 fun i hi => by
      obtain ⟨x, y, q⟩ := trR_of h i hi
      rw [rowsOf, List.getD_eq_getElem?_getD, q.row]
      exact Nat.le_refl _
    omega
  · simp [trL, h, pre]
theorem no_small (m : Int) : (noL m).length ≤ 13 := (noL_take m).2
theorem row_of {xss : List (List Int)} {i : Nat} {r : List Int} (h : xss[i]? = some r) : rowsOf xss i = r := by
  rw [rowsOf, List.getD_eq_getElem?_getD, h]; rfl
/-- Pair k of a slice of pairs. -/
theorem own_pair {w : World} {lo hi g o : Nat} {xs : List (Int × Int)} (h : Own w lo hi (some ⟨g, o, none⟩) (prs xs)) {k : Nat} {a b : Int} (e : xs[k]? = some (a, b)) :
    g < hi ∧ w.cell? ⟨g, o + k * 2, none⟩ = some (.int .i64 a) ∧ w.cell? ⟨g, o + k * 2 + 1, none⟩ = some (.int .i64 b) := by
  obtain ⟨hk, e⟩ := List.getElem?_eq_some_iff.1 e
  obtain ⟨g1, o1, eq, _, hg, c0, c1⟩ := h.pair_ hk
  injection eq with eq
  injection eq with q1 q2 _
  subst q1
  subst q2
  rw [e] at c0 c1
  exact ⟨hg, c0, c1⟩
theorem own_some {w : World} {lo hi : Nat} {A : Option Addr} {cs : List Value} (h : Own w lo hi A cs) (hn : 0 < cs.length) : ∃ g o, A = some ⟨g, o, none⟩ := by
  obtain ⟨g, o, e, _⟩ := h hn
  exact ⟨g, o, e⟩
theorem own_one {w : World} {lo hi g o : Nat} {xs : List Int} (h : Own w lo hi (some ⟨g, o, none⟩) (i64s xs)) {k : Nat} {x : Int} (e : xs[k]? = some x) : w.cell? ⟨g, o + k, none⟩ = some (.int .i64 x) := by
  obtain ⟨hk, e⟩ := List.getElem?_eq_some_iff.1 e
  have c := own_get h hk
  rwa [List.getD_eq_getElem?_getD, List.getElem?_eq_getElem hk, e] at c
/-- A row of two numbers. -/
theorem rows_at {w : World} {lo hi n g o : Nat} {F : Nat → List Int} {Af : Nat → Option Addr} {cf : Nat → Nat} (h : OwnL w lo hi (some ⟨g, o, none⟩) n F Af cf) (hh : hi ≤ w.heap.size) {k : Nat} (hk : k < n) {x y : Int} (e : F k = [x, y]) :
    ∃ g' o', g' < w.heap.size ∧ w.cell? ⟨g, o + k, none⟩ = some (.slice (some ⟨g', o', none⟩) 2 (cf k)) ∧ w.cell? ⟨g', o', none⟩ = some (.int .i64 x) ∧ w.cell? ⟨g', o' + 1, none⟩ = some (.int .i64 y) := by
  have hl : (F k).length = 2 := by rw [e]; rfl
  obtain ⟨g', o', eB, _, hg', _⟩ := h.row k hk (by rw [e]; simp)
  obtain ⟨g1, o1, g2, o2, e1, e2, hc, hj⟩ := ownL_get h hk (by omega)
  rw [eB] at e2
  injection e1 with e1
  injection e2 with e2
  injection e1 with e3 e4 _
  injection e2 with e5 e6 _
  subst e3
  subst e4
  subst e5
  subst e6
  have j0 := hj 0 (by omega)
  have j1 := hj 1 (by omega)
  rw [e] at j0 j1
  rw [hl] at hc
  exact ⟨g', o', by omega, hc, by simpa using j0, by simpa using j1⟩
theorem cell_drewN {w : World} {a : Addr} {v : Value} (h : w.cell? a = some v) (q : Nat) : (w.drewN q).cell? a = some v := h
set_option maxRecDepth 4000 in
set_option maxHeartbeats 16000000 in
theorem walk_RunsAddUp (A' : Option Addr) (n' a' : Nat) (B' : Option Addr) (m' c' : Nat) (w : World) (hn' : n' ≤ 9223372036854775807) (hx' : Bys w A' n') (hm' : m' ≤ 9223372036854775807) (hy' : Bys w B' m') (ht : Tab1 w) :
    Calls Tryz.prog 3 #[.slice A' n' a', .slice B' m' c'] w fun e w' => e = .returned (.bool true) ∧ Below w.heap.size w w' := by
  have HB : Below w.heap.size w w := Below.refl _ _
  have HBs : w.heap.size ≤ w.heap.size := Nat.le_refl _
  rcases Bool.eq_false_or_eq_true (bgB n' m') with hg | hg
  · go_enter Tryz.func3, Tryz.ntmps3
    go_wp2_with (go_at_call 4; refine (big_any _ _ _ _ _ _ _ hn' hm').mono ?_; rintro e w' ⟨rfl, rfl⟩)
    go_ret
    exact ⟨rfl, Below.refl _ _⟩
  obtain ⟨gg1, gg2⟩ := bg_no hg
  go_enter Tryz.func3, Tryz.ntmps3
  go_wp2_with (go_at_call 4; refine (big_any _ _ _ _ _ _ _ hn' hm').mono ?_; rintro e w' ⟨rfl, rfl⟩)
  refine (DrawRunsOf_any A' n' a' _ hx' (by omega)).mono ?_
  rintro e v1 ⟨⟨n, rfl⟩, hb1⟩
  replace ht := ht.on hb1
  replace hy' := hy'.on hb1
  replace HB := below_go HB HBs hb1
  clear hb1
  go_wp2_with fail
  refine (impl_RunsOf_any n _).mono ?_
  rintro e v2 ⟨Aa, ca, rfl, Oa, hb1⟩
  replace ht := ht.on hb1
  replace hy' := hy'.on hb1
  replace HB := below_go HB HBs hb1
  clear hb1
  go_wp2_with fail
  refine (spec_RunsOf_any n _).mono ?_
  rintro e v3 ⟨Ab, cb, rfl, Ob, hb1⟩
  replace ht := ht.on hb1
  replace hy' := hy'.on hb1
  replace Oa := Oa.on hb1
  replace HB := below_go HB HBs hb1
  clear hb1
  go_wp2_with fail
  refine (impl_CountRuns_any n _).mono ?_
  rintro e v4 ⟨rfl, hb1⟩
  replace ht := ht.on hb1
  replace hy' := hy'.on hb1
  replace Oa := Oa.on hb1
  replace Ob := Ob.on hb1
  replace HB := below_go HB HBs hb1
  clear hb1
  go_wp2_with fail
  refine (spec_CountRuns_any n _).mono ?_
  rintro e v5 ⟨rfl, hb1⟩
  replace ht := ht.on hb1
  replace hy' := hy'.on hb1
  replace Oa := Oa.on hb1
  replace Ob := Ob.on hb1
  replace HB := below_go HB HBs hb1
  clear hb1
  go_wp2_with fail
  refine (impl_LongestRun_any n _).mono ?_
  rintro e v6 ⟨rfl, hb1⟩
  replace ht := ht.on hb1
  replace hy' := hy'.on hb1
  replace Oa := Oa.on hb1
  replace Ob := Ob.on hb1
  replace HB := below_go HB HBs hb1
  clear hb1
  go_wp2_with fail
  have hb1 := below_on (w := v6) (.cells #[.int .i64 (loF n), .int .i64 (loK n)] 31)
  have K1 := box_at v6 (loF n) (loK n) 31
  replace ht := ht.on hb1
  replace hy' := hy'.on hb1
  replace Oa := Oa.on hb1
  replace Ob := Ob.on hb1
  replace HB := below_go HB HBs hb1
  generalize hw1 : v6.alloc (.cells #[.int .i64 (loF n), .int .i64 (loK n)] 31) = v7 at ht hy' Oa Ob K1 HB ⊢
  generalize hR1 : v6.heap.size = RK1 at K1 ⊢
  clear hb1 hw1 hR1
  refine (spec_LongestRun_any n _).mono ?_
  rintro e v8 ⟨rfl, hb1⟩
  replace K1 := K1.on hb1
  replace ht := ht.on hb1
  replace hy' := hy'.on hb1
  replace Oa := Oa.on hb1
  replace Ob := Ob.on hb1
  replace HB := below_go HB HBs hb1
  clear hb1
  go_wp2_with fail
  have hb1 := below_on (w := v8) (.cells #[.int .i64 (loF n), .int .i64 (loK n)] 31)
  have K2 := box_at v8 (loF n) (loK n) 31
  replace K1 := K1.on hb1
  replace ht := ht.on hb1
  replace hy' := hy'.on hb1
  replace Oa := Oa.on hb1
  replace Ob := Ob.on hb1
  replace HB := below_go HB HBs hb1
  generalize hw1 : v8.alloc (.cells #[.int .i64 (loF n), .int .i64 (loK n)] 31) = v9 at K1 ht hy' Oa Ob K2 HB ⊢
  generalize hR1 : v8.heap.size = RK2 at K2 ⊢
  clear hb1 hw1 hR1
  refine (impl_SignedRuns_any n _).mono ?_
  rintro e v10 ⟨Ad, cd, rfl, Od, hb1⟩
  replace K1 := K1.on hb1
  replace K2 := K2.on hb1
  replace ht := ht.on hb1
  replace hy' := hy'.on hb1
  replace Oa := Oa.on hb1
  replace Ob := Ob.on hb1
  replace HB := below_go HB HBs hb1
  clear hb1
  go_wp2_with fail
  refine (spec_SignedRuns_any n _).mono ?_
  rintro e v11 ⟨Ae, ce, rfl, Oe, hb1⟩
  replace K1 := K1.on hb1
  replace K2 := K2.on hb1
  replace ht := ht.on hb1
  replace hy' := hy'.on hb1
  replace Oa := Oa.on hb1
  replace Ob := Ob.on hb1
  replace Od := Od.on hb1
  replace HB := below_go HB HBs hb1
  clear hb1
  go_wp2_with fail
  refine (impl_TrianglesApart_any n _).mono ?_
  rintro e v12 ⟨Ar, cr, Afr, cfr, rfl, Or, hb1⟩
  replace K1 := K1.on hb1
  replace K2 := K2.on hb1
  replace ht := ht.on hb1
  replace hy' := hy'.on hb1
  replace Oa := Oa.on hb1
  replace Ob := Ob.on hb1
  replace Od := Od.on hb1
  replace Oe := Oe.on hb1
  replace HB := below_go HB HBs hb1
  clear hb1
  go_wp2_with fail
  refine (spec_TrianglesApart_any n _).mono ?_
  rintro e v13 ⟨As, cs, Afs, cfs, rfl, Os, hb1⟩
  replace K1 := K1.on hb1
  replace K2 := K2.on hb1
  replace ht := ht.on hb1
  replace hy' := hy'.on hb1
  replace Oa := Oa.on hb1
  replace Ob := Ob.on hb1
  replace Od := Od.on hb1
  replace Oe := Oe.on hb1
  replace Or := Or.on hb1
  replace HB := below_go HB HBs hb1
  clear hb1
  go_upto_region 14 with fail
  simp only [List.append]
  have hsm := ru_small n
  go_wp2_with fail
  refine (oRuns_b Aa Ab _ ca cb _ _ _ _ (ruL n) _ rfl (by omega) Oa Ob).mono ?_
  rintro e v14 ⟨rfl, hb1⟩
  replace K1 := K1.on hb1
  replace K2 := K2.on hb1
  replace ht := ht.on hb1
  replace hy' := hy'.on hb1
  replace Oa := Oa.on hb1
  replace Ob := Ob.on hb1
  replace Od := Od.on hb1
  replace Oe := Oe.on hb1
  replace Or := Or.on hb1
  replace Os := Os.on hb1
  replace HB := below_go HB HBs hb1
  clear hb1
  have K1_0 := K1.c0
  have K1_1 := K1.c1
  have K1_z := K1.z
  have K2_0 := K2.c0
  have K2_1 := K2.c1
  have K2_z := K2.z
  go_wp2_with fail
  refine (oRuns_b Ad Ae _ cd ce _ _ _ _ (sgL n) _ rfl (by omega) Od Oe).mono ?_
  rintro e v15 ⟨rfl, hb1⟩
  clear K1_0 K1_1 K1_z K2_0 K2_1 K2_z
  replace K1 := K1.on hb1
  replace K2 := K2.on hb1
  replace ht := ht.on hb1
  replace hy' := hy'.on hb1
  replace Oa := Oa.on hb1
  replace Ob := Ob.on hb1
  replace Od := Od.on hb1
  replace Oe := Oe.on hb1
  replace Or := Or.on hb1
  replace Os := Os.on hb1
  replace HB := below_go HB HBs hb1
  clear hb1
  go_wp2_with fail
  refine (oRows_b Ar As _ cr cs _ _ _ _ (rowsOf (trL n)) _ _ _ _ _ (by omega) (tr_pre n) Or Os).mono ?_
  rintro e v16 ⟨rfl, hb1⟩
  replace K1 := K1.on hb1
  replace K2 := K2.on hb1
  replace ht := ht.on hb1
  replace hy' := hy'.on hb1
  replace Oa := Oa.on hb1
  replace Ob := Ob.on hb1
  replace Od := Od.on hb1
  replace Oe := Oe.on hb1
  replace Or := Or.on hb1
  replace Os := Os.on hb1
  replace HB := below_go HB HBs hb1
  clear hb1
  clear Ob Oe Os K2
  go_upto_if 196 with fail
  refine wp_cut (MeetH [.inr 0, .inl (.slice B' m' c'), .inr 2, .inr 3, .inr 4, .inr 5, .inr 6, .inr 7, .inr 8, .inr 9, .inr 10, .inr 11, .inr 12, .inr 13, .inr 14, .inr 15, .inr 16, .inr 17, .inr 18, .inr 19, .inr 20, .inr 21, .inr 22, .inr 23, .inr 24, .inr 25, .inr 26, .inr 27, .inr 28, .inr 29, .inr 30, .inr 31, .inr 32, .inr 33, .inr 34, .inr 35, .inr 36, .inr 37, .inr 38, .inr 39, .inr 40, .inr 41, .inr 42, .inr 43, .inr 44, .inr 45, .inr 46, .inr 47, .inr 48, .inr 49, .inr 50, .inr 51, .inr 52, .inr 53, .inr 54, .inr 55, .inr 56, .inr 57, .inr 58, .inr 59, .inr 60, .inr 61, .inr 62, .inr 63, .inr 64, .inr 65, .inr 66, .inr 67, .inr 68, .inr 69, .inr 70, .inr 71, .inr 72, .inr 73, .inr 74, .inr 75, .inr 76, .inr 77, .inr 78, .inr 79, .inr 80, .inr 81, .inr 82, .inr 83, .inr 84, .inr 85, .inr 86, .inr 87, .inr 88, .inr 89, .inr 90, .inr 91, .inr 92, .inr 93, .inr 94, .inr 95, .inr 96, .inr 97, .inr 98, .inr 99, .inr 100, .inr 101, .inr 102, .inr 103, .inr 104, .inr 105, .inr 106, .inr 107, .inr 108, .inr 109, .inr 110, .inr 111, .inr 112, .inr 113, .inr 114, .inr 115, .inr 116, .inr 117, .inr 118, .inr 119, .inr 120, .inr 121, .inr 122, .inr 123, .inr 124, .inr 125, .inr 126, .inr 127, .inr 128, .inr 129, .inr 130, .inr 131, .inr 132, .inr 133, .inr 134, .inr 135, .inr 136, .inr 137, .inr 138, .inr 139, .inr 140, .inr 141, .inr 142, .inr 143, .inr 144, .inr 145, .inr 146, .inr 147, .inr 148, .inr 149, .inr 150, .inr 151, .inr 152, .inr 153, .inr 154, .inr 155, .inr 156, .inr 157, .inr 158, .inr 159, .inr 160, .inr 161, .inr 162, .inr 163, .inr 164, .inr 165, .inr 166, .inr 167, .inr 168, .inr 169, .inr 170, .inr 171, .inr 172, .inr 173, .inr 174, .inr 175, .inr 176, .inr 177, .inr 178, .inr 179, .inr 180, .inr 181, .inr 182, .inr 183, .inr 184, .inr 185, .inr 186, .inr 187, .inr 188, .inr 189, .inr 190, .inr 191, .inr 192, .inr 193, .inr 194, .inr 195, .inr 196, .inr 197, .inr 198, .inr 199, .inr 200, .inr 201, .inr 202, .inr 203, .inr 204, .inr 205, .inr 206, .inr 207, .inr 208, .inr 209, .inr 210, .inr 211, .inr 212, .inr 213, .inr 214, .inr 215, .inr 216, .inr 217, .inr 218, .inr 219, .inr 220, .inr 221, .inr 222, .inr 223, .inr 224, .inr 225, .inr 226, .inr 227, .inr 228, .inr 229, .inr 230, .inr 231, .inr 232, .inr 233, .inr 234, .inr 235, .inr 236, .inr 237, .inr 238, .inr 239, .inr 240, .inr 241, .inr 242, .inr 243, .inr 244, .inr 245, .inr 246, .inr 247, .inr 248, .inr 249, .inr 250, .inr 251, .inr 252, .inr 253, .inr 254, .inr 255, .inr 256, .inr 257, .inr 258, .inr 259, .inr 260, .inr 261, .inr 262, .inr 263, .inr 264, .inr 265, .inr 266, .inr 267, .inr 268, .inr 269, .inr 270, .inr 271, .inr 272, .inr 273, .inr 274, .inr 275, .inr 276, .inr 277, .inr 278, .inr 279, .inr 280, .inr 281, .inr 282, .inr 283, .inr 284, .inr 285, .inr 286, .inr 287, .inr 288, .inr 289, .inr 290, .inr 291, .inr 292, .inr 293, .inr 294, .inr 295, .inr 296, .inr 297, .inr 298, .inr 299, .inr 300, .inr 301, .inr 302, .inr 303, .inr 304, .inr 305, .inr 306, .inr 307, .inr 308, .inr 309, .inr 310, .inr 311, .inr 312, .inr 313, .inr 314, .inr 315, .inr 316, .inr 317, .inr 318, .inr 319, .inr 320, .inr 321, .inr 322, .inr 323, .inr 324, .inr 325, .inr 326, .inr 327, .inr 328, .inr 329, .inr 330, .inr 331, .inr 332, .inr 333, .inr 334, .inr 335, .inr 336, .inr 337, .inr 338, .inr 339, .inr 340, .inr 341, .inr 342, .inr 343, .inr 344, .inr 345, .inr 346, .inr 347, .inr 348, .inr 349, .inr 350, .inr 351, .inr 352, .inr 353, .inr 354, .inr 355, .inr 356, .inr 357, .inr 358, .inr 359, .inr 360, .inr 361, .inr 362, .inr 363, .inr 364, .inr 365, .inr 366, .inr 367, .inr 368, .inr 369, .inr 370, .inr 371, .inr 372, .inr 373, .inr 374, .inr 375, .inr 376, .inr 377, .inr 378, .inr 379, .inr 380, .inr 381, .inr 382, .inr 383, .inr 384, .inr 385, .inr 386, .inr 387, .inr 388, .inr 389, .inr 390, .inr 391, .inr 392, .inr 393, .inr 394, .inr 395, .inr 396, .inr 397, .inr 398, .inr 399, .inr 400, .inr 401, .inr 402, .inr 403, .inr 404, .inr 405, .inr 406, .inr 407, .inr 408, .inr 409, .inr 410, .inr 411, .inr 412, .inr 413, .inr 414, .inr 415, .inr 416, .inr 417, .inr 418, .inr 419, .inr 420, .inr 421, .inr 422, .inr 423, .inr 424, .inr 425, .inr 426, .inr 427, .inr 428, .inr 429, .inr 430, .inr 431, .inr 432, .inr 433, .inr 434, .inr 435, .inr 436, .inr 437, .inr 438, .inr 439, .inr 440, .inr 441, .inr 442, .inr 443, .inr 444, .inr 445, .inr 446, .inr 447, .inr 448, .inr 449, .inr 450, .inr 451, .inr 452, .inr 453, .inr 454, .inr 455, .inr 456, .inr 457, .inr 458, .inr 459, .inr 460, .inr 461, .inr 462, .inr 463, .inr 464, .inr 465, .inr 466, .inr 467, .inr 468, .inr 469, .inr 470, .inr 471, .inr 472, .inr 473, .inr 474, .inr 475, .inr 476, .inr 477, .inr 478, .inr 479, .inr 480, .inr 481, .inr 482, .inr 483, .inr 484, .inr 485, .inr 486, .inr 487, .inr 488, .inr 489, .inr 490, .inr 491, .inr 492, .inr 493, .inr 494, .inr 495, .inr 496, .inr 497, .inr 498, .inr 499, .inr 500, .inr 501, .inr 502, .inr 503, .inr 504, .inr 505, .inr 506, .inr 507, .inr 508, .inr 509, .inr 510, .inr 511, .inr 512, .inr 513, .inr 514, .inr 515, .inr 516, .inr 517, .inr 518, .inr 519, .inr 520, .inr 521, .inr 522, .inr 523, .inr 524, .inr 525, .inr 526, .inr 527, .inr 528, .inr 529, .inr 530, .inr 531, .inr 532, .inr 533, .inr 534, .inr 535, .inr 536, .inr 537, .inr 538, .inr 539, .inr 540, .inr 541, .inr 542, .inr 543, .inr 544, .inr 545, .inr 546, .inr 547, .inr 548, .inr 549, .inr 550, .inr 551, .inr 552, .inr 553, .inr 554, .inr 555, .inr 556, .inr 557, .inr 558, .inr 559, .inr 560, .inr 561, .inr 562, .inr 563, .inr 564, .inr 565, .inr 566, .inr 567, .inr 568, .inr 569, .inr 570, .inr 571, .inr 572, .inr 573, .inr 574, .inr 575, .inr 576, .inr 577, .inr 578, .inr 579, .inr 580, .inr 581, .inr 582, .inr 583, .inr 584, .inr 585, .inr 586, .inr 587, .inr 588, .inr 589, .inr 590, .inr 591, .inr 592, .inr 593, .inr 594, .inr 595, .inr 596, .inr 597] (fun wx => Below v16.heap.size v16 wx)) (MeetH.go _ (by rfl) ?_) ?_
  rotate_left
  · intro _ _ _ _
    as_aux_lemma =>
    clear HB HBs
    have HB : Below v16.heap.size v16 v16 := Below.refl _ _
    have HBs : v16.heap.size ≤ v16.heap.size := Nat.le_refl _
    rcases Bool.eq_false_or_eq_true (ruB n) with h | h
    · simp only [h]
      have q := ruE_of h
      obtain ⟨n0, n1⟩ := ru_iff.1 h
      have l1 := q.len
      have l2 := q.tri
      have l3 := q.few
      have l4 := q.ne
      have hf := q.first
      have hl := q.last
      clear q
      simp only [ruC]
      have LE := Lib.hid fun i hi => rnR_of h i hi
      have LS := Lib.hid fun i hi => sgR_of h i hi
      have LT := Lib.hid fun i hi => trR_of h i hi
      obtain ⟨g, o, rfl⟩ := own_some Oa (by rw [prs_len]; omega)
      obtain ⟨hg, a0, a1⟩ := own_pair Oa hf
      obtain ⟨_, a2, a3⟩ := own_pair Oa hl
      simp only [Nat.zero_mul, Nat.add_zero] at a0 a1
      obtain ⟨g2, o2, rfl⟩ := own_some Od (by rw [prs_len]; omega)
      obtain ⟨g3, o3, rfl, _⟩ := Or.own (by simp; omega)
      generalize hL : (ruL n).length = N at *
      generalize hM : (sgL n).length = M at *
      generalize hR : (trL n).length = R at *
      replace l2 := l2.symm
      subst l2
      have HL := Lib.hid hL
      have HM := Lib.hid hM
      have HR := Lib.hid hR
      clear hL hM hR hsm
      have w1 : IntKind.i64.wrap (2 * (N : Int)) = (M : Int) := by rw [IntWalk.i64_in _ (by omega)]; omega
      have hM0 : (0 : Int) < (M : Int) := by omega
      have hM1 : M ≤ 3000 := by omega
      clear l1
      have w2 : IntKind.i64.wrap ((N : Int) - 1) = ((N - 1 : Nat) : Int) := by rw [IntWalk.i64_in _ (by omega)]; omega
      have hj : ((N - 1 : Nat) : Int) < (N : Int) := by omega
      have hj0 : (0 : Int) ≤ ((N - 1 : Nat) : Int) := by omega
      have hN0 : (0 : Int) < (N : Int) := by omega
      clear hf hl
      have K1_0 := K1.c0
      have K1_1 := K1.c1
      have K1_z := K1.z
      generalize hJ : N - 1 = J at *
      have HJ := Lib.hid hJ
      have hJN : J < N := by omega
      clear hJ
      go_upto_region 17 with fail
      go_big_quiet (fail)
      clear a0 a1 a2 a3
      have hb1 := below_drewN (Below.refl v16.heap.size v16) nq
      clear K1_0 K1_1 K1_z
      replace K1 := K1.on hb1
      replace ht := ht.on hb1
      replace hy' := hy'.on hb1
      replace Oa := Oa.on hb1
      replace Od := Od.on hb1
      replace Or := Or.on hb1
      replace HB := below_go HB HBs hb1
      generalize v16.drewN nq = v17 at K1 ht hy' Oa Od Or HB ⊢
      clear hb1
      clear w1
      clear K1
      go_upto_block 0 with fail
      refine wp_cut (MeetH [.inr 0, .inl (.slice B' m' c'), .inr 2, .inr 3, .inr 4, .inl (.int .i64 (n)), .inr 6, .inr 7, .inr 8, .inr 9, .inr 10, .inr 11, .inr 12, .inr 13, .inr 14, .inr 15, .inr 16, .inr 17, .inl (.slice (some ⟨g2, o2, none⟩) M cd), .inr 19, .inr 20, .inr 21, .inl (.slice (some ⟨g3, o3, none⟩) N cr), .inr 23, .inr 24, .inr 25, .inr 26, .inr 27, .inr 28, .inr 29, .inr 30, .inr 31, .inr 32, .inr 33, .inr 34, .inr 35, .inr 36, .inr 37, .inr 38, .inr 39, .inr 40, .inr 41, .inr 42, .inr 43, .inr 44, .inr 45, .inr 46, .inr 47, .inr 48, .inr 49, .inr 50, .inr 51, .inr 52, .inr 53, .inr 54, .inr 55, .inr 56, .inr 57, .inr 58, .inr 59, .inr 60, .inr 61, .inr 62, .inr 63, .inr 64, .inr 65, .inr 66, .inr 67, .inr 68, .inr 69, .inr 70, .inr 71, .inr 72, .inr 73, .inr 74, .inr 75, .inr 76, .inr 77, .inr 78, .inr 79, .inr 80, .inr 81, .inr 82, .inr 83, .inr 84, .inr 85, .inr 86, .inr 87, .inr 88, .inr 89, .inr 90, .inr 91, .inr 92, .inr 93, .inr 94, .inr 95, .inr 96, .inr 97, .inr 98, .inr 99, .inr 100, .inr 101, .inr 102, .inr 103, .inr 104, .inr 105, .inr 106, .inr 107, .inr 108, .inr 109, .inr 110, .inr 111, .inr 112, .inr 113, .inr 114, .inr 115, .inr 116, .inr 117, .inr 118, .inr 119, .inr 120, .inr 121, .inr 122, .inr 123, .inr 124, .inr 125, .inr 126, .inr 127, .inr 128, .inr 129, .inr 130, .inr 131, .inr 132, .inr 133, .inr 134, .inr 135, .inr 136, .inr 137, .inr 138, .inr 139, .inr 140, .inr 141, .inr 142, .inr 143, .inr 144, .inr 145, .inr 146, .inr 147, .inr 148, .inr 149, .inr 150, .inr 151, .inr 152, .inr 153, .inr 154, .inr 155, .inr 156, .inr 157, .inr 158, .inr 159, .inr 160, .inr 161, .inr 162, .inr 163, .inr 164, .inr 165, .inr 166, .inr 167, .inr 168, .inr 169, .inr 170, .inr 171, .inr 172, .inr 173, .inr 174, .inr 175, .inr 176, .inr 177, .inr 178, .inr 179, .inr 180, .inr 181, .inr 182, .inr 183, .inr 184, .inr 185, .inr 186, .inr 187, .inr 188, .inr 189, .inr 190, .inr 191, .inr 192, .inr 193, .inr 194, .inr 195, .inr 196, .inr 197, .inr 198, .inr 199, .inr 200, .inr 201, .inr 202, .inr 203, .inr 204, .inr 205, .inr 206, .inr 207, .inr 208, .inr 209, .inr 210, .inr 211, .inr 212, .inr 213, .inr 214, .inr 215, .inr 216, .inr 217, .inr 218, .inr 219, .inr 220, .inr 221, .inr 222, .inr 223, .inr 224, .inr 225, .inr 226, .inr 227, .inr 228, .inr 229, .inr 230, .inr 231, .inr 232, .inr 233, .inr 234, .inr 235, .inr 236, .inr 237, .inr 238, .inr 239, .inr 240, .inr 241, .inr 242, .inr 243, .inr 244, .inr 245, .inr 246, .inr 247, .inr 248, .inr 249, .inr 250, .inr 251, .inr 252, .inr 253, .inr 254, .inr 255, .inr 256, .inr 257, .inr 258, .inr 259, .inr 260, .inr 261, .inr 262, .inr 263, .inr 264, .inr 265, .inr 266, .inr 267, .inr 268, .inr 269, .inr 270, .inr 271, .inr 272, .inr 273, .inr 274, .inr 275, .inr 276, .inr 277, .inr 278, .inr 279, .inr 280, .inr 281, .inr 282, .inr 283, .inr 284, .inr 285, .inr 286, .inr 287, .inr 288, .inr 289, .inr 290, .inr 291, .inr 292, .inr 293, .inr 294, .inr 295, .inr 296, .inr 297, .inr 298, .inr 299, .inr 300, .inr 301, .inr 302, .inr 303, .inr 304, .inr 305, .inr 306, .inr 307, .inr 308, .inr 309, .inr 310, .inr 311, .inr 312, .inr 313, .inr 314, .inr 315, .inr 316, .inr 317, .inr 318, .inr 319, .inr 320, .inr 321, .inr 322, .inr 323, .inr 324, .inr 325, .inr 326, .inr 327, .inr 328, .inr 329, .inr 330, .inr 331, .inr 332, .inr 333, .inr 334, .inr 335, .inr 336, .inr 337, .inr 338, .inr 339, .inr 340, .inr 341, .inr 342, .inr 343, .inr 344, .inr 345, .inr 346, .inr 347, .inr 348, .inr 349, .inr 350, .inr 351, .inr 352, .inr 353, .inr 354, .inr 355, .inr 356, .inr 357, .inr 358, .inr 359, .inr 360, .inr 361, .inr 362, .inr 363, .inr 364, .inr 365, .inr 366, .inr 367, .inr 368, .inr 369, .inr 370, .inr 371, .inr 372, .inr 373, .inr 374, .inr 375, .inr 376, .inr 377, .inr 378, .inr 379, .inr 380, .inr 381, .inr 382, .inr 383, .inr 384, .inr 385, .inr 386, .inr 387, .inr 388, .inr 389, .inr 390, .inr 391, .inr 392, .inr 393, .inr 394, .inr 395, .inr 396, .inr 397, .inr 398, .inr 399, .inr 400, .inr 401, .inr 402, .inr 403, .inr 404, .inr 405, .inr 406, .inr 407, .inr 408, .inr 409, .inr 410, .inr 411, .inr 412, .inr 413, .inr 414, .inr 415, .inr 416, .inr 417, .inr 418, .inr 419, .inr 420, .inr 421, .inr 422, .inr 423, .inr 424, .inr 425, .inr 426, .inr 427, .inr 428, .inr 429, .inr 430, .inr 431, .inr 432, .inr 433, .inr 434, .inr 435, .inr 436, .inr 437, .inr 438, .inr 439, .inr 440, .inr 441, .inr 442, .inr 443, .inr 444, .inr 445, .inr 446, .inr 447, .inr 448, .inr 449, .inr 450, .inr 451, .inr 452, .inr 453, .inr 454, .inr 455, .inr 456, .inr 457, .inr 458, .inr 459, .inr 460, .inr 461, .inr 462, .inr 463, .inr 464, .inr 465, .inr 466, .inr 467, .inr 468, .inr 469, .inr 470, .inr 471, .inr 472, .inr 473, .inr 474, .inr 475, .inr 476, .inr 477, .inr 478, .inr 479, .inr 480, .inr 481, .inr 482, .inr 483, .inr 484, .inr 485, .inr 486, .inr 487, .inr 488, .inr 489, .inr 490, .inr 491, .inr 492, .inr 493, .inr 494, .inr 495, .inr 496, .inr 497, .inr 498, .inr 499, .inr 500, .inr 501, .inr 502, .inr 503, .inr 504, .inr 505, .inr 506, .inr 507, .inr 508, .inr 509, .inr 510, .inr 511, .inr 512, .inr 513, .inr 514, .inr 515, .inr 516, .inr 517, .inr 518, .inr 519, .inr 520, .inr 521, .inr 522, .inr 523, .inr 524, .inr 525, .inr 526, .inr 527, .inr 528, .inr 529, .inr 530, .inr 531, .inr 532, .inr 533, .inr 534, .inr 535, .inr 536, .inr 537, .inr 538, .inr 539, .inr 540, .inr 541, .inr 542, .inr 543, .inr 544, .inr 545, .inr 546, .inr 547, .inr 548, .inr 549, .inr 550, .inr 551, .inr 552, .inr 553, .inr 554, .inr 555, .inr 556, .inr 557, .inr 558, .inr 559, .inr 560, .inr 561, .inr 562, .inr 563, .inr 564, .inr 565, .inr 566, .inr 567, .inr 568, .inr 569, .inr 570, .inr 571, .inr 572, .inr 573, .inr 574, .inr 575, .inr 576, .inr 577, .inr 578, .inr 579, .inr 580, .inr 581, .inr 582, .inr 583, .inr 584, .inr 585, .inr 586, .inr 587, .inr 588, .inr 589, .inr 590, .inr 591, .inr 592, .inr 593, .inr 594, .inr 595, .inr 596, .inr 597] (fun wx => Below v17.heap.size v17 wx)) (MeetH.go _ (by rfl) ?_) ?_
      rotate_left
      · intro _ _ _ _
        as_aux_lemma =>
        clear HB HBs
        have HB : Below v17.heap.size v17 v17 := Below.refl _ _
        have HBs : v17.heap.size ≤ v17.heap.size := Nat.le_refl _
        have HA := Lib.hid Oa
        have HT := Lib.hid Or
        clear Oa Od Or LS LT
        go_wp2_with fail
        go_loopw [233] (fun i wr => ∃ k : Nat, k ≤ N ∧ i = .int .i64 k ∧ Below v17.heap.size v17 wr) (fun i _ => N - (intOf i).toNat)
        case atStart => exact ⟨0, Nat.zero_le _, rfl, Below.refl _ _⟩
        case round =>
          obtain ⟨k0, hk0, rfl, HB⟩ := hrel
          rcases k0 with _ | j
          · simp only [Int.natCast_zero]
            obtain ⟨f, k, R⟩ := LE.out 0 (by omega)
            have Oa := HA.out.on HB
            have Or := HT.out.on HB
            obtain ⟨_, e0, e1⟩ := own_pair Oa R.row
            simp only [Nat.zero_mul, Nat.add_zero] at e0 e1
            go_upto_region 22 with fail
            clear e0 e1
            have hb1 := below_on (w := wr) (.cells #[.int .i64 (f), .int .i64 (k)] 31)
            have E := box_at wr (f) (k) 31
            replace Oa := Oa.on hb1
            replace Or := Or.on hb1
            replace HB := below_go HB HBs hb1
            generalize hw1 : wr.alloc (.cells #[.int .i64 (f), .int .i64 (k)] 31) = v18 at Oa Or E HB ⊢
            generalize hR1 : wr.heap.size = RE at E ⊢
            clear hb1 hw1 hR1
            have E_0 := E.c0
            have E_1 := E.c1
            have E_z := E.z
            go_wp2_with fail
            refine (impl_SumOfRun_any f k _).mono ?_
            rintro e v19 ⟨rfl, hb1⟩
            simp only [R.ok, R.sum]
            clear E_0 E_1 E_z
            replace E := E.on hb1
            replace Oa := Oa.on hb1
            replace Or := Or.on hb1
            replace HB := below_go HB HBs hb1
            clear hb1
            have b1 : decide (f < 1) = false := decide_eq_false (by have := R.f1; omega)
            have E_0 := E.c0
            have E_1 := E.c1
            have E_z := E.z
            go_upto_region 23 with fail
            go_big_quiet (fail)
            have hb1 := below_drewN (Below.refl v19.heap.size v19) nq
            clear E_0 E_1 E_z
            replace E := E.on hb1
            replace Oa := Oa.on hb1
            replace Or := Or.on hb1
            replace HB := below_go HB HBs hb1
            generalize v19.drewN nq = v20 at E Oa Or HB ⊢
            clear hb1
            have b3 := R.f1
            have b4 := R.f2
            have b5 := R.k1
            have b6 := R.k2
            have ht3 := R.tri
            rw [HL.out, HJ.out] at ht3
            have w3 : IntKind.i64.wrap (f - 1) = f - 1 := IntWalk.i64_in _ (by omega)
            have w4 : IntKind.i64.wrap (f + k - 1 - (f - 1)) = k := by rw [IntWalk.i64_in _ (by omega)]; omega
            clear R b1
            have w5 : IntKind.i64.wrap (J : Int) = (J : Int) := IntWalk.i64_in _ (by omega)
            have w5' : IntKind.i64.wrap ((J : Int) - 0) = (J : Int) := by rw [IntWalk.i64_in _ (by omega)]; omega
            rw [Nat.sub_zero] at ht3
            have hG : J < N := hJN
            have hGi : (J : Int) < (N : Int) := by omega
            have hG0 : (0 : Int) ≤ (J : Int) := by omega
            obtain ⟨g4, o4, hg4, c0, c1, c2⟩ := rows_at Or (Nat.le_refl _) hG (row_of ht3)
            generalize cfr J = ck at c0
            clear ht3
            have E_0 := E.c0
            have E_1 := E.c1
            have E_z := E.z
            go_upto_region 26 with fail
            go_big_quiet (fail)
            clear c0 c1 c2
            clear Oa Or
            have hb1 := below_drewN (Below.refl v20.heap.size v20) nq
            clear E_0 E_1 E_z
            replace E := E.on hb1
            replace HB := below_go HB HBs hb1
            generalize v20.drewN nq = v21 at E HB ⊢
            clear hb1
            go_wp2
            go_roundw
            case rel => exact ⟨0 + 1, by omega, by go_num, HB⟩
            case measure => simp [intOf]; omega
          · simp only [Int.natCast_add, Int.natCast_one]
            by_cases hlt : j + 1 < N
            · have hki : (j : Int) + 1 < (N : Int) := by omega
              have hz1 : (0 : Int) < (j : Int) + 1 := by omega
              have w9 : IntKind.i64.wrap ((j : Int) + 1 - 1) = (j : Int) := by rw [IntWalk.i64_in _ (by omega)]; omega
              have hj1 : (j : Int) < (N : Int) := by omega
              have hj2 : (0 : Int) ≤ (j : Int) := by omega
              obtain ⟨f, k, R⟩ := LE.out (j + 1) (by omega)
              have Oa := HA.out.on HB
              have Or := HT.out.on HB
              obtain ⟨_, e0, e1⟩ := own_pair Oa R.row
              go_upto_region 22 with fail
              clear e0 e1
              have hb1 := below_on (w := wr) (.cells #[.int .i64 (f), .int .i64 (k)] 31)
              have E := box_at wr (f) (k) 31
              replace Oa := Oa.on hb1
              replace Or := Or.on hb1
              replace HB := below_go HB HBs hb1
              generalize hw1 : wr.alloc (.cells #[.int .i64 (f), .int .i64 (k)] 31) = v22 at Oa Or E HB ⊢
              generalize hR1 : wr.heap.size = RE at E ⊢
              clear hb1 hw1 hR1
              have E_0 := E.c0
              have E_1 := E.c1
              have E_z := E.z
              go_wp2_with fail
              refine (impl_SumOfRun_any f k _).mono ?_
              rintro e v23 ⟨rfl, hb1⟩
              simp only [R.ok, R.sum]
              clear E_0 E_1 E_z
              replace E := E.on hb1
              replace Oa := Oa.on hb1
              replace Or := Or.on hb1
              replace HB := below_go HB HBs hb1
              clear hb1
              have b1 : decide (f < 1) = false := decide_eq_false (by have := R.f1; omega)
              obtain ⟨z, t, R2⟩ := LE.out j (by omega)
              have b2 : decide (k ≤ t) = false := decide_eq_false (by have := (R.before j z t rfl R2.row); omega)
              obtain ⟨_, _, d1⟩ := own_pair Oa R2.row
              clear R2
              have E_0 := E.c0
              have E_1 := E.c1
              have E_z := E.z
              go_upto_region 23 with fail
              go_big_quiet (fail)
              clear d1
              have hb1 := below_drewN (Below.refl v23.heap.size v23) nq
              clear E_0 E_1 E_z
              replace E := E.on hb1
              replace Oa := Oa.on hb1
              replace Or := Or.on hb1
              replace HB := below_go HB HBs hb1
              generalize v23.drewN nq = v24 at E Oa Or HB ⊢
              clear hb1
              have b3 := R.f1
              have b4 := R.f2
              have b5 := R.k1
              have b6 := R.k2
              have ht3 := R.tri
              rw [HL.out, HJ.out] at ht3
              have w3 : IntKind.i64.wrap (f - 1) = f - 1 := IntWalk.i64_in _ (by omega)
              have w4 : IntKind.i64.wrap (f + k - 1 - (f - 1)) = k := by rw [IntWalk.i64_in _ (by omega)]; omega
              clear R b1
              clear b2
              have hJ1 : N = J + 1 := by have := HJ.out; omega
              have w5 : IntKind.i64.wrap ((J : Int) - ((j : Int) + 1)) = ((J - (j + 1) : Nat) : Int) := by rw [IntWalk.i64_in _ (by omega)]; omega
              clear hJ1
              have hG : J - (j + 1) < N := by omega
              generalize J - (j + 1) = G at *
              have hGi : (G : Int) < (N : Int) := by omega
              have hG0 : (0 : Int) ≤ (G : Int) := by omega
              obtain ⟨g4, o4, hg4, c0, c1, c2⟩ := rows_at Or (Nat.le_refl _) hG (row_of ht3)
              generalize cfr G = ck at c0
              clear ht3
              have E_0 := E.c0
              have E_1 := E.c1
              have E_z := E.z
              go_upto_region 26 with fail
              go_big_quiet (fail)
              clear c0 c1 c2
              clear Oa Or
              have hb1 := below_drewN (Below.refl v24.heap.size v24) nq
              clear E_0 E_1 E_z
              replace E := E.on hb1
              replace HB := below_go HB HBs hb1
              generalize v24.drewN nq = v25 at E HB ⊢
              clear hb1
              go_wp2
              go_roundw
              case rel => exact ⟨(j + 1) + 1, by omega, by go_num, HB⟩
              case measure => simp [intOf]; omega
            · have hki : ¬ (j : Int) + 1 < (N : Int) := by omega
              go_wp2_with fail
              refine Met.intro ?_
              go_step
              refine MeetH.of ?_ ?_
              · exact HB
              repeat (first | refine Agr.skip ?_ | refine Agr.keep ?_ | exact Agr.nil)
      intro u26 v26 hb1
      replace ht := ht.on hb1
      replace hy' := hy'.on hb1
      replace Oa := Oa.on hb1
      replace Od := Od.on hb1
      replace Or := Or.on hb1
      replace HB := below_go HB HBs hb1
      clear hb1
      as_aux_lemma =>
      simp only [fillH]
      clear Oa
      clear LE w2 hj hj0 HJ hJN
      go_upto_block 2 with fail
      refine wp_cut (MeetH [.inr 0, .inl (.slice B' m' c'), .inr 2, .inr 3, .inr 4, .inr 5, .inr 6, .inr 7, .inr 8, .inr 9, .inr 10, .inr 11, .inr 12, .inr 13, .inr 14, .inr 15, .inr 16, .inr 17, .inr 18, .inr 19, .inr 20, .inr 21, .inl (.slice (some ⟨g3, o3, none⟩) N cr), .inr 23, .inr 24, .inr 25, .inr 26, .inr 27, .inr 28, .inr 29, .inr 30, .inr 31, .inr 32, .inr 33, .inr 34, .inr 35, .inr 36, .inr 37, .inr 38, .inr 39, .inr 40, .inr 41, .inr 42, .inr 43, .inr 44, .inr 45, .inr 46, .inr 47, .inr 48, .inr 49, .inr 50, .inr 51, .inr 52, .inr 53, .inr 54, .inr 55, .inr 56, .inr 57, .inr 58, .inr 59, .inr 60, .inr 61, .inr 62, .inr 63, .inr 64, .inr 65, .inr 66, .inr 67, .inr 68, .inr 69, .inr 70, .inr 71, .inr 72, .inr 73, .inr 74, .inr 75, .inr 76, .inr 77, .inr 78, .inr 79, .inr 80, .inr 81, .inr 82, .inr 83, .inr 84, .inr 85, .inr 86, .inr 87, .inr 88, .inr 89, .inr 90, .inr 91, .inr 92, .inr 93, .inr 94, .inr 95, .inr 96, .inr 97, .inr 98, .inr 99, .inr 100, .inr 101, .inr 102, .inr 103, .inr 104, .inr 105, .inr 106, .inr 107, .inr 108, .inr 109, .inr 110, .inr 111, .inr 112, .inr 113, .inr 114, .inr 115, .inr 116, .inr 117, .inr 118, .inr 119, .inr 120, .inr 121, .inr 122, .inr 123, .inr 124, .inr 125, .inr 126, .inr 127, .inr 128, .inr 129, .inr 130, .inr 131, .inr 132, .inr 133, .inr 134, .inr 135, .inr 136, .inr 137, .inr 138, .inr 139, .inr 140, .inr 141, .inr 142, .inr 143, .inr 144, .inr 145, .inr 146, .inr 147, .inr 148, .inr 149, .inr 150, .inr 151, .inr 152, .inr 153, .inr 154, .inr 155, .inr 156, .inr 157, .inr 158, .inr 159, .inr 160, .inr 161, .inr 162, .inr 163, .inr 164, .inr 165, .inr 166, .inr 167, .inr 168, .inr 169, .inr 170, .inr 171, .inr 172, .inr 173, .inr 174, .inr 175, .inr 176, .inr 177, .inr 178, .inr 179, .inr 180, .inr 181, .inr 182, .inr 183, .inr 184, .inr 185, .inr 186, .inr 187, .inr 188, .inr 189, .inr 190, .inr 191, .inr 192, .inr 193, .inr 194, .inr 195, .inr 196, .inr 197, .inr 198, .inr 199, .inr 200, .inr 201, .inr 202, .inr 203, .inr 204, .inr 205, .inr 206, .inr 207, .inr 208, .inr 209, .inr 210, .inr 211, .inr 212, .inr 213, .inr 214, .inr 215, .inr 216, .inr 217, .inr 218, .inr 219, .inr 220, .inr 221, .inr 222, .inr 223, .inr 224, .inr 225, .inr 226, .inr 227, .inr 228, .inr 229, .inr 230, .inr 231, .inr 232, .inr 233, .inr 234, .inr 235, .inr 236, .inr 237, .inr 238, .inr 239, .inr 240, .inr 241, .inr 242, .inr 243, .inr 244, .inr 245, .inr 246, .inr 247, .inr 248, .inr 249, .inr 250, .inr 251, .inr 252, .inr 253, .inr 254, .inr 255, .inr 256, .inr 257, .inr 258, .inr 259, .inr 260, .inr 261, .inr 262, .inr 263, .inr 264, .inr 265, .inr 266, .inr 267, .inr 268, .inr 269, .inr 270, .inr 271, .inr 272, .inr 273, .inr 274, .inr 275, .inr 276, .inr 277, .inr 278, .inr 279, .inr 280, .inr 281, .inr 282, .inr 283, .inr 284, .inr 285, .inr 286, .inr 287, .inr 288, .inr 289, .inr 290, .inr 291, .inr 292, .inr 293, .inr 294, .inr 295, .inr 296, .inr 297, .inr 298, .inr 299, .inr 300, .inr 301, .inr 302, .inr 303, .inr 304, .inr 305, .inr 306, .inr 307, .inr 308, .inr 309, .inr 310, .inr 311, .inr 312, .inr 313, .inr 314, .inr 315, .inr 316, .inr 317, .inr 318, .inr 319, .inr 320, .inr 321, .inr 322, .inr 323, .inr 324, .inr 325, .inr 326, .inr 327, .inr 328, .inr 329, .inr 330, .inr 331, .inr 332, .inr 333, .inr 334, .inr 335, .inr 336, .inr 337, .inr 338, .inr 339, .inr 340, .inr 341, .inr 342, .inr 343, .inr 344, .inr 345, .inr 346, .inr 347, .inr 348, .inr 349, .inr 350, .inr 351, .inr 352, .inr 353, .inr 354, .inr 355, .inr 356, .inr 357, .inr 358, .inr 359, .inr 360, .inr 361, .inr 362, .inr 363, .inr 364, .inr 365, .inr 366, .inr 367, .inr 368, .inr 369, .inr 370, .inr 371, .inr 372, .inr 373, .inr 374, .inr 375, .inr 376, .inr 377, .inr 378, .inr 379, .inr 380, .inr 381, .inr 382, .inr 383, .inr 384, .inr 385, .inr 386, .inr 387, .inr 388, .inr 389, .inr 390, .inr 391, .inr 392, .inr 393, .inr 394, .inr 395, .inr 396, .inr 397, .inr 398, .inr 399, .inr 400, .inr 401, .inr 402, .inr 403, .inr 404, .inr 405, .inr 406, .inr 407, .inr 408, .inr 409, .inr 410, .inr 411, .inr 412, .inr 413, .inr 414, .inr 415, .inr 416, .inr 417, .inr 418, .inr 419, .inr 420, .inr 421, .inr 422, .inr 423, .inr 424, .inr 425, .inr 426, .inr 427, .inr 428, .inr 429, .inr 430, .inr 431, .inr 432, .inr 433, .inr 434, .inr 435, .inr 436, .inr 437, .inr 438, .inr 439, .inr 440, .inr 441, .inr 442, .inr 443, .inr 444, .inr 445, .inr 446, .inr 447, .inr 448, .inr 449, .inr 450, .inr 451, .inr 452, .inr 453, .inr 454, .inr 455, .inr 456, .inr 457, .inr 458, .inr 459, .inr 460, .inr 461, .inr 462, .inr 463, .inr 464, .inr 465, .inr 466, .inr 467, .inr 468, .inr 469, .inr 470, .inr 471, .inr 472, .inr 473, .inr 474, .inr 475, .inr 476, .inr 477, .inr 478, .inr 479, .inr 480, .inr 481, .inr 482, .inr 483, .inr 484, .inr 485, .inr 486, .inr 487, .inr 488, .inr 489, .inr 490, .inr 491, .inr 492, .inr 493, .inr 494, .inr 495, .inr 496, .inr 497, .inr 498, .inr 499, .inr 500, .inr 501, .inr 502, .inr 503, .inr 504, .inr 505, .inr 506, .inr 507, .inr 508, .inr 509, .inr 510, .inr 511, .inr 512, .inr 513, .inr 514, .inr 515, .inr 516, .inr 517, .inr 518, .inr 519, .inr 520, .inr 521, .inr 522, .inr 523, .inr 524, .inr 525, .inr 526, .inr 527, .inr 528, .inr 529, .inr 530, .inr 531, .inr 532, .inr 533, .inr 534, .inr 535, .inr 536, .inr 537, .inr 538, .inr 539, .inr 540, .inr 541, .inr 542, .inr 543, .inr 544, .inr 545, .inr 546, .inr 547, .inr 548, .inr 549, .inr 550, .inr 551, .inr 552, .inr 553, .inr 554, .inr 555, .inr 556, .inr 557, .inr 558, .inr 559, .inr 560, .inr 561, .inr 562, .inr 563, .inr 564, .inr 565, .inr 566, .inr 567, .inr 568, .inr 569, .inr 570, .inr 571, .inr 572, .inr 573, .inr 574, .inr 575, .inr 576, .inr 577, .inr 578, .inr 579, .inr 580, .inr 581, .inr 582, .inr 583, .inr 584, .inr 585, .inr 586, .inr 587, .inr 588, .inr 589, .inr 590, .inr 591, .inr 592, .inr 593, .inr 594, .inr 595, .inr 596, .inr 597] (fun wx => Below v26.heap.size v26 wx)) (MeetH.go _ (by rfl) ?_) ?_
      rotate_left
      · intro _ _ _ _
        as_aux_lemma =>
        clear HB HBs
        have HB : Below v26.heap.size v26 v26 := Below.refl _ _
        have HBs : v26.heap.size ≤ v26.heap.size := Nat.le_refl _
        have HD := Lib.hid Od
        clear Od Or LT
        go_wp2_with fail
        go_loopw [304] (fun i wr => ∃ k : Nat, k ≤ M ∧ i = .int .i64 k ∧ Below v26.heap.size v26 wr) (fun i _ => M - (intOf i).toNat)
        case atStart => exact ⟨0, Nat.zero_le _, rfl, Below.refl _ _⟩
        case round =>
          obtain ⟨k0, hk0, rfl, HB⟩ := hrel
          rcases k0 with _ | j
          · simp only [Int.natCast_zero]
            obtain ⟨f, k, R⟩ := LS.out 0 (by omega)
            have Od := HD.out.on HB
            obtain ⟨_, e0, e1⟩ := own_pair Od R.row
            simp only [Nat.zero_mul, Nat.add_zero] at e0 e1
            go_upto_region 32 with fail
            clear e0 e1
            have hb1 := below_on (w := wr) (.cells #[.int .i64 (f), .int .i64 (k)] 31)
            have E := box_at wr (f) (k) 31
            replace Od := Od.on hb1
            replace HB := below_go HB HBs hb1
            generalize hw1 : wr.alloc (.cells #[.int .i64 (f), .int .i64 (k)] 31) = v27 at Od E HB ⊢
            generalize hR1 : wr.heap.size = RE at E ⊢
            clear hb1 hw1 hR1
            have hf : ¬ f < -1000000 := by have := R.f1; omega
            have hfd : decide (f < -1000000) = false := decide_eq_false hf
            by_cases hk6 : k ≤ 1000000
            · have hk7 : ¬ 1000000 < k := by omega
              have hk8 : decide (1000000 < k) = false := decide_eq_false hk7
              have E_0 := E.c0
              have E_1 := E.c1
              have E_z := E.z
              go_wp2_with fail
              refine (impl_SumOfRun_any f k _).mono ?_
              rintro e v28 ⟨rfl, hb1⟩
              simp only [R.ok hk6, R.sum hk6]
              clear E_0 E_1 E_z
              replace E := E.on hb1
              replace Od := Od.on hb1
              replace HB := below_go HB HBs hb1
              clear hb1
              have E_0 := E.c0
              have E_1 := E.c1
              have E_z := E.z
              go_upto_region 34 with fail
              go_big_quiet (fail)
              have hb1 := below_drewN (Below.refl v28.heap.size v28) nq
              clear E_0 E_1 E_z
              replace E := E.on hb1
              replace Od := Od.on hb1
              replace HB := below_go HB HBs hb1
              generalize v28.drewN nq = v29 at E Od HB ⊢
              clear hb1
              go_wp2
              go_roundw
              case rel => exact ⟨0 + 1, by omega, by go_num, HB⟩
              case measure => simp [intOf]; omega
            · have hk7 : 1000000 < k := by omega
              have hk8 : decide (1000000 < k) = true := decide_eq_true hk7
              have E_0 := E.c0
              have E_1 := E.c1
              have E_z := E.z
              go_wp2
              go_roundw
              case rel => exact ⟨0 + 1, by omega, by go_num, HB⟩
              case measure => simp [intOf]; omega
          · simp only [Int.natCast_add, Int.natCast_one]
            by_cases hlt : j + 1 < M
            · have hki : (j : Int) + 1 < (M : Int) := by omega
              have hz1 : (0 : Int) < (j : Int) + 1 := by omega
              have w9 : IntKind.i64.wrap ((j : Int) + 1 - 1) = (j : Int) := by rw [IntWalk.i64_in _ (by omega)]; omega
              have hj1 : (j : Int) < (M : Int) := by omega
              have hj2 : (0 : Int) ≤ (j : Int) := by omega
              obtain ⟨f, k, R⟩ := LS.out (j + 1) (by omega)
              have Od := HD.out.on HB
              obtain ⟨_, e0, e1⟩ := own_pair Od R.row
              go_upto_region 32 with fail
              clear e0 e1
              have hb1 := below_on (w := wr) (.cells #[.int .i64 (f), .int .i64 (k)] 31)
              have E := box_at wr (f) (k) 31
              replace Od := Od.on hb1
              replace HB := below_go HB HBs hb1
              generalize hw1 : wr.alloc (.cells #[.int .i64 (f), .int .i64 (k)] 31) = v30 at Od E HB ⊢
              generalize hR1 : wr.heap.size = RE at E ⊢
              clear hb1 hw1 hR1
              have hf : ¬ f < -1000000 := by have := R.f1; omega
              have hfd : decide (f < -1000000) = false := decide_eq_false hf
              by_cases hk6 : k ≤ 1000000
              · have hk7 : ¬ 1000000 < k := by omega
                have hk8 : decide (1000000 < k) = false := decide_eq_false hk7
                have E_0 := E.c0
                have E_1 := E.c1
                have E_z := E.z
                go_wp2_with fail
                refine (impl_SumOfRun_any f k _).mono ?_
                rintro e v31 ⟨rfl, hb1⟩
                simp only [R.ok hk6, R.sum hk6]
                clear E_0 E_1 E_z
                replace E := E.on hb1
                replace Od := Od.on hb1
                replace HB := below_go HB HBs hb1
                clear hb1
                obtain ⟨z, t, R2⟩ := LS.out j (by omega)
                have b2 : decide (k ≤ t) = false := decide_eq_false (by have := (R.before j z t rfl R2.row); omega)
                obtain ⟨_, _, d1⟩ := own_pair Od R2.row
                clear R2
                have E_0 := E.c0
                have E_1 := E.c1
                have E_z := E.z
                go_upto_region 34 with fail
                go_big_quiet (fail)
                clear d1
                have hb1 := below_drewN (Below.refl v31.heap.size v31) nq
                clear E_0 E_1 E_z
                replace E := E.on hb1
                replace Od := Od.on hb1
                replace HB := below_go HB HBs hb1
                generalize v31.drewN nq = v32 at E Od HB ⊢
                clear hb1
                go_wp2
                go_roundw
                case rel => exact ⟨(j + 1) + 1, by omega, by go_num, HB⟩
                case measure => simp [intOf]; omega
              · have hk7 : 1000000 < k := by omega
                have hk8 : decide (1000000 < k) = true := decide_eq_true hk7
                have E_0 := E.c0
                have E_1 := E.c1
                have E_z := E.z
                go_wp2
                go_roundw
                case rel => exact ⟨(j + 1) + 1, by omega, by go_num, HB⟩
                case measure => simp [intOf]; omega
            · have hki : ¬ (j : Int) + 1 < (M : Int) := by omega
              go_wp2_with fail
              refine Met.intro ?_
              go_step
              refine MeetH.of ?_ ?_
              · exact HB
              repeat (first | refine Agr.skip ?_ | refine Agr.keep ?_ | exact Agr.nil)
      intro u33 v33 hb1
      replace ht := ht.on hb1
      replace hy' := hy'.on hb1
      replace Od := Od.on hb1
      replace Or := Or.on hb1
      replace HB := below_go HB HBs hb1
      clear hb1
      as_aux_lemma =>
      simp only [fillH]
      clear Od
      clear LS HM hM0 hM1
      go_upto_block 4 with fail
      refine wp_cut (MeetH [.inr 0, .inl (.slice B' m' c'), .inr 2, .inr 3, .inr 4, .inr 5, .inr 6, .inr 7, .inr 8, .inr 9, .inr 10, .inr 11, .inr 12, .inr 13, .inr 14, .inr 15, .inr 16, .inr 17, .inr 18, .inr 19, .inr 20, .inr 21, .inr 22, .inr 23, .inr 24, .inr 25, .inr 26, .inr 27, .inr 28, .inr 29, .inr 30, .inr 31, .inr 32, .inr 33, .inr 34, .inr 35, .inr 36, .inr 37, .inr 38, .inr 39, .inr 40, .inr 41, .inr 42, .inr 43, .inr 44, .inr 45, .inr 46, .inr 47, .inr 48, .inr 49, .inr 50, .inr 51, .inr 52, .inr 53, .inr 54, .inr 55, .inr 56, .inr 57, .inr 58, .inr 59, .inr 60, .inr 61, .inr 62, .inr 63, .inr 64, .inr 65, .inr 66, .inr 67, .inr 68, .inr 69, .inr 70, .inr 71, .inr 72, .inr 73, .inr 74, .inr 75, .inr 76, .inr 77, .inr 78, .inr 79, .inr 80, .inr 81, .inr 82, .inr 83, .inr 84, .inr 85, .inr 86, .inr 87, .inr 88, .inr 89, .inr 90, .inr 91, .inr 92, .inr 93, .inr 94, .inr 95, .inr 96, .inr 97, .inr 98, .inr 99, .inr 100, .inr 101, .inr 102, .inr 103, .inr 104, .inr 105, .inr 106, .inr 107, .inr 108, .inr 109, .inr 110, .inr 111, .inr 112, .inr 113, .inr 114, .inr 115, .inr 116, .inr 117, .inr 118, .inr 119, .inr 120, .inr 121, .inr 122, .inr 123, .inr 124, .inr 125, .inr 126, .inr 127, .inr 128, .inr 129, .inr 130, .inr 131, .inr 132, .inr 133, .inr 134, .inr 135, .inr 136, .inr 137, .inr 138, .inr 139, .inr 140, .inr 141, .inr 142, .inr 143, .inr 144, .inr 145, .inr 146, .inr 147, .inr 148, .inr 149, .inr 150, .inr 151, .inr 152, .inr 153, .inr 154, .inr 155, .inr 156, .inr 157, .inr 158, .inr 159, .inr 160, .inr 161, .inr 162, .inr 163, .inr 164, .inr 165, .inr 166, .inr 167, .inr 168, .inr 169, .inr 170, .inr 171, .inr 172, .inr 173, .inr 174, .inr 175, .inr 176, .inr 177, .inr 178, .inr 179, .inr 180, .inr 181, .inr 182, .inr 183, .inr 184, .inr 185, .inr 186, .inr 187, .inr 188, .inr 189, .inr 190, .inr 191, .inr 192, .inr 193, .inr 194, .inr 195, .inr 196, .inr 197, .inr 198, .inr 199, .inr 200, .inr 201, .inr 202, .inr 203, .inr 204, .inr 205, .inr 206, .inr 207, .inr 208, .inr 209, .inr 210, .inr 211, .inr 212, .inr 213, .inr 214, .inr 215, .inr 216, .inr 217, .inr 218, .inr 219, .inr 220, .inr 221, .inr 222, .inr 223, .inr 224, .inr 225, .inr 226, .inr 227, .inr 228, .inr 229, .inr 230, .inr 231, .inr 232, .inr 233, .inr 234, .inr 235, .inr 236, .inr 237, .inr 238, .inr 239, .inr 240, .inr 241, .inr 242, .inr 243, .inr 244, .inr 245, .inr 246, .inr 247, .inr 248, .inr 249, .inr 250, .inr 251, .inr 252, .inr 253, .inr 254, .inr 255, .inr 256, .inr 257, .inr 258, .inr 259, .inr 260, .inr 261, .inr 262, .inr 263, .inr 264, .inr 265, .inr 266, .inr 267, .inr 268, .inr 269, .inr 270, .inr 271, .inr 272, .inr 273, .inr 274, .inr 275, .inr 276, .inr 277, .inr 278, .inr 279, .inr 280, .inr 281, .inr 282, .inr 283, .inr 284, .inr 285, .inr 286, .inr 287, .inr 288, .inr 289, .inr 290, .inr 291, .inr 292, .inr 293, .inr 294, .inr 295, .inr 296, .inr 297, .inr 298, .inr 299, .inr 300, .inr 301, .inr 302, .inr 303, .inr 304, .inr 305, .inr 306, .inr 307, .inr 308, .inr 309, .inr 310, .inr 311, .inr 312, .inr 313, .inr 314, .inr 315, .inr 316, .inr 317, .inr 318, .inr 319, .inr 320, .inr 321, .inr 322, .inr 323, .inr 324, .inr 325, .inr 326, .inr 327, .inr 328, .inr 329, .inr 330, .inr 331, .inr 332, .inr 333, .inr 334, .inr 335, .inr 336, .inr 337, .inr 338, .inr 339, .inr 340, .inr 341, .inr 342, .inr 343, .inr 344, .inr 345, .inr 346, .inr 347, .inr 348, .inr 349, .inr 350, .inr 351, .inr 352, .inr 353, .inr 354, .inr 355, .inr 356, .inr 357, .inr 358, .inr 359, .inr 360, .inr 361, .inr 362, .inr 363, .inr 364, .inr 365, .inr 366, .inr 367, .inr 368, .inr 369, .inr 370, .inr 371, .inr 372, .inr 373, .inr 374, .inr 375, .inr 376, .inr 377, .inr 378, .inr 379, .inr 380, .inr 381, .inr 382, .inr 383, .inr 384, .inr 385, .inr 386, .inr 387, .inr 388, .inr 389, .inr 390, .inr 391, .inr 392, .inr 393, .inr 394, .inr 395, .inr 396, .inr 397, .inr 398, .inr 399, .inr 400, .inr 401, .inr 402, .inr 403, .inr 404, .inr 405, .inr 406, .inr 407, .inr 408, .inr 409, .inr 410, .inr 411, .inr 412, .inr 413, .inr 414, .inr 415, .inr 416, .inr 417, .inr 418, .inr 419, .inr 420, .inr 421, .inr 422, .inr 423, .inr 424, .inr 425, .inr 426, .inr 427, .inr 428, .inr 429, .inr 430, .inr 431, .inr 432, .inr 433, .inr 434, .inr 435, .inr 436, .inr 437, .inr 438, .inr 439, .inr 440, .inr 441, .inr 442, .inr 443, .inr 444, .inr 445, .inr 446, .inr 447, .inr 448, .inr 449, .inr 450, .inr 451, .inr 452, .inr 453, .inr 454, .inr 455, .inr 456, .inr 457, .inr 458, .inr 459, .inr 460, .inr 461, .inr 462, .inr 463, .inr 464, .inr 465, .inr 466, .inr 467, .inr 468, .inr 469, .inr 470, .inr 471, .inr 472, .inr 473, .inr 474, .inr 475, .inr 476, .inr 477, .inr 478, .inr 479, .inr 480, .inr 481, .inr 482, .inr 483, .inr 484, .inr 485, .inr 486, .inr 487, .inr 488, .inr 489, .inr 490, .inr 491, .inr 492, .inr 493, .inr 494, .inr 495, .inr 496, .inr 497, .inr 498, .inr 499, .inr 500, .inr 501, .inr 502, .inr 503, .inr 504, .inr 505, .inr 506, .inr 507, .inr 508, .inr 509, .inr 510, .inr 511, .inr 512, .inr 513, .inr 514, .inr 515, .inr 516, .inr 517, .inr 518, .inr 519, .inr 520, .inr 521, .inr 522, .inr 523, .inr 524, .inr 525, .inr 526, .inr 527, .inr 528, .inr 529, .inr 530, .inr 531, .inr 532, .inr 533, .inr 534, .inr 535, .inr 536, .inr 537, .inr 538, .inr 539, .inr 540, .inr 541, .inr 542, .inr 543, .inr 544, .inr 545, .inr 546, .inr 547, .inr 548, .inr 549, .inr 550, .inr 551, .inr 552, .inr 553, .inr 554, .inr 555, .inr 556, .inr 557, .inr 558, .inr 559, .inr 560, .inr 561, .inr 562, .inr 563, .inr 564, .inr 565, .inr 566, .inr 567, .inr 568, .inr 569, .inr 570, .inr 571, .inr 572, .inr 573, .inr 574, .inr 575, .inr 576, .inr 577, .inr 578, .inr 579, .inr 580, .inr 581, .inr 582, .inr 583, .inr 584, .inr 585, .inr 586, .inr 587, .inr 588, .inr 589, .inr 590, .inr 591, .inr 592, .inr 593, .inr 594, .inr 595, .inr 596, .inr 597] (fun wx => Below v33.heap.size v33 wx)) (MeetH.go _ (by rfl) ?_) ?_
      rotate_left
      · intro _ _ _ _
        as_aux_lemma =>
        clear HB HBs
        have HB : Below v33.heap.size v33 v33 := Below.refl _ _
        have HBs : v33.heap.size ≤ v33.heap.size := Nat.le_refl _
        have HT := Lib.hid Or
        clear Or
        go_wp2_with fail
        go_loopw [347] (fun i wr => ∃ k : Nat, k ≤ N ∧ i = .int .i64 k ∧ Below v33.heap.size v33 wr) (fun i _ => N - (intOf i).toNat)
        case atStart => exact ⟨0, Nat.zero_le _, rfl, Below.refl _ _⟩
        case round =>
          obtain ⟨k0, hk0, rfl, HB⟩ := hrel
          rcases k0 with _ | j
          · simp only [Int.natCast_zero]
            obtain ⟨x, y, R⟩ := LT.out 0 (by omega)
            have Or := HT.out.on HB
            obtain ⟨g4, o4, hg4, c0, c1, c2⟩ := rows_at Or (Nat.le_refl _) (k := 0) (by omega) (row_of R.row)
            simp only [Nat.add_zero] at c0
            generalize cfr 0 = ck at c0
            have b1 : decide (y < 0) = false := decide_eq_false (by have := R.y0; omega)
            clear R Or
            go_upto_region 40 with fail
            go_big_quiet (fail)
            clear c0 c1 c2
            have hb1 := below_drewN (Below.refl wr.heap.size wr) nq
            replace HB := below_go HB HBs hb1
            generalize wr.drewN nq = v34 at  HB ⊢
            clear hb1
            go_wp2
            go_roundw
            case rel => exact ⟨0 + 1, by omega, by go_num, HB⟩
            case measure => simp [intOf]; omega
          · simp only [Int.natCast_add, Int.natCast_one]
            by_cases hlt : j + 1 < N
            · have hki : (j : Int) + 1 < (N : Int) := by omega
              have hz1 : (0 : Int) < (j : Int) + 1 := by omega
              have w9 : IntKind.i64.wrap ((j : Int) + 1 - 1) = (j : Int) := by rw [IntWalk.i64_in _ (by omega)]; omega
              have hj1 : (j : Int) < (N : Int) := by omega
              have hj2 : (0 : Int) ≤ (j : Int) := by omega
              obtain ⟨x, y, R⟩ := LT.out (j + 1) (by omega)
              have Or := HT.out.on HB
              obtain ⟨g4, o4, hg4, c0, c1, c2⟩ := rows_at Or (Nat.le_refl _) (k := (j + 1)) (by omega) (row_of R.row)
              generalize cfr (j + 1) = ck at c0
              have b1 : decide (y < 0) = false := decide_eq_false (by have := R.y0; omega)
              obtain ⟨z, t, R2⟩ := LT.out j (by omega)
              have b2 : decide (x ≤ z) = false := decide_eq_false (by have := (R.before j z t rfl R2.row); omega)
              obtain ⟨g5, o5, hg5, d0, d1, _⟩ := rows_at Or (Nat.le_refl _) (k := j) (by omega) (row_of R2.row)
              generalize cfr j = cj at d0
              clear R2
              clear R Or
              go_upto_region 40 with fail
              go_big_quiet (fail)
              clear c0 c1 c2 d0 d1
              have hb1 := below_drewN (Below.refl wr.heap.size wr) nq
              replace HB := below_go HB HBs hb1
              generalize wr.drewN nq = v35 at  HB ⊢
              clear hb1
              go_wp2
              go_roundw
              case rel => exact ⟨(j + 1) + 1, by omega, by go_num, HB⟩
              case measure => simp [intOf]; omega
            · have hki : ¬ (j : Int) + 1 < (N : Int) := by omega
              go_wp2_with fail
              refine Met.intro ?_
              go_step
              refine MeetH.of ?_ ?_
              · exact HB
              repeat (first | refine Agr.skip ?_ | refine Agr.keep ?_ | exact Agr.nil)
      intro u36 v36 hb1
      replace ht := ht.on hb1
      replace hy' := hy'.on hb1
      replace Or := Or.on hb1
      replace HB := below_go HB HBs hb1
      clear hb1
      as_aux_lemma =>
      simp only [fillH]
      clear Or
      go_wp2_with fail
      refine Met.intro ?_
      go_step
      refine MeetH.of ?_ ?_
      · exact HB
      repeat (first | refine Agr.skip ?_ | refine Agr.keep ?_ | exact Agr.nil)
    · simp only [h]
      go_wp2_with fail
      refine Met.intro ?_
      go_step
      refine MeetH.of ?_ ?_
      · exact HB
      repeat (first | refine Agr.skip ?_ | refine Agr.keep ?_ | exact Agr.nil)
  intro u37 v37 hb1
  replace K1 := K1.on hb1
  replace ht := ht.on hb1
  replace hy' := hy'.on hb1
  replace Oa := Oa.on hb1
  replace Od := Od.on hb1
  replace Or := Or.on hb1
  replace HB := below_go HB HBs hb1
  clear hb1
  as_aux_lemma =>
  simp only [fillH]
  clear Oa Od Or
  clear hsm
  go_wp2_with fail
  refine (DrawNoRunUpTo_any B' m' c' _ hy' (by omega)).mono ?_
  rintro e v38 ⟨⟨m, rfl⟩, hb1⟩
  replace K1 := K1.on hb1
  replace ht := ht.on hb1
  replace hy' := hy'.on hb1
  replace HB := below_go HB HBs hb1
  clear hb1
  go_wp2_with fail
  refine (impl_NoRunUpTo_any m _ ht.one ht.lt).mono ?_
  rintro e v39 ⟨Ap, cp, rfl, Op, hb1⟩
  replace K1 := K1.on hb1
  replace ht := ht.on hb1
  replace hy' := hy'.on hb1
  replace HB := below_go HB HBs hb1
  clear hb1
  go_wp2_with fail
  refine (spec_NoRunUpTo_any m _).mono ?_
  rintro e v40 ⟨Aq, cq, rfl, Oq, hb1⟩
  replace K1 := K1.on hb1
  replace ht := ht.on hb1
  replace hy' := hy'.on hb1
  replace Op := Op.on hb1
  replace HB := below_go HB HBs hb1
  clear hb1
  go_wp2_with fail
  refine (DrawSumOfRun_any B' m' c' _ hy' (by omega)).mono ?_
  rintro e v41 ⟨⟨rf, rl, rfl⟩, hb1⟩
  replace K1 := K1.on hb1
  replace ht := ht.on hb1
  replace hy' := hy'.on hb1
  replace Op := Op.on hb1
  replace Oq := Oq.on hb1
  replace HB := below_go HB HBs hb1
  clear hb1
  go_wp2_with fail
  have hb1 := below_on (w := v41) (.cells #[.int .i64 (rf), .int .i64 (rl)] 31)
  have B1 := box_at v41 (rf) (rl) 31
  replace K1 := K1.on hb1
  replace ht := ht.on hb1
  replace hy' := hy'.on hb1
  replace Op := Op.on hb1
  replace Oq := Oq.on hb1
  replace HB := below_go HB HBs hb1
  generalize hw1 : v41.alloc (.cells #[.int .i64 (rf), .int .i64 (rl)] 31) = v42 at K1 ht hy' Op Oq B1 HB ⊢
  generalize hR1 : v41.heap.size = RB1 at B1 ⊢
  clear hb1 hw1 hR1
  refine (impl_SumOfRun_any rf rl _).mono ?_
  rintro e v43 ⟨rfl, hb1⟩
  replace K1 := K1.on hb1
  replace B1 := B1.on hb1
  replace ht := ht.on hb1
  replace hy' := hy'.on hb1
  replace Op := Op.on hb1
  replace Oq := Oq.on hb1
  replace HB := below_go HB HBs hb1
  clear hb1
  have B1_0 := B1.c0
  have B1_1 := B1.c1
  have B1_z := B1.z
  go_wp2_with fail
  refine (spec_SumOfRun_any rf rl _).mono ?_
  rintro e v44 ⟨rfl, hb1⟩
  clear B1_0 B1_1 B1_z
  replace K1 := K1.on hb1
  replace B1 := B1.on hb1
  replace ht := ht.on hb1
  replace hy' := hy'.on hb1
  replace Op := Op.on hb1
  replace Oq := Oq.on hb1
  replace HB := below_go HB HBs hb1
  clear hb1
  go_wp2_with fail
  refine (DrawSumOfSquaresRun_any B' m' c' _ hy' (by omega)).mono ?_
  rintro e v45 ⟨⟨sf, sl, rfl⟩, hb1⟩
  replace K1 := K1.on hb1
  replace B1 := B1.on hb1
  replace ht := ht.on hb1
  replace hy' := hy'.on hb1
  replace Op := Op.on hb1
  replace Oq := Oq.on hb1
  replace HB := below_go HB HBs hb1
  clear hb1
  go_wp2_with fail
  have hb1 := below_on (w := v45) (.cells #[.int .i64 (sf), .int .i64 (sl)] 31)
  have B2 := box_at v45 (sf) (sl) 31
  replace K1 := K1.on hb1
  replace B1 := B1.on hb1
  replace ht := ht.on hb1
  replace hy' := hy'.on hb1
  replace Op := Op.on hb1
  replace Oq := Oq.on hb1
  replace HB := below_go HB HBs hb1
  generalize hw1 : v45.alloc (.cells #[.int .i64 (sf), .int .i64 (sl)] 31) = v46 at K1 B1 ht hy' Op Oq B2 HB ⊢
  generalize hR1 : v45.heap.size = RB2 at B2 ⊢
  clear hb1 hw1 hR1
  refine (impl_SumOfSquaresRun_any sf sl _).mono ?_
  rintro e v47 ⟨rfl, hb1⟩
  replace K1 := K1.on hb1
  replace B1 := B1.on hb1
  replace B2 := B2.on hb1
  replace ht := ht.on hb1
  replace hy' := hy'.on hb1
  replace Op := Op.on hb1
  replace Oq := Oq.on hb1
  replace HB := below_go HB HBs hb1
  clear hb1
  have B2_0 := B2.c0
  have B2_1 := B2.c1
  have B2_z := B2.z
  go_wp2_with fail
  refine (spec_SumOfSquaresRun_any sf sl _).mono ?_
  rintro e v48 ⟨rfl, hb1⟩
  clear B2_0 B2_1 B2_z
  replace K1 := K1.on hb1
  replace B1 := B1.on hb1
  replace B2 := B2.on hb1
  replace ht := ht.on hb1
  replace hy' := hy'.on hb1
  replace Op := Op.on hb1
  replace Oq := Oq.on hb1
  replace HB := below_go HB HBs hb1
  clear hb1
  go_wp2_with fail
  refine (DrawSameSums_any B' m' c' _ hy' (by omega)).mono ?_
  rintro e v49 ⟨⟨len, rfl⟩, hb1⟩
  replace K1 := K1.on hb1
  replace B1 := B1.on hb1
  replace B2 := B2.on hb1
  replace ht := ht.on hb1
  replace hy' := hy'.on hb1
  replace Op := Op.on hb1
  replace Oq := Oq.on hb1
  replace HB := below_go HB HBs hb1
  clear hb1
  clear hy'
  go_wp2_with fail
  refine (impl_SameSums_any len _).mono ?_
  rintro e v50 ⟨rfl, hb1⟩
  replace K1 := K1.on hb1
  replace B1 := B1.on hb1
  replace B2 := B2.on hb1
  replace ht := ht.on hb1
  replace Op := Op.on hb1
  replace Oq := Oq.on hb1
  replace HB := below_go HB HBs hb1
  clear hb1
  go_wp2_with fail
  have hb1 := below_on (w := v50) (.cells #[.int .i64 (saA len), .int .i64 (saK len)] 31)
  have K3 := box_at v50 (saA len) (saK len) 31
  replace K1 := K1.on hb1
  replace B1 := B1.on hb1
  replace B2 := B2.on hb1
  replace ht := ht.on hb1
  replace Op := Op.on hb1
  replace Oq := Oq.on hb1
  replace HB := below_go HB HBs hb1
  generalize hw1 : v50.alloc (.cells #[.int .i64 (saA len), .int .i64 (saK len)] 31) = v51 at K1 B1 B2 ht Op Oq K3 HB ⊢
  have hs0 : v51.heap.size = v50.heap.size + 1 := by rw [← hw1]; simp
  clear hb1 hw1
  have hb1 := below_on (w := v51) (.cells #[.int .i64 (saD len), .int .i64 (saL len)] 31)
  have K4 := box_at v51 (saD len) (saL len) 31
  replace K1 := K1.on hb1
  replace B1 := B1.on hb1
  replace B2 := B2.on hb1
  replace K3 := K3.on hb1
  replace ht := ht.on hb1
  replace Op := Op.on hb1
  replace Oq := Oq.on hb1
  replace HB := below_go HB HBs hb1
  generalize hw1 : v51.alloc (.cells #[.int .i64 (saD len), .int .i64 (saL len)] 31) = v52 at K1 B1 B2 K3 ht Op Oq K4 HB ⊢
  have hs1 : v52.heap.size = v51.heap.size + 1 := by rw [← hw1]; simp
  clear hb1 hw1
  simp only [← hs0]
  generalize hR0 : v50.heap.size = RK3 at K3 ⊢
  generalize hR1 : v51.heap.size = RK4 at K4 ⊢
  clear hs0 hs1 hR0 hR1
  refine (spec_SameSums_any len _).mono ?_
  rintro e v53 ⟨rfl, hb1⟩
  replace K1 := K1.on hb1
  replace B1 := B1.on hb1
  replace B2 := B2.on hb1
  replace K3 := K3.on hb1
  replace K4 := K4.on hb1
  replace ht := ht.on hb1
  replace Op := Op.on hb1
  replace Oq := Oq.on hb1
  replace HB := below_go HB HBs hb1
  clear hb1
  go_upto_region 55 with fail
  have hb1 := below_on (w := v53) (.cells #[.int .i64 (saA len), .int .i64 (saK len)] 31)
  have K5 := box_at v53 (saA len) (saK len) 31
  replace K1 := K1.on hb1
  replace B1 := B1.on hb1
  replace B2 := B2.on hb1
  replace K3 := K3.on hb1
  replace K4 := K4.on hb1
  replace ht := ht.on hb1
  replace Op := Op.on hb1
  replace Oq := Oq.on hb1
  replace HB := below_go HB HBs hb1
  generalize hw1 : v53.alloc (.cells #[.int .i64 (saA len), .int .i64 (saK len)] 31) = v54 at K1 B1 B2 K3 K4 ht Op Oq K5 HB ⊢
  have hs0 : v54.heap.size = v53.heap.size + 1 := by rw [← hw1]; simp
  clear hb1 hw1
  have hb1 := below_on (w := v54) (.cells #[.int .i64 (saD len), .int .i64 (saL len)] 31)
  have K6 := box_at v54 (saD len) (saL len) 31
  replace K1 := K1.on hb1
  replace B1 := B1.on hb1
  replace B2 := B2.on hb1
  replace K3 := K3.on hb1
  replace K4 := K4.on hb1
  replace K5 := K5.on hb1
  replace ht := ht.on hb1
  replace Op := Op.on hb1
  replace Oq := Oq.on hb1
  replace HB := below_go HB HBs hb1
  generalize hw1 : v54.alloc (.cells #[.int .i64 (saD len), .int .i64 (saL len)] 31) = v55 at K1 B1 B2 K3 K4 K5 ht Op Oq K6 HB ⊢
  have hs1 : v55.heap.size = v54.heap.size + 1 := by rw [← hw1]; simp
  clear hb1 hw1
  simp only [← hs0]
  generalize hR0 : v53.heap.size = RK5 at K5 ⊢
  generalize hR1 : v54.heap.size = RK6 at K6 ⊢
  clear hs0 hs1 hR0 hR1
  have hno := no_small m
  go_wp2_with fail
  refine (oSame_b Ap Aq _ cp cq _ _ _ _ (noL m) _ rfl (by omega) Op Oq).mono ?_
  rintro e v56 ⟨rfl, hb1⟩
  replace K1 := K1.on hb1
  replace B1 := B1.on hb1
  replace B2 := B2.on hb1
  replace K3 := K3.on hb1
  replace K4 := K4.on hb1
  replace K5 := K5.on hb1
  replace K6 := K6.on hb1
  replace ht := ht.on hb1
  replace Op := Op.on hb1
  replace Oq := Oq.on hb1
  replace HB := below_go HB HBs hb1
  clear hb1
  have K3_0 := K3.c0
  have K3_1 := K3.c1
  have K3_z := K3.z
  have K4_0 := K4.c0
  have K4_1 := K4.c1
  have K4_z := K4.z
  have K5_0 := K5.c0
  have K5_1 := K5.c1
  have K5_z := K5.z
  have K6_0 := K6.c0
  have K6_1 := K6.c1
  have K6_z := K6.z
  go_upto_block 6 with fail
  clear K3_0 K3_1 K3_z K4_0 K4_1 K4_z K5_0 K5_1 K5_z K6_0 K6_1 K6_z
  clear Oq K5 K6
  refine wp_cut (MeetH [.inr 0, .inr 1, .inr 2, .inr 3, .inr 4, .inr 5, .inr 6, .inr 7, .inr 8, .inr 9, .inr 10, .inr 11, .inr 12, .inr 13, .inr 14, .inr 15, .inr 16, .inr 17, .inr 18, .inr 19, .inr 20, .inr 21, .inr 22, .inr 23, .inr 24, .inr 25, .inr 26, .inr 27, .inr 28, .inr 29, .inr 30, .inr 31, .inr 32, .inr 33, .inr 34, .inr 35, .inr 36, .inr 37, .inr 38, .inr 39, .inr 40, .inr 41, .inr 42, .inr 43, .inr 44, .inr 45, .inr 46, .inl (.pointer (some ⟨RB2, 0, none⟩)), .inl (.int .i64 (qrV sf sl)), .inl (.bool (qrB sf sl)), .inr 50, .inr 51, .inl (.int .i64 (len)), .inl (.pointer (some ⟨RK3, 0, none⟩)), .inl (.pointer (some ⟨RK4, 0, none⟩)), .inl (.bool (saB len)), .inr 56, .inr 57, .inr 58, .inr 59, .inr 60, .inr 61, .inr 62, .inr 63, .inr 64, .inr 65, .inr 66, .inr 67, .inr 68, .inr 69, .inr 70, .inr 71, .inr 72, .inr 73, .inr 74, .inr 75, .inr 76, .inr 77, .inr 78, .inr 79, .inr 80, .inr 81, .inr 82, .inr 83, .inr 84, .inr 85, .inr 86, .inr 87, .inr 88, .inr 89, .inr 90, .inr 91, .inr 92, .inr 93, .inr 94, .inr 95, .inr 96, .inr 97, .inr 98, .inr 99, .inr 100, .inr 101, .inr 102, .inr 103, .inr 104, .inr 105, .inr 106, .inr 107, .inr 108, .inr 109, .inr 110, .inr 111, .inr 112, .inr 113, .inr 114, .inr 115, .inr 116, .inr 117, .inr 118, .inr 119, .inr 120, .inr 121, .inr 122, .inr 123, .inr 124, .inr 125, .inr 126, .inr 127, .inr 128, .inr 129, .inr 130, .inr 131, .inr 132, .inr 133, .inr 134, .inr 135, .inr 136, .inr 137, .inr 138, .inr 139, .inr 140, .inr 141, .inr 142, .inr 143, .inr 144, .inr 145, .inr 146, .inr 147, .inr 148, .inr 149, .inr 150, .inr 151, .inr 152, .inr 153, .inr 154, .inr 155, .inr 156, .inr 157, .inr 158, .inr 159, .inr 160, .inr 161, .inr 162, .inr 163, .inr 164, .inr 165, .inr 166, .inr 167, .inr 168, .inr 169, .inr 170, .inr 171, .inr 172, .inr 173, .inr 174, .inr 175, .inr 176, .inr 177, .inr 178, .inr 179, .inr 180, .inr 181, .inr 182, .inr 183, .inr 184, .inr 185, .inr 186, .inr 187, .inr 188, .inr 189, .inr 190, .inr 191, .inr 192, .inr 193, .inr 194, .inr 195, .inr 196, .inr 197, .inr 198, .inr 199, .inr 200, .inr 201, .inr 202, .inr 203, .inr 204, .inr 205, .inr 206, .inr 207, .inr 208, .inr 209, .inr 210, .inr 211, .inr 212, .inr 213, .inr 214, .inr 215, .inr 216, .inr 217, .inr 218, .inr 219, .inr 220, .inr 221, .inr 222, .inr 223, .inr 224, .inr 225, .inr 226, .inr 227, .inr 228, .inr 229, .inr 230, .inr 231, .inr 232, .inr 233, .inr 234, .inr 235, .inr 236, .inr 237, .inr 238, .inr 239, .inr 240, .inr 241, .inr 242, .inr 243, .inr 244, .inr 245, .inr 246, .inr 247, .inr 248, .inr 249, .inr 250, .inr 251, .inr 252, .inr 253, .inr 254, .inr 255, .inr 256, .inr 257, .inr 258, .inr 259, .inr 260, .inr 261, .inr 262, .inr 263, .inr 264, .inr 265, .inr 266, .inr 267, .inr 268, .inr 269, .inr 270, .inr 271, .inr 272, .inr 273, .inr 274, .inr 275, .inr 276, .inr 277, .inr 278, .inr 279, .inr 280, .inr 281, .inr 282, .inr 283, .inr 284, .inr 285, .inr 286, .inr 287, .inr 288, .inr 289, .inr 290, .inr 291, .inr 292, .inr 293, .inr 294, .inr 295, .inr 296, .inr 297, .inr 298, .inr 299, .inr 300, .inr 301, .inr 302, .inr 303, .inr 304, .inr 305, .inr 306, .inr 307, .inr 308, .inr 309, .inr 310, .inr 311, .inr 312, .inr 313, .inr 314, .inr 315, .inr 316, .inr 317, .inr 318, .inr 319, .inr 320, .inr 321, .inr 322, .inr 323, .inr 324, .inr 325, .inr 326, .inr 327, .inr 328, .inr 329, .inr 330, .inr 331, .inr 332, .inr 333, .inr 334, .inr 335, .inr 336, .inr 337, .inr 338, .inr 339, .inr 340, .inr 341, .inr 342, .inr 343, .inr 344, .inr 345, .inr 346, .inr 347, .inr 348, .inr 349, .inr 350, .inr 351, .inr 352, .inr 353, .inr 354, .inr 355, .inr 356, .inr 357, .inr 358, .inr 359, .inr 360, .inr 361, .inr 362, .inr 363, .inr 364, .inr 365, .inr 366, .inr 367, .inr 368, .inr 369, .inr 370, .inr 371, .inr 372, .inr 373, .inr 374, .inr 375, .inr 376, .inr 377, .inr 378, .inr 379, .inr 380, .inr 381, .inr 382, .inr 383, .inr 384, .inr 385, .inr 386, .inr 387, .inr 388, .inr 389, .inr 390, .inr 391, .inr 392, .inr 393, .inr 394, .inr 395, .inr 396, .inr 397, .inr 398, .inr 399, .inr 400, .inr 401, .inr 402, .inr 403, .inr 404, .inr 405, .inr 406, .inr 407, .inr 408, .inr 409, .inr 410, .inr 411, .inr 412, .inr 413, .inr 414, .inr 415, .inr 416, .inr 417, .inr 418, .inr 419, .inr 420, .inr 421, .inr 422, .inr 423, .inr 424, .inr 425, .inr 426, .inr 427, .inr 428, .inr 429, .inr 430, .inr 431, .inr 432, .inr 433, .inr 434, .inr 435, .inr 436, .inr 437, .inr 438, .inr 439, .inr 440, .inr 441, .inr 442, .inr 443, .inr 444, .inr 445, .inr 446, .inr 447, .inr 448, .inr 449, .inr 450, .inr 451, .inr 452, .inr 453, .inr 454, .inr 455, .inr 456, .inr 457, .inr 458, .inr 459, .inr 460, .inr 461, .inr 462, .inr 463, .inr 464, .inr 465, .inr 466, .inr 467, .inr 468, .inr 469, .inr 470, .inr 471, .inr 472, .inr 473, .inr 474, .inr 475, .inr 476, .inr 477, .inr 478, .inr 479, .inr 480, .inr 481, .inr 482, .inr 483, .inr 484, .inr 485, .inr 486, .inr 487, .inr 488, .inr 489, .inr 490, .inr 491, .inr 492, .inr 493, .inr 494, .inr 495, .inr 496, .inr 497, .inr 498, .inr 499, .inr 500, .inr 501, .inr 502, .inr 503, .inr 504, .inr 505, .inr 506, .inr 507, .inr 508, .inr 509, .inr 510, .inr 511, .inr 512, .inr 513, .inr 514, .inr 515, .inr 516, .inr 517, .inr 518, .inr 519, .inr 520, .inr 521, .inr 522, .inr 523, .inr 524, .inr 525, .inr 526, .inr 527, .inr 528, .inr 529, .inr 530, .inr 531, .inr 532, .inr 533, .inr 534, .inr 535, .inr 536, .inr 537, .inr 538, .inr 539, .inr 540, .inr 541, .inr 542, .inr 543, .inr 544, .inr 545, .inr 546, .inr 547, .inr 548, .inr 549, .inr 550, .inr 551, .inr 552, .inr 553, .inr 554, .inr 555, .inr 556, .inr 557, .inr 558, .inr 559, .inr 560, .inr 561, .inr 562, .inr 563, .inr 564, .inr 565, .inr 566, .inr 567, .inr 568, .inr 569, .inr 570, .inr 571, .inr 572, .inr 573, .inr 574, .inr 575, .inr 576, .inr 577, .inr 578, .inr 579, .inr 580, .inr 581, .inr 582, .inr 583, .inr 584, .inr 585, .inr 586, .inr 587, .inr 588, .inr 589, .inr 590, .inr 591, .inr 592, .inr 593, .inr 594, .inr 595, .inr 596, .inr 597] (fun wx => Below v56.heap.size v56 wx)) (MeetH.go _ (by rfl) ?_) ?_
  rotate_left
  · intro _ _ _ _
    as_aux_lemma =>
    clear HB HBs
    have HB : Below v56.heap.size v56 v56 := Below.refl _ _
    have HBs : v56.heap.size ≤ v56.heap.size := Nat.le_refl _
    have LN := Lib.hid fun i hi => noR_of m i hi
    have HP := Lib.hid Op
    clear Op
    generalize hL : (noL m).length = N at *
    have HN := Lib.hid hL
    clear hL
    go_wp2_with fail
    go_loopw [470] (fun i wr => ∃ k : Nat, k ≤ N ∧ i = .int .i64 k ∧ Below v56.heap.size v56 wr) (fun i _ => N - (intOf i).toNat)
    case atStart => exact ⟨0, Nat.zero_le _, rfl, Below.refl _ _⟩
    case round =>
      obtain ⟨k0, hk0, rfl, HB⟩ := hrel
      rcases k0 with _ | j
      · simp only [Int.natCast_zero]
        rcases Nat.lt_or_ge 0 N with hN9 | hN9
        rotate_left
        · have hN : ¬ (0 : Int) < (N : Int) := by omega
          go_wp2_with fail
          refine Met.intro ?_
          go_step
          refine MeetH.of ?_ ?_
          · exact HB
          repeat (first | refine Agr.skip ?_ | refine Agr.keep ?_ | exact Agr.nil)
        have hN : (0 : Int) < (N : Int) := by omega
        obtain ⟨x, R⟩ := LN.out 0 (by omega)
        obtain ⟨g, o, rfl⟩ := own_some HP.out (by simp only [i64s, List.length_map]; rw [HN.out]; omega)
        have e0 := own_one (HP.out.on HB) R.row
        simp only [Nat.add_zero] at e0
        obtain rfl : x = 1 := R.first rfl
        go_wp2_with fail
        refine (impl_CountRuns_any 1 _).mono ?_
        rintro e v57 ⟨rfl, hb1⟩
        simp only [R.ok, R.one]
        replace HB := below_go HB HBs hb1
        clear hb1
        clear e0
        clear R
        go_wp2
        go_roundw
        case rel => exact ⟨0 + 1, by omega, by go_num, HB⟩
        case measure => simp [intOf]; omega
      · simp only [Int.natCast_add, Int.natCast_one]
        by_cases hlt : j + 1 < N
        · have hki : (j : Int) + 1 < (N : Int) := by omega
          have hz1 : (0 : Int) < (j : Int) + 1 := by omega
          have w9 : IntKind.i64.wrap ((j : Int) + 1 - 1) = (j : Int) := by rw [IntWalk.i64_in _ (by omega)]; omega
          have hj1 : (j : Int) < (N : Int) := by omega
          have hj2 : (0 : Int) ≤ (j : Int) := by omega
          obtain ⟨x, R⟩ := LN.out (j + 1) (by omega)
          obtain ⟨g, o, rfl⟩ := own_some HP.out (by simp only [i64s, List.length_map]; rw [HN.out]; omega)
          have e0 := own_one (HP.out.on HB) R.row
          go_wp2_with fail
          refine (impl_CountRuns_any x _).mono ?_
          rintro e v58 ⟨rfl, hb1⟩
          simp only [R.ok, R.one]
          replace HB := below_go HB HBs hb1
          clear hb1
          clear e0
          obtain ⟨z, R2⟩ := LN.out j (by omega)
          have e1 := own_one (HP.out.on HB) R2.row
          have b1 := R.before j z rfl R2.row
          have b2 := R.x2
          have b3 := R2.x1
          have w5 : IntKind.i64.wrap (2 * z) = x := by rw [IntWalk.i64_in _ (by omega)]; omega
          have hz2 : ¬ ((j : Int) + 1 = 0) := by omega
          have hz3 : decide ((j : Int) + 1 = 0) = false := decide_eq_false hz2
          clear b1 b2 b3 R2
          clear R
          go_wp2
          go_roundw
          case rel => exact ⟨(j + 1) + 1, by omega, by go_num, HB⟩
          case measure => simp [intOf]; omega
        · have hki : ¬ (j : Int) + 1 < (N : Int) := by omega
          go_wp2_with fail
          refine Met.intro ?_
          go_step
          refine MeetH.of ?_ ?_
          · exact HB
          repeat (first | refine Agr.skip ?_ | refine Agr.keep ?_ | exact Agr.nil)
  intro u59 v59 hb1
  replace K1 := K1.on hb1
  replace B1 := B1.on hb1
  replace B2 := B2.on hb1
  replace K3 := K3.on hb1
  replace K4 := K4.on hb1
  replace ht := ht.on hb1
  replace Op := Op.on hb1
  replace HB := below_go HB HBs hb1
  clear hb1
  as_aux_lemma =>
  simp only [fillH]
  clear Op
  clear hno
  go_upto_region 64 with fail
  obtain ⟨tb, htb⟩ : ∃ tb, tb = (qrB sf sl && decide (0 < sl)) := ⟨_, rfl⟩
  have HTB := Lib.hid htb
  clear htb
  refine wp_cut (MeetH [.inr 0, .inr 1, .inr 2, .inr 3, .inr 4, .inr 5, .inr 6, .inr 7, .inr 8, .inr 9, .inr 10, .inr 11, .inr 12, .inr 13, .inr 14, .inr 15, .inr 16, .inr 17, .inr 18, .inr 19, .inr 20, .inr 21, .inr 22, .inr 23, .inr 24, .inr 25, .inr 26, .inr 27, .inr 28, .inr 29, .inr 30, .inr 31, .inr 32, .inr 33, .inr 34, .inr 35, .inr 36, .inr 37, .inr 38, .inr 39, .inr 40, .inr 41, .inr 42, .inr 43, .inr 44, .inr 45, .inr 46, .inl (.pointer (some ⟨RB2, 0, none⟩)), .inl (.int .i64 (qrV sf sl)), .inr 49, .inr 50, .inr 51, .inl (.int .i64 (len)), .inl (.pointer (some ⟨RK3, 0, none⟩)), .inl (.pointer (some ⟨RK4, 0, none⟩)), .inl (.bool (saB len)), .inr 56, .inr 57, .inr 58, .inr 59, .inr 60, .inr 61, .inr 62, .inr 63, .inr 64, .inr 65, .inr 66, .inr 67, .inr 68, .inr 69, .inr 70, .inr 71, .inr 72, .inr 73, .inr 74, .inr 75, .inr 76, .inr 77, .inr 78, .inr 79, .inr 80, .inr 81, .inr 82, .inr 83, .inr 84, .inr 85, .inr 86, .inr 87, .inr 88, .inr 89, .inr 90, .inr 91, .inr 92, .inr 93, .inr 94, .inr 95, .inr 96, .inr 97, .inr 98, .inr 99, .inr 100, .inr 101, .inr 102, .inr 103, .inr 104, .inr 105, .inr 106, .inr 107, .inr 108, .inr 109, .inr 110, .inr 111, .inr 112, .inr 113, .inr 114, .inr 115, .inr 116, .inr 117, .inr 118, .inr 119, .inr 120, .inr 121, .inr 122, .inr 123, .inr 124, .inr 125, .inr 126, .inr 127, .inr 128, .inr 129, .inr 130, .inr 131, .inr 132, .inr 133, .inr 134, .inr 135, .inr 136, .inr 137, .inr 138, .inr 139, .inr 140, .inr 141, .inr 142, .inr 143, .inr 144, .inr 145, .inr 146, .inr 147, .inr 148, .inr 149, .inr 150, .inr 151, .inr 152, .inr 153, .inr 154, .inr 155, .inr 156, .inr 157, .inr 158, .inr 159, .inr 160, .inr 161, .inr 162, .inr 163, .inr 164, .inr 165, .inr 166, .inr 167, .inr 168, .inr 169, .inr 170, .inr 171, .inr 172, .inr 173, .inr 174, .inr 175, .inr 176, .inr 177, .inr 178, .inr 179, .inr 180, .inr 181, .inr 182, .inr 183, .inr 184, .inr 185, .inr 186, .inr 187, .inr 188, .inr 189, .inr 190, .inr 191, .inr 192, .inr 193, .inr 194, .inr 195, .inr 196, .inr 197, .inr 198, .inr 199, .inr 200, .inr 201, .inr 202, .inr 203, .inr 204, .inr 205, .inr 206, .inr 207, .inr 208, .inr 209, .inr 210, .inr 211, .inr 212, .inr 213, .inr 214, .inr 215, .inr 216, .inr 217, .inr 218, .inr 219, .inr 220, .inr 221, .inr 222, .inr 223, .inr 224, .inr 225, .inr 226, .inr 227, .inr 228, .inr 229, .inr 230, .inr 231, .inr 232, .inr 233, .inr 234, .inr 235, .inr 236, .inr 237, .inr 238, .inr 239, .inr 240, .inr 241, .inr 242, .inr 243, .inr 244, .inr 245, .inr 246, .inr 247, .inr 248, .inr 249, .inr 250, .inr 251, .inr 252, .inr 253, .inr 254, .inr 255, .inr 256, .inr 257, .inr 258, .inr 259, .inr 260, .inr 261, .inr 262, .inr 263, .inr 264, .inr 265, .inr 266, .inr 267, .inr 268, .inr 269, .inr 270, .inr 271, .inr 272, .inr 273, .inr 274, .inr 275, .inr 276, .inr 277, .inr 278, .inr 279, .inr 280, .inr 281, .inr 282, .inr 283, .inr 284, .inr 285, .inr 286, .inr 287, .inr 288, .inr 289, .inr 290, .inr 291, .inr 292, .inr 293, .inr 294, .inr 295, .inr 296, .inr 297, .inr 298, .inr 299, .inr 300, .inr 301, .inr 302, .inr 303, .inr 304, .inr 305, .inr 306, .inr 307, .inr 308, .inr 309, .inr 310, .inr 311, .inr 312, .inr 313, .inr 314, .inr 315, .inr 316, .inr 317, .inr 318, .inr 319, .inr 320, .inr 321, .inr 322, .inr 323, .inr 324, .inr 325, .inr 326, .inr 327, .inr 328, .inr 329, .inr 330, .inr 331, .inr 332, .inr 333, .inr 334, .inr 335, .inr 336, .inr 337, .inr 338, .inr 339, .inr 340, .inr 341, .inr 342, .inr 343, .inr 344, .inr 345, .inr 346, .inr 347, .inr 348, .inr 349, .inr 350, .inr 351, .inr 352, .inr 353, .inr 354, .inr 355, .inr 356, .inr 357, .inr 358, .inr 359, .inr 360, .inr 361, .inr 362, .inr 363, .inr 364, .inr 365, .inr 366, .inr 367, .inr 368, .inr 369, .inr 370, .inr 371, .inr 372, .inr 373, .inr 374, .inr 375, .inr 376, .inr 377, .inr 378, .inr 379, .inr 380, .inr 381, .inr 382, .inr 383, .inr 384, .inr 385, .inr 386, .inr 387, .inr 388, .inr 389, .inr 390, .inr 391, .inr 392, .inr 393, .inr 394, .inr 395, .inr 396, .inr 397, .inr 398, .inr 399, .inr 400, .inr 401, .inr 402, .inr 403, .inr 404, .inr 405, .inr 406, .inr 407, .inr 408, .inr 409, .inr 410, .inr 411, .inr 412, .inr 413, .inr 414, .inr 415, .inr 416, .inr 417, .inr 418, .inr 419, .inr 420, .inr 421, .inr 422, .inr 423, .inr 424, .inr 425, .inr 426, .inr 427, .inr 428, .inr 429, .inr 430, .inr 431, .inr 432, .inr 433, .inr 434, .inr 435, .inr 436, .inr 437, .inr 438, .inr 439, .inr 440, .inr 441, .inr 442, .inr 443, .inr 444, .inr 445, .inr 446, .inr 447, .inr 448, .inr 449, .inr 450, .inr 451, .inr 452, .inr 453, .inr 454, .inr 455, .inr 456, .inr 457, .inr 458, .inr 459, .inr 460, .inr 461, .inr 462, .inr 463, .inr 464, .inr 465, .inr 466, .inr 467, .inr 468, .inr 469, .inr 470, .inr 471, .inr 472, .inr 473, .inr 474, .inr 475, .inr 476, .inr 477, .inr 478, .inr 479, .inr 480, .inr 481, .inr 482, .inr 483, .inr 484, .inr 485, .inr 486, .inr 487, .inr 488, .inr 489, .inr 490, .inr 491, .inr 492, .inr 493, .inr 494, .inr 495, .inr 496, .inr 497, .inr 498, .inr 499, .inr 500, .inr 501, .inr 502, .inr 503, .inr 504, .inr 505, .inr 506, .inr 507, .inr 508, .inr 509, .inr 510, .inr 511, .inr 512, .inr 513, .inl (.bool (tb)), .inr 515, .inr 516, .inr 517, .inr 518, .inr 519, .inr 520, .inr 521, .inr 522, .inr 523, .inr 524, .inr 525, .inr 526, .inr 527, .inr 528, .inr 529, .inr 530, .inr 531, .inr 532, .inr 533, .inr 534, .inr 535, .inr 536, .inr 537, .inr 538, .inr 539, .inr 540, .inr 541, .inr 542, .inr 543, .inr 544, .inr 545, .inr 546, .inr 547, .inr 548, .inr 549, .inr 550, .inr 551, .inr 552, .inr 553, .inr 554, .inr 555, .inr 556, .inr 557, .inr 558, .inr 559, .inr 560, .inr 561, .inr 562, .inr 563, .inr 564, .inr 565, .inr 566, .inr 567, .inr 568, .inr 569, .inr 570, .inr 571, .inr 572, .inr 573, .inr 574, .inr 575, .inr 576, .inr 577, .inr 578, .inr 579, .inr 580, .inr 581, .inr 582, .inr 583, .inr 584, .inr 585, .inr 586, .inr 587, .inr 588, .inr 589, .inr 590, .inr 591, .inr 592, .inr 593, .inr 594, .inr 595, .inr 596, .inr 597] (fun wx => Below v59.heap.size v59 wx)) (MeetH.go _ (by rfl) ?_) ?_
  rotate_left
  · intro _ _ _ _
    as_aux_lemma =>
    clear HB HBs
    have HB : Below v59.heap.size v59 v59 := Below.refl _ _
    have HBs : v59.heap.size ≤ v59.heap.size := Nat.le_refl _
    have B2_0 := B2.c0
    have B2_1 := B2.c1
    have B2_z := B2.z
    rcases Bool.eq_false_or_eq_true (qrB sf sl) with h | h
    · obtain rfl : tb = decide (0 < sl) := by rw [HTB.out, h, Bool.true_and]
      simp only [h]
      go_wp2_with fail
      refine Met.intro ?_
      go_step
      refine MeetH.of ?_ ?_
      · exact HB
      repeat (first | refine Agr.skip ?_ | refine Agr.keep ?_ | exact Agr.nil)
    · obtain rfl : tb = false := by rw [HTB.out, h, Bool.false_and]
      simp only [h]
      go_wp2_with fail
      refine Met.intro ?_
      go_step
      refine MeetH.of ?_ ?_
      · exact HB
      repeat (first | refine Agr.skip ?_ | refine Agr.keep ?_ | exact Agr.nil)
  intro u60 v60 hb1
  replace K1 := K1.on hb1
  replace B1 := B1.on hb1
  replace B2 := B2.on hb1
  replace K3 := K3.on hb1
  replace K4 := K4.on hb1
  replace ht := ht.on hb1
  replace HB := below_go HB HBs hb1
  clear hb1
  as_aux_lemma =>
  simp only [fillH]
  go_upto_if 514 with fail
  refine wp_cut (MeetH [.inr 0, .inr 1, .inr 2, .inr 3, .inr 4, .inr 5, .inr 6, .inr 7, .inr 8, .inr 9, .inr 10, .inr 11, .inr 12, .inr 13, .inr 14, .inr 15, .inr 16, .inr 17, .inr 18, .inr 19, .inr 20, .inr 21, .inr 22, .inr 23, .inr 24, .inr 25, .inr 26, .inr 27, .inr 28, .inr 29, .inr 30, .inr 31, .inr 32, .inr 33, .inr 34, .inr 35, .inr 36, .inr 37, .inr 38, .inr 39, .inr 40, .inr 41, .inr 42, .inr 43, .inr 44, .inr 45, .inr 46, .inr 47, .inr 48, .inr 49, .inr 50, .inr 51, .inl (.int .i64 (len)), .inl (.pointer (some ⟨RK3, 0, none⟩)), .inl (.pointer (some ⟨RK4, 0, none⟩)), .inl (.bool (saB len)), .inr 56, .inr 57, .inr 58, .inr 59, .inr 60, .inr 61, .inr 62, .inr 63, .inr 64, .inr 65, .inr 66, .inr 67, .inr 68, .inr 69, .inr 70, .inr 71, .inr 72, .inr 73, .inr 74, .inr 75, .inr 76, .inr 77, .inr 78, .inr 79, .inr 80, .inr 81, .inr 82, .inr 83, .inr 84, .inr 85, .inr 86, .inr 87, .inr 88, .inr 89, .inr 90, .inr 91, .inr 92, .inr 93, .inr 94, .inr 95, .inr 96, .inr 97, .inr 98, .inr 99, .inr 100, .inr 101, .inr 102, .inr 103, .inr 104, .inr 105, .inr 106, .inr 107, .inr 108, .inr 109, .inr 110, .inr 111, .inr 112, .inr 113, .inr 114, .inr 115, .inr 116, .inr 117, .inr 118, .inr 119, .inr 120, .inr 121, .inr 122, .inr 123, .inr 124, .inr 125, .inr 126, .inr 127, .inr 128, .inr 129, .inr 130, .inr 131, .inr 132, .inr 133, .inr 134, .inr 135, .inr 136, .inr 137, .inr 138, .inr 139, .inr 140, .inr 141, .inr 142, .inr 143, .inr 144, .inr 145, .inr 146, .inr 147, .inr 148, .inr 149, .inr 150, .inr 151, .inr 152, .inr 153, .inr 154, .inr 155, .inr 156, .inr 157, .inr 158, .inr 159, .inr 160, .inr 161, .inr 162, .inr 163, .inr 164, .inr 165, .inr 166, .inr 167, .inr 168, .inr 169, .inr 170, .inr 171, .inr 172, .inr 173, .inr 174, .inr 175, .inr 176, .inr 177, .inr 178, .inr 179, .inr 180, .inr 181, .inr 182, .inr 183, .inr 184, .inr 185, .inr 186, .inr 187, .inr 188, .inr 189, .inr 190, .inr 191, .inr 192, .inr 193, .inr 194, .inr 195, .inr 196, .inr 197, .inr 198, .inr 199, .inr 200, .inr 201, .inr 202, .inr 203, .inr 204, .inr 205, .inr 206, .inr 207, .inr 208, .inr 209, .inr 210, .inr 211, .inr 212, .inr 213, .inr 214, .inr 215, .inr 216, .inr 217, .inr 218, .inr 219, .inr 220, .inr 221, .inr 222, .inr 223, .inr 224, .inr 225, .inr 226, .inr 227, .inr 228, .inr 229, .inr 230, .inr 231, .inr 232, .inr 233, .inr 234, .inr 235, .inr 236, .inr 237, .inr 238, .inr 239, .inr 240, .inr 241, .inr 242, .inr 243, .inr 244, .inr 245, .inr 246, .inr 247, .inr 248, .inr 249, .inr 250, .inr 251, .inr 252, .inr 253, .inr 254, .inr 255, .inr 256, .inr 257, .inr 258, .inr 259, .inr 260, .inr 261, .inr 262, .inr 263, .inr 264, .inr 265, .inr 266, .inr 267, .inr 268, .inr 269, .inr 270, .inr 271, .inr 272, .inr 273, .inr 274, .inr 275, .inr 276, .inr 277, .inr 278, .inr 279, .inr 280, .inr 281, .inr 282, .inr 283, .inr 284, .inr 285, .inr 286, .inr 287, .inr 288, .inr 289, .inr 290, .inr 291, .inr 292, .inr 293, .inr 294, .inr 295, .inr 296, .inr 297, .inr 298, .inr 299, .inr 300, .inr 301, .inr 302, .inr 303, .inr 304, .inr 305, .inr 306, .inr 307, .inr 308, .inr 309, .inr 310, .inr 311, .inr 312, .inr 313, .inr 314, .inr 315, .inr 316, .inr 317, .inr 318, .inr 319, .inr 320, .inr 321, .inr 322, .inr 323, .inr 324, .inr 325, .inr 326, .inr 327, .inr 328, .inr 329, .inr 330, .inr 331, .inr 332, .inr 333, .inr 334, .inr 335, .inr 336, .inr 337, .inr 338, .inr 339, .inr 340, .inr 341, .inr 342, .inr 343, .inr 344, .inr 345, .inr 346, .inr 347, .inr 348, .inr 349, .inr 350, .inr 351, .inr 352, .inr 353, .inr 354, .inr 355, .inr 356, .inr 357, .inr 358, .inr 359, .inr 360, .inr 361, .inr 362, .inr 363, .inr 364, .inr 365, .inr 366, .inr 367, .inr 368, .inr 369, .inr 370, .inr 371, .inr 372, .inr 373, .inr 374, .inr 375, .inr 376, .inr 377, .inr 378, .inr 379, .inr 380, .inr 381, .inr 382, .inr 383, .inr 384, .inr 385, .inr 386, .inr 387, .inr 388, .inr 389, .inr 390, .inr 391, .inr 392, .inr 393, .inr 394, .inr 395, .inr 396, .inr 397, .inr 398, .inr 399, .inr 400, .inr 401, .inr 402, .inr 403, .inr 404, .inr 405, .inr 406, .inr 407, .inr 408, .inr 409, .inr 410, .inr 411, .inr 412, .inr 413, .inr 414, .inr 415, .inr 416, .inr 417, .inr 418, .inr 419, .inr 420, .inr 421, .inr 422, .inr 423, .inr 424, .inr 425, .inr 426, .inr 427, .inr 428, .inr 429, .inr 430, .inr 431, .inr 432, .inr 433, .inr 434, .inr 435, .inr 436, .inr 437, .inr 438, .inr 439, .inr 440, .inr 441, .inr 442, .inr 443, .inr 444, .inr 445, .inr 446, .inr 447, .inr 448, .inr 449, .inr 450, .inr 451, .inr 452, .inr 453, .inr 454, .inr 455, .inr 456, .inr 457, .inr 458, .inr 459, .inr 460, .inr 461, .inr 462, .inr 463, .inr 464, .inr 465, .inr 466, .inr 467, .inr 468, .inr 469, .inr 470, .inr 471, .inr 472, .inr 473, .inr 474, .inr 475, .inr 476, .inr 477, .inr 478, .inr 479, .inr 480, .inr 481, .inr 482, .inr 483, .inr 484, .inr 485, .inr 486, .inr 487, .inr 488, .inr 489, .inr 490, .inr 491, .inr 492, .inr 493, .inr 494, .inr 495, .inr 496, .inr 497, .inr 498, .inr 499, .inr 500, .inr 501, .inr 502, .inr 503, .inr 504, .inr 505, .inr 506, .inr 507, .inr 508, .inr 509, .inr 510, .inr 511, .inr 512, .inr 513, .inr 514, .inr 515, .inr 516, .inr 517, .inr 518, .inr 519, .inr 520, .inr 521, .inr 522, .inr 523, .inr 524, .inr 525, .inr 526, .inr 527, .inr 528, .inr 529, .inr 530, .inr 531, .inr 532, .inr 533, .inr 534, .inr 535, .inr 536, .inr 537, .inr 538, .inr 539, .inr 540, .inr 541, .inr 542, .inr 543, .inr 544, .inr 545, .inr 546, .inr 547, .inr 548, .inr 549, .inr 550, .inr 551, .inr 552, .inr 553, .inr 554, .inr 555, .inr 556, .inr 557, .inr 558, .inr 559, .inr 560, .inr 561, .inr 562, .inr 563, .inr 564, .inr 565, .inr 566, .inr 567, .inr 568, .inr 569, .inr 570, .inr 571, .inr 572, .inr 573, .inr 574, .inr 575, .inr 576, .inr 577, .inr 578, .inr 579, .inr 580, .inr 581, .inr 582, .inr 583, .inr 584, .inr 585, .inr 586, .inr 587, .inr 588, .inr 589, .inr 590, .inr 591, .inr 592, .inr 593, .inr 594, .inr 595, .inr 596, .inr 597] (fun wx => Below v60.heap.size v60 wx)) (MeetH.go _ (by rfl) ?_) ?_
  rotate_left
  · intro _ _ _ _
    as_aux_lemma =>
    clear HB HBs
    have HB : Below v60.heap.size v60 v60 := Below.refl _ _
    have HBs : v60.heap.size ≤ v60.heap.size := Nat.le_refl _
    by_cases hc : (qrB sf sl && decide (0 < sl)) = true
    · obtain rfl : tb = true := HTB.out.trans hc
      obtain ⟨hc1, hc2⟩ := (Bool.and_eq_true _ _).mp hc
      have hc3 : 0 < sl := of_decide_eq_true hc2
      have q := sqE_of hc1 hc3
      have f1 := q.f1
      have f2 := q.f2
      have l1 := q.l1
      have l2 := q.l2
      have v0 := q.v0
      have v1 := q.v1
      have w1 : IntKind.i64.wrap (sl - 1) = sl - 1 := IntWalk.i64_in _ (by omega)
      have w2 : IntKind.i64.wrap (sf + sl) = sf + sl := IntWalk.i64_in _ (by omega)
      have w3 : IntKind.i64.wrap (sf + sl - 1) = sf + sl - 1 := IntWalk.i64_in _ (by omega)
      have w4 : IntKind.i64.wrap (qrV sf sl - qrV sf (sl - 1)) = (sf + sl - 1) * (sf + sl - 1) := by rw [IntWalk.i64_in _ (by omega)]; exact q.last
      have w5 : IntKind.i64.wrap ((sf + sl - 1) * (sf + sl - 1)) = (sf + sl - 1) * (sf + sl - 1) := by rw [← q.last]; exact IntWalk.i64_in _ (by omega)
      clear hc hc1 hc2 hc3 f1 f2 l1 l2 v0 v1
      have B2_0 := B2.c0
      have B2_1 := B2.c1
      have B2_z := B2.z
      go_wp2_with fail
      refine (impl_SumOfSquaresRun_any sf (sl - 1) _).mono ?_
      rintro e v61 ⟨rfl, hb1⟩
      simp only [q.ok]
      clear B2_0 B2_1 B2_z
      replace K1 := K1.on hb1
      replace B1 := B1.on hb1
      replace B2 := B2.on hb1
      replace K3 := K3.on hb1
      replace K4 := K4.on hb1
      replace ht := ht.on hb1
      replace HB := below_go HB HBs hb1
      clear hb1
      clear q
      have B2_0 := B2.c0
      have B2_1 := B2.c1
      have B2_z := B2.z
      go_wp2_with fail
      refine Met.intro ?_
      go_step
      refine MeetH.of ?_ ?_
      · exact HB
      repeat (first | refine Agr.skip ?_ | refine Agr.keep ?_ | exact Agr.nil)
    · obtain rfl : tb = false := HTB.out.trans (by simpa using hc)
      go_wp2_with fail
      refine Met.intro ?_
      go_step
      refine MeetH.of ?_ ?_
      · exact HB
      repeat (first | refine Agr.skip ?_ | refine Agr.keep ?_ | exact Agr.nil)
  intro u62 v62 hb1
  replace K1 := K1.on hb1
  replace B1 := B1.on hb1
  replace B2 := B2.on hb1
  replace K3 := K3.on hb1
  replace K4 := K4.on hb1
  replace ht := ht.on hb1
  replace HB := below_go HB HBs hb1
  clear hb1
  as_aux_lemma =>
  simp only [fillH]
  clear HTB
  clear B1 B2 K1
  go_upto_if 542 with fail
  rcases Bool.eq_false_or_eq_true (saB len) with h | h
  · simp only [h]
    have q := saE_of h
    rw [q.a, q.k] at K3
    rw [q.d, q.b] at K4
    have l1 := q.l1
    have l2 := q.l2
    have q0 := q.q0
    have q1 := q.q1
    have s1 : IntKind.i64.wrap (len + 1) = len + 1 := IntWalk.i64_in _ (by omega)
    have s2 : IntKind.i64.wrap (len * len + (len + 1)) = len * len + (len + 1) := IntWalk.i64_in _ (by omega)
    have s3 : IntKind.i64.wrap (len * len) = len * len := IntWalk.i64_in _ (by omega)
    clear l1 l2 q0 q1 h
    have K3_0 := K3.c0
    have K3_1 := K3.c1
    have K3_z := K3.z
    have K4_0 := K4.c0
    have K4_1 := K4.c1
    have K4_z := K4.z
    go_wp2_with fail
    refine (impl_SumOfRun_any (len * len) (len + 1) _).mono ?_
    rintro e v63 ⟨rfl, hb1⟩
    simp only [q.ok]
    clear K3_0 K3_1 K3_z K4_0 K4_1 K4_z
    replace K3 := K3.on hb1
    replace K4 := K4.on hb1
    replace ht := ht.on hb1
    replace HB := below_go HB HBs hb1
    clear hb1
    have K3_0 := K3.c0
    have K3_1 := K3.c1
    have K3_z := K3.z
    have K4_0 := K4.c0
    have K4_1 := K4.c1
    have K4_z := K4.z
    go_wp2_with fail
    refine (impl_SumOfRun_any (len * len + (len + 1)) len _).mono ?_
    rintro e v64 ⟨rfl, hb1⟩
    simp only [q.two]
    clear K3_0 K3_1 K3_z K4_0 K4_1 K4_z
    replace K3 := K3.on hb1
    replace K4 := K4.on hb1
    replace ht := ht.on hb1
    replace HB := below_go HB HBs hb1
    clear hb1
    have K3_0 := K3.c0
    have K3_1 := K3.c1
    have K3_z := K3.z
    have K4_0 := K4.c0
    have K4_1 := K4.c1
    have K4_z := K4.z
    by_cases hb : len * len + (len + 1) ≤ 1000000
    · have hb1 : ¬ 1000000 < len * len + (len + 1) := by omega
      have hb2 : decide (1000000 < len * len + (len + 1)) = false := decide_eq_false hb1
      have hb3 : decide (len * len + (len + 1) ≤ 1000000) = true := decide_eq_true hb
      simp only [q.same hb]
      clear q
      go_wp2_with fail
      go_ret
      first | exact ⟨rfl, HB⟩ | exact ⟨rfl, hR0 ▸ HB⟩ | exact ⟨rfl, by assumption⟩
    · have hb1 : 1000000 < len * len + (len + 1) := by omega
      have hb2 : decide (1000000 < len * len + (len + 1)) = true := decide_eq_true hb1
      have hb3 : decide (len * len + (len + 1) ≤ 1000000) = false := decide_eq_false hb
      clear q
      go_wp2_with fail
      go_ret
      first | exact ⟨rfl, HB⟩ | exact ⟨rfl, hR0 ▸ HB⟩ | exact ⟨rfl, by assumption⟩
  · simp only [h]
    go_wp2_with fail
    go_ret
    first | exact ⟨rfl, HB⟩ | exact ⟨rfl, hR0 ▸ HB⟩ | exact ⟨rfl, by assumption⟩
end Go.Proofs.YtcfpdlkkniilpaaGreatDoor
