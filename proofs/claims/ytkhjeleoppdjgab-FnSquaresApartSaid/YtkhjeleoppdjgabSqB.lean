/- The law FnSquaresApart, walked: whatever the arguments it answers true. No condition. -/
import Derived.Test.YtkhjeleoppdjgabBase
import Derived.Test.YtkhjeleoppdjgabAnT
import Derived.Test.YtkhjeleoppdjgabAnW2
import Derived.Test.YtkhjeleoppdjgabCut
import Derived.Test.YtkhjeleoppdjgabDrG
import Derived.Lib.Hide
import Derived.Deep.Cut
import Derived.Deep.CutBlock
namespace Go.Proofs.Ytkhjeleoppdjgab
open Go.ChangeShapes Go.WideShapes Go.ChangeAt Go.RowKit

theorem ap_small (n : Int) : (apL n).length ≤ 1500 ∧ (odL n).length ≤ 1500 ∧ (reL n).length ≤ 1500 := by
  rcases Bool.eq_false_or_eq_true (ruB n) with h | h
  · have a := ap_len h
    have b := (reE_of h).few
    exact ⟨a.2.1, by rw [a.1]; exact a.2.1, b⟩
  · simp [apL, odL, reL, h]
theorem two_rows (xss : List (List Int)) (hl : xss.length ≤ 1500) (h : ∀ i, i < xss.length → ∃ x y, xss[i]? = some [x, y]) : pre (rowsOf xss) xss.length ≤ 1000000000 := by
  have hp := pre_le (rowsOf xss) xss.length 2 fun i hi => by
    obtain ⟨x, y, e⟩ := h i hi
    rw [rowsOf, List.getD_eq_getElem?_getD, e]
    exact Nat.le_refl _
  omega
theorem ap_pre (n : Int) : pre (rowsOf (apL n)) (apL n).length ≤ 1000000000 := by
  rcases Bool.eq_false_or_eq_true (ruB n) with h | h
  · refine two_rows _ (ap_small n).1 fun i hi => ?_
    obtain ⟨x, y, q⟩ := apR_of h i hi
    exact ⟨x, y, q.row⟩
  · simp [apL, h, pre]
theorem re_pre (n : Int) : pre (rowsOf (reL n)) (reL n).length ≤ 1000000000 := by
  rcases Bool.eq_false_or_eq_true (ruB n) with h | h
  · refine two_rows _ (ap_small n).2.2 fun i hi => ?_
    obtain ⟨x, y, q⟩ := reR_of h i hi
    exact ⟨x, y, q.row⟩
  · simp [reL, h, pre]
theorem row_of {xss : List (List Int)} {i : Nat} {r : List Int} (h : xss[i]? = some r) : rowsOf xss i = r := by
  rw [rowsOf, List.getD_eq_getElem?_getD, h]; rfl
/-- A row of two numbers, and the row before. -/
theorem rows_two {w : World} {lo hi n : Nat} {A : Option Addr} {F : Nat → List Int} {Af : Nat → Option Addr} {cf : Nat → Nat} (h : OwnL w lo hi A n F Af cf) (hh : hi ≤ w.heap.size) {k : Nat} (hk : k < n) {x y : Int} (e : F k = [x, y]) :
    ∃ g o g' o', A = some ⟨g, o, none⟩ ∧ g < w.heap.size ∧ g' < w.heap.size ∧ w.cell? ⟨g, o + k, none⟩ = some (.slice (some ⟨g', o', none⟩) 2 (cf k)) ∧ w.cell? ⟨g', o', none⟩ = some (.int .i64 x) ∧ w.cell? ⟨g', o' + 1, none⟩ = some (.int .i64 y) := by
  have hl : (F k).length = 2 := by rw [e]; rfl
  obtain ⟨g, o, eA, _, hg, _⟩ := h.own (by simp; omega)
  obtain ⟨g', o', eB, _, hg', _⟩ := h.row k hk (by rw [e]; simp)
  obtain ⟨g1, o1, g2, o2, e1, e2, hc, hj⟩ := ownL_get h hk (by omega)
  rw [eA] at e1
  rw [eB] at e2
  injection e1 with e1
  injection e2 with e2
  injection e1 with e3 e4 _
  injection e2 with e5 e6 _
  subst e3
  subst e4
  subst e5
  subst e6
  have j0 := hj 0 (by omega)
  have j1 := hj 1 (by omega)
  rw [e] at j0 j1
  rw [hl] at hc
  exact ⟨g, o, g', o', eA, by omega, by omega, hc, by simpa using j0, by simpa using j1⟩
theorem cell_drewN {w : World} {a : Addr} {v : Value} (h : w.cell? a = some v) (q : Nat) : (w.drewN q).cell? a = some v := h
set_option maxRecDepth 4000 in
set_option maxHeartbeats 16000000 in
theorem walk_SquaresApart (A' : Option Addr) (n' a' : Nat) (B' : Option Addr) (m' c' : Nat) (w : World) (hn' : n' ≤ 9223372036854775807) (hx' : Bys w A' n') (hm' : m' ≤ 9223372036854775807) (hy' : Bys w B' m') :
    Calls Try.prog 4 #[.slice A' n' a', .slice B' m' c'] w fun e w' => e = .returned (.bool true) ∧ Below w.heap.size w w' := by
  have HB : Below w.heap.size w w := Below.refl _ _
  have HBs : w.heap.size ≤ w.heap.size := Nat.le_refl _
  rcases Bool.eq_false_or_eq_true (bgB n' m') with hg | hg
  · go_enter Try.func4, Try.ntmps4
    go_wp2_with (go_at_call 23; refine (big_any _ _ _ _ _ _ _ hn' hm').mono ?_; rintro e w' ⟨rfl, rfl⟩)
    go_ret
    exact ⟨rfl, Below.refl _ _⟩
  obtain ⟨gg1, gg2⟩ := bg_no hg
  go_enter Try.func4, Try.ntmps4
  go_wp2_with (go_at_call 23; refine (big_any _ _ _ _ _ _ _ hn' hm').mono ?_; rintro e w' ⟨rfl, rfl⟩)
  refine (DrawSquaresApart_any A' n' a' _ hx' (by omega)).mono ?_
  rintro e v1 ⟨⟨n, rfl⟩, hb1⟩
  replace hy' := hy'.on hb1
  replace HB := below_go HB HBs hb1
  clear hb1
  go_wp2_with fail
  refine (impl_SquaresApart_any n _).mono ?_
  rintro e v2 ⟨Aa, ca, Afa, cfa, rfl, Oa, hb1⟩
  replace hy' := hy'.on hb1
  replace HB := below_go HB HBs hb1
  clear hb1
  go_wp2_with fail
  refine (spec_SquaresApart_any n _).mono ?_
  rintro e v3 ⟨Ab, cb, Afb, cfb, rfl, Ob, hb1⟩
  replace hy' := hy'.on hb1
  replace Oa := Oa.on hb1
  replace HB := below_go HB HBs hb1
  clear hb1
  go_wp2_with fail
  refine (impl_CountSquaresApart_any n _).mono ?_
  rintro e v4 ⟨rfl, hb1⟩
  replace hy' := hy'.on hb1
  replace Oa := Oa.on hb1
  replace Ob := Ob.on hb1
  replace HB := below_go HB HBs hb1
  clear hb1
  go_wp2_with fail
  refine (spec_CountSquaresApart_any n _).mono ?_
  rintro e v5 ⟨rfl, hb1⟩
  replace hy' := hy'.on hb1
  replace Oa := Oa.on hb1
  replace Ob := Ob.on hb1
  replace HB := below_go HB HBs hb1
  clear hb1
  go_wp2_with fail
  refine (impl_OddRunsOf_any n _).mono ?_
  rintro e v6 ⟨Ad, cd, rfl, Od, hb1⟩
  replace hy' := hy'.on hb1
  replace Oa := Oa.on hb1
  replace Ob := Ob.on hb1
  replace HB := below_go HB HBs hb1
  clear hb1
  go_wp2_with fail
  refine (spec_OddRunsOf_any n _).mono ?_
  rintro e v7 ⟨Ae, ce, rfl, Oe, hb1⟩
  replace hy' := hy'.on hb1
  replace Oa := Oa.on hb1
  replace Ob := Ob.on hb1
  replace Od := Od.on hb1
  replace HB := below_go HB HBs hb1
  clear hb1
  go_wp2_with fail
  refine (impl_RectanglesOf_any n _).mono ?_
  rintro e v8 ⟨Ar, cr, Afr, cfr, rfl, Or, hb1⟩
  replace hy' := hy'.on hb1
  replace Oa := Oa.on hb1
  replace Ob := Ob.on hb1
  replace Od := Od.on hb1
  replace Oe := Oe.on hb1
  replace HB := below_go HB HBs hb1
  clear hb1
  go_wp2_with fail
  refine (spec_RectanglesOf_any n _).mono ?_
  rintro e v9 ⟨As, cs, Afs, cfs, rfl, Os, hb1⟩
  replace hy' := hy'.on hb1
  replace Oa := Oa.on hb1
  replace Ob := Ob.on hb1
  replace Od := Od.on hb1
  replace Oe := Oe.on hb1
  replace Or := Or.on hb1
  replace HB := below_go HB HBs hb1
  clear hb1
  go_wp2_with fail
  refine (impl_MostSquareRectangle_any n _).mono ?_
  rintro e v10 ⟨rfl, hb1⟩
  replace hy' := hy'.on hb1
  replace Oa := Oa.on hb1
  replace Ob := Ob.on hb1
  replace Od := Od.on hb1
  replace Oe := Oe.on hb1
  replace Or := Or.on hb1
  replace Os := Os.on hb1
  replace HB := below_go HB HBs hb1
  clear hb1
  go_wp2_with fail
  refine (spec_MostSquareRectangle_any n _).mono ?_
  rintro e v11 ⟨rfl, hb1⟩
  replace hy' := hy'.on hb1
  replace Oa := Oa.on hb1
  replace Ob := Ob.on hb1
  replace Od := Od.on hb1
  replace Oe := Oe.on hb1
  replace Or := Or.on hb1
  replace Os := Os.on hb1
  replace HB := below_go HB HBs hb1
  clear hb1
  go_upto_region 14 with fail
  simp only [List.append]
  have hsm := ap_small n
  go_wp2_with fail
  refine (oRows_b Aa Ab _ ca cb _ _ _ _ (rowsOf (apL n)) _ _ _ _ _ (by omega) (ap_pre n) Oa Ob).mono ?_
  rintro e v12 ⟨rfl, hb1⟩
  replace hy' := hy'.on hb1
  replace Oa := Oa.on hb1
  replace Ob := Ob.on hb1
  replace Od := Od.on hb1
  replace Oe := Oe.on hb1
  replace Or := Or.on hb1
  replace Os := Os.on hb1
  replace HB := below_go HB HBs hb1
  clear hb1
  go_wp2_with fail
  refine (oRuns_b Ad Ae _ cd ce _ _ _ _ (odL n) _ rfl (by omega) Od Oe).mono ?_
  rintro e v13 ⟨rfl, hb1⟩
  replace hy' := hy'.on hb1
  replace Oa := Oa.on hb1
  replace Ob := Ob.on hb1
  replace Od := Od.on hb1
  replace Oe := Oe.on hb1
  replace Or := Or.on hb1
  replace Os := Os.on hb1
  replace HB := below_go HB HBs hb1
  clear hb1
  go_wp2_with fail
  refine (oRows_b Ar As _ cr cs _ _ _ _ (rowsOf (reL n)) _ _ _ _ _ (by omega) (re_pre n) Or Os).mono ?_
  rintro e v14 ⟨rfl, hb1⟩
  replace hy' := hy'.on hb1
  replace Oa := Oa.on hb1
  replace Ob := Ob.on hb1
  replace Od := Od.on hb1
  replace Oe := Oe.on hb1
  replace Or := Or.on hb1
  replace Os := Os.on hb1
  replace HB := below_go HB HBs hb1
  clear hb1
  clear Ob Oe Os
  go_upto_if 180 with fail
  refine wp_cut (MeetH [.inr 0, .inl (.slice B' m' c'), .inr 2, .inr 3, .inr 4, .inr 5, .inr 6, .inr 7, .inr 8, .inr 9, .inr 10, .inr 11, .inr 12, .inr 13, .inr 14, .inr 15, .inr 16, .inr 17, .inr 18, .inr 19, .inr 20, .inr 21, .inr 22, .inr 23, .inr 24, .inr 25, .inr 26, .inr 27, .inr 28, .inr 29, .inr 30, .inr 31, .inr 32, .inr 33, .inr 34, .inr 35, .inr 36, .inr 37, .inr 38, .inr 39, .inr 40, .inr 41, .inr 42, .inr 43, .inr 44, .inr 45, .inr 46, .inr 47, .inr 48, .inr 49, .inr 50, .inr 51, .inr 52, .inr 53, .inr 54, .inr 55, .inr 56, .inr 57, .inr 58, .inr 59, .inr 60, .inr 61, .inr 62, .inr 63, .inr 64, .inr 65, .inr 66, .inr 67, .inr 68, .inr 69, .inr 70, .inr 71, .inr 72, .inr 73, .inr 74, .inr 75, .inr 76, .inr 77, .inr 78, .inr 79, .inr 80, .inr 81, .inr 82, .inr 83, .inr 84, .inr 85, .inr 86, .inr 87, .inr 88, .inr 89, .inr 90, .inr 91, .inr 92, .inr 93, .inr 94, .inr 95, .inr 96, .inr 97, .inr 98, .inr 99, .inr 100, .inr 101, .inr 102, .inr 103, .inr 104, .inr 105, .inr 106, .inr 107, .inr 108, .inr 109, .inr 110, .inr 111, .inr 112, .inr 113, .inr 114, .inr 115, .inr 116, .inr 117, .inr 118, .inr 119, .inr 120, .inr 121, .inr 122, .inr 123, .inr 124, .inr 125, .inr 126, .inr 127, .inr 128, .inr 129, .inr 130, .inr 131, .inr 132, .inr 133, .inr 134, .inr 135, .inr 136, .inr 137, .inr 138, .inr 139, .inr 140, .inr 141, .inr 142, .inr 143, .inr 144, .inr 145, .inr 146, .inr 147, .inr 148, .inr 149, .inr 150, .inr 151, .inr 152, .inr 153, .inr 154, .inr 155, .inr 156, .inr 157, .inr 158, .inr 159, .inr 160, .inr 161, .inr 162, .inr 163, .inr 164, .inr 165, .inr 166, .inr 167, .inr 168, .inr 169, .inr 170, .inr 171, .inr 172, .inr 173, .inr 174, .inr 175, .inr 176, .inr 177, .inr 178, .inr 179, .inr 180, .inr 181, .inr 182, .inr 183, .inr 184, .inr 185, .inr 186, .inr 187, .inr 188, .inr 189, .inr 190, .inr 191, .inr 192, .inr 193, .inr 194, .inr 195, .inr 196, .inr 197, .inr 198, .inr 199, .inr 200, .inr 201, .inr 202, .inr 203, .inr 204, .inr 205, .inr 206, .inr 207, .inr 208, .inr 209, .inr 210, .inr 211, .inr 212, .inr 213, .inr 214, .inr 215, .inr 216, .inr 217, .inr 218, .inr 219, .inr 220, .inr 221, .inr 222, .inr 223, .inr 224, .inr 225, .inr 226, .inr 227, .inr 228, .inr 229, .inr 230, .inr 231, .inr 232, .inr 233, .inr 234, .inr 235, .inr 236, .inr 237, .inr 238, .inr 239, .inr 240, .inr 241, .inr 242, .inr 243, .inr 244, .inr 245, .inr 246, .inr 247, .inr 248, .inr 249, .inr 250, .inr 251, .inr 252, .inr 253, .inr 254, .inr 255, .inr 256, .inr 257, .inr 258, .inr 259, .inr 260, .inr 261, .inr 262, .inr 263, .inr 264, .inr 265, .inr 266, .inr 267, .inr 268, .inr 269, .inr 270, .inr 271, .inr 272, .inr 273, .inr 274, .inr 275, .inr 276, .inr 277, .inr 278, .inr 279, .inr 280, .inr 281, .inr 282, .inr 283, .inr 284, .inr 285, .inr 286, .inr 287, .inr 288, .inr 289, .inr 290, .inr 291, .inr 292, .inr 293, .inr 294, .inr 295, .inr 296, .inr 297, .inr 298, .inr 299, .inr 300, .inr 301, .inr 302, .inr 303, .inr 304, .inr 305, .inr 306, .inr 307, .inr 308, .inr 309, .inr 310, .inr 311, .inr 312, .inr 313, .inr 314, .inr 315, .inr 316, .inr 317, .inr 318, .inr 319, .inr 320, .inr 321, .inr 322, .inr 323, .inr 324, .inr 325, .inr 326, .inr 327, .inr 328, .inr 329, .inr 330, .inr 331, .inr 332, .inr 333, .inr 334, .inr 335, .inr 336, .inr 337, .inr 338, .inr 339, .inr 340, .inr 341, .inr 342, .inr 343, .inr 344, .inr 345, .inr 346, .inr 347, .inr 348, .inr 349, .inr 350, .inr 351, .inr 352, .inr 353, .inr 354, .inr 355, .inr 356, .inr 357, .inr 358, .inr 359, .inr 360, .inr 361, .inr 362, .inr 363, .inr 364, .inr 365, .inr 366, .inr 367, .inr 368, .inr 369, .inr 370, .inr 371, .inr 372, .inr 373, .inr 374, .inr 375, .inr 376, .inr 377, .inr 378, .inr 379, .inr 380, .inr 381, .inr 382, .inr 383, .inr 384, .inr 385, .inr 386, .inr 387, .inr 388, .inr 389, .inr 390, .inr 391, .inr 392, .inr 393, .inr 394, .inr 395, .inr 396, .inr 397, .inr 398, .inr 399, .inr 400, .inr 401, .inr 402, .inr 403, .inr 404, .inr 405, .inr 406, .inr 407, .inr 408, .inr 409, .inr 410, .inr 411, .inr 412, .inr 413, .inr 414, .inr 415, .inr 416, .inr 417, .inr 418, .inr 419, .inr 420, .inr 421, .inr 422, .inr 423, .inr 424, .inr 425, .inr 426, .inr 427, .inr 428, .inr 429, .inr 430, .inr 431, .inr 432, .inr 433, .inr 434, .inr 435, .inr 436, .inr 437, .inr 438, .inr 439, .inr 440, .inr 441, .inr 442, .inr 443, .inr 444, .inr 445, .inr 446, .inr 447, .inr 448, .inr 449, .inr 450, .inr 451, .inr 452, .inr 453, .inr 454, .inr 455, .inr 456, .inr 457, .inr 458, .inr 459, .inr 460, .inr 461, .inr 462, .inr 463, .inr 464, .inr 465, .inr 466, .inr 467, .inr 468, .inr 469, .inr 470, .inr 471, .inr 472, .inr 473, .inr 474, .inr 475, .inr 476, .inr 477, .inr 478, .inr 479, .inr 480] (fun wx => Below v14.heap.size v14 wx)) (MeetH.go _ (by rfl) ?_) ?_
  rotate_left
  · intro _ _ _ _
    as_aux_lemma =>
    clear HB HBs
    have HB : Below v14.heap.size v14 v14 := Below.refl _ _
    have HBs : v14.heap.size ≤ v14.heap.size := Nat.le_refl _
    rcases Bool.eq_false_or_eq_true (ruB n) with h | h
    · simp only [h]
      obtain ⟨l1, l2, l3⟩ := ap_len h
      obtain ⟨n0, n1⟩ := ru_iff.1 h
      have q := reE_of h
      have r1 := q.ne
      have r2 := q.few
      have hz : (((apL n).length : Int) == 0) = (n.tmod 4 == 2) := by
        rw [Int.tmod_eq_emod_of_nonneg (by omega), Bool.eq_iff_iff]
        simp only [beq_iff_eq]
        omega
      simp only [csV, l1]
      have LE := Lib.hid fun i hi => apR_of h i hi
      have LR := Lib.hid fun i hi => reR_of h i hi
      have rl := q.last
      have rf := q.first
      clear q
      generalize hL : (apL n).length = N at *
      generalize hM : (reL n).length = M at *
      have HL := Lib.hid hL
      have HM := Lib.hid hM
      clear hL hM l3 hsm
      go_upto_region 19 with fail
      clear hz
      go_upto_block 0 with fail
      refine wp_cut (MeetH [.inr 0, .inl (.slice B' m' c'), .inr 2, .inr 3, .inr 4, .inl (.int .i64 (n)), .inr 6, .inr 7, .inr 8, .inr 9, .inr 10, .inr 11, .inr 12, .inr 13, .inr 14, .inr 15, .inr 16, .inr 17, .inl (.slice Ar M cr), .inr 19, .inr 20, .inr 21, .inl (.int .i64 (msA n)), .inl (.int .i64 (msB n)), .inr 24, .inr 25, .inr 26, .inr 27, .inr 28, .inr 29, .inr 30, .inr 31, .inr 32, .inr 33, .inr 34, .inr 35, .inr 36, .inr 37, .inr 38, .inr 39, .inr 40, .inr 41, .inr 42, .inr 43, .inr 44, .inr 45, .inr 46, .inr 47, .inr 48, .inr 49, .inr 50, .inr 51, .inr 52, .inr 53, .inr 54, .inr 55, .inr 56, .inr 57, .inr 58, .inr 59, .inr 60, .inr 61, .inr 62, .inr 63, .inr 64, .inr 65, .inr 66, .inr 67, .inr 68, .inr 69, .inr 70, .inr 71, .inr 72, .inr 73, .inr 74, .inr 75, .inr 76, .inr 77, .inr 78, .inr 79, .inr 80, .inr 81, .inr 82, .inr 83, .inr 84, .inr 85, .inr 86, .inr 87, .inr 88, .inr 89, .inr 90, .inr 91, .inr 92, .inr 93, .inr 94, .inr 95, .inr 96, .inr 97, .inr 98, .inr 99, .inr 100, .inr 101, .inr 102, .inr 103, .inr 104, .inr 105, .inr 106, .inr 107, .inr 108, .inr 109, .inr 110, .inr 111, .inr 112, .inr 113, .inr 114, .inr 115, .inr 116, .inr 117, .inr 118, .inr 119, .inr 120, .inr 121, .inr 122, .inr 123, .inr 124, .inr 125, .inr 126, .inr 127, .inr 128, .inr 129, .inr 130, .inr 131, .inr 132, .inr 133, .inr 134, .inr 135, .inr 136, .inr 137, .inr 138, .inr 139, .inr 140, .inr 141, .inr 142, .inr 143, .inr 144, .inr 145, .inr 146, .inr 147, .inr 148, .inr 149, .inr 150, .inr 151, .inr 152, .inr 153, .inr 154, .inr 155, .inr 156, .inr 157, .inr 158, .inr 159, .inr 160, .inr 161, .inr 162, .inr 163, .inr 164, .inr 165, .inr 166, .inr 167, .inr 168, .inr 169, .inr 170, .inr 171, .inr 172, .inr 173, .inr 174, .inr 175, .inr 176, .inr 177, .inr 178, .inr 179, .inr 180, .inr 181, .inr 182, .inr 183, .inr 184, .inr 185, .inr 186, .inr 187, .inr 188, .inr 189, .inr 190, .inr 191, .inr 192, .inr 193, .inr 194, .inr 195, .inr 196, .inr 197, .inr 198, .inr 199, .inr 200, .inr 201, .inr 202, .inr 203, .inr 204, .inr 205, .inr 206, .inr 207, .inr 208, .inr 209, .inr 210, .inr 211, .inr 212, .inr 213, .inr 214, .inr 215, .inr 216, .inr 217, .inr 218, .inr 219, .inr 220, .inr 221, .inr 222, .inr 223, .inr 224, .inr 225, .inr 226, .inr 227, .inr 228, .inr 229, .inr 230, .inr 231, .inr 232, .inr 233, .inr 234, .inr 235, .inr 236, .inr 237, .inr 238, .inr 239, .inr 240, .inr 241, .inr 242, .inr 243, .inr 244, .inr 245, .inr 246, .inr 247, .inr 248, .inr 249, .inr 250, .inr 251, .inr 252, .inr 253, .inr 254, .inr 255, .inr 256, .inr 257, .inr 258, .inr 259, .inr 260, .inr 261, .inr 262, .inr 263, .inr 264, .inr 265, .inr 266, .inr 267, .inr 268, .inr 269, .inr 270, .inr 271, .inr 272, .inr 273, .inr 274, .inr 275, .inr 276, .inr 277, .inr 278, .inr 279, .inr 280, .inr 281, .inr 282, .inr 283, .inr 284, .inr 285, .inr 286, .inr 287, .inr 288, .inr 289, .inr 290, .inr 291, .inr 292, .inr 293, .inr 294, .inr 295, .inr 296, .inr 297, .inr 298, .inr 299, .inr 300, .inr 301, .inr 302, .inr 303, .inr 304, .inr 305, .inr 306, .inr 307, .inr 308, .inr 309, .inr 310, .inr 311, .inr 312, .inr 313, .inr 314, .inr 315, .inr 316, .inr 317, .inr 318, .inr 319, .inr 320, .inr 321, .inr 322, .inr 323, .inr 324, .inr 325, .inr 326, .inr 327, .inr 328, .inr 329, .inr 330, .inr 331, .inr 332, .inr 333, .inr 334, .inr 335, .inr 336, .inr 337, .inr 338, .inr 339, .inr 340, .inr 341, .inr 342, .inr 343, .inr 344, .inr 345, .inr 346, .inr 347, .inr 348, .inr 349, .inr 350, .inr 351, .inr 352, .inr 353, .inr 354, .inr 355, .inr 356, .inr 357, .inr 358, .inr 359, .inr 360, .inr 361, .inr 362, .inr 363, .inr 364, .inr 365, .inr 366, .inr 367, .inr 368, .inr 369, .inr 370, .inr 371, .inr 372, .inr 373, .inr 374, .inr 375, .inr 376, .inr 377, .inr 378, .inr 379, .inr 380, .inr 381, .inr 382, .inr 383, .inr 384, .inr 385, .inr 386, .inr 387, .inr 388, .inr 389, .inr 390, .inr 391, .inr 392, .inr 393, .inr 394, .inr 395, .inr 396, .inr 397, .inr 398, .inr 399, .inr 400, .inr 401, .inr 402, .inr 403, .inr 404, .inr 405, .inr 406, .inr 407, .inr 408, .inr 409, .inr 410, .inr 411, .inr 412, .inr 413, .inr 414, .inr 415, .inr 416, .inr 417, .inr 418, .inr 419, .inr 420, .inr 421, .inr 422, .inr 423, .inr 424, .inr 425, .inr 426, .inr 427, .inr 428, .inr 429, .inr 430, .inr 431, .inr 432, .inr 433, .inr 434, .inr 435, .inr 436, .inr 437, .inr 438, .inr 439, .inr 440, .inr 441, .inr 442, .inr 443, .inr 444, .inr 445, .inr 446, .inr 447, .inr 448, .inr 449, .inr 450, .inr 451, .inr 452, .inr 453, .inr 454, .inr 455, .inr 456, .inr 457, .inr 458, .inr 459, .inr 460, .inr 461, .inr 462, .inr 463, .inr 464, .inr 465, .inr 466, .inr 467, .inr 468, .inr 469, .inr 470, .inr 471, .inr 472, .inr 473, .inr 474, .inr 475, .inr 476, .inr 477, .inr 478, .inr 479, .inr 480] (fun wx => Below v14.heap.size v14 wx)) (MeetH.go _ (by rfl) ?_) ?_
      rotate_left
      · intro _ _ _ _
        as_aux_lemma =>
        clear HB HBs
        have HB : Below v14.heap.size v14 v14 := Below.refl _ _
        have HBs : v14.heap.size ≤ v14.heap.size := Nat.le_refl _
        have HA := Lib.hid Oa
        have HD := Lib.hid Od
        clear Oa Od Or
        go_wp2_with fail
        go_loopw [206] (fun i wr => ∃ k : Nat, k ≤ N ∧ i = .int .i64 k ∧ Below v14.heap.size v14 wr) (fun i _ => N - (intOf i).toNat)
        case atStart => exact ⟨0, Nat.zero_le _, rfl, Below.refl _ _⟩
        case round =>
          obtain ⟨k, hk, rfl, hb⟩ := hrel
          rcases k with _ | j
          · simp only [Int.natCast_zero]
            rcases Nat.lt_or_ge 0 N with hN0 | hN0
            rotate_left
            · have hN : ¬ (0 : Int) < (N : Int) := by omega
              go_wp2
              refine Met.intro ?_
              go_step
              refine MeetH.of ?_ ?_
              · exact hb
              repeat (first | refine Agr.skip ?_ | refine Agr.keep ?_ | exact Agr.nil)
            have hN : (0 : Int) < (N : Int) := by omega
            obtain ⟨x, y, R⟩ := LE.out 0 (by omega)
            have hap := HA.out.below hb (Nat.le_refl _)
            obtain ⟨g, o, g1, o1, rfl, hg, hg1, c0, c1, c2⟩ := rows_two hap hb.size (k := 0) (by omega) (row_of R.row)
            have hod : N - 1 - 0 < (odL n).length := by omega
            obtain ⟨g2, o2, rfl, _, hg2', d0, d1⟩ := (HD.out.below hb (Nat.le_refl _)).pair_ hod
            have hg2 : g2 < wr.heap.size := Nat.lt_of_lt_of_le hg2' hb.size
            have ho := R.odd
            rw [HL.out, List.getElem?_eq_getElem hod] at ho
            injection ho with ho
            rw [ho] at d0 d1
            simp only at d0 d1
            have b1 := R.lt
            have b2 := R.y0
            have b1' : decide (x ≤ y) = false := decide_eq_false (by omega)
            have b2' : decide (y < 0) = false := decide_eq_false (by omega)
            have b3 := R.x1
            have b4 := R.sq
            have b5 := R.xx
            have b6 := R.yy
            have w1 : IntKind.i64.wrap (x * x) = x * x := IntWalk.i64_in _ (by omega)
            have w2 : IntKind.i64.wrap (y * y) = y * y := IntWalk.i64_in _ (by omega)
            have w3 : IntKind.i64.wrap (x * x - y * y) = n := by rw [b4]; exact IntWalk.i64_in _ (by omega)
            have w4 : IntKind.i64.wrap ((N : Int) - 1) = (N : Int) - 1 := IntWalk.i64_in _ (by omega)
            have w6 : IntKind.i64.wrap (x - y) = x - y := IntWalk.i64_in _ (by omega)
            have w7 : IntKind.i64.wrap (2 * y) = 2 * y := IntWalk.i64_in _ (by omega)
            have w8 : IntKind.i64.wrap (2 * y + 1) = 2 * y + 1 := IntWalk.i64_in _ (by omega)
            have w5 : IntKind.i64.wrap ((N : Int) - 1 - 0) = ((N - 1 : Nat) : Int) := by rw [IntWalk.i64_in _ (by omega)]; omega
            have w5' : IntKind.i64.wrap ((N : Int) - 1) = ((N - 1 : Nat) : Int) := by rw [IntWalk.i64_in _ (by omega)]; omega
            clear w4
            have hj : ((N - 1 : Nat) : Int) < (N : Int) := by omega
            have hj0 : (0 : Int) ≤ ((N - 1 : Nat) : Int) := by omega
            rw [Nat.sub_zero] at d0 d1
            rw [Nat.add_zero] at c0
            generalize N - 1 = J at *
            have w5'' : IntKind.i64.wrap (J : Int) = (J : Int) := IntWalk.i64_in _ (by omega)
            clear R
            generalize cfa 0 = ck at c0
            clear b4 b5 b6 ho hod hap
            go_wp2
            go_big_quiet (fail)
            replace c1 := cell_drewN c1 nq
            replace c2 := cell_drewN c2 nq
            replace d0 := cell_drewN d0 nq
            replace d1 := cell_drewN d1 nq
            have hgs1 : g1 < (wr.drewN nq).heap.size := hg1
            have hgs2 : g2 < (wr.drewN nq).heap.size := hg2
            have hbs := below_drewN hb nq
            generalize wr.drewN nq = ws at c1 c2 d0 d1 hgs1 hgs2 hbs ⊢
            clear hb c0 hg hg1 hg2
            go_wp2
            go_big_quiet (fail)
            go_wp2
            go_roundw
            case rel => exact ⟨0 + 1, by omega, by go_num, below_drewN (hbs.alloc hbs.size _) _⟩
            case measure => simp [intOf]; omega
          · simp only [Int.natCast_add, Int.natCast_one]
            by_cases hlt : j + 1 < N
            · have hki : (j : Int) + 1 < (N : Int) := by omega
              obtain ⟨x, y, R⟩ := LE.out (j + 1) (by omega)
              have hap := HA.out.below hb (Nat.le_refl _)
              obtain ⟨g, o, g1, o1, rfl, hg, hg1, c0, c1, c2⟩ := rows_two hap hb.size (k := (j + 1)) (by omega) (row_of R.row)
              have hod : N - 1 - (j + 1) < (odL n).length := by omega
              obtain ⟨g2, o2, rfl, _, hg2', d0, d1⟩ := (HD.out.below hb (Nat.le_refl _)).pair_ hod
              have hg2 : g2 < wr.heap.size := Nat.lt_of_lt_of_le hg2' hb.size
              have ho := R.odd
              rw [HL.out, List.getElem?_eq_getElem hod] at ho
              injection ho with ho
              rw [ho] at d0 d1
              simp only at d0 d1
              have b1 := R.lt
              have b2 := R.y0
              have b1' : decide (x ≤ y) = false := decide_eq_false (by omega)
              have b2' : decide (y < 0) = false := decide_eq_false (by omega)
              have b3 := R.x1
              have b4 := R.sq
              have b5 := R.xx
              have b6 := R.yy
              have w1 : IntKind.i64.wrap (x * x) = x * x := IntWalk.i64_in _ (by omega)
              have w2 : IntKind.i64.wrap (y * y) = y * y := IntWalk.i64_in _ (by omega)
              have w3 : IntKind.i64.wrap (x * x - y * y) = n := by rw [b4]; exact IntWalk.i64_in _ (by omega)
              have w4 : IntKind.i64.wrap ((N : Int) - 1) = (N : Int) - 1 := IntWalk.i64_in _ (by omega)
              have w6 : IntKind.i64.wrap (x - y) = x - y := IntWalk.i64_in _ (by omega)
              have w7 : IntKind.i64.wrap (2 * y) = 2 * y := IntWalk.i64_in _ (by omega)
              have w8 : IntKind.i64.wrap (2 * y + 1) = 2 * y + 1 := IntWalk.i64_in _ (by omega)
              have w5 : IntKind.i64.wrap ((N : Int) - 1 - ((j : Int) + 1)) = ((N - 1 - (j + 1) : Nat) : Int) := by rw [IntWalk.i64_in _ (by omega)]; omega
              have hj : ((N - 1 - (j + 1) : Nat) : Int) < (N : Int) := by omega
              have hj0 : (0 : Int) ≤ ((N - 1 - (j + 1) : Nat) : Int) := by omega
              generalize N - 1 - (j + 1) = J at *
              have hz1 : (0 : Int) < (j : Int) + 1 := by omega
              obtain ⟨z, t, R2⟩ := LE.out j (by omega)
              have hzx := R.before j z t rfl R2.row
              have hzx' : decide (x ≤ z) = false := decide_eq_false (by omega)
              obtain ⟨g', o', g3, o3, eq, _, hg3, e0, e1, _⟩ := rows_two hap hb.size (k := j) (by omega) (row_of R2.row)
              injection eq with eq
              injection eq with q1 q2 _
              subst q1
              subst q2
              have w9 : IntKind.i64.wrap ((j : Int) + 1 - 1) = (j : Int) := by rw [IntWalk.i64_in _ (by omega)]; omega
              have hj1 : (j : Int) < (N : Int) := by omega
              have hj2 : (0 : Int) ≤ (j : Int) := by omega
              generalize cfa j = cj at e0
              clear R R2
              generalize cfa (j + 1) = ck at c0
              clear b4 b5 b6 ho hod hap
              go_wp2
              go_big_quiet (fail)
              replace c1 := cell_drewN c1 nq
              replace c2 := cell_drewN c2 nq
              replace d0 := cell_drewN d0 nq
              replace d1 := cell_drewN d1 nq
              have hgs1 : g1 < (wr.drewN nq).heap.size := hg1
              have hgs2 : g2 < (wr.drewN nq).heap.size := hg2
              have hbs := below_drewN hb nq
              generalize wr.drewN nq = ws at c1 c2 d0 d1 hgs1 hgs2 hbs ⊢
              clear hb c0 hg hg1 hg2
              go_wp2
              go_big_quiet (fail)
              go_wp2
              go_roundw
              case rel => exact ⟨(j + 1) + 1, by omega, by go_num, below_drewN (hbs.alloc hbs.size _) _⟩
              case measure => simp [intOf]; omega
            · have hki : ¬ (j : Int) + 1 < (N : Int) := by omega
              go_wp2
              refine Met.intro ?_
              go_step
              refine MeetH.of ?_ ?_
              · exact hb
              repeat (first | refine Agr.skip ?_ | refine Agr.keep ?_ | exact Agr.nil)
      intro u15 v15 hb1
      replace hy' := hy'.on hb1
      replace Oa := Oa.on hb1
      replace Od := Od.on hb1
      replace Or := Or.on hb1
      replace HB := below_go HB HBs hb1
      clear hb1
      as_aux_lemma =>
      simp only [fillH]
      clear Oa Od
      go_upto_block 2 with fail
      refine wp_cut (MeetH [.inr 0, .inl (.slice B' m' c'), .inr 2, .inr 3, .inr 4, .inr 5, .inr 6, .inr 7, .inr 8, .inr 9, .inr 10, .inr 11, .inr 12, .inr 13, .inr 14, .inr 15, .inr 16, .inr 17, .inl (.slice Ar M cr), .inr 19, .inr 20, .inr 21, .inl (.int .i64 (msA n)), .inl (.int .i64 (msB n)), .inr 24, .inr 25, .inr 26, .inr 27, .inr 28, .inr 29, .inr 30, .inr 31, .inr 32, .inr 33, .inr 34, .inr 35, .inr 36, .inr 37, .inr 38, .inr 39, .inr 40, .inr 41, .inr 42, .inr 43, .inr 44, .inr 45, .inr 46, .inr 47, .inr 48, .inr 49, .inr 50, .inr 51, .inr 52, .inr 53, .inr 54, .inr 55, .inr 56, .inr 57, .inr 58, .inr 59, .inr 60, .inr 61, .inr 62, .inr 63, .inr 64, .inr 65, .inr 66, .inr 67, .inr 68, .inr 69, .inr 70, .inr 71, .inr 72, .inr 73, .inr 74, .inr 75, .inr 76, .inr 77, .inr 78, .inr 79, .inr 80, .inr 81, .inr 82, .inr 83, .inr 84, .inr 85, .inr 86, .inr 87, .inr 88, .inr 89, .inr 90, .inr 91, .inr 92, .inr 93, .inr 94, .inr 95, .inr 96, .inr 97, .inr 98, .inr 99, .inr 100, .inr 101, .inr 102, .inr 103, .inr 104, .inr 105, .inr 106, .inr 107, .inr 108, .inr 109, .inr 110, .inr 111, .inr 112, .inr 113, .inr 114, .inr 115, .inr 116, .inr 117, .inr 118, .inr 119, .inr 120, .inr 121, .inr 122, .inr 123, .inr 124, .inr 125, .inr 126, .inr 127, .inr 128, .inr 129, .inr 130, .inr 131, .inr 132, .inr 133, .inr 134, .inr 135, .inr 136, .inr 137, .inr 138, .inr 139, .inr 140, .inr 141, .inr 142, .inr 143, .inr 144, .inr 145, .inr 146, .inr 147, .inr 148, .inr 149, .inr 150, .inr 151, .inr 152, .inr 153, .inr 154, .inr 155, .inr 156, .inr 157, .inr 158, .inr 159, .inr 160, .inr 161, .inr 162, .inr 163, .inr 164, .inr 165, .inr 166, .inr 167, .inr 168, .inr 169, .inr 170, .inr 171, .inr 172, .inr 173, .inr 174, .inr 175, .inr 176, .inr 177, .inr 178, .inr 179, .inr 180, .inr 181, .inr 182, .inr 183, .inr 184, .inr 185, .inr 186, .inr 187, .inr 188, .inr 189, .inr 190, .inr 191, .inr 192, .inr 193, .inr 194, .inr 195, .inr 196, .inr 197, .inr 198, .inr 199, .inr 200, .inr 201, .inr 202, .inr 203, .inr 204, .inr 205, .inr 206, .inr 207, .inr 208, .inr 209, .inr 210, .inr 211, .inr 212, .inr 213, .inr 214, .inr 215, .inr 216, .inr 217, .inr 218, .inr 219, .inr 220, .inr 221, .inr 222, .inr 223, .inr 224, .inr 225, .inr 226, .inr 227, .inr 228, .inr 229, .inr 230, .inr 231, .inr 232, .inr 233, .inr 234, .inr 235, .inr 236, .inr 237, .inr 238, .inr 239, .inr 240, .inr 241, .inr 242, .inr 243, .inr 244, .inr 245, .inr 246, .inr 247, .inr 248, .inr 249, .inr 250, .inr 251, .inr 252, .inr 253, .inr 254, .inr 255, .inr 256, .inr 257, .inr 258, .inr 259, .inr 260, .inr 261, .inr 262, .inr 263, .inr 264, .inr 265, .inr 266, .inr 267, .inr 268, .inr 269, .inr 270, .inr 271, .inr 272, .inr 273, .inr 274, .inr 275, .inr 276, .inr 277, .inr 278, .inr 279, .inr 280, .inr 281, .inr 282, .inr 283, .inr 284, .inr 285, .inr 286, .inr 287, .inr 288, .inr 289, .inr 290, .inr 291, .inr 292, .inr 293, .inr 294, .inr 295, .inr 296, .inr 297, .inr 298, .inr 299, .inr 300, .inr 301, .inr 302, .inr 303, .inr 304, .inr 305, .inr 306, .inr 307, .inr 308, .inr 309, .inr 310, .inr 311, .inr 312, .inr 313, .inr 314, .inr 315, .inr 316, .inr 317, .inr 318, .inr 319, .inr 320, .inr 321, .inr 322, .inr 323, .inr 324, .inr 325, .inr 326, .inr 327, .inr 328, .inr 329, .inr 330, .inr 331, .inr 332, .inr 333, .inr 334, .inr 335, .inr 336, .inr 337, .inr 338, .inr 339, .inr 340, .inr 341, .inr 342, .inr 343, .inr 344, .inr 345, .inr 346, .inr 347, .inr 348, .inr 349, .inr 350, .inr 351, .inr 352, .inr 353, .inr 354, .inr 355, .inr 356, .inr 357, .inr 358, .inr 359, .inr 360, .inr 361, .inr 362, .inr 363, .inr 364, .inr 365, .inr 366, .inr 367, .inr 368, .inr 369, .inr 370, .inr 371, .inr 372, .inr 373, .inr 374, .inr 375, .inr 376, .inr 377, .inr 378, .inr 379, .inr 380, .inr 381, .inr 382, .inr 383, .inr 384, .inr 385, .inr 386, .inr 387, .inr 388, .inr 389, .inr 390, .inr 391, .inr 392, .inr 393, .inr 394, .inr 395, .inr 396, .inr 397, .inr 398, .inr 399, .inr 400, .inr 401, .inr 402, .inr 403, .inr 404, .inr 405, .inr 406, .inr 407, .inr 408, .inr 409, .inr 410, .inr 411, .inr 412, .inr 413, .inr 414, .inr 415, .inr 416, .inr 417, .inr 418, .inr 419, .inr 420, .inr 421, .inr 422, .inr 423, .inr 424, .inr 425, .inr 426, .inr 427, .inr 428, .inr 429, .inr 430, .inr 431, .inr 432, .inr 433, .inr 434, .inr 435, .inr 436, .inr 437, .inr 438, .inr 439, .inr 440, .inr 441, .inr 442, .inr 443, .inr 444, .inr 445, .inr 446, .inr 447, .inr 448, .inr 449, .inr 450, .inr 451, .inr 452, .inr 453, .inr 454, .inr 455, .inr 456, .inr 457, .inr 458, .inr 459, .inr 460, .inr 461, .inr 462, .inr 463, .inr 464, .inr 465, .inr 466, .inr 467, .inr 468, .inr 469, .inr 470, .inr 471, .inr 472, .inr 473, .inr 474, .inr 475, .inr 476, .inr 477, .inr 478, .inr 479, .inr 480] (fun wx => Below v15.heap.size v15 wx)) (MeetH.go _ (by rfl) ?_) ?_
      rotate_left
      · intro _ _ _ _
        as_aux_lemma =>
        clear HB HBs
        have HB : Below v15.heap.size v15 v15 := Below.refl _ _
        have HBs : v15.heap.size ≤ v15.heap.size := Nat.le_refl _
        have HR := Lib.hid Or
        clear Or rl rf LE HL HM
        go_wp2_with fail
        go_loopw [295] (fun i wr => ∃ k : Nat, k ≤ M ∧ i = .int .i64 k ∧ Below v15.heap.size v15 wr) (fun i _ => M - (intOf i).toNat)
        case atStart => exact ⟨0, Nat.zero_le _, rfl, Below.refl _ _⟩
        case round =>
          obtain ⟨k, hk, rfl, hb⟩ := hrel
          rcases k with _ | j
          · simp only [Int.natCast_zero]
            have hN : (0 : Int) < (M : Int) := by omega
            obtain ⟨x, y, R⟩ := LR.out 0 (by omega)
            have hap := HR.out.below hb (Nat.le_refl _)
            obtain ⟨g, o, g1, o1, rfl, hg, hg1, c0, c1, c2⟩ := rows_two hap hb.size (k := 0) (by omega) (row_of R.row)
            have b4 := R.mul
            have b1' : decide (y < x) = false := decide_eq_false (by have := R.le; omega)
            have w1 : IntKind.i64.wrap (x * y) = n := by rw [b4]; exact IntWalk.i64_in _ (by omega)
            rw [Nat.add_zero] at c0
            clear R b4 hap
            generalize cfr 0 = ck at c0
            go_wp2
            go_big_quiet (fail)
            go_wp2
            go_roundw
            case rel => exact ⟨0 + 1, by omega, by go_num, below_drewN hb _⟩
            case measure => simp [intOf]; omega
          · simp only [Int.natCast_add, Int.natCast_one]
            by_cases hlt : j + 1 < M
            · have hki : (j : Int) + 1 < (M : Int) := by omega
              obtain ⟨x, y, R⟩ := LR.out (j + 1) (by omega)
              have hap := HR.out.below hb (Nat.le_refl _)
              obtain ⟨g, o, g1, o1, rfl, hg, hg1, c0, c1, c2⟩ := rows_two hap hb.size (k := (j + 1)) (by omega) (row_of R.row)
              have b4 := R.mul
              have b1' : decide (y < x) = false := decide_eq_false (by have := R.le; omega)
              have w1 : IntKind.i64.wrap (x * y) = n := by rw [b4]; exact IntWalk.i64_in _ (by omega)
              have hz1 : (0 : Int) < (j : Int) + 1 := by omega
              obtain ⟨z, t, R2⟩ := LR.out j (by omega)
              have hzx := R.before j z t rfl R2.row
              have hzx' : decide (x ≤ z) = false := decide_eq_false (by omega)
              obtain ⟨g', o', g3, o3, eq, _, hg3, e0, e1, _⟩ := rows_two hap hb.size (k := j) (by omega) (row_of R2.row)
              injection eq with eq
              injection eq with q1 q2 _
              subst q1
              subst q2
              have w9 : IntKind.i64.wrap ((j : Int) + 1 - 1) = (j : Int) := by rw [IntWalk.i64_in _ (by omega)]; omega
              have hj1 : (j : Int) < (M : Int) := by omega
              have hj2 : (0 : Int) ≤ (j : Int) := by omega
              generalize cfr j = cj at e0
              clear R R2 b4 hap
              generalize cfr (j + 1) = ck at c0
              go_wp2
              go_big_quiet (fail)
              go_wp2
              go_roundw
              case rel => exact ⟨(j + 1) + 1, by omega, by go_num, below_drewN hb _⟩
              case measure => simp [intOf]; omega
            · have hki : ¬ (j : Int) + 1 < (M : Int) := by omega
              go_wp2
              refine Met.intro ?_
              go_step
              refine MeetH.of ?_ ?_
              · exact hb
              repeat (first | refine Agr.skip ?_ | refine Agr.keep ?_ | exact Agr.nil)
      intro u16 v16 hb1
      replace hy' := hy'.on hb1
      replace Or := Or.on hb1
      replace HB := below_go HB HBs hb1
      clear hb1
      as_aux_lemma =>
      simp only [fillH]
      obtain ⟨yy, hy1⟩ := rf
      obtain ⟨g, o, g1, o1, rfl, hg, hg1, c0, c1, c2⟩ := rows_two Or (Nat.le_refl _) (k := M - 1) (by omega) (row_of rl)
      obtain ⟨g', o', g3, o3, eq, _, hg3, e0, e1, _⟩ := rows_two Or (Nat.le_refl _) (k := 0) (by omega) (row_of hy1)
      injection eq with eq
      injection eq with q1 q2 _
      subst q1
      subst q2
      rw [Nat.add_zero] at e0
      have w1 : IntKind.i64.wrap ((M : Int) - 1) = ((M - 1 : Nat) : Int) := by rw [IntWalk.i64_in _ (by omega)]; omega
      have hj : ((M - 1 : Nat) : Int) < (M : Int) := by omega
      have hj0 : (0 : Int) ≤ ((M - 1 : Nat) : Int) := by omega
      have hM0 : (0 : Int) < (M : Int) := by omega
      clear rl hy1
      generalize M - 1 = J at *
      generalize cfr J = cj at c0
      generalize cfr 0 = cz at e0
      go_wp2_with fail
      refine Met.intro ?_
      go_step
      refine MeetH.of ?_ ?_
      · exact HB
      repeat (first | refine Agr.skip ?_ | refine Agr.keep ?_ | exact Agr.nil)
    · simp only [h]
      go_wp2_with fail
      refine Met.intro ?_
      go_step
      refine MeetH.of ?_ ?_
      · exact HB
      repeat (first | refine Agr.skip ?_ | refine Agr.keep ?_ | exact Agr.nil)
  intro u17 v17 hb1
  replace hy' := hy'.on hb1
  replace Oa := Oa.on hb1
  replace Od := Od.on hb1
  replace Or := Or.on hb1
  replace HB := below_go HB HBs hb1
  clear hb1
  as_aux_lemma =>
  simp only [fillH]
  clear Oa Od Or
  clear hsm
  go_wp2_with fail
  refine (DrawCubeAsOdds_any B' m' c' _ hy' (by omega)).mono ?_
  rintro e v18 ⟨⟨k, rfl⟩, hb1⟩
  replace hy' := hy'.on hb1
  replace HB := below_go HB HBs hb1
  clear hb1
  go_wp2_with fail
  refine (impl_CubeAsOdds_any k _).mono ?_
  rintro e v19 ⟨rfl, hb1⟩
  replace hy' := hy'.on hb1
  replace HB := below_go HB HBs hb1
  clear hb1
  go_wp2_with fail
  have hb1 := below_on (w := v19) (.cells #[.int .i64 (qbF k), .int .i64 (qbK k)] 36)
  have K1 := box_at v19 (qbF k) (qbK k) 36
  replace hy' := hy'.on hb1
  replace HB := below_go HB HBs hb1
  generalize hw1 : v19.alloc (.cells #[.int .i64 (qbF k), .int .i64 (qbK k)] 36) = v20 at hy' K1 HB ⊢
  generalize hR1 : v19.heap.size = RK1 at K1 ⊢
  clear hb1 hw1 hR1
  refine (spec_CubeAsOdds_any k _).mono ?_
  rintro e v21 ⟨rfl, hb1⟩
  replace K1 := K1.on hb1
  replace hy' := hy'.on hb1
  replace HB := below_go HB HBs hb1
  clear hb1
  go_wp2_with fail
  have hb1 := below_on (w := v21) (.cells #[.int .i64 (qbF k), .int .i64 (qbK k)] 36)
  have K2 := box_at v21 (qbF k) (qbK k) 36
  replace K1 := K1.on hb1
  replace hy' := hy'.on hb1
  replace HB := below_go HB HBs hb1
  generalize hw1 : v21.alloc (.cells #[.int .i64 (qbF k), .int .i64 (qbK k)] 36) = v22 at K1 hy' K2 HB ⊢
  generalize hR1 : v21.heap.size = RK2 at K2 ⊢
  clear hb1 hw1 hR1
  refine (DrawPowerAsOdds_any B' m' c' _ hy' (by omega)).mono ?_
  rintro e v23 ⟨⟨m, e, rfl⟩, hb1⟩
  replace K1 := K1.on hb1
  replace K2 := K2.on hb1
  replace hy' := hy'.on hb1
  replace HB := below_go HB HBs hb1
  clear hb1
  clear hy'
  go_wp2_with fail
  refine (impl_PowerAsOdds_any m e _).mono ?_
  rintro e v24 ⟨rfl, hb1⟩
  replace K1 := K1.on hb1
  replace K2 := K2.on hb1
  replace HB := below_go HB HBs hb1
  clear hb1
  go_wp2_with fail
  have hb1 := below_on (w := v24) (.cells #[.int .i64 (pwF m e), .int .i64 (pwK m e)] 36)
  have K3 := box_at v24 (pwF m e) (pwK m e) 36
  replace K1 := K1.on hb1
  replace K2 := K2.on hb1
  replace HB := below_go HB HBs hb1
  generalize hw1 : v24.alloc (.cells #[.int .i64 (pwF m e), .int .i64 (pwK m e)] 36) = v25 at K1 K2 K3 HB ⊢
  generalize hR1 : v24.heap.size = RK3 at K3 ⊢
  clear hb1 hw1 hR1
  refine (spec_PowerAsOdds_any m e _).mono ?_
  rintro e v26 ⟨rfl, hb1⟩
  replace K1 := K1.on hb1
  replace K2 := K2.on hb1
  replace K3 := K3.on hb1
  replace HB := below_go HB HBs hb1
  clear hb1
  go_upto_region 43 with fail
  have hb1 := below_on (w := v26) (.cells #[.int .i64 (pwF m e), .int .i64 (pwK m e)] 36)
  have K4 := box_at v26 (pwF m e) (pwK m e) 36
  replace K1 := K1.on hb1
  replace K2 := K2.on hb1
  replace K3 := K3.on hb1
  replace HB := below_go HB HBs hb1
  generalize hw1 : v26.alloc (.cells #[.int .i64 (pwF m e), .int .i64 (pwK m e)] 36) = v27 at K1 K2 K3 K4 HB ⊢
  generalize hR1 : v26.heap.size = RK4 at K4 ⊢
  clear hb1 hw1 hR1
  have K1_0 := K1.c0
  have K1_1 := K1.c1
  have K1_z := K1.z
  have K2_0 := K2.c0
  have K2_1 := K2.c1
  have K2_z := K2.z
  have K3_0 := K3.c0
  have K3_1 := K3.c1
  have K3_z := K3.z
  have K4_0 := K4.c0
  have K4_1 := K4.c1
  have K4_z := K4.z
  go_upto_region 45 with fail
  clear K1_0 K1_1 K1_z K2_0 K2_1 K2_z K3_0 K3_1 K3_z K4_0 K4_1 K4_z
  clear K2 K4
  refine wp_cut (MeetH [.inr 0, .inr 1, .inr 2, .inr 3, .inr 4, .inr 5, .inr 6, .inr 7, .inr 8, .inr 9, .inr 10, .inr 11, .inr 12, .inr 13, .inr 14, .inr 15, .inr 16, .inr 17, .inr 18, .inr 19, .inr 20, .inr 21, .inr 22, .inr 23, .inr 24, .inr 25, .inr 26, .inr 27, .inr 28, .inr 29, .inr 30, .inr 31, .inr 32, .inr 33, .inr 34, .inr 35, .inr 36, .inr 37, .inr 38, .inl (.int .i64 (m)), .inl (.int .i64 (e)), .inl (.pointer (some ⟨RK3, 0, none⟩)), .inl (.bool (pwB m e)), .inr 43, .inr 44, .inr 45, .inr 46, .inr 47, .inr 48, .inr 49, .inr 50, .inr 51, .inr 52, .inr 53, .inr 54, .inr 55, .inr 56, .inr 57, .inr 58, .inr 59, .inr 60, .inr 61, .inr 62, .inr 63, .inr 64, .inr 65, .inr 66, .inr 67, .inr 68, .inr 69, .inr 70, .inr 71, .inr 72, .inr 73, .inr 74, .inr 75, .inr 76, .inr 77, .inr 78, .inr 79, .inr 80, .inr 81, .inr 82, .inr 83, .inr 84, .inr 85, .inr 86, .inr 87, .inr 88, .inr 89, .inr 90, .inr 91, .inr 92, .inr 93, .inr 94, .inr 95, .inr 96, .inr 97, .inr 98, .inr 99, .inr 100, .inr 101, .inr 102, .inr 103, .inr 104, .inr 105, .inr 106, .inr 107, .inr 108, .inr 109, .inr 110, .inr 111, .inr 112, .inr 113, .inr 114, .inr 115, .inr 116, .inr 117, .inr 118, .inr 119, .inr 120, .inr 121, .inr 122, .inr 123, .inr 124, .inr 125, .inr 126, .inr 127, .inr 128, .inr 129, .inr 130, .inr 131, .inr 132, .inr 133, .inr 134, .inr 135, .inr 136, .inr 137, .inr 138, .inr 139, .inr 140, .inr 141, .inr 142, .inr 143, .inr 144, .inr 145, .inr 146, .inr 147, .inr 148, .inr 149, .inr 150, .inr 151, .inr 152, .inr 153, .inr 154, .inr 155, .inr 156, .inr 157, .inr 158, .inr 159, .inr 160, .inr 161, .inr 162, .inr 163, .inr 164, .inr 165, .inr 166, .inr 167, .inr 168, .inr 169, .inr 170, .inr 171, .inr 172, .inr 173, .inr 174, .inr 175, .inr 176, .inr 177, .inr 178, .inr 179, .inr 180, .inr 181, .inr 182, .inr 183, .inr 184, .inr 185, .inr 186, .inr 187, .inr 188, .inr 189, .inr 190, .inr 191, .inr 192, .inr 193, .inr 194, .inr 195, .inr 196, .inr 197, .inr 198, .inr 199, .inr 200, .inr 201, .inr 202, .inr 203, .inr 204, .inr 205, .inr 206, .inr 207, .inr 208, .inr 209, .inr 210, .inr 211, .inr 212, .inr 213, .inr 214, .inr 215, .inr 216, .inr 217, .inr 218, .inr 219, .inr 220, .inr 221, .inr 222, .inr 223, .inr 224, .inr 225, .inr 226, .inr 227, .inr 228, .inr 229, .inr 230, .inr 231, .inr 232, .inr 233, .inr 234, .inr 235, .inr 236, .inr 237, .inr 238, .inr 239, .inr 240, .inr 241, .inr 242, .inr 243, .inr 244, .inr 245, .inr 246, .inr 247, .inr 248, .inr 249, .inr 250, .inr 251, .inr 252, .inr 253, .inr 254, .inr 255, .inr 256, .inr 257, .inr 258, .inr 259, .inr 260, .inr 261, .inr 262, .inr 263, .inr 264, .inr 265, .inr 266, .inr 267, .inr 268, .inr 269, .inr 270, .inr 271, .inr 272, .inr 273, .inr 274, .inr 275, .inr 276, .inr 277, .inr 278, .inr 279, .inr 280, .inr 281, .inr 282, .inr 283, .inr 284, .inr 285, .inr 286, .inr 287, .inr 288, .inr 289, .inr 290, .inr 291, .inr 292, .inr 293, .inr 294, .inr 295, .inr 296, .inr 297, .inr 298, .inr 299, .inr 300, .inr 301, .inr 302, .inr 303, .inr 304, .inr 305, .inr 306, .inr 307, .inr 308, .inr 309, .inr 310, .inr 311, .inr 312, .inr 313, .inr 314, .inr 315, .inr 316, .inr 317, .inr 318, .inr 319, .inr 320, .inr 321, .inr 322, .inr 323, .inr 324, .inr 325, .inr 326, .inr 327, .inr 328, .inr 329, .inr 330, .inr 331, .inr 332, .inr 333, .inr 334, .inr 335, .inr 336, .inr 337, .inr 338, .inr 339, .inr 340, .inr 341, .inr 342, .inr 343, .inr 344, .inr 345, .inr 346, .inr 347, .inr 348, .inr 349, .inr 350, .inr 351, .inr 352, .inr 353, .inr 354, .inr 355, .inr 356, .inr 357, .inr 358, .inr 359, .inr 360, .inr 361, .inr 362, .inr 363, .inr 364, .inr 365, .inr 366, .inr 367, .inr 368, .inr 369, .inr 370, .inr 371, .inr 372, .inr 373, .inr 374, .inr 375, .inr 376, .inr 377, .inr 378, .inr 379, .inr 380, .inr 381, .inr 382, .inr 383, .inr 384, .inr 385, .inr 386, .inr 387, .inr 388, .inr 389, .inr 390, .inr 391, .inr 392, .inr 393, .inr 394, .inr 395, .inr 396, .inr 397, .inr 398, .inr 399, .inr 400, .inr 401, .inr 402, .inr 403, .inr 404, .inr 405, .inr 406, .inr 407, .inr 408, .inr 409, .inr 410, .inr 411, .inr 412, .inr 413, .inr 414, .inr 415, .inr 416, .inr 417, .inr 418, .inr 419, .inr 420, .inr 421, .inr 422, .inr 423, .inr 424, .inr 425, .inr 426, .inr 427, .inr 428, .inr 429, .inr 430, .inr 431, .inr 432, .inr 433, .inr 434, .inr 435, .inr 436, .inr 437, .inr 438, .inr 439, .inr 440, .inr 441, .inr 442, .inl (.bool false), .inr 444, .inr 445, .inr 446, .inr 447, .inr 448, .inr 449, .inr 450, .inr 451, .inr 452, .inr 453, .inr 454, .inr 455, .inr 456, .inr 457, .inr 458, .inr 459, .inr 460, .inr 461, .inr 462, .inr 463, .inr 464, .inr 465, .inr 466, .inr 467, .inr 468, .inr 469, .inr 470, .inr 471, .inr 472, .inr 473, .inr 474, .inr 475, .inr 476, .inr 477, .inr 478, .inr 479, .inr 480] (fun wx => Below v27.heap.size v27 wx)) (MeetH.go _ (by rfl) ?_) ?_
  rotate_left
  · intro _ _ _ _
    as_aux_lemma =>
    clear HB HBs
    have HB : Below v27.heap.size v27 v27 := Below.refl _ _
    have HBs : v27.heap.size ≤ v27.heap.size := Nat.le_refl _
    rcases Bool.eq_false_or_eq_true (qbB k) with h | h
    · simp only [h]
      have q := qbs_of h
      have k1 := q.k1
      have k2 := q.k2
      have kk := q.kk
      have f1 := q.f
      have f2 := q.kf
      have f3 := q.k3
      have f4 := q.kkk
      have f5 := q.k4
      have s1 : (qbF k).tmod 2 = 1 := by rw [Int.tmod_eq_emod_of_nonneg (by omega)]; exact q.odd
      have s2 : IntKind.i64.wrap (k * qbF k) = k * qbF k := IntWalk.i64_in _ (by omega)
      have s3 : IntKind.i64.wrap (k - 1) = k - 1 := IntWalk.i64_in _ (by omega)
      have s4 : IntKind.i64.wrap (k * (k - 1)) = k * (k - 1) := IntWalk.i64_in _ (by omega)
      have s5 : IntKind.i64.wrap (k * qbF k + k * (k - 1)) = k * k * k := by rw [q.eq]; exact IntWalk.i64_in _ (by omega)
      have s6 : IntKind.i64.wrap (k * k) = k * k := IntWalk.i64_in _ (by omega)
      have s7 : IntKind.i64.wrap (k * k * k) = k * k * k := IntWalk.i64_in _ (by omega)
      clear q f1 f2 f3 f4 f5
      have K1_0 := K1.c0
      have K1_1 := K1.c1
      have K1_z := K1.z
      go_wp2_with fail
      refine Met.intro ?_
      go_step
      refine MeetH.of ?_ ?_
      · exact HB
      repeat (first | refine Agr.skip ?_ | refine Agr.keep ?_ | exact Agr.nil)
    · simp only [h]
      go_wp2_with fail
      refine Met.intro ?_
      go_step
      refine MeetH.of ?_ ?_
      · exact HB
      repeat (first | refine Agr.skip ?_ | refine Agr.keep ?_ | exact Agr.nil)
  intro u28 v28 hb1
  replace K1 := K1.on hb1
  replace K3 := K3.on hb1
  replace HB := below_go HB HBs hb1
  clear hb1
  as_aux_lemma =>
  simp only [fillH]
  clear K1
  go_upto_if 444 with fail
  rcases Bool.eq_false_or_eq_true (pwB m e) with h | h
  · simp only [h]
    have q := pws_of h
    have m1 := q.m1
    have m2 := q.m2
    have e1 := q.e1
    have e2 := q.e2
    obtain ⟨E, rfl⟩ : ∃ E : Nat, e = (E : Int) := ⟨e.toNat, by omega⟩
    have hq := q.eq
    rw [Int.toNat_natCast] at hq
    go_upto_block 4 with fail
    refine wp_cut (MeetH [.inr 0, .inr 1, .inr 2, .inr 3, .inr 4, .inr 5, .inr 6, .inr 7, .inr 8, .inr 9, .inr 10, .inr 11, .inr 12, .inr 13, .inr 14, .inr 15, .inr 16, .inr 17, .inr 18, .inr 19, .inr 20, .inr 21, .inr 22, .inr 23, .inr 24, .inr 25, .inr 26, .inr 27, .inr 28, .inr 29, .inr 30, .inr 31, .inr 32, .inr 33, .inr 34, .inr 35, .inr 36, .inr 37, .inr 38, .inl (.int .i64 (m)), .inr 40, .inl (.pointer (some ⟨RK3, 0, none⟩)), .inr 42, .inr 43, .inr 44, .inl (.int .i64 (m ^ E)), .inr 46, .inr 47, .inr 48, .inr 49, .inr 50, .inr 51, .inr 52, .inr 53, .inr 54, .inr 55, .inr 56, .inr 57, .inr 58, .inr 59, .inr 60, .inr 61, .inr 62, .inr 63, .inr 64, .inr 65, .inr 66, .inr 67, .inr 68, .inr 69, .inr 70, .inr 71, .inr 72, .inr 73, .inr 74, .inr 75, .inr 76, .inr 77, .inr 78, .inr 79, .inr 80, .inr 81, .inr 82, .inr 83, .inr 84, .inr 85, .inr 86, .inr 87, .inr 88, .inr 89, .inr 90, .inr 91, .inr 92, .inr 93, .inr 94, .inr 95, .inr 96, .inr 97, .inr 98, .inr 99, .inr 100, .inr 101, .inr 102, .inr 103, .inr 104, .inr 105, .inr 106, .inr 107, .inr 108, .inr 109, .inr 110, .inr 111, .inr 112, .inr 113, .inr 114, .inr 115, .inr 116, .inr 117, .inr 118, .inr 119, .inr 120, .inr 121, .inr 122, .inr 123, .inr 124, .inr 125, .inr 126, .inr 127, .inr 128, .inr 129, .inr 130, .inr 131, .inr 132, .inr 133, .inr 134, .inr 135, .inr 136, .inr 137, .inr 138, .inr 139, .inr 140, .inr 141, .inr 142, .inr 143, .inr 144, .inr 145, .inr 146, .inr 147, .inr 148, .inr 149, .inr 150, .inr 151, .inr 152, .inr 153, .inr 154, .inr 155, .inr 156, .inr 157, .inr 158, .inr 159, .inr 160, .inr 161, .inr 162, .inr 163, .inr 164, .inr 165, .inr 166, .inr 167, .inr 168, .inr 169, .inr 170, .inr 171, .inr 172, .inr 173, .inr 174, .inr 175, .inr 176, .inr 177, .inr 178, .inr 179, .inr 180, .inr 181, .inr 182, .inr 183, .inr 184, .inr 185, .inr 186, .inr 187, .inr 188, .inr 189, .inr 190, .inr 191, .inr 192, .inr 193, .inr 194, .inr 195, .inr 196, .inr 197, .inr 198, .inr 199, .inr 200, .inr 201, .inr 202, .inr 203, .inr 204, .inr 205, .inr 206, .inr 207, .inr 208, .inr 209, .inr 210, .inr 211, .inr 212, .inr 213, .inr 214, .inr 215, .inr 216, .inr 217, .inr 218, .inr 219, .inr 220, .inr 221, .inr 222, .inr 223, .inr 224, .inr 225, .inr 226, .inr 227, .inr 228, .inr 229, .inr 230, .inr 231, .inr 232, .inr 233, .inr 234, .inr 235, .inr 236, .inr 237, .inr 238, .inr 239, .inr 240, .inr 241, .inr 242, .inr 243, .inr 244, .inr 245, .inr 246, .inr 247, .inr 248, .inr 249, .inr 250, .inr 251, .inr 252, .inr 253, .inr 254, .inr 255, .inr 256, .inr 257, .inr 258, .inr 259, .inr 260, .inr 261, .inr 262, .inr 263, .inr 264, .inr 265, .inr 266, .inr 267, .inr 268, .inr 269, .inr 270, .inr 271, .inr 272, .inr 273, .inr 274, .inr 275, .inr 276, .inr 277, .inr 278, .inr 279, .inr 280, .inr 281, .inr 282, .inr 283, .inr 284, .inr 285, .inr 286, .inr 287, .inr 288, .inr 289, .inr 290, .inr 291, .inr 292, .inr 293, .inr 294, .inr 295, .inr 296, .inr 297, .inr 298, .inr 299, .inr 300, .inr 301, .inr 302, .inr 303, .inr 304, .inr 305, .inr 306, .inr 307, .inr 308, .inr 309, .inr 310, .inr 311, .inr 312, .inr 313, .inr 314, .inr 315, .inr 316, .inr 317, .inr 318, .inr 319, .inr 320, .inr 321, .inr 322, .inr 323, .inr 324, .inr 325, .inr 326, .inr 327, .inr 328, .inr 329, .inr 330, .inr 331, .inr 332, .inr 333, .inr 334, .inr 335, .inr 336, .inr 337, .inr 338, .inr 339, .inr 340, .inr 341, .inr 342, .inr 343, .inr 344, .inr 345, .inr 346, .inr 347, .inr 348, .inr 349, .inr 350, .inr 351, .inr 352, .inr 353, .inr 354, .inr 355, .inr 356, .inr 357, .inr 358, .inr 359, .inr 360, .inr 361, .inr 362, .inr 363, .inr 364, .inr 365, .inr 366, .inr 367, .inr 368, .inr 369, .inr 370, .inr 371, .inr 372, .inr 373, .inr 374, .inr 375, .inr 376, .inr 377, .inr 378, .inr 379, .inr 380, .inr 381, .inr 382, .inr 383, .inr 384, .inr 385, .inr 386, .inr 387, .inr 388, .inr 389, .inr 390, .inr 391, .inr 392, .inr 393, .inr 394, .inr 395, .inr 396, .inr 397, .inr 398, .inr 399, .inr 400, .inr 401, .inr 402, .inr 403, .inr 404, .inr 405, .inr 406, .inr 407, .inr 408, .inr 409, .inr 410, .inr 411, .inr 412, .inr 413, .inr 414, .inr 415, .inr 416, .inr 417, .inr 418, .inr 419, .inr 420, .inr 421, .inr 422, .inr 423, .inr 424, .inr 425, .inr 426, .inr 427, .inr 428, .inr 429, .inr 430, .inr 431, .inr 432, .inr 433, .inr 434, .inr 435, .inr 436, .inr 437, .inr 438, .inr 439, .inr 440, .inr 441, .inr 442, .inr 443, .inr 444, .inr 445, .inr 446, .inr 447, .inr 448, .inr 449, .inr 450, .inr 451, .inr 452, .inr 453, .inr 454, .inr 455, .inr 456, .inr 457, .inr 458, .inr 459, .inr 460, .inr 461, .inr 462, .inr 463, .inr 464, .inr 465, .inr 466, .inr 467, .inr 468, .inr 469, .inr 470, .inr 471, .inr 472, .inr 473, .inr 474, .inr 475, .inr 476, .inr 477, .inr 478, .inr 479, .inr 480] (fun wx => Below v28.heap.size v28 wx)) (MeetH.go _ (by rfl) ?_) ?_
    rotate_left
    · intro _ _ _ _
      as_aux_lemma =>
      clear HB HBs
      have HB : Below v28.heap.size v28 v28 := Below.refl _ _
      have HBs : v28.heap.size ≤ v28.heap.size := Nat.le_refl _
      clear hq q h
      have HP := Lib.hid fun j => pow_in m m1 m2 j
      clear m1 m2
      go_wp2_with fail
      go_loopw [45, 46] (fun v i wr => ∃ j : Nat, j ≤ E ∧ i = .int .i64 j ∧ v = .int .i64 (m ^ j) ∧ wr = v28) (fun _ i _ => E - (intOf i).toNat)
      case atStart => exact ⟨0, Nat.zero_le _, rfl, by simp, rfl⟩
      case round =>
        obtain ⟨j, hj, rfl, rfl, rfl⟩ := hrel
        by_cases hlt : j < E
        · have hji : (j : Int) < (E : Int) := by omega
          have hp := (HP.out (j + 1))
          have hl : (100 : Int) ^ (j + 1) ≤ 100 ^ 6 := by
            have : (100 : Nat) ^ (j + 1) ≤ 100 ^ 6 := Nat.pow_le_pow_right (by omega) (by omega)
            exact_mod_cast this
          have s1 : IntKind.i64.wrap (m ^ j * m) = m ^ (j + 1) := by
            have he : m ^ j * m = m ^ (j + 1) := (Int.pow_succ m j).symm
            rw [he]
            exact IntWalk.i64_in _ (by omega)
          clear hp hl
          go_wp2
          go_roundw
          case rel => exact ⟨j + 1, by omega, by go_num, by first | rfl | trivial, by first | rfl | trivial⟩
          case measure => simp [intOf]; omega
        · obtain rfl : j = E := by omega
          have hji : ¬ (j : Int) < (j : Int) := by omega
          go_wp2
          refine Met.intro ?_
          go_step
          refine MeetH.of ?_ ?_
          · exact HB
          repeat (first | refine Agr.skip ?_ | refine Agr.keep ?_ | exact Agr.nil)
    intro u29 v29 hb1
    replace K3 := K3.on hb1
    replace HB := below_go HB HBs hb1
    clear hb1
    as_aux_lemma =>
    simp only [fillH]
    have kk := q.kk
    have f1 := q.f
    have f2 := q.mf
    have f3 := q.m3
    have s1 : (pwF m (E : Int)).tmod 2 = 1 := by rw [Int.tmod_eq_emod_of_nonneg (by omega)]; exact q.odd
    have s2 : IntKind.i64.wrap (m * pwF m (E : Int)) = m * pwF m (E : Int) := IntWalk.i64_in _ (by omega)
    have s3 : IntKind.i64.wrap (m - 1) = m - 1 := IntWalk.i64_in _ (by omega)
    have s4 : IntKind.i64.wrap (m * (m - 1)) = m * (m - 1) := IntWalk.i64_in _ (by omega)
    have s5 : IntKind.i64.wrap (m * pwF m (E : Int) + m * (m - 1)) = m ^ E := by rw [← hq]; exact IntWalk.i64_in _ (by omega)
    have s6 : ¬ pwF m (E : Int) < 1 := by omega
    clear q hq f2 f3
    have K3_0 := K3.c0
    have K3_1 := K3.c1
    have K3_z := K3.z
    go_wp2_with fail
    go_ret
    first | exact ⟨rfl, HB⟩ | exact ⟨rfl, by assumption⟩
  · simp only [h]
    go_wp2_with fail
    go_ret
    first | exact ⟨rfl, HB⟩ | exact ⟨rfl, by assumption⟩
end Go.Proofs.Ytkhjeleoppdjgab
