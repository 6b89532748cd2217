/- The law FnSpiralsWound, walked: whatever the arguments it answers true. No condition. -/
import Derived.Test.YtkhjeleoppdjgacBase
import Derived.Test.YtkhjeleoppdjgacAnV
import Derived.Test.YtkhjeleoppdjgacAnW2
import Derived.Test.YtkhjeleoppdjgacAnA
import Derived.Lib.Hide
import Derived.Deep.Cut
import Derived.Test.YtkhjeleoppdjgacCut
import Derived.Test.YtkhjeleoppdjgacMd
namespace Go.Proofs.Ytkhjeleoppdjgac
open Go.ChangeShapes Go.WideShapes Go.ChangeAt Go.RowKit

theorem be_len (n : Int) : (beV n).length ≤ 1000000000 := by
  rcases Bool.eq_false_or_eq_true (n6B n) with h | h
  · have := (spf_of h).len; omega
  · rw [beV, h, cond_false]; simp
theorem dgV_len (a b n : Int) : (dgV a b n).length ≤ 1000000000 := by
  rcases Bool.eq_false_or_eq_true (dgOk a b n) with h | h
  · have := dg_len h; omega
  · rw [dgV, h, cond_false]; simp
theorem wi_len (x y a b : Int) : (wiV x y a b).length ≤ 1000000000 ∧ pre (rowsOf (wiV x y a b)) (wiV x y a b).length ≤ 1000000000 := by
  rcases Bool.eq_false_or_eq_true (wnOk x y a b) with h | h
  · have q := wnf_of h
    have h1 := q.len
    have h2 := q.fb
    have hp := pre_le (rowsOf (wiV x y a b)) (wiV x y a b).length 20 fun i hi => by
      obtain ⟨r, hr, hl⟩ := q.row i (by omega)
      have := q.fa
      rw [rowsOf, List.getD_eq_getElem?_getD, hr]
      simp only [Option.getD_some]
      omega
    have : (wiV x y a b).length * 20 ≤ 20 * 20 := Nat.mul_le_mul_right _ (by omega)
    exact ⟨by omega, by omega⟩
  · rw [wiV, h, cond_false]; simp [pre]
theorem dg_bd (k : Nat) (h : k ≤ 400) : -1 ≤ 2 * (k : Int) * (2 * k - 1) ∧ 2 * (k : Int) * (2 * k - 1) ≤ 640000 := by
  rcases Nat.eq_zero_or_pos k with rfl | h0
  · simp
  · have a := Int.mul_nonneg (a := 2 * (k : Int)) (b := 2 * k - 1) (by omega) (by omega)
    have b : 2 * (k : Int) * (2 * k - 1) ≤ 800 * 799 := Int.mul_le_mul (by omega) (by omega) (by omega) (by omega)
    omega
set_option maxRecDepth 4000 in
set_option maxHeartbeats 16000000 in
theorem walk_SpiralsWound (A' : Option Addr) (n' a' : Nat) (B' : Option Addr) (m' c' : Nat) (w : World) (hn' : n' ≤ 9223372036854775807) (hx' : Bys w A' n') (hm' : m' ≤ 9223372036854775807) (hy' : Bys w B' m') :
    Calls Try.prog 3 #[.slice A' n' a', .slice B' m' c'] w fun e w' => e = .returned (.bool true) ∧ Below w.heap.size w w' := by
  have HB : Below w.heap.size w w := Below.refl _ _
  have HBs : w.heap.size ≤ w.heap.size := Nat.le_refl _
  rcases Bool.eq_false_or_eq_true (bgB n' m') with hg | hg
  · go_enter Try.func3, Try.ntmps3
    go_wp2_with (go_at_call 7; refine (big_any _ _ _ _ _ _ _ hn' hm').mono ?_; rintro e w' ⟨rfl, rfl⟩)
    go_ret
    exact ⟨rfl, Below.refl _ _⟩
  obtain ⟨gg1, gg2⟩ := bg_no hg
  go_enter Try.func3, Try.ntmps3
  go_wp2_with (go_at_call 7; refine (big_any _ _ _ _ _ _ _ hn' hm').mono ?_; rintro e w' ⟨rfl, rfl⟩)
  refine (DrawSpotOf_any A' n' a' _ hx' (by omega)).mono ?_
  rintro e v1 ⟨⟨n, rfl⟩, hb1⟩
  replace hy' := hy'.on hb1
  replace HB := below_go HB HBs hb1
  clear hb1
  go_wp2_with fail
  refine (impl_SpotOf_any n _).mono ?_
  rintro e v2 ⟨rfl, hb1⟩
  replace hy' := hy'.on hb1
  replace HB := below_go HB HBs hb1
  clear hb1
  go_wp2_with fail
  have hb1 := below_on (w := v2) (.cells #[.int .i64 (spx n), .int .i64 (spy n)] 26)
  have K1 := box_at v2 (spx n) (spy n) 26
  replace hy' := hy'.on hb1
  replace HB := below_go HB HBs hb1
  generalize hw1 : v2.alloc (.cells #[.int .i64 (spx n), .int .i64 (spy n)] 26) = v3 at hy' K1 HB ⊢
  generalize hR1 : v2.heap.size = RK1 at K1 ⊢
  clear hb1 hw1 hR1
  refine (spec_SpotOf_any n _).mono ?_
  rintro e v4 ⟨rfl, hb1⟩
  replace K1 := K1.on hb1
  replace hy' := hy'.on hb1
  replace HB := below_go HB HBs hb1
  clear hb1
  go_wp2_with fail
  have hb1 := below_on (w := v4) (.cells #[.int .i64 (spx n), .int .i64 (spy n)] 26)
  have K2 := box_at v4 (spx n) (spy n) 26
  replace K1 := K1.on hb1
  replace hy' := hy'.on hb1
  replace HB := below_go HB HBs hb1
  generalize hw1 : v4.alloc (.cells #[.int .i64 (spx n), .int .i64 (spy n)] 26) = v5 at K1 hy' K2 HB ⊢
  generalize hR1 : v4.heap.size = RK2 at K2 ⊢
  clear hb1 hw1 hR1
  refine (impl_RingOf_any n _).mono ?_
  rintro e v6 ⟨rfl, hb1⟩
  replace K1 := K1.on hb1
  replace K2 := K2.on hb1
  replace hy' := hy'.on hb1
  replace HB := below_go HB HBs hb1
  clear hb1
  go_wp2_with fail
  refine (spec_RingOf_any n _).mono ?_
  rintro e v7 ⟨rfl, hb1⟩
  replace K1 := K1.on hb1
  replace K2 := K2.on hb1
  replace hy' := hy'.on hb1
  replace HB := below_go HB HBs hb1
  clear hb1
  go_wp2_with fail
  refine (impl_StepFrom_any n _).mono ?_
  rintro e v8 ⟨rfl, hb1⟩
  replace K1 := K1.on hb1
  replace K2 := K2.on hb1
  replace hy' := hy'.on hb1
  replace HB := below_go HB HBs hb1
  clear hb1
  go_wp2_with fail
  have hb1 := below_on (w := v8) (.cells #[.int .i64 (stx n), .int .i64 (sty n)] 26)
  have K3 := box_at v8 (stx n) (sty n) 26
  replace K1 := K1.on hb1
  replace K2 := K2.on hb1
  replace hy' := hy'.on hb1
  replace HB := below_go HB HBs hb1
  generalize hw1 : v8.alloc (.cells #[.int .i64 (stx n), .int .i64 (sty n)] 26) = v9 at K1 K2 hy' K3 HB ⊢
  generalize hR1 : v8.heap.size = RK3 at K3 ⊢
  clear hb1 hw1 hR1
  refine (spec_StepFrom_any n _).mono ?_
  rintro e v10 ⟨rfl, hb1⟩
  replace K1 := K1.on hb1
  replace K2 := K2.on hb1
  replace K3 := K3.on hb1
  replace hy' := hy'.on hb1
  replace HB := below_go HB HBs hb1
  clear hb1
  go_wp2_with fail
  have hb1 := below_on (w := v10) (.cells #[.int .i64 (stx n), .int .i64 (sty n)] 26)
  have K4 := box_at v10 (stx n) (sty n) 26
  replace K1 := K1.on hb1
  replace K2 := K2.on hb1
  replace K3 := K3.on hb1
  replace hy' := hy'.on hb1
  replace HB := below_go HB HBs hb1
  generalize hw1 : v10.alloc (.cells #[.int .i64 (stx n), .int .i64 (sty n)] 26) = v11 at K1 K2 K3 hy' K4 HB ⊢
  generalize hR1 : v10.heap.size = RK4 at K4 ⊢
  clear hb1 hw1 hR1
  refine (impl_BesideNumbers_any n _).mono ?_
  rintro e v12 ⟨Ab, cb, rfl, Ob, hb1⟩
  replace K1 := K1.on hb1
  replace K2 := K2.on hb1
  replace K3 := K3.on hb1
  replace K4 := K4.on hb1
  replace hy' := hy'.on hb1
  replace HB := below_go HB HBs hb1
  clear hb1
  go_wp2_with fail
  refine (spec_BesideNumbers_any n _).mono ?_
  rintro e v13 ⟨Ad, cd, rfl, Od, hb1⟩
  replace K1 := K1.on hb1
  replace K2 := K2.on hb1
  replace K3 := K3.on hb1
  replace K4 := K4.on hb1
  replace hy' := hy'.on hb1
  replace Ob := Ob.on hb1
  replace HB := below_go HB HBs hb1
  clear hb1
  have K1_0 := K1.c0
  have K1_1 := K1.c1
  have K1_z := K1.z
  have K2_0 := K2.c0
  have K2_1 := K2.c1
  have K2_z := K2.z
  have K3_0 := K3.c0
  have K3_1 := K3.c1
  have K3_z := K3.z
  have K4_0 := K4.c0
  have K4_1 := K4.c1
  have K4_z := K4.z
  go_wp2_with fail
  refine (oSame_b Ab Ad _ cb cd _ _ _ _ (beV n) _ rfl (be_len n) Ob Od).mono ?_
  rintro e v14 ⟨rfl, hb1⟩
  clear K1_0 K1_1 K1_z K2_0 K2_1 K2_z K3_0 K3_1 K3_z K4_0 K4_1 K4_z
  replace K1 := K1.on hb1
  replace K2 := K2.on hb1
  replace K3 := K3.on hb1
  replace K4 := K4.on hb1
  replace hy' := hy'.on hb1
  replace Ob := Ob.on hb1
  replace Od := Od.on hb1
  replace HB := below_go HB HBs hb1
  clear hb1
  clear Od K2 K4
  go_upto_if 180 with (fail)
  refine wp_cut (MeetH [.inr 0, .inl (.slice B' m' c'), .inr 2, .inr 3, .inr 4, .inr 5, .inr 6, .inr 7, .inr 8, .inr 9, .inr 10, .inr 11, .inr 12, .inr 13, .inr 14, .inr 15, .inr 16, .inr 17, .inr 18, .inr 19, .inr 20, .inr 21, .inr 22, .inr 23, .inr 24, .inr 25, .inr 26, .inr 27, .inr 28, .inr 29, .inr 30, .inr 31, .inr 32, .inr 33, .inr 34, .inr 35, .inr 36, .inr 37, .inr 38, .inr 39, .inr 40, .inr 41, .inr 42, .inr 43, .inr 44, .inr 45, .inr 46, .inr 47, .inr 48, .inr 49, .inr 50, .inr 51, .inr 52, .inr 53, .inr 54, .inr 55, .inr 56, .inr 57, .inr 58, .inr 59, .inr 60, .inr 61, .inr 62, .inr 63, .inr 64, .inr 65, .inr 66, .inr 67, .inr 68, .inr 69, .inr 70, .inr 71, .inr 72, .inr 73, .inr 74, .inr 75, .inr 76, .inr 77, .inr 78, .inr 79, .inr 80, .inr 81, .inr 82, .inr 83, .inr 84, .inr 85, .inr 86, .inr 87, .inr 88, .inr 89, .inr 90, .inr 91, .inr 92, .inr 93, .inr 94, .inr 95, .inr 96, .inr 97, .inr 98, .inr 99, .inr 100, .inr 101, .inr 102, .inr 103, .inr 104, .inr 105, .inr 106, .inr 107, .inr 108, .inr 109, .inr 110, .inr 111, .inr 112, .inr 113, .inr 114, .inr 115, .inr 116, .inr 117, .inr 118, .inr 119, .inr 120, .inr 121, .inr 122, .inr 123, .inr 124, .inr 125, .inr 126, .inr 127, .inr 128, .inr 129, .inr 130, .inr 131, .inr 132, .inr 133, .inr 134, .inr 135, .inr 136, .inr 137, .inr 138, .inr 139, .inr 140, .inr 141, .inr 142, .inr 143, .inr 144, .inr 145, .inr 146, .inr 147, .inr 148, .inr 149, .inr 150, .inr 151, .inr 152, .inr 153, .inr 154, .inr 155, .inr 156, .inr 157, .inr 158, .inr 159, .inr 160, .inr 161, .inr 162, .inr 163, .inr 164, .inr 165, .inr 166, .inr 167, .inr 168, .inr 169, .inr 170, .inr 171, .inr 172, .inr 173, .inr 174, .inr 175, .inr 176, .inr 177, .inr 178, .inr 179, .inr 180, .inr 181, .inr 182, .inr 183, .inr 184, .inr 185, .inr 186, .inr 187, .inr 188, .inr 189, .inr 190, .inr 191, .inr 192, .inr 193, .inr 194, .inr 195, .inr 196, .inr 197, .inr 198, .inr 199, .inr 200, .inr 201, .inr 202, .inr 203, .inr 204, .inr 205, .inr 206, .inr 207, .inr 208, .inr 209, .inr 210, .inr 211, .inr 212, .inr 213, .inr 214, .inr 215, .inr 216, .inr 217, .inr 218, .inr 219, .inr 220, .inr 221, .inr 222, .inr 223, .inr 224, .inr 225, .inr 226, .inr 227, .inr 228, .inr 229, .inr 230, .inr 231, .inr 232, .inr 233, .inr 234, .inr 235, .inr 236, .inr 237, .inr 238, .inr 239, .inr 240, .inr 241, .inr 242, .inr 243, .inr 244, .inr 245, .inr 246, .inr 247, .inr 248, .inr 249, .inr 250, .inr 251, .inr 252, .inr 253, .inr 254, .inr 255, .inr 256, .inr 257, .inr 258, .inr 259, .inr 260, .inr 261, .inr 262, .inr 263, .inr 264, .inr 265, .inr 266, .inr 267, .inr 268, .inr 269, .inr 270, .inr 271, .inr 272, .inr 273, .inr 274, .inr 275, .inr 276, .inr 277, .inr 278, .inr 279, .inr 280, .inr 281, .inr 282, .inr 283, .inr 284, .inr 285, .inr 286, .inr 287, .inr 288, .inr 289, .inr 290, .inr 291, .inr 292, .inr 293, .inr 294, .inr 295, .inr 296, .inr 297, .inr 298, .inr 299, .inr 300, .inr 301, .inr 302, .inr 303, .inr 304, .inr 305, .inr 306, .inr 307, .inr 308, .inr 309, .inr 310, .inr 311, .inr 312, .inr 313, .inr 314, .inr 315, .inr 316, .inr 317, .inr 318, .inr 319, .inr 320, .inr 321, .inr 322, .inr 323, .inr 324, .inr 325, .inr 326, .inr 327, .inr 328, .inr 329, .inr 330, .inr 331, .inr 332, .inr 333, .inr 334, .inr 335, .inr 336, .inr 337, .inr 338, .inr 339, .inr 340, .inr 341, .inr 342, .inr 343, .inr 344, .inr 345, .inr 346, .inr 347, .inr 348, .inr 349, .inr 350, .inr 351, .inr 352, .inr 353, .inr 354, .inr 355, .inr 356, .inr 357, .inr 358, .inr 359, .inr 360, .inr 361, .inr 362, .inr 363, .inr 364, .inr 365, .inr 366, .inr 367, .inr 368, .inr 369, .inr 370, .inr 371, .inr 372, .inr 373, .inr 374, .inr 375, .inr 376, .inr 377, .inr 378, .inr 379, .inr 380, .inr 381, .inr 382, .inr 383, .inr 384, .inr 385, .inr 386, .inr 387, .inr 388, .inr 389, .inr 390, .inr 391, .inr 392, .inr 393, .inr 394, .inr 395, .inr 396, .inr 397, .inr 398, .inr 399, .inr 400, .inr 401, .inr 402, .inr 403, .inr 404, .inr 405, .inr 406, .inr 407, .inr 408, .inr 409, .inr 410, .inr 411, .inr 412, .inr 413, .inr 414, .inr 415, .inr 416, .inr 417, .inr 418, .inr 419, .inr 420, .inr 421, .inr 422, .inr 423, .inr 424, .inr 425, .inr 426, .inr 427, .inr 428, .inr 429, .inr 430, .inr 431, .inr 432, .inr 433, .inr 434, .inr 435, .inr 436, .inr 437, .inr 438, .inr 439, .inr 440, .inr 441, .inr 442, .inr 443, .inr 444, .inr 445, .inr 446, .inr 447, .inr 448, .inr 449, .inr 450, .inr 451, .inr 452, .inr 453, .inr 454, .inr 455, .inr 456, .inr 457, .inr 458, .inr 459, .inr 460, .inr 461, .inr 462, .inr 463, .inr 464, .inr 465, .inr 466, .inr 467, .inr 468, .inr 469, .inr 470, .inr 471, .inr 472, .inr 473, .inr 474, .inr 475, .inr 476, .inr 477, .inr 478, .inr 479, .inr 480, .inr 481, .inr 482, .inr 483, .inr 484, .inr 485, .inr 486, .inr 487, .inr 488, .inr 489, .inr 490, .inr 491, .inr 492, .inr 493, .inr 494, .inr 495, .inr 496, .inr 497, .inr 498, .inr 499, .inr 500, .inr 501, .inr 502, .inr 503, .inr 504, .inr 505, .inr 506, .inr 507, .inr 508, .inr 509, .inr 510, .inr 511, .inr 512, .inr 513, .inr 514, .inr 515, .inr 516, .inr 517, .inr 518, .inr 519, .inr 520, .inr 521, .inr 522, .inr 523, .inr 524, .inr 525, .inr 526, .inr 527, .inr 528, .inr 529, .inr 530, .inr 531, .inr 532, .inr 533, .inr 534, .inr 535, .inr 536, .inr 537, .inr 538, .inr 539, .inr 540, .inr 541, .inr 542, .inr 543, .inr 544, .inr 545, .inr 546, .inr 547, .inr 548, .inr 549, .inr 550, .inr 551, .inr 552, .inr 553, .inr 554, .inr 555, .inr 556, .inr 557, .inr 558, .inr 559, .inr 560, .inr 561, .inr 562, .inr 563, .inr 564, .inr 565, .inr 566, .inr 567, .inr 568, .inr 569, .inr 570, .inr 571, .inr 572, .inr 573, .inr 574, .inr 575, .inr 576, .inr 577, .inr 578, .inr 579, .inr 580, .inr 581, .inr 582, .inr 583, .inr 584, .inr 585, .inr 586, .inr 587, .inr 588, .inr 589, .inr 590, .inr 591, .inr 592, .inr 593, .inr 594, .inr 595, .inr 596, .inr 597, .inr 598, .inr 599, .inr 600, .inr 601, .inr 602, .inr 603, .inr 604, .inr 605, .inr 606, .inr 607, .inr 608, .inr 609, .inr 610, .inr 611, .inr 612, .inr 613, .inr 614, .inr 615, .inr 616, .inr 617, .inr 618, .inr 619, .inr 620, .inr 621, .inr 622, .inr 623, .inr 624, .inr 625, .inr 626, .inr 627, .inr 628, .inr 629, .inr 630, .inr 631, .inr 632, .inr 633, .inr 634, .inr 635, .inr 636, .inr 637, .inr 638, .inr 639, .inr 640, .inr 641, .inr 642, .inr 643, .inr 644, .inr 645, .inr 646, .inr 647] (fun wx => Below v14.heap.size v14 wx)) (MeetH.go _ (by rfl) ?_) ?_
  rotate_left
  · intro _ _ _ _
    as_aux_lemma =>
    clear HB HBs
    have HB : Below v14.heap.size v14 v14 := Below.refl _ _
    have HBs : v14.heap.size ≤ v14.heap.size := Nat.le_refl _
    rcases Bool.eq_false_or_eq_true (n6B n) with h | h
    · simp only [h]
      have q := spf_of h
      have hlen := q.len
      have hn0 := q.n0
      have hn1 := q.n1
      have hx := q.x
      have hy := q.y
      have hr := q.r
      have hu := q.unit
      obtain ⟨g, o, rfl, _, _, _⟩ := Ob (by simp; omega)
      simp only [hlen]
      have K1_0 := K1.c0
      have K1_1 := K1.c1
      have K1_z := K1.z
      have K3_0 := K3.c0
      have K3_1 := K3.c1
      have K3_z := K3.z
      go_upto_if 188 with (go_at_call 18; refine (oAbs6_any _ _ (by omega) (by omega)).mono ?_; rintro e w' ⟨rfl, rfl⟩)
      refine wp_cut (MeetH [.inr 0, .inl (.slice B' m' c'), .inr 2, .inr 3, .inr 4, .inl (.int .i64 n), .inl (.pointer (some ⟨RK1, 0, none⟩)), .inr 7, .inr 8, .inr 9, .inl (.int .i64 (rgV n)), .inr 11, .inr 12, .inr 13, .inl (.pointer (some ⟨RK3, 0, none⟩)), .inr 15, .inr 16, .inr 17, .inl (.slice (some ⟨g, o, none⟩) 4 cb), .inr 19, .inr 20, .inr 21, .inl (.int .i64 (rgV n)), .inr 23, .inr 24, .inr 25, .inr 26, .inr 27, .inr 28, .inr 29, .inr 30, .inr 31, .inr 32, .inr 33, .inr 34, .inr 35, .inr 36, .inr 37, .inr 38, .inr 39, .inr 40, .inr 41, .inr 42, .inr 43, .inr 44, .inr 45, .inr 46, .inr 47, .inr 48, .inr 49, .inr 50, .inr 51, .inr 52, .inr 53, .inr 54, .inr 55, .inr 56, .inr 57, .inr 58, .inr 59, .inr 60, .inr 61, .inr 62, .inr 63, .inr 64, .inr 65, .inr 66, .inr 67, .inr 68, .inr 69, .inr 70, .inr 71, .inr 72, .inr 73, .inr 74, .inr 75, .inr 76, .inr 77, .inr 78, .inr 79, .inr 80, .inr 81, .inr 82, .inr 83, .inr 84, .inr 85, .inr 86, .inr 87, .inr 88, .inr 89, .inr 90, .inr 91, .inr 92, .inr 93, .inr 94, .inr 95, .inr 96, .inr 97, .inr 98, .inr 99, .inr 100, .inr 101, .inr 102, .inr 103, .inr 104, .inr 105, .inr 106, .inr 107, .inr 108, .inr 109, .inr 110, .inr 111, .inr 112, .inr 113, .inr 114, .inr 115, .inr 116, .inr 117, .inr 118, .inr 119, .inr 120, .inr 121, .inr 122, .inr 123, .inr 124, .inr 125, .inr 126, .inr 127, .inr 128, .inr 129, .inr 130, .inr 131, .inr 132, .inr 133, .inr 134, .inr 135, .inr 136, .inr 137, .inr 138, .inr 139, .inr 140, .inr 141, .inr 142, .inr 143, .inr 144, .inr 145, .inr 146, .inr 147, .inr 148, .inr 149, .inr 150, .inr 151, .inr 152, .inr 153, .inr 154, .inr 155, .inr 156, .inr 157, .inr 158, .inr 159, .inr 160, .inr 161, .inr 162, .inr 163, .inr 164, .inr 165, .inr 166, .inr 167, .inr 168, .inr 169, .inr 170, .inr 171, .inr 172, .inr 173, .inr 174, .inr 175, .inr 176, .inr 177, .inr 178, .inr 179, .inr 180, .inr 181, .inr 182, .inr 183, .inr 184, .inr 185, .inr 186, .inr 187, .inr 188, .inr 189, .inr 190, .inr 191, .inr 192, .inr 193, .inr 194, .inr 195, .inr 196, .inr 197, .inr 198, .inr 199, .inr 200, .inr 201, .inr 202, .inr 203, .inr 204, .inr 205, .inr 206, .inr 207, .inr 208, .inr 209, .inr 210, .inr 211, .inr 212, .inr 213, .inr 214, .inr 215, .inr 216, .inr 217, .inr 218, .inr 219, .inr 220, .inr 221, .inr 222, .inr 223, .inr 224, .inr 225, .inr 226, .inr 227, .inr 228, .inr 229, .inr 230, .inr 231, .inr 232, .inr 233, .inr 234, .inr 235, .inr 236, .inr 237, .inr 238, .inr 239, .inr 240, .inr 241, .inr 242, .inr 243, .inr 244, .inr 245, .inr 246, .inr 247, .inr 248, .inr 249, .inr 250, .inr 251, .inr 252, .inr 253, .inr 254, .inr 255, .inr 256, .inr 257, .inr 258, .inr 259, .inr 260, .inr 261, .inr 262, .inr 263, .inr 264, .inr 265, .inr 266, .inr 267, .inr 268, .inr 269, .inr 270, .inr 271, .inr 272, .inr 273, .inr 274, .inr 275, .inr 276, .inr 277, .inr 278, .inr 279, .inr 280, .inr 281, .inr 282, .inr 283, .inr 284, .inr 285, .inr 286, .inr 287, .inr 288, .inr 289, .inr 290, .inr 291, .inr 292, .inr 293, .inr 294, .inr 295, .inr 296, .inr 297, .inr 298, .inr 299, .inr 300, .inr 301, .inr 302, .inr 303, .inr 304, .inr 305, .inr 306, .inr 307, .inr 308, .inr 309, .inr 310, .inr 311, .inr 312, .inr 313, .inr 314, .inr 315, .inr 316, .inr 317, .inr 318, .inr 319, .inr 320, .inr 321, .inr 322, .inr 323, .inr 324, .inr 325, .inr 326, .inr 327, .inr 328, .inr 329, .inr 330, .inr 331, .inr 332, .inr 333, .inr 334, .inr 335, .inr 336, .inr 337, .inr 338, .inr 339, .inr 340, .inr 341, .inr 342, .inr 343, .inr 344, .inr 345, .inr 346, .inr 347, .inr 348, .inr 349, .inr 350, .inr 351, .inr 352, .inr 353, .inr 354, .inr 355, .inr 356, .inr 357, .inr 358, .inr 359, .inr 360, .inr 361, .inr 362, .inr 363, .inr 364, .inr 365, .inr 366, .inr 367, .inr 368, .inr 369, .inr 370, .inr 371, .inr 372, .inr 373, .inr 374, .inr 375, .inr 376, .inr 377, .inr 378, .inr 379, .inr 380, .inr 381, .inr 382, .inr 383, .inr 384, .inr 385, .inr 386, .inr 387, .inr 388, .inr 389, .inr 390, .inr 391, .inr 392, .inr 393, .inr 394, .inr 395, .inr 396, .inr 397, .inr 398, .inr 399, .inr 400, .inr 401, .inr 402, .inr 403, .inr 404, .inr 405, .inr 406, .inr 407, .inr 408, .inr 409, .inr 410, .inr 411, .inr 412, .inr 413, .inr 414, .inr 415, .inr 416, .inr 417, .inr 418, .inr 419, .inr 420, .inr 421, .inr 422, .inr 423, .inr 424, .inr 425, .inr 426, .inr 427, .inr 428, .inr 429, .inr 430, .inr 431, .inr 432, .inr 433, .inr 434, .inr 435, .inr 436, .inr 437, .inr 438, .inr 439, .inr 440, .inr 441, .inr 442, .inr 443, .inr 444, .inr 445, .inr 446, .inr 447, .inr 448, .inr 449, .inr 450, .inr 451, .inr 452, .inr 453, .inr 454, .inr 455, .inr 456, .inr 457, .inr 458, .inr 459, .inr 460, .inr 461, .inr 462, .inr 463, .inr 464, .inr 465, .inr 466, .inr 467, .inr 468, .inr 469, .inr 470, .inr 471, .inr 472, .inr 473, .inr 474, .inr 475, .inr 476, .inr 477, .inr 478, .inr 479, .inr 480, .inr 481, .inr 482, .inr 483, .inr 484, .inr 485, .inr 486, .inr 487, .inr 488, .inr 489, .inr 490, .inr 491, .inr 492, .inr 493, .inr 494, .inr 495, .inr 496, .inr 497, .inr 498, .inr 499, .inr 500, .inr 501, .inr 502, .inr 503, .inr 504, .inr 505, .inr 506, .inr 507, .inr 508, .inr 509, .inr 510, .inr 511, .inr 512, .inr 513, .inr 514, .inr 515, .inr 516, .inr 517, .inr 518, .inr 519, .inr 520, .inr 521, .inr 522, .inr 523, .inr 524, .inr 525, .inr 526, .inr 527, .inr 528, .inr 529, .inr 530, .inr 531, .inr 532, .inr 533, .inr 534, .inr 535, .inr 536, .inr 537, .inr 538, .inr 539, .inr 540, .inr 541, .inr 542, .inr 543, .inr 544, .inr 545, .inr 546, .inr 547, .inr 548, .inr 549, .inr 550, .inr 551, .inr 552, .inr 553, .inr 554, .inr 555, .inr 556, .inr 557, .inr 558, .inr 559, .inr 560, .inr 561, .inr 562, .inr 563, .inr 564, .inr 565, .inr 566, .inr 567, .inr 568, .inr 569, .inr 570, .inr 571, .inr 572, .inr 573, .inr 574, .inr 575, .inr 576, .inr 577, .inr 578, .inr 579, .inr 580, .inr 581, .inr 582, .inr 583, .inr 584, .inr 585, .inr 586, .inr 587, .inr 588, .inr 589, .inr 590, .inr 591, .inr 592, .inr 593, .inr 594, .inr 595, .inr 596, .inr 597, .inr 598, .inr 599, .inr 600, .inr 601, .inr 602, .inr 603, .inr 604, .inr 605, .inr 606, .inr 607, .inr 608, .inr 609, .inr 610, .inr 611, .inr 612, .inr 613, .inr 614, .inr 615, .inr 616, .inr 617, .inr 618, .inr 619, .inr 620, .inr 621, .inr 622, .inr 623, .inr 624, .inr 625, .inr 626, .inr 627, .inr 628, .inr 629, .inr 630, .inr 631, .inr 632, .inr 633, .inr 634, .inr 635, .inr 636, .inr 637, .inr 638, .inr 639, .inr 640, .inr 641, .inr 642, .inr 643, .inr 644, .inr 645, .inr 646, .inr 647] (fun wx => Below v14.heap.size v14 wx)) (MeetH.go _ (by rfl) ?_) ?_
      rotate_left
      · intro _ _ _ _
        as_aux_lemma =>
        clear HB HBs
        have HB : Below v14.heap.size v14 v14 := Below.refl _ _
        have HBs : v14.heap.size ≤ v14.heap.size := Nat.le_refl _
        rcases q.size with ⟨hl, he⟩ | ⟨hl, he⟩
        · go_wp2_with (go_at_call 18; refine (oAbs6_any _ _ (by omega) (by omega)).mono ?_; rintro e w' ⟨rfl, rfl⟩)
          refine Met.intro ?_
          go_step
          refine MeetH.of ?_ ?_
          · exact HB
          repeat (first | refine Agr.skip ?_ | refine Agr.keep ?_ | exact Agr.nil)
        · have hl2 : decide (ab (spx n) < ab (spy n)) = false := by simpa using hl
          go_wp2_with (go_at_call 18; refine (oAbs6_any _ _ (by omega) (by omega)).mono ?_; rintro e w' ⟨rfl, rfl⟩)
          refine Met.intro ?_
          go_step
          refine MeetH.of ?_ ?_
          · exact HB
          repeat (first | refine Agr.skip ?_ | refine Agr.keep ?_ | exact Agr.nil)
      intro u15 v15 hb1
      clear K1_0 K1_1 K1_z K3_0 K3_1 K3_z
      replace K1 := K1.on hb1
      replace K3 := K3.on hb1
      replace hy' := hy'.on hb1
      replace Ob := Ob.on hb1
      replace HB := below_go HB HBs hb1
      clear hb1
      as_aux_lemma =>
      simp only [fillH]
      have K1_0 := K1.c0
      have K1_1 := K1.c1
      have K1_z := K1.z
      have K3_0 := K3.c0
      have K3_1 := K3.c1
      have K3_z := K3.z
      have hu1 : IntKind.i64.wrap (ab (stx n) + ab (sty n)) = 1 := by rw [hu.2.2]; exact IntWalk.i64_in _ (by omega)
      have hu2 : -4000000000000000000 ≤ stx n ∧ stx n ≤ 4000000000000000000 := by omega
      have hu3 : -4000000000000000000 ≤ sty n ∧ sty n ≤ 4000000000000000000 := by omega
      have hw1 : IntKind.i64.wrap (n + 1) = n + 1 := IntWalk.i64_in _ (by omega)
      have hw2 : IntKind.i64.wrap (n - 1) = n - 1 := IntWalk.i64_in _ (by omega)
      have hm1 : decide (n + 1 ∈ beV n) = true := decide_eq_true q.up
      go_upto_region 18 with fail
      refine wp_cut (MeetH [.inr 0, .inl (.slice B' m' c'), .inr 2, .inr 3, .inr 4, .inl (.int .i64 n), .inl (.pointer (some ⟨RK1, 0, none⟩)), .inr 7, .inr 8, .inr 9, .inl (.int .i64 (rgV n)), .inr 11, .inr 12, .inr 13, .inl (.pointer (some ⟨RK3, 0, none⟩)), .inr 15, .inr 16, .inr 17, .inl (.slice (some ⟨g, o, none⟩) 4 cb), .inr 19, .inr 20, .inr 21, .inr 22, .inr 23, .inr 24, .inr 25, .inr 26, .inr 27, .inr 28, .inr 29, .inr 30, .inr 31, .inr 32, .inr 33, .inr 34, .inr 35, .inr 36, .inr 37, .inr 38, .inr 39, .inr 40, .inr 41, .inr 42, .inr 43, .inr 44, .inr 45, .inr 46, .inr 47, .inr 48, .inr 49, .inr 50, .inr 51, .inr 52, .inr 53, .inr 54, .inr 55, .inr 56, .inr 57, .inr 58, .inr 59, .inr 60, .inr 61, .inr 62, .inr 63, .inr 64, .inr 65, .inr 66, .inr 67, .inr 68, .inr 69, .inr 70, .inr 71, .inr 72, .inr 73, .inr 74, .inr 75, .inr 76, .inr 77, .inr 78, .inr 79, .inr 80, .inr 81, .inr 82, .inr 83, .inr 84, .inr 85, .inr 86, .inr 87, .inr 88, .inr 89, .inr 90, .inr 91, .inr 92, .inr 93, .inr 94, .inr 95, .inr 96, .inr 97, .inr 98, .inr 99, .inr 100, .inr 101, .inr 102, .inr 103, .inr 104, .inr 105, .inr 106, .inr 107, .inr 108, .inr 109, .inr 110, .inr 111, .inr 112, .inr 113, .inr 114, .inr 115, .inr 116, .inr 117, .inr 118, .inr 119, .inr 120, .inr 121, .inr 122, .inr 123, .inr 124, .inr 125, .inr 126, .inr 127, .inr 128, .inr 129, .inr 130, .inr 131, .inr 132, .inr 133, .inr 134, .inr 135, .inr 136, .inr 137, .inr 138, .inr 139, .inr 140, .inr 141, .inr 142, .inr 143, .inr 144, .inr 145, .inr 146, .inr 147, .inr 148, .inr 149, .inr 150, .inr 151, .inr 152, .inr 153, .inr 154, .inr 155, .inr 156, .inr 157, .inr 158, .inr 159, .inr 160, .inr 161, .inr 162, .inr 163, .inr 164, .inr 165, .inr 166, .inr 167, .inr 168, .inr 169, .inr 170, .inr 171, .inr 172, .inr 173, .inr 174, .inr 175, .inr 176, .inr 177, .inr 178, .inr 179, .inr 180, .inr 181, .inr 182, .inr 183, .inr 184, .inr 185, .inr 186, .inr 187, .inr 188, .inr 189, .inr 190, .inr 191, .inr 192, .inr 193, .inr 194, .inr 195, .inr 196, .inr 197, .inr 198, .inr 199, .inr 200, .inr 201, .inr 202, .inr 203, .inr 204, .inr 205, .inr 206, .inr 207, .inr 208, .inr 209, .inr 210, .inr 211, .inr 212, .inr 213, .inr 214, .inr 215, .inr 216, .inr 217, .inr 218, .inr 219, .inr 220, .inr 221, .inr 222, .inr 223, .inr 224, .inr 225, .inr 226, .inl (.bool false), .inr 228, .inr 229, .inr 230, .inr 231, .inr 232, .inr 233, .inr 234, .inr 235, .inr 236, .inr 237, .inr 238, .inr 239, .inr 240, .inr 241, .inr 242, .inr 243, .inr 244, .inr 245, .inr 246, .inr 247, .inr 248, .inr 249, .inr 250, .inr 251, .inr 252, .inr 253, .inr 254, .inr 255, .inr 256, .inr 257, .inr 258, .inr 259, .inr 260, .inr 261, .inr 262, .inr 263, .inr 264, .inr 265, .inr 266, .inr 267, .inr 268, .inr 269, .inr 270, .inr 271, .inr 272, .inr 273, .inr 274, .inr 275, .inr 276, .inr 277, .inr 278, .inr 279, .inr 280, .inr 281, .inr 282, .inr 283, .inr 284, .inr 285, .inr 286, .inr 287, .inr 288, .inr 289, .inr 290, .inr 291, .inr 292, .inr 293, .inr 294, .inr 295, .inr 296, .inr 297, .inr 298, .inr 299, .inr 300, .inr 301, .inr 302, .inr 303, .inr 304, .inr 305, .inr 306, .inr 307, .inr 308, .inr 309, .inr 310, .inr 311, .inr 312, .inr 313, .inr 314, .inr 315, .inr 316, .inr 317, .inr 318, .inr 319, .inr 320, .inr 321, .inr 322, .inr 323, .inr 324, .inr 325, .inr 326, .inr 327, .inr 328, .inr 329, .inr 330, .inr 331, .inr 332, .inr 333, .inr 334, .inr 335, .inr 336, .inr 337, .inr 338, .inr 339, .inr 340, .inr 341, .inr 342, .inr 343, .inr 344, .inr 345, .inr 346, .inr 347, .inr 348, .inr 349, .inr 350, .inr 351, .inr 352, .inr 353, .inr 354, .inr 355, .inr 356, .inr 357, .inr 358, .inr 359, .inr 360, .inr 361, .inr 362, .inr 363, .inr 364, .inr 365, .inr 366, .inr 367, .inr 368, .inr 369, .inr 370, .inr 371, .inr 372, .inr 373, .inr 374, .inr 375, .inr 376, .inr 377, .inr 378, .inr 379, .inr 380, .inr 381, .inr 382, .inr 383, .inr 384, .inr 385, .inr 386, .inr 387, .inr 388, .inr 389, .inr 390, .inr 391, .inr 392, .inr 393, .inr 394, .inr 395, .inr 396, .inr 397, .inr 398, .inr 399, .inr 400, .inr 401, .inr 402, .inr 403, .inr 404, .inr 405, .inr 406, .inr 407, .inr 408, .inr 409, .inr 410, .inr 411, .inr 412, .inr 413, .inr 414, .inr 415, .inr 416, .inr 417, .inr 418, .inr 419, .inr 420, .inr 421, .inr 422, .inr 423, .inr 424, .inr 425, .inr 426, .inr 427, .inr 428, .inr 429, .inr 430, .inr 431, .inr 432, .inr 433, .inr 434, .inr 435, .inr 436, .inr 437, .inr 438, .inr 439, .inr 440, .inr 441, .inr 442, .inr 443, .inr 444, .inr 445, .inr 446, .inr 447, .inr 448, .inr 449, .inr 450, .inr 451, .inr 452, .inr 453, .inr 454, .inr 455, .inr 456, .inr 457, .inr 458, .inr 459, .inr 460, .inr 461, .inr 462, .inr 463, .inr 464, .inr 465, .inr 466, .inr 467, .inr 468, .inr 469, .inr 470, .inr 471, .inr 472, .inr 473, .inr 474, .inr 475, .inr 476, .inr 477, .inr 478, .inr 479, .inr 480, .inr 481, .inr 482, .inr 483, .inr 484, .inr 485, .inr 486, .inr 487, .inr 488, .inr 489, .inr 490, .inr 491, .inr 492, .inr 493, .inr 494, .inr 495, .inr 496, .inr 497, .inr 498, .inr 499, .inr 500, .inr 501, .inr 502, .inr 503, .inr 504, .inr 505, .inr 506, .inr 507, .inr 508, .inr 509, .inr 510, .inr 511, .inr 512, .inr 513, .inr 514, .inr 515, .inr 516, .inr 517, .inr 518, .inr 519, .inr 520, .inr 521, .inr 522, .inr 523, .inr 524, .inr 525, .inr 526, .inr 527, .inr 528, .inr 529, .inr 530, .inr 531, .inr 532, .inr 533, .inr 534, .inr 535, .inr 536, .inr 537, .inr 538, .inr 539, .inr 540, .inr 541, .inr 542, .inr 543, .inr 544, .inr 545, .inr 546, .inr 547, .inr 548, .inr 549, .inr 550, .inr 551, .inr 552, .inr 553, .inr 554, .inr 555, .inr 556, .inr 557, .inr 558, .inr 559, .inr 560, .inr 561, .inr 562, .inr 563, .inr 564, .inr 565, .inr 566, .inr 567, .inr 568, .inr 569, .inr 570, .inr 571, .inr 572, .inr 573, .inr 574, .inr 575, .inr 576, .inr 577, .inr 578, .inr 579, .inr 580, .inr 581, .inr 582, .inr 583, .inr 584, .inr 585, .inr 586, .inr 587, .inr 588, .inr 589, .inr 590, .inr 591, .inr 592, .inr 593, .inr 594, .inr 595, .inr 596, .inr 597, .inr 598, .inr 599, .inr 600, .inr 601, .inr 602, .inr 603, .inr 604, .inr 605, .inr 606, .inr 607, .inr 608, .inr 609, .inr 610, .inr 611, .inr 612, .inr 613, .inr 614, .inr 615, .inr 616, .inr 617, .inr 618, .inr 619, .inr 620, .inr 621, .inr 622, .inr 623, .inr 624, .inr 625, .inr 626, .inr 627, .inr 628, .inr 629, .inr 630, .inr 631, .inr 632, .inr 633, .inr 634, .inr 635, .inr 636, .inr 637, .inr 638, .inr 639, .inr 640, .inr 641, .inr 642, .inr 643, .inr 644, .inr 645, .inr 646, .inr 647] (fun wx => Below v15.heap.size v15 wx)) (MeetH.go _ (by rfl) ?_) ?_
      rotate_left
      · intro _ _ _ _
        as_aux_lemma =>
        clear HB HBs
        have HB : Below v15.heap.size v15 v15 := Below.refl _ _
        have HBs : v15.heap.size ≤ v15.heap.size := Nat.le_refl _
        rcases Int.lt_or_le 0 n with hp | hp
        · have hm2 : decide (n - 1 ∈ beV n) = true := decide_eq_true (q.down hp)
          go_quiet (first | (go_at_call 18; refine (oAbs6_any _ _ (by omega) (by omega)).mono ?_; rintro e w' ⟨rfl, rfl⟩; exact ⟨rfl, _, rfl⟩) | (go_at_call 19; refine (oHas_any _ 4 cb _ _ (beV n) _ _ hlen (by omega) (Own.drewN Ob _)).mono ?_; rintro e w' ⟨rfl, rfl⟩; exact ⟨rfl, _, rfl⟩))
          try go_wp2_with fail
          refine Met.intro ?_
          go_step
          refine MeetH.of ?_ ?_
          · exact below_drewN HB _
          repeat (first | refine Agr.skip ?_ | refine Agr.keep ?_ | exact Agr.nil)
        · have hp2 : ¬ 0 < n := by omega
          go_quiet (first | (go_at_call 18; refine (oAbs6_any _ _ (by omega) (by omega)).mono ?_; rintro e w' ⟨rfl, rfl⟩; exact ⟨rfl, _, rfl⟩) | (go_at_call 19; refine (oHas_any _ 4 cb _ _ (beV n) _ _ hlen (by omega) (Own.drewN Ob _)).mono ?_; rintro e w' ⟨rfl, rfl⟩; exact ⟨rfl, _, rfl⟩))
          try go_wp2_with fail
          refine Met.intro ?_
          go_step
          refine MeetH.of ?_ ?_
          · exact below_drewN HB _
          repeat (first | refine Agr.skip ?_ | refine Agr.keep ?_ | exact Agr.nil)
      intro u16 v16 hb1
      clear K1_0 K1_1 K1_z K3_0 K3_1 K3_z
      replace K1 := K1.on hb1
      replace K3 := K3.on hb1
      replace hy' := hy'.on hb1
      replace Ob := Ob.on hb1
      replace HB := below_go HB HBs hb1
      clear hb1
      as_aux_lemma =>
      simp only [fillH]
      go_upto_if 229 with fail
      refine wp_cut (MeetH [.inr 0, .inl (.slice B' m' c'), .inr 2, .inr 3, .inr 4, .inl (.int .i64 n), .inr 6, .inr 7, .inr 8, .inr 9, .inl (.int .i64 (rgV n)), .inr 11, .inr 12, .inr 13, .inr 14, .inr 15, .inr 16, .inr 17, .inl (.slice (some ⟨g, o, none⟩) 4 cb), .inr 19, .inr 20, .inr 21, .inr 22, .inr 23, .inr 24, .inr 25, .inr 26, .inr 27, .inr 28, .inr 29, .inr 30, .inr 31, .inr 32, .inr 33, .inr 34, .inr 35, .inr 36, .inr 37, .inr 38, .inr 39, .inr 40, .inr 41, .inr 42, .inr 43, .inr 44, .inr 45, .inr 46, .inr 47, .inr 48, .inr 49, .inr 50, .inr 51, .inr 52, .inr 53, .inr 54, .inr 55, .inr 56, .inr 57, .inr 58, .inr 59, .inr 60, .inr 61, .inr 62, .inr 63, .inr 64, .inr 65, .inr 66, .inr 67, .inr 68, .inr 69, .inr 70, .inr 71, .inr 72, .inr 73, .inr 74, .inr 75, .inr 76, .inr 77, .inr 78, .inr 79, .inr 80, .inr 81, .inr 82, .inr 83, .inr 84, .inr 85, .inr 86, .inr 87, .inr 88, .inr 89, .inr 90, .inr 91, .inr 92, .inr 93, .inr 94, .inr 95, .inr 96, .inr 97, .inr 98, .inr 99, .inr 100, .inr 101, .inr 102, .inr 103, .inr 104, .inr 105, .inr 106, .inr 107, .inr 108, .inr 109, .inr 110, .inr 111, .inr 112, .inr 113, .inr 114, .inr 115, .inr 116, .inr 117, .inr 118, .inr 119, .inr 120, .inr 121, .inr 122, .inr 123, .inr 124, .inr 125, .inr 126, .inr 127, .inr 128, .inr 129, .inr 130, .inr 131, .inr 132, .inr 133, .inr 134, .inr 135, .inr 136, .inr 137, .inr 138, .inr 139, .inr 140, .inr 141, .inr 142, .inr 143, .inr 144, .inr 145, .inr 146, .inr 147, .inr 148, .inr 149, .inr 150, .inr 151, .inr 152, .inr 153, .inr 154, .inr 155, .inr 156, .inr 157, .inr 158, .inr 159, .inr 160, .inr 161, .inr 162, .inr 163, .inr 164, .inr 165, .inr 166, .inr 167, .inr 168, .inr 169, .inr 170, .inr 171, .inr 172, .inr 173, .inr 174, .inr 175, .inr 176, .inr 177, .inr 178, .inr 179, .inr 180, .inr 181, .inr 182, .inr 183, .inr 184, .inr 185, .inr 186, .inr 187, .inr 188, .inr 189, .inr 190, .inr 191, .inr 192, .inr 193, .inr 194, .inr 195, .inr 196, .inr 197, .inr 198, .inr 199, .inr 200, .inr 201, .inr 202, .inr 203, .inr 204, .inr 205, .inr 206, .inr 207, .inr 208, .inr 209, .inr 210, .inr 211, .inr 212, .inr 213, .inr 214, .inr 215, .inr 216, .inr 217, .inr 218, .inr 219, .inr 220, .inr 221, .inr 222, .inr 223, .inr 224, .inr 225, .inr 226, .inr 227, .inr 228, .inr 229, .inr 230, .inr 231, .inr 232, .inr 233, .inr 234, .inr 235, .inr 236, .inr 237, .inr 238, .inr 239, .inr 240, .inr 241, .inr 242, .inr 243, .inr 244, .inr 245, .inr 246, .inr 247, .inr 248, .inr 249, .inr 250, .inr 251, .inr 252, .inr 253, .inr 254, .inr 255, .inr 256, .inr 257, .inr 258, .inr 259, .inr 260, .inr 261, .inr 262, .inr 263, .inr 264, .inr 265, .inr 266, .inr 267, .inr 268, .inr 269, .inr 270, .inr 271, .inr 272, .inr 273, .inr 274, .inr 275, .inr 276, .inr 277, .inr 278, .inr 279, .inr 280, .inr 281, .inr 282, .inr 283, .inr 284, .inr 285, .inr 286, .inr 287, .inr 288, .inr 289, .inr 290, .inr 291, .inr 292, .inr 293, .inr 294, .inr 295, .inr 296, .inr 297, .inr 298, .inr 299, .inr 300, .inr 301, .inr 302, .inr 303, .inr 304, .inr 305, .inr 306, .inr 307, .inr 308, .inr 309, .inr 310, .inr 311, .inr 312, .inr 313, .inr 314, .inr 315, .inr 316, .inr 317, .inr 318, .inr 319, .inr 320, .inr 321, .inr 322, .inr 323, .inr 324, .inr 325, .inr 326, .inr 327, .inr 328, .inr 329, .inr 330, .inr 331, .inr 332, .inr 333, .inr 334, .inr 335, .inr 336, .inr 337, .inr 338, .inr 339, .inr 340, .inr 341, .inr 342, .inr 343, .inr 344, .inr 345, .inr 346, .inr 347, .inr 348, .inr 349, .inr 350, .inr 351, .inr 352, .inr 353, .inr 354, .inr 355, .inr 356, .inr 357, .inr 358, .inr 359, .inr 360, .inr 361, .inr 362, .inr 363, .inr 364, .inr 365, .inr 366, .inr 367, .inr 368, .inr 369, .inr 370, .inr 371, .inr 372, .inr 373, .inr 374, .inr 375, .inr 376, .inr 377, .inr 378, .inr 379, .inr 380, .inr 381, .inr 382, .inr 383, .inr 384, .inr 385, .inr 386, .inr 387, .inr 388, .inr 389, .inr 390, .inr 391, .inr 392, .inr 393, .inr 394, .inr 395, .inr 396, .inr 397, .inr 398, .inr 399, .inr 400, .inr 401, .inr 402, .inr 403, .inr 404, .inr 405, .inr 406, .inr 407, .inr 408, .inr 409, .inr 410, .inr 411, .inr 412, .inr 413, .inr 414, .inr 415, .inr 416, .inr 417, .inr 418, .inr 419, .inr 420, .inr 421, .inr 422, .inr 423, .inr 424, .inr 425, .inr 426, .inr 427, .inr 428, .inr 429, .inr 430, .inr 431, .inr 432, .inr 433, .inr 434, .inr 435, .inr 436, .inr 437, .inr 438, .inr 439, .inr 440, .inr 441, .inr 442, .inr 443, .inr 444, .inr 445, .inr 446, .inr 447, .inr 448, .inr 449, .inr 450, .inr 451, .inr 452, .inr 453, .inr 454, .inr 455, .inr 456, .inr 457, .inr 458, .inr 459, .inr 460, .inr 461, .inr 462, .inr 463, .inr 464, .inr 465, .inr 466, .inr 467, .inr 468, .inr 469, .inr 470, .inr 471, .inr 472, .inr 473, .inr 474, .inr 475, .inr 476, .inr 477, .inr 478, .inr 479, .inr 480, .inr 481, .inr 482, .inr 483, .inr 484, .inr 485, .inr 486, .inr 487, .inr 488, .inr 489, .inr 490, .inr 491, .inr 492, .inr 493, .inr 494, .inr 495, .inr 496, .inr 497, .inr 498, .inr 499, .inr 500, .inr 501, .inr 502, .inr 503, .inr 504, .inr 505, .inr 506, .inr 507, .inr 508, .inr 509, .inr 510, .inr 511, .inr 512, .inr 513, .inr 514, .inr 515, .inr 516, .inr 517, .inr 518, .inr 519, .inr 520, .inr 521, .inr 522, .inr 523, .inr 524, .inr 525, .inr 526, .inr 527, .inr 528, .inr 529, .inr 530, .inr 531, .inr 532, .inr 533, .inr 534, .inr 535, .inr 536, .inr 537, .inr 538, .inr 539, .inr 540, .inr 541, .inr 542, .inr 543, .inr 544, .inr 545, .inr 546, .inr 547, .inr 548, .inr 549, .inr 550, .inr 551, .inr 552, .inr 553, .inr 554, .inr 555, .inr 556, .inr 557, .inr 558, .inr 559, .inr 560, .inr 561, .inr 562, .inr 563, .inr 564, .inr 565, .inr 566, .inr 567, .inr 568, .inr 569, .inr 570, .inr 571, .inr 572, .inr 573, .inr 574, .inr 575, .inr 576, .inr 577, .inr 578, .inr 579, .inr 580, .inr 581, .inr 582, .inr 583, .inr 584, .inr 585, .inr 586, .inr 587, .inr 588, .inr 589, .inr 590, .inr 591, .inr 592, .inr 593, .inr 594, .inr 595, .inr 596, .inr 597, .inr 598, .inr 599, .inr 600, .inr 601, .inr 602, .inr 603, .inr 604, .inr 605, .inr 606, .inr 607, .inr 608, .inr 609, .inr 610, .inr 611, .inr 612, .inr 613, .inr 614, .inr 615, .inr 616, .inr 617, .inr 618, .inr 619, .inr 620, .inr 621, .inr 622, .inr 623, .inr 624, .inr 625, .inr 626, .inr 627, .inr 628, .inr 629, .inr 630, .inr 631, .inr 632, .inr 633, .inr 634, .inr 635, .inr 636, .inr 637, .inr 638, .inr 639, .inr 640, .inr 641, .inr 642, .inr 643, .inr 644, .inr 645, .inr 646, .inr 647] (fun wx => Below v16.heap.size v16 wx)) (MeetH.go _ (by rfl) ?_) ?_
      rotate_left
      · intro _ _ _ _
        as_aux_lemma =>
        clear HB HBs
        have HB : Below v16.heap.size v16 v16 := Below.refl _ _
        have HBs : v16.heap.size ≤ v16.heap.size := Nat.le_refl _
        rcases Int.lt_or_le (rgV n) 400 with h4 | h4
        · obtain ⟨a1, a2⟩ := q.back h4
          obtain ⟨b1, b2⟩ := q.next h4
          obtain ⟨c1, c2⟩ := q.east h4
          have hx1 : IntKind.i64.wrap (spx n + stx n) = spx n + stx n := IntWalk.i64_in _ (by omega)
          have hx2 : IntKind.i64.wrap (spy n + sty n) = spy n + sty n := IntWalk.i64_in _ (by omega)
          have hx3 : IntKind.i64.wrap (spx n + 1) = spx n + 1 := IntWalk.i64_in _ (by omega)
          have hx4 : IntKind.i64.wrap (n + 1) = n + 1 := IntWalk.i64_in _ (by omega)
          have K1_0 := K1.c0
          have K1_1 := K1.c1
          have K1_z := K1.z
          have K3_0 := K3.c0
          have K3_1 := K3.c1
          have K3_z := K3.z
          go_wp2_with fail
          refine (impl_NumberAt_any _ _ _).mono ?_
          rintro e v17 ⟨rfl, hb1⟩
          clear K1_0 K1_1 K1_z K3_0 K3_1 K3_z
          replace K1 := K1.on hb1
          replace K3 := K3.on hb1
          replace hy' := hy'.on hb1
          replace Ob := Ob.on hb1
          replace HB := below_go HB HBs hb1
          clear hb1
          have K1_0 := K1.c0
          have K1_1 := K1.c1
          have K1_z := K1.z
          have K3_0 := K3.c0
          have K3_1 := K3.c1
          have K3_z := K3.z
          go_wp2_with fail
          refine (impl_NumberAt_any _ _ _).mono ?_
          rintro e v18 ⟨rfl, hb1⟩
          clear K1_0 K1_1 K1_z K3_0 K3_1 K3_z
          replace K1 := K1.on hb1
          replace K3 := K3.on hb1
          replace hy' := hy'.on hb1
          replace Ob := Ob.on hb1
          replace HB := below_go HB HBs hb1
          clear hb1
          have K1_0 := K1.c0
          have K1_1 := K1.c1
          have K1_z := K1.z
          have K3_0 := K3.c0
          have K3_1 := K3.c1
          have K3_z := K3.z
          go_wp2_with fail
          refine (impl_NumberAt_any _ _ _).mono ?_
          rintro e v19 ⟨rfl, hb1⟩
          clear K1_0 K1_1 K1_z K3_0 K3_1 K3_z
          replace K1 := K1.on hb1
          replace K3 := K3.on hb1
          replace hy' := hy'.on hb1
          replace Ob := Ob.on hb1
          replace HB := below_go HB HBs hb1
          clear hb1
          have hc0 := own_get Ob (k := 0) (by omega)
          simp only [Nat.add_zero] at hc0
          go_wp2_with fail
          refine Met.intro ?_
          go_step
          refine MeetH.of ?_ ?_
          · exact HB
          repeat (first | refine Agr.skip ?_ | refine Agr.keep ?_ | exact Agr.nil)
        · go_wp2_with fail
          refine Met.intro ?_
          go_step
          refine MeetH.of ?_ ?_
          · exact HB
          repeat (first | refine Agr.skip ?_ | refine Agr.keep ?_ | exact Agr.nil)
      intro u20 v20 hb1
      replace K1 := K1.on hb1
      replace K3 := K3.on hb1
      replace hy' := hy'.on hb1
      replace Ob := Ob.on hb1
      replace HB := below_go HB HBs hb1
      clear hb1
      as_aux_lemma =>
      simp only [fillH]
      go_upto_if 289 with fail
      refine wp_cut (MeetH [.inr 0, .inl (.slice B' m' c'), .inr 2, .inr 3, .inr 4, .inl (.int .i64 n), .inr 6, .inr 7, .inr 8, .inr 9, .inr 10, .inr 11, .inr 12, .inr 13, .inr 14, .inr 15, .inr 16, .inr 17, .inl (.slice (some ⟨g, o, none⟩) 4 cb), .inr 19, .inr 20, .inr 21, .inr 22, .inr 23, .inr 24, .inr 25, .inr 26, .inr 27, .inr 28, .inr 29, .inr 30, .inr 31, .inr 32, .inr 33, .inr 34, .inr 35, .inr 36, .inr 37, .inr 38, .inr 39, .inr 40, .inr 41, .inr 42, .inr 43, .inr 44, .inr 45, .inr 46, .inr 47, .inr 48, .inr 49, .inr 50, .inr 51, .inr 52, .inr 53, .inr 54, .inr 55, .inr 56, .inr 57, .inr 58, .inr 59, .inr 60, .inr 61, .inr 62, .inr 63, .inr 64, .inr 65, .inr 66, .inr 67, .inr 68, .inr 69, .inr 70, .inr 71, .inr 72, .inr 73, .inr 74, .inr 75, .inr 76, .inr 77, .inr 78, .inr 79, .inr 80, .inr 81, .inr 82, .inr 83, .inr 84, .inr 85, .inr 86, .inr 87, .inr 88, .inr 89, .inr 90, .inr 91, .inr 92, .inr 93, .inr 94, .inr 95, .inr 96, .inr 97, .inr 98, .inr 99, .inr 100, .inr 101, .inr 102, .inr 103, .inr 104, .inr 105, .inr 106, .inr 107, .inr 108, .inr 109, .inr 110, .inr 111, .inr 112, .inr 113, .inr 114, .inr 115, .inr 116, .inr 117, .inr 118, .inr 119, .inr 120, .inr 121, .inr 122, .inr 123, .inr 124, .inr 125, .inr 126, .inr 127, .inr 128, .inr 129, .inr 130, .inr 131, .inr 132, .inr 133, .inr 134, .inr 135, .inr 136, .inr 137, .inr 138, .inr 139, .inr 140, .inr 141, .inr 142, .inr 143, .inr 144, .inr 145, .inr 146, .inr 147, .inr 148, .inr 149, .inr 150, .inr 151, .inr 152, .inr 153, .inr 154, .inr 155, .inr 156, .inr 157, .inr 158, .inr 159, .inr 160, .inr 161, .inr 162, .inr 163, .inr 164, .inr 165, .inr 166, .inr 167, .inr 168, .inr 169, .inr 170, .inr 171, .inr 172, .inr 173, .inr 174, .inr 175, .inr 176, .inr 177, .inr 178, .inr 179, .inr 180, .inr 181, .inr 182, .inr 183, .inr 184, .inr 185, .inr 186, .inr 187, .inr 188, .inr 189, .inr 190, .inr 191, .inr 192, .inr 193, .inr 194, .inr 195, .inr 196, .inr 197, .inr 198, .inr 199, .inr 200, .inr 201, .inr 202, .inr 203, .inr 204, .inr 205, .inr 206, .inr 207, .inr 208, .inr 209, .inr 210, .inr 211, .inr 212, .inr 213, .inr 214, .inr 215, .inr 216, .inr 217, .inr 218, .inr 219, .inr 220, .inr 221, .inr 222, .inr 223, .inr 224, .inr 225, .inr 226, .inr 227, .inr 228, .inr 229, .inr 230, .inr 231, .inr 232, .inr 233, .inr 234, .inr 235, .inr 236, .inr 237, .inr 238, .inr 239, .inr 240, .inr 241, .inr 242, .inr 243, .inr 244, .inr 245, .inr 246, .inr 247, .inr 248, .inr 249, .inr 250, .inr 251, .inr 252, .inr 253, .inr 254, .inr 255, .inr 256, .inr 257, .inr 258, .inr 259, .inr 260, .inr 261, .inr 262, .inr 263, .inr 264, .inr 265, .inr 266, .inr 267, .inr 268, .inr 269, .inr 270, .inr 271, .inr 272, .inr 273, .inr 274, .inr 275, .inr 276, .inr 277, .inr 278, .inr 279, .inr 280, .inr 281, .inr 282, .inr 283, .inr 284, .inr 285, .inr 286, .inr 287, .inr 288, .inr 289, .inr 290, .inr 291, .inr 292, .inr 293, .inr 294, .inr 295, .inr 296, .inr 297, .inr 298, .inr 299, .inr 300, .inr 301, .inr 302, .inr 303, .inr 304, .inr 305, .inr 306, .inr 307, .inr 308, .inr 309, .inr 310, .inr 311, .inr 312, .inr 313, .inr 314, .inr 315, .inr 316, .inr 317, .inr 318, .inr 319, .inr 320, .inr 321, .inr 322, .inr 323, .inr 324, .inr 325, .inr 326, .inr 327, .inr 328, .inr 329, .inr 330, .inr 331, .inr 332, .inr 333, .inr 334, .inr 335, .inr 336, .inr 337, .inr 338, .inr 339, .inr 340, .inr 341, .inr 342, .inr 343, .inr 344, .inr 345, .inr 346, .inr 347, .inr 348, .inr 349, .inr 350, .inr 351, .inr 352, .inr 353, .inr 354, .inr 355, .inr 356, .inr 357, .inr 358, .inr 359, .inr 360, .inr 361, .inr 362, .inr 363, .inr 364, .inr 365, .inr 366, .inr 367, .inr 368, .inr 369, .inr 370, .inr 371, .inr 372, .inr 373, .inr 374, .inr 375, .inr 376, .inr 377, .inr 378, .inr 379, .inr 380, .inr 381, .inr 382, .inr 383, .inr 384, .inr 385, .inr 386, .inr 387, .inr 388, .inr 389, .inr 390, .inr 391, .inr 392, .inr 393, .inr 394, .inr 395, .inr 396, .inr 397, .inr 398, .inr 399, .inr 400, .inr 401, .inr 402, .inr 403, .inr 404, .inr 405, .inr 406, .inr 407, .inr 408, .inr 409, .inr 410, .inr 411, .inr 412, .inr 413, .inr 414, .inr 415, .inr 416, .inr 417, .inr 418, .inr 419, .inr 420, .inr 421, .inr 422, .inr 423, .inr 424, .inr 425, .inr 426, .inr 427, .inr 428, .inr 429, .inr 430, .inr 431, .inr 432, .inr 433, .inr 434, .inr 435, .inr 436, .inr 437, .inr 438, .inr 439, .inr 440, .inr 441, .inr 442, .inr 443, .inr 444, .inr 445, .inr 446, .inr 447, .inr 448, .inr 449, .inr 450, .inr 451, .inr 452, .inr 453, .inr 454, .inr 455, .inr 456, .inr 457, .inr 458, .inr 459, .inr 460, .inr 461, .inr 462, .inr 463, .inr 464, .inr 465, .inr 466, .inr 467, .inr 468, .inr 469, .inr 470, .inr 471, .inr 472, .inr 473, .inr 474, .inr 475, .inr 476, .inr 477, .inr 478, .inr 479, .inr 480, .inr 481, .inr 482, .inr 483, .inr 484, .inr 485, .inr 486, .inr 487, .inr 488, .inr 489, .inr 490, .inr 491, .inr 492, .inr 493, .inr 494, .inr 495, .inr 496, .inr 497, .inr 498, .inr 499, .inr 500, .inr 501, .inr 502, .inr 503, .inr 504, .inr 505, .inr 506, .inr 507, .inr 508, .inr 509, .inr 510, .inr 511, .inr 512, .inr 513, .inr 514, .inr 515, .inr 516, .inr 517, .inr 518, .inr 519, .inr 520, .inr 521, .inr 522, .inr 523, .inr 524, .inr 525, .inr 526, .inr 527, .inr 528, .inr 529, .inr 530, .inr 531, .inr 532, .inr 533, .inr 534, .inr 535, .inr 536, .inr 537, .inr 538, .inr 539, .inr 540, .inr 541, .inr 542, .inr 543, .inr 544, .inr 545, .inr 546, .inr 547, .inr 548, .inr 549, .inr 550, .inr 551, .inr 552, .inr 553, .inr 554, .inr 555, .inr 556, .inr 557, .inr 558, .inr 559, .inr 560, .inr 561, .inr 562, .inr 563, .inr 564, .inr 565, .inr 566, .inr 567, .inr 568, .inr 569, .inr 570, .inr 571, .inr 572, .inr 573, .inr 574, .inr 575, .inr 576, .inr 577, .inr 578, .inr 579, .inr 580, .inr 581, .inr 582, .inr 583, .inr 584, .inr 585, .inr 586, .inr 587, .inr 588, .inr 589, .inr 590, .inr 591, .inr 592, .inr 593, .inr 594, .inr 595, .inr 596, .inr 597, .inr 598, .inr 599, .inr 600, .inr 601, .inr 602, .inr 603, .inr 604, .inr 605, .inr 606, .inr 607, .inr 608, .inr 609, .inr 610, .inr 611, .inr 612, .inr 613, .inr 614, .inr 615, .inr 616, .inr 617, .inr 618, .inr 619, .inr 620, .inr 621, .inr 622, .inr 623, .inr 624, .inr 625, .inr 626, .inr 627, .inr 628, .inr 629, .inr 630, .inr 631, .inr 632, .inr 633, .inr 634, .inr 635, .inr 636, .inr 637, .inr 638, .inr 639, .inr 640, .inr 641, .inr 642, .inr 643, .inr 644, .inr 645, .inr 646, .inr 647] (fun wx => Below v20.heap.size v20 wx)) (MeetH.go _ (by rfl) ?_) ?_
      rotate_left
      · intro _ _ _ _
        as_aux_lemma =>
        clear HB HBs
        have HB : Below v20.heap.size v20 v20 := Below.refl _ _
        have HBs : v20.heap.size ≤ v20.heap.size := Nat.le_refl _
        rcases Int.lt_or_le 499 (rgV n) with h4 | h4
        · go_wp2_with fail
          refine Met.intro ?_
          go_step
          refine MeetH.of ?_ ?_
          · exact HB
          repeat (first | refine Agr.skip ?_ | refine Agr.keep ?_ | exact Agr.nil)
        · obtain ⟨a1, a2, a3⟩ := q.ring h4
          go_wp2_with fail
          refine (impl_RingNumbers_any _ _).mono ?_
          rintro e v21 ⟨rfl, hb1⟩
          replace K1 := K1.on hb1
          replace K3 := K3.on hb1
          replace hy' := hy'.on hb1
          replace Ob := Ob.on hb1
          replace HB := below_go HB HBs hb1
          clear hb1
          go_wp2_with fail
          refine Met.intro ?_
          go_step
          refine MeetH.of ?_ ?_
          · exact HB
          repeat (first | refine Agr.skip ?_ | refine Agr.keep ?_ | exact Agr.nil)
      intro u22 v22 hb1
      replace K1 := K1.on hb1
      replace K3 := K3.on hb1
      replace hy' := hy'.on hb1
      replace Ob := Ob.on hb1
      replace HB := below_go HB HBs hb1
      clear hb1
      as_aux_lemma =>
      simp only [fillH]
      have HO := Lib.hid Ob
      clear Ob
      go_wp2_with fail
      go_loopw [310] (fun i wr => ∃ k : Nat, k ≤ 4 ∧ i = .int .i64 k ∧ wr = v22) (fun i _ => 4 - (intOf i).toNat)
      case atStart => exact ⟨0, by omega, rfl, rfl⟩
      case round =>
        obtain ⟨k, hk, rfl, rfl⟩ := hrel
        by_cases hlt : k < 4
        · have hc := own_get HO.out (k := k) (by omega)
          obtain ⟨p1, p2⟩ := q.bd k hlt
          have p3 := tmod2_one (q.par k hlt)
          generalize (beV n).getD k 0 = z at hc p1 p2 p3
          have p4 : IntKind.i64.wrap (z - n) = z - n := IntWalk.i64_in _ (by omega)
          have hki : (k : Int) < 4 := by omega
          go_wp2
          go_roundw
          case rel => exact ⟨k + 1, by omega, by go_num, by first | rfl | trivial⟩
          case measure => simp [intOf]; omega
        · have hki : ¬ (k : Int) < 4 := by omega
          go_wp2
          refine Met.intro ?_
          go_step
          refine MeetH.of ?_ ?_
          · exact HB
          repeat (first | refine Agr.skip ?_ | refine Agr.keep ?_ | exact Agr.nil)
    · simp only [h]
      go_wp2_with fail
      refine Met.intro ?_
      go_step
      refine MeetH.of ?_ ?_
      · exact HB
      repeat (first | refine Agr.skip ?_ | refine Agr.keep ?_ | exact Agr.nil)
  intro u23 v23 hb1
  replace K1 := K1.on hb1
  replace K3 := K3.on hb1
  replace hy' := hy'.on hb1
  replace Ob := Ob.on hb1
  replace HB := below_go HB HBs hb1
  clear hb1
  as_aux_lemma =>
  simp only [fillH]
  clear K1 K3 Ob
  go_wp2_with fail
  refine (DrawNumberAt_any B' m' c' _ hy' (by omega)).mono ?_
  rintro e v24 ⟨⟨sx, sy, rfl⟩, hb1⟩
  replace hy' := hy'.on hb1
  replace HB := below_go HB HBs hb1
  clear hb1
  go_wp2_with fail
  have hb1 := below_on (w := v24) (.cells #[.int .i64 (sx), .int .i64 (sy)] 26)
  have B1 := box_at v24 (sx) (sy) 26
  replace hy' := hy'.on hb1
  replace HB := below_go HB HBs hb1
  generalize hw1 : v24.alloc (.cells #[.int .i64 (sx), .int .i64 (sy)] 26) = v25 at hy' B1 HB ⊢
  generalize hR1 : v24.heap.size = RB1 at B1 ⊢
  clear hb1 hw1 hR1
  refine (impl_NumberAt_any sx sy _).mono ?_
  rintro e v26 ⟨rfl, hb1⟩
  replace B1 := B1.on hb1
  replace hy' := hy'.on hb1
  replace HB := below_go HB HBs hb1
  clear hb1
  have B1_0 := B1.c0
  have B1_1 := B1.c1
  have B1_z := B1.z
  go_wp2_with fail
  refine (spec_NumberAt_any sx sy _).mono ?_
  rintro e v27 ⟨rfl, hb1⟩
  clear B1_0 B1_1 B1_z
  replace B1 := B1.on hb1
  replace hy' := hy'.on hb1
  replace HB := below_go HB HBs hb1
  clear hb1
  go_wp2_with fail
  refine (DrawRingNumbers_any B' m' c' _ hy' (by omega)).mono ?_
  rintro e v28 ⟨⟨r, rfl⟩, hb1⟩
  replace B1 := B1.on hb1
  replace hy' := hy'.on hb1
  replace HB := below_go HB HBs hb1
  clear hb1
  go_wp2_with fail
  refine (impl_RingNumbers_any r _).mono ?_
  rintro e v29 ⟨rfl, hb1⟩
  replace B1 := B1.on hb1
  replace hy' := hy'.on hb1
  replace HB := below_go HB HBs hb1
  clear hb1
  go_wp2_with fail
  refine (spec_RingNumbers_any r _).mono ?_
  rintro e v30 ⟨rfl, hb1⟩
  replace B1 := B1.on hb1
  replace hy' := hy'.on hb1
  replace HB := below_go HB HBs hb1
  clear hb1
  go_wp2_with fail
  refine (DrawDistanceOf_any B' m' c' _ hy' (by omega)).mono ?_
  rintro e v31 ⟨⟨x, y, rfl⟩, hb1⟩
  replace B1 := B1.on hb1
  replace hy' := hy'.on hb1
  replace HB := below_go HB HBs hb1
  clear hb1
  go_wp2_with fail
  refine (impl_DistanceOf_any x y _).mono ?_
  rintro e v32 ⟨rfl, hb1⟩
  replace B1 := B1.on hb1
  replace hy' := hy'.on hb1
  replace HB := below_go HB HBs hb1
  clear hb1
  go_wp2_with fail
  refine (spec_DistanceOf_any x y _).mono ?_
  rintro e v33 ⟨rfl, hb1⟩
  replace B1 := B1.on hb1
  replace hy' := hy'.on hb1
  replace HB := below_go HB HBs hb1
  clear hb1
  go_wp2_with fail
  refine (DrawDiagonalOf_any B' m' c' _ hy' (by omega)).mono ?_
  rintro e v34 ⟨⟨dx, dy, count, rfl⟩, hb1⟩
  replace B1 := B1.on hb1
  replace hy' := hy'.on hb1
  replace HB := below_go HB HBs hb1
  clear hb1
  go_wp2_with fail
  refine (impl_DiagonalOf_any dx dy count _).mono ?_
  rintro e v35 ⟨Ag, cg, rfl, Og, hb1⟩
  replace B1 := B1.on hb1
  replace hy' := hy'.on hb1
  replace HB := below_go HB HBs hb1
  clear hb1
  go_wp2_with fail
  refine (spec_DiagonalOf_any dx dy count _).mono ?_
  rintro e v36 ⟨Ah, ch, rfl, Oh, hb1⟩
  replace B1 := B1.on hb1
  replace hy' := hy'.on hb1
  replace Og := Og.on hb1
  replace HB := below_go HB HBs hb1
  clear hb1
  go_wp2_with fail
  refine (DrawWindowOf_any B' m' c' _ hy' (by omega)).mono ?_
  rintro e v37 ⟨⟨fx, fy, wide, tall, rfl⟩, hb1⟩
  replace B1 := B1.on hb1
  replace hy' := hy'.on hb1
  replace Og := Og.on hb1
  replace Oh := Oh.on hb1
  replace HB := below_go HB HBs hb1
  clear hb1
  clear hy'
  go_wp2_with fail
  have hb1 := below_on (w := v37) (.cells #[.int .i64 (fx), .int .i64 (fy)] 26)
  have B2 := box_at v37 (fx) (fy) 26
  replace B1 := B1.on hb1
  replace Og := Og.on hb1
  replace Oh := Oh.on hb1
  replace HB := below_go HB HBs hb1
  generalize hw1 : v37.alloc (.cells #[.int .i64 (fx), .int .i64 (fy)] 26) = v38 at B1 Og Oh B2 HB ⊢
  generalize hR1 : v37.heap.size = RB2 at B2 ⊢
  clear hb1 hw1 hR1
  refine (impl_WindowOf_any fx fy wide tall _).mono ?_
  rintro e v39 ⟨Aw, cw, Afw, cfw, rfl, Ow, hb1⟩
  replace B1 := B1.on hb1
  replace B2 := B2.on hb1
  replace Og := Og.on hb1
  replace Oh := Oh.on hb1
  replace HB := below_go HB HBs hb1
  clear hb1
  have B2_0 := B2.c0
  have B2_1 := B2.c1
  have B2_z := B2.z
  go_wp2_with fail
  refine (spec_WindowOf_any fx fy wide tall _).mono ?_
  rintro e v40 ⟨Ay, cy, Afy, cfy, rfl, Oy, hb1⟩
  clear B2_0 B2_1 B2_z
  replace B1 := B1.on hb1
  replace B2 := B2.on hb1
  replace Og := Og.on hb1
  replace Oh := Oh.on hb1
  replace Ow := Ow.on hb1
  replace HB := below_go HB HBs hb1
  clear hb1
  go_wp2_with fail
  refine (oSame_b Ag Ah _ cg ch _ _ _ _ (dgV dx dy count) _ rfl (dgV_len dx dy count) Og Oh).mono ?_
  rintro e v41 ⟨rfl, hb1⟩
  replace B1 := B1.on hb1
  replace B2 := B2.on hb1
  replace Og := Og.on hb1
  replace Oh := Oh.on hb1
  replace Ow := Ow.on hb1
  replace Oy := Oy.on hb1
  replace HB := below_go HB HBs hb1
  clear hb1
  go_wp2_with fail
  refine (oRows_b Aw Ay _ cw cy _ _ _ _ (rowsOf (wiV fx fy wide tall)) _ _ _ _ _ (wi_len fx fy wide tall).1 (wi_len fx fy wide tall).2 Ow Oy).mono ?_
  rintro e v42 ⟨rfl, hb1⟩
  replace B1 := B1.on hb1
  replace B2 := B2.on hb1
  replace Og := Og.on hb1
  replace Oh := Oh.on hb1
  replace Ow := Ow.on hb1
  replace Oy := Oy.on hb1
  replace HB := below_go HB HBs hb1
  clear hb1
  clear Oh Oy
  go_upto_if 458 with fail
  refine wp_cut (MeetH [.inr 0, .inr 1, .inr 2, .inr 3, .inr 4, .inr 5, .inr 6, .inr 7, .inr 8, .inr 9, .inr 10, .inr 11, .inr 12, .inr 13, .inr 14, .inr 15, .inr 16, .inr 17, .inr 18, .inr 19, .inr 20, .inr 21, .inr 22, .inr 23, .inr 24, .inr 25, .inr 26, .inr 27, .inr 28, .inr 29, .inr 30, .inr 31, .inr 32, .inr 33, .inr 34, .inr 35, .inr 36, .inr 37, .inr 38, .inl (.int .i64 r), .inl (.int .i64 (loV r)), .inl (.int .i64 (hiV r)), .inl (.bool (r6B r)), .inr 43, .inr 44, .inr 45, .inl (.int .i64 x), .inl (.int .i64 y), .inl (.int .i64 (dsV x y)), .inl (.bool (d6B x y)), .inr 50, .inr 51, .inl (.int .i64 dx), .inl (.int .i64 dy), .inl (.int .i64 count), .inl (.slice Ag (dgV dx dy count).length cg), .inl (.bool (dgOk dx dy count)), .inr 57, .inr 58, .inl (.pointer (some ⟨RB2, 0, none⟩)), .inl (.int .i64 wide), .inl (.int .i64 tall), .inl (.slice Aw (wiV fx fy wide tall).length cw), .inl (.bool (wnOk fx fy wide tall)), .inr 64, .inr 65, .inr 66, .inr 67, .inr 68, .inr 69, .inr 70, .inr 71, .inr 72, .inr 73, .inr 74, .inr 75, .inr 76, .inr 77, .inr 78, .inr 79, .inr 80, .inr 81, .inr 82, .inr 83, .inr 84, .inr 85, .inr 86, .inr 87, .inr 88, .inr 89, .inr 90, .inr 91, .inr 92, .inr 93, .inr 94, .inr 95, .inr 96, .inr 97, .inr 98, .inr 99, .inr 100, .inr 101, .inr 102, .inr 103, .inr 104, .inr 105, .inr 106, .inr 107, .inr 108, .inr 109, .inr 110, .inr 111, .inr 112, .inr 113, .inr 114, .inr 115, .inr 116, .inr 117, .inr 118, .inr 119, .inr 120, .inr 121, .inr 122, .inr 123, .inr 124, .inr 125, .inr 126, .inr 127, .inr 128, .inr 129, .inr 130, .inr 131, .inr 132, .inr 133, .inr 134, .inr 135, .inr 136, .inr 137, .inr 138, .inr 139, .inr 140, .inr 141, .inr 142, .inr 143, .inr 144, .inr 145, .inr 146, .inr 147, .inr 148, .inr 149, .inr 150, .inr 151, .inr 152, .inr 153, .inr 154, .inr 155, .inr 156, .inr 157, .inr 158, .inr 159, .inr 160, .inr 161, .inr 162, .inr 163, .inr 164, .inr 165, .inr 166, .inr 167, .inr 168, .inr 169, .inr 170, .inr 171, .inr 172, .inr 173, .inr 174, .inr 175, .inr 176, .inr 177, .inr 178, .inr 179, .inr 180, .inr 181, .inr 182, .inr 183, .inr 184, .inr 185, .inr 186, .inr 187, .inr 188, .inr 189, .inr 190, .inr 191, .inr 192, .inr 193, .inr 194, .inr 195, .inr 196, .inr 197, .inr 198, .inr 199, .inr 200, .inr 201, .inr 202, .inr 203, .inr 204, .inr 205, .inr 206, .inr 207, .inr 208, .inr 209, .inr 210, .inr 211, .inr 212, .inr 213, .inr 214, .inr 215, .inr 216, .inr 217, .inr 218, .inr 219, .inr 220, .inr 221, .inr 222, .inr 223, .inr 224, .inr 225, .inr 226, .inr 227, .inr 228, .inr 229, .inr 230, .inr 231, .inr 232, .inr 233, .inr 234, .inr 235, .inr 236, .inr 237, .inr 238, .inr 239, .inr 240, .inr 241, .inr 242, .inr 243, .inr 244, .inr 245, .inr 246, .inr 247, .inr 248, .inr 249, .inr 250, .inr 251, .inr 252, .inr 253, .inr 254, .inr 255, .inr 256, .inr 257, .inr 258, .inr 259, .inr 260, .inr 261, .inr 262, .inr 263, .inr 264, .inr 265, .inr 266, .inr 267, .inr 268, .inr 269, .inr 270, .inr 271, .inr 272, .inr 273, .inr 274, .inr 275, .inr 276, .inr 277, .inr 278, .inr 279, .inr 280, .inr 281, .inr 282, .inr 283, .inr 284, .inr 285, .inr 286, .inr 287, .inr 288, .inr 289, .inr 290, .inr 291, .inr 292, .inr 293, .inr 294, .inr 295, .inr 296, .inr 297, .inr 298, .inr 299, .inr 300, .inr 301, .inr 302, .inr 303, .inr 304, .inr 305, .inr 306, .inr 307, .inr 308, .inr 309, .inr 310, .inr 311, .inr 312, .inr 313, .inr 314, .inr 315, .inr 316, .inr 317, .inr 318, .inr 319, .inr 320, .inr 321, .inr 322, .inr 323, .inr 324, .inr 325, .inr 326, .inr 327, .inr 328, .inr 329, .inr 330, .inr 331, .inr 332, .inr 333, .inr 334, .inr 335, .inr 336, .inr 337, .inr 338, .inr 339, .inr 340, .inr 341, .inr 342, .inr 343, .inr 344, .inr 345, .inr 346, .inr 347, .inr 348, .inr 349, .inr 350, .inr 351, .inr 352, .inr 353, .inr 354, .inr 355, .inr 356, .inr 357, .inr 358, .inr 359, .inr 360, .inr 361, .inr 362, .inr 363, .inr 364, .inr 365, .inr 366, .inr 367, .inr 368, .inr 369, .inr 370, .inr 371, .inr 372, .inr 373, .inr 374, .inr 375, .inr 376, .inr 377, .inr 378, .inr 379, .inr 380, .inr 381, .inr 382, .inr 383, .inr 384, .inr 385, .inr 386, .inr 387, .inr 388, .inr 389, .inr 390, .inr 391, .inr 392, .inr 393, .inr 394, .inr 395, .inr 396, .inr 397, .inr 398, .inr 399, .inr 400, .inr 401, .inr 402, .inr 403, .inr 404, .inr 405, .inr 406, .inr 407, .inr 408, .inr 409, .inr 410, .inr 411, .inr 412, .inr 413, .inr 414, .inr 415, .inr 416, .inr 417, .inr 418, .inr 419, .inr 420, .inr 421, .inr 422, .inr 423, .inr 424, .inr 425, .inr 426, .inr 427, .inr 428, .inr 429, .inr 430, .inr 431, .inr 432, .inr 433, .inr 434, .inr 435, .inr 436, .inr 437, .inr 438, .inr 439, .inr 440, .inr 441, .inr 442, .inr 443, .inr 444, .inr 445, .inr 446, .inr 447, .inr 448, .inr 449, .inr 450, .inr 451, .inr 452, .inr 453, .inr 454, .inr 455, .inr 456, .inr 457, .inr 458, .inr 459, .inr 460, .inr 461, .inr 462, .inr 463, .inr 464, .inr 465, .inr 466, .inr 467, .inr 468, .inr 469, .inr 470, .inr 471, .inr 472, .inr 473, .inr 474, .inr 475, .inr 476, .inr 477, .inr 478, .inr 479, .inr 480, .inr 481, .inr 482, .inr 483, .inr 484, .inr 485, .inr 486, .inr 487, .inr 488, .inr 489, .inr 490, .inr 491, .inr 492, .inr 493, .inr 494, .inr 495, .inr 496, .inr 497, .inr 498, .inr 499, .inr 500, .inr 501, .inr 502, .inr 503, .inr 504, .inr 505, .inr 506, .inr 507, .inr 508, .inr 509, .inr 510, .inr 511, .inr 512, .inr 513, .inr 514, .inr 515, .inr 516, .inr 517, .inr 518, .inr 519, .inr 520, .inr 521, .inr 522, .inr 523, .inr 524, .inr 525, .inr 526, .inr 527, .inr 528, .inr 529, .inr 530, .inr 531, .inr 532, .inr 533, .inr 534, .inr 535, .inr 536, .inr 537, .inr 538, .inr 539, .inr 540, .inr 541, .inr 542, .inr 543, .inr 544, .inr 545, .inr 546, .inr 547, .inr 548, .inr 549, .inr 550, .inr 551, .inr 552, .inr 553, .inr 554, .inr 555, .inr 556, .inr 557, .inr 558, .inr 559, .inr 560, .inr 561, .inr 562, .inr 563, .inr 564, .inr 565, .inr 566, .inr 567, .inr 568, .inr 569, .inr 570, .inr 571, .inr 572, .inr 573, .inr 574, .inr 575, .inr 576, .inr 577, .inr 578, .inr 579, .inr 580, .inr 581, .inr 582, .inr 583, .inr 584, .inr 585, .inr 586, .inr 587, .inr 588, .inr 589, .inr 590, .inr 591, .inr 592, .inr 593, .inr 594, .inr 595, .inr 596, .inr 597, .inr 598, .inr 599, .inr 600, .inr 601, .inr 602, .inr 603, .inr 604, .inr 605, .inr 606, .inr 607, .inr 608, .inr 609, .inr 610, .inr 611, .inr 612, .inr 613, .inr 614, .inr 615, .inr 616, .inr 617, .inr 618, .inr 619, .inr 620, .inr 621, .inr 622, .inr 623, .inr 624, .inr 625, .inr 626, .inr 627, .inr 628, .inr 629, .inr 630, .inr 631, .inr 632, .inr 633, .inr 634, .inr 635, .inr 636, .inr 637, .inr 638, .inr 639, .inr 640, .inr 641, .inr 642, .inr 643, .inr 644, .inr 645, .inr 646, .inr 647] (fun wx => Below v42.heap.size v42 wx)) (MeetH.go _ (by rfl) ?_) ?_
  rotate_left
  · intro _ _ _ _
    as_aux_lemma =>
    clear HB HBs
    have HB : Below v42.heap.size v42 v42 := Below.refl _ _
    have HBs : v42.heap.size ≤ v42.heap.size := Nat.le_refl _
    rcases Bool.eq_false_or_eq_true (isSpot sx sy) with h | h
    · simp only [h]
      have q := nuf_of h
      have e1 := q.b
      have e2 := q.sx
      have e3 := q.sy
      go_wp2_with fail
      refine (impl_SpotOf_any _ _).mono ?_
      rintro e v43 ⟨rfl, hb1⟩
      replace B1 := B1.on hb1
      replace B2 := B2.on hb1
      replace Og := Og.on hb1
      replace Ow := Ow.on hb1
      replace HB := below_go HB HBs hb1
      clear hb1
      go_upto_region 55 with fail
      try simp only [e2, e3]
      clear e2 e3
      have hb1 := below_on (w := v43) (.cells #[.int .i64 (sx), .int .i64 (sy)] 26)
      have K5 := box_at v43 (sx) (sy) 26
      replace B1 := B1.on hb1
      replace B2 := B2.on hb1
      replace Og := Og.on hb1
      replace Ow := Ow.on hb1
      replace HB := below_go HB HBs hb1
      generalize hw1 : v43.alloc (.cells #[.int .i64 (sx), .int .i64 (sy)] 26) = v44 at B1 B2 Og Ow K5 HB ⊢
      generalize hR1 : v43.heap.size = RK5 at K5 ⊢
      clear hb1 hw1 hR1
      have B1_0 := B1.c0
      have B1_1 := B1.c1
      have B1_z := B1.z
      have K5_0 := K5.c0
      have K5_1 := K5.c1
      have K5_z := K5.z
      go_wp2_with fail
      refine Met.intro ?_
      go_step
      refine MeetH.of ?_ ?_
      · exact HB
      repeat (first | refine Agr.skip ?_ | refine Agr.keep ?_ | exact Agr.nil)
    · simp only [h]
      go_wp2_with fail
      refine Met.intro ?_
      go_step
      refine MeetH.of ?_ ?_
      · exact HB
      repeat (first | refine Agr.skip ?_ | refine Agr.keep ?_ | exact Agr.nil)
  intro u45 v45 hb1
  replace B1 := B1.on hb1
  replace B2 := B2.on hb1
  replace Og := Og.on hb1
  replace Ow := Ow.on hb1
  replace HB := below_go HB HBs hb1
  clear hb1
  as_aux_lemma =>
  simp only [fillH]
  go_upto_region 57 with fail
  obtain ⟨b9, hb9⟩ : ∃ b, b = (r6B r && decide (0 < r)) := ⟨_, rfl⟩
  refine wp_cut (MeetH [.inr 0, .inr 1, .inr 2, .inr 3, .inr 4, .inr 5, .inr 6, .inr 7, .inr 8, .inr 9, .inr 10, .inr 11, .inr 12, .inr 13, .inr 14, .inr 15, .inr 16, .inr 17, .inr 18, .inr 19, .inr 20, .inr 21, .inr 22, .inr 23, .inr 24, .inr 25, .inr 26, .inr 27, .inr 28, .inr 29, .inr 30, .inr 31, .inr 32, .inr 33, .inr 34, .inr 35, .inr 36, .inr 37, .inr 38, .inl (.int .i64 r), .inl (.int .i64 (loV r)), .inl (.int .i64 (hiV r)), .inr 42, .inr 43, .inr 44, .inr 45, .inl (.int .i64 x), .inl (.int .i64 y), .inl (.int .i64 (dsV x y)), .inl (.bool (d6B x y)), .inr 50, .inr 51, .inl (.int .i64 dx), .inl (.int .i64 dy), .inl (.int .i64 count), .inl (.slice Ag (dgV dx dy count).length cg), .inl (.bool (dgOk dx dy count)), .inr 57, .inr 58, .inl (.pointer (some ⟨RB2, 0, none⟩)), .inl (.int .i64 wide), .inl (.int .i64 tall), .inl (.slice Aw (wiV fx fy wide tall).length cw), .inl (.bool (wnOk fx fy wide tall)), .inr 64, .inr 65, .inr 66, .inr 67, .inr 68, .inr 69, .inr 70, .inr 71, .inr 72, .inr 73, .inr 74, .inr 75, .inr 76, .inr 77, .inr 78, .inr 79, .inr 80, .inr 81, .inr 82, .inr 83, .inr 84, .inr 85, .inr 86, .inr 87, .inr 88, .inr 89, .inr 90, .inr 91, .inr 92, .inr 93, .inr 94, .inr 95, .inr 96, .inr 97, .inr 98, .inr 99, .inr 100, .inr 101, .inr 102, .inr 103, .inr 104, .inr 105, .inr 106, .inr 107, .inr 108, .inr 109, .inr 110, .inr 111, .inr 112, .inr 113, .inr 114, .inr 115, .inr 116, .inr 117, .inr 118, .inr 119, .inr 120, .inr 121, .inr 122, .inr 123, .inr 124, .inr 125, .inr 126, .inr 127, .inr 128, .inr 129, .inr 130, .inr 131, .inr 132, .inr 133, .inr 134, .inr 135, .inr 136, .inr 137, .inr 138, .inr 139, .inr 140, .inr 141, .inr 142, .inr 143, .inr 144, .inr 145, .inr 146, .inr 147, .inr 148, .inr 149, .inr 150, .inr 151, .inr 152, .inr 153, .inr 154, .inr 155, .inr 156, .inr 157, .inr 158, .inr 159, .inr 160, .inr 161, .inr 162, .inr 163, .inr 164, .inr 165, .inr 166, .inr 167, .inr 168, .inr 169, .inr 170, .inr 171, .inr 172, .inr 173, .inr 174, .inr 175, .inr 176, .inr 177, .inr 178, .inr 179, .inr 180, .inr 181, .inr 182, .inr 183, .inr 184, .inr 185, .inr 186, .inr 187, .inr 188, .inr 189, .inr 190, .inr 191, .inr 192, .inr 193, .inr 194, .inr 195, .inr 196, .inr 197, .inr 198, .inr 199, .inr 200, .inr 201, .inr 202, .inr 203, .inr 204, .inr 205, .inr 206, .inr 207, .inr 208, .inr 209, .inr 210, .inr 211, .inr 212, .inr 213, .inr 214, .inr 215, .inr 216, .inr 217, .inr 218, .inr 219, .inr 220, .inr 221, .inr 222, .inr 223, .inr 224, .inr 225, .inr 226, .inr 227, .inr 228, .inr 229, .inr 230, .inr 231, .inr 232, .inr 233, .inr 234, .inr 235, .inr 236, .inr 237, .inr 238, .inr 239, .inr 240, .inr 241, .inr 242, .inr 243, .inr 244, .inr 245, .inr 246, .inr 247, .inr 248, .inr 249, .inr 250, .inr 251, .inr 252, .inr 253, .inr 254, .inr 255, .inr 256, .inr 257, .inr 258, .inr 259, .inr 260, .inr 261, .inr 262, .inr 263, .inr 264, .inr 265, .inr 266, .inr 267, .inr 268, .inr 269, .inr 270, .inr 271, .inr 272, .inr 273, .inr 274, .inr 275, .inr 276, .inr 277, .inr 278, .inr 279, .inr 280, .inr 281, .inr 282, .inr 283, .inr 284, .inr 285, .inr 286, .inr 287, .inr 288, .inr 289, .inr 290, .inr 291, .inr 292, .inr 293, .inr 294, .inr 295, .inr 296, .inr 297, .inr 298, .inr 299, .inr 300, .inr 301, .inr 302, .inr 303, .inr 304, .inr 305, .inr 306, .inr 307, .inr 308, .inr 309, .inr 310, .inr 311, .inr 312, .inr 313, .inr 314, .inr 315, .inr 316, .inr 317, .inr 318, .inr 319, .inr 320, .inr 321, .inr 322, .inr 323, .inr 324, .inr 325, .inr 326, .inr 327, .inr 328, .inr 329, .inr 330, .inr 331, .inr 332, .inr 333, .inr 334, .inr 335, .inr 336, .inr 337, .inr 338, .inr 339, .inr 340, .inr 341, .inr 342, .inr 343, .inr 344, .inr 345, .inr 346, .inr 347, .inr 348, .inr 349, .inr 350, .inr 351, .inr 352, .inr 353, .inr 354, .inr 355, .inr 356, .inr 357, .inr 358, .inr 359, .inr 360, .inr 361, .inr 362, .inr 363, .inr 364, .inr 365, .inr 366, .inr 367, .inr 368, .inr 369, .inr 370, .inr 371, .inr 372, .inr 373, .inr 374, .inr 375, .inr 376, .inr 377, .inr 378, .inr 379, .inr 380, .inr 381, .inr 382, .inr 383, .inr 384, .inr 385, .inr 386, .inr 387, .inr 388, .inr 389, .inr 390, .inr 391, .inr 392, .inr 393, .inr 394, .inr 395, .inr 396, .inr 397, .inr 398, .inr 399, .inr 400, .inr 401, .inr 402, .inr 403, .inr 404, .inr 405, .inr 406, .inr 407, .inr 408, .inr 409, .inr 410, .inr 411, .inr 412, .inr 413, .inr 414, .inr 415, .inr 416, .inr 417, .inr 418, .inr 419, .inr 420, .inr 421, .inr 422, .inr 423, .inr 424, .inr 425, .inr 426, .inr 427, .inr 428, .inr 429, .inr 430, .inr 431, .inr 432, .inr 433, .inr 434, .inr 435, .inr 436, .inr 437, .inr 438, .inr 439, .inr 440, .inr 441, .inr 442, .inr 443, .inr 444, .inr 445, .inr 446, .inr 447, .inr 448, .inr 449, .inr 450, .inr 451, .inr 452, .inr 453, .inr 454, .inr 455, .inr 456, .inr 457, .inr 458, .inr 459, .inr 460, .inr 461, .inr 462, .inr 463, .inr 464, .inr 465, .inr 466, .inr 467, .inr 468, .inr 469, .inr 470, .inr 471, .inr 472, .inr 473, .inr 474, .inl (.bool b9), .inr 476, .inr 477, .inr 478, .inr 479, .inr 480, .inr 481, .inr 482, .inr 483, .inr 484, .inr 485, .inr 486, .inr 487, .inr 488, .inr 489, .inr 490, .inr 491, .inr 492, .inr 493, .inr 494, .inr 495, .inr 496, .inr 497, .inr 498, .inr 499, .inr 500, .inr 501, .inr 502, .inr 503, .inr 504, .inr 505, .inr 506, .inr 507, .inr 508, .inr 509, .inr 510, .inr 511, .inr 512, .inr 513, .inr 514, .inr 515, .inr 516, .inr 517, .inr 518, .inr 519, .inr 520, .inr 521, .inr 522, .inr 523, .inr 524, .inr 525, .inr 526, .inr 527, .inr 528, .inr 529, .inr 530, .inr 531, .inr 532, .inr 533, .inr 534, .inr 535, .inr 536, .inr 537, .inr 538, .inr 539, .inr 540, .inr 541, .inr 542, .inr 543, .inr 544, .inr 545, .inr 546, .inr 547, .inr 548, .inr 549, .inr 550, .inr 551, .inr 552, .inr 553, .inr 554, .inr 555, .inr 556, .inr 557, .inr 558, .inr 559, .inr 560, .inr 561, .inr 562, .inr 563, .inr 564, .inr 565, .inr 566, .inr 567, .inr 568, .inr 569, .inr 570, .inr 571, .inr 572, .inr 573, .inr 574, .inr 575, .inr 576, .inr 577, .inr 578, .inr 579, .inr 580, .inr 581, .inr 582, .inr 583, .inr 584, .inr 585, .inr 586, .inr 587, .inr 588, .inr 589, .inr 590, .inr 591, .inr 592, .inr 593, .inr 594, .inr 595, .inr 596, .inr 597, .inr 598, .inr 599, .inr 600, .inr 601, .inr 602, .inr 603, .inr 604, .inr 605, .inr 606, .inr 607, .inr 608, .inr 609, .inr 610, .inr 611, .inr 612, .inr 613, .inr 614, .inr 615, .inr 616, .inr 617, .inr 618, .inr 619, .inr 620, .inr 621, .inr 622, .inr 623, .inr 624, .inr 625, .inr 626, .inr 627, .inr 628, .inr 629, .inr 630, .inr 631, .inr 632, .inr 633, .inr 634, .inr 635, .inr 636, .inr 637, .inr 638, .inr 639, .inr 640, .inr 641, .inr 642, .inr 643, .inr 644, .inr 645, .inr 646, .inr 647] (fun wx => Below v45.heap.size v45 wx)) (MeetH.go _ (by rfl) ?_) ?_
  rotate_left
  · intro _ _ _ _
    as_aux_lemma =>
    clear HB HBs
    have HB : Below v45.heap.size v45 v45 := Below.refl _ _
    have HBs : v45.heap.size ≤ v45.heap.size := Nat.le_refl _
    rcases Bool.eq_false_or_eq_true (r6B r) with h | h
    · simp only [h]
      rcases Int.lt_or_le 0 r with hp | hp
      · obtain rfl : b9 = true := by rw [hb9, h]; simp; omega
        clear hb9
        go_wp2_with fail
        refine Met.intro ?_
        go_step
        refine MeetH.of ?_ ?_
        · exact HB
        repeat (first | refine Agr.skip ?_ | refine Agr.keep ?_ | exact Agr.nil)
      · obtain rfl : b9 = false := by rw [hb9, h]; simp; omega
        clear hb9
        have hp2 : ¬ 0 < r := by omega
        go_wp2_with fail
        refine Met.intro ?_
        go_step
        refine MeetH.of ?_ ?_
        · exact HB
        repeat (first | refine Agr.skip ?_ | refine Agr.keep ?_ | exact Agr.nil)
    · simp only [h]
      obtain rfl : b9 = false := by rw [hb9, h]; simp
      clear hb9
      go_wp2_with fail
      refine Met.intro ?_
      go_step
      refine MeetH.of ?_ ?_
      · exact HB
      repeat (first | refine Agr.skip ?_ | refine Agr.keep ?_ | exact Agr.nil)
  intro u46 v46 hb1
  replace B1 := B1.on hb1
  replace B2 := B2.on hb1
  replace Og := Og.on hb1
  replace Ow := Ow.on hb1
  replace HB := below_go HB HBs hb1
  clear hb1
  as_aux_lemma =>
  simp only [fillH]
  go_upto_if 475 with fail
  refine wp_cut (MeetH [.inr 0, .inr 1, .inr 2, .inr 3, .inr 4, .inr 5, .inr 6, .inr 7, .inr 8, .inr 9, .inr 10, .inr 11, .inr 12, .inr 13, .inr 14, .inr 15, .inr 16, .inr 17, .inr 18, .inr 19, .inr 20, .inr 21, .inr 22, .inr 23, .inr 24, .inr 25, .inr 26, .inr 27, .inr 28, .inr 29, .inr 30, .inr 31, .inr 32, .inr 33, .inr 34, .inr 35, .inr 36, .inr 37, .inr 38, .inr 39, .inr 40, .inr 41, .inr 42, .inr 43, .inr 44, .inr 45, .inl (.int .i64 x), .inl (.int .i64 y), .inl (.int .i64 (dsV x y)), .inl (.bool (d6B x y)), .inr 50, .inr 51, .inl (.int .i64 dx), .inl (.int .i64 dy), .inl (.int .i64 count), .inl (.slice Ag (dgV dx dy count).length cg), .inl (.bool (dgOk dx dy count)), .inr 57, .inr 58, .inl (.pointer (some ⟨RB2, 0, none⟩)), .inl (.int .i64 wide), .inl (.int .i64 tall), .inl (.slice Aw (wiV fx fy wide tall).length cw), .inl (.bool (wnOk fx fy wide tall)), .inr 64, .inr 65, .inr 66, .inr 67, .inr 68, .inr 69, .inr 70, .inr 71, .inr 72, .inr 73, .inr 74, .inr 75, .inr 76, .inr 77, .inr 78, .inr 79, .inr 80, .inr 81, .inr 82, .inr 83, .inr 84, .inr 85, .inr 86, .inr 87, .inr 88, .inr 89, .inr 90, .inr 91, .inr 92, .inr 93, .inr 94, .inr 95, .inr 96, .inr 97, .inr 98, .inr 99, .inr 100, .inr 101, .inr 102, .inr 103, .inr 104, .inr 105, .inr 106, .inr 107, .inr 108, .inr 109, .inr 110, .inr 111, .inr 112, .inr 113, .inr 114, .inr 115, .inr 116, .inr 117, .inr 118, .inr 119, .inr 120, .inr 121, .inr 122, .inr 123, .inr 124, .inr 125, .inr 126, .inr 127, .inr 128, .inr 129, .inr 130, .inr 131, .inr 132, .inr 133, .inr 134, .inr 135, .inr 136, .inr 137, .inr 138, .inr 139, .inr 140, .inr 141, .inr 142, .inr 143, .inr 144, .inr 145, .inr 146, .inr 147, .inr 148, .inr 149, .inr 150, .inr 151, .inr 152, .inr 153, .inr 154, .inr 155, .inr 156, .inr 157, .inr 158, .inr 159, .inr 160, .inr 161, .inr 162, .inr 163, .inr 164, .inr 165, .inr 166, .inr 167, .inr 168, .inr 169, .inr 170, .inr 171, .inr 172, .inr 173, .inr 174, .inr 175, .inr 176, .inr 177, .inr 178, .inr 179, .inr 180, .inr 181, .inr 182, .inr 183, .inr 184, .inr 185, .inr 186, .inr 187, .inr 188, .inr 189, .inr 190, .inr 191, .inr 192, .inr 193, .inr 194, .inr 195, .inr 196, .inr 197, .inr 198, .inr 199, .inr 200, .inr 201, .inr 202, .inr 203, .inr 204, .inr 205, .inr 206, .inr 207, .inr 208, .inr 209, .inr 210, .inr 211, .inr 212, .inr 213, .inr 214, .inr 215, .inr 216, .inr 217, .inr 218, .inr 219, .inr 220, .inr 221, .inr 222, .inr 223, .inr 224, .inr 225, .inr 226, .inr 227, .inr 228, .inr 229, .inr 230, .inr 231, .inr 232, .inr 233, .inr 234, .inr 235, .inr 236, .inr 237, .inr 238, .inr 239, .inr 240, .inr 241, .inr 242, .inr 243, .inr 244, .inr 245, .inr 246, .inr 247, .inr 248, .inr 249, .inr 250, .inr 251, .inr 252, .inr 253, .inr 254, .inr 255, .inr 256, .inr 257, .inr 258, .inr 259, .inr 260, .inr 261, .inr 262, .inr 263, .inr 264, .inr 265, .inr 266, .inr 267, .inr 268, .inr 269, .inr 270, .inr 271, .inr 272, .inr 273, .inr 274, .inr 275, .inr 276, .inr 277, .inr 278, .inr 279, .inr 280, .inr 281, .inr 282, .inr 283, .inr 284, .inr 285, .inr 286, .inr 287, .inr 288, .inr 289, .inr 290, .inr 291, .inr 292, .inr 293, .inr 294, .inr 295, .inr 296, .inr 297, .inr 298, .inr 299, .inr 300, .inr 301, .inr 302, .inr 303, .inr 304, .inr 305, .inr 306, .inr 307, .inr 308, .inr 309, .inr 310, .inr 311, .inr 312, .inr 313, .inr 314, .inr 315, .inr 316, .inr 317, .inr 318, .inr 319, .inr 320, .inr 321, .inr 322, .inr 323, .inr 324, .inr 325, .inr 326, .inr 327, .inr 328, .inr 329, .inr 330, .inr 331, .inr 332, .inr 333, .inr 334, .inr 335, .inr 336, .inr 337, .inr 338, .inr 339, .inr 340, .inr 341, .inr 342, .inr 343, .inr 344, .inr 345, .inr 346, .inr 347, .inr 348, .inr 349, .inr 350, .inr 351, .inr 352, .inr 353, .inr 354, .inr 355, .inr 356, .inr 357, .inr 358, .inr 359, .inr 360, .inr 361, .inr 362, .inr 363, .inr 364, .inr 365, .inr 366, .inr 367, .inr 368, .inr 369, .inr 370, .inr 371, .inr 372, .inr 373, .inr 374, .inr 375, .inr 376, .inr 377, .inr 378, .inr 379, .inr 380, .inr 381, .inr 382, .inr 383, .inr 384, .inr 385, .inr 386, .inr 387, .inr 388, .inr 389, .inr 390, .inr 391, .inr 392, .inr 393, .inr 394, .inr 395, .inr 396, .inr 397, .inr 398, .inr 399, .inr 400, .inr 401, .inr 402, .inr 403, .inr 404, .inr 405, .inr 406, .inr 407, .inr 408, .inr 409, .inr 410, .inr 411, .inr 412, .inr 413, .inr 414, .inr 415, .inr 416, .inr 417, .inr 418, .inr 419, .inr 420, .inr 421, .inr 422, .inr 423, .inr 424, .inr 425, .inr 426, .inr 427, .inr 428, .inr 429, .inr 430, .inr 431, .inr 432, .inr 433, .inr 434, .inr 435, .inr 436, .inr 437, .inr 438, .inr 439, .inr 440, .inr 441, .inr 442, .inr 443, .inr 444, .inr 445, .inr 446, .inr 447, .inr 448, .inr 449, .inr 450, .inr 451, .inr 452, .inr 453, .inr 454, .inr 455, .inr 456, .inr 457, .inr 458, .inr 459, .inr 460, .inr 461, .inr 462, .inr 463, .inr 464, .inr 465, .inr 466, .inr 467, .inr 468, .inr 469, .inr 470, .inr 471, .inr 472, .inr 473, .inr 474, .inr 475, .inr 476, .inr 477, .inr 478, .inr 479, .inr 480, .inr 481, .inr 482, .inr 483, .inr 484, .inr 485, .inr 486, .inr 487, .inr 488, .inr 489, .inr 490, .inr 491, .inr 492, .inr 493, .inr 494, .inr 495, .inr 496, .inr 497, .inr 498, .inr 499, .inr 500, .inr 501, .inr 502, .inr 503, .inr 504, .inr 505, .inr 506, .inr 507, .inr 508, .inr 509, .inr 510, .inr 511, .inr 512, .inr 513, .inr 514, .inr 515, .inr 516, .inr 517, .inr 518, .inr 519, .inr 520, .inr 521, .inr 522, .inr 523, .inr 524, .inr 525, .inr 526, .inr 527, .inr 528, .inr 529, .inr 530, .inr 531, .inr 532, .inr 533, .inr 534, .inr 535, .inr 536, .inr 537, .inr 538, .inr 539, .inr 540, .inr 541, .inr 542, .inr 543, .inr 544, .inr 545, .inr 546, .inr 547, .inr 548, .inr 549, .inr 550, .inr 551, .inr 552, .inr 553, .inr 554, .inr 555, .inr 556, .inr 557, .inr 558, .inr 559, .inr 560, .inr 561, .inr 562, .inr 563, .inr 564, .inr 565, .inr 566, .inr 567, .inr 568, .inr 569, .inr 570, .inr 571, .inr 572, .inr 573, .inr 574, .inr 575, .inr 576, .inr 577, .inr 578, .inr 579, .inr 580, .inr 581, .inr 582, .inr 583, .inr 584, .inr 585, .inr 586, .inr 587, .inr 588, .inr 589, .inr 590, .inr 591, .inr 592, .inr 593, .inr 594, .inr 595, .inr 596, .inr 597, .inr 598, .inr 599, .inr 600, .inr 601, .inr 602, .inr 603, .inr 604, .inr 605, .inr 606, .inr 607, .inr 608, .inr 609, .inr 610, .inr 611, .inr 612, .inr 613, .inr 614, .inr 615, .inr 616, .inr 617, .inr 618, .inr 619, .inr 620, .inr 621, .inr 622, .inr 623, .inr 624, .inr 625, .inr 626, .inr 627, .inr 628, .inr 629, .inr 630, .inr 631, .inr 632, .inr 633, .inr 634, .inr 635, .inr 636, .inr 637, .inr 638, .inr 639, .inr 640, .inr 641, .inr 642, .inr 643, .inr 644, .inr 645, .inr 646, .inr 647] (fun wx => Below v46.heap.size v46 wx)) (MeetH.go _ (by rfl) ?_) ?_
  rotate_left
  · intro _ _ _ _
    as_aux_lemma =>
    clear HB HBs
    have HB : Below v46.heap.size v46 v46 := Below.refl _ _
    have HBs : v46.heap.size ≤ v46.heap.size := Nat.le_refl _
    rcases Bool.eq_false_or_eq_true (b9) with h | h
    · simp only [h]
      have hb := h.symm.trans hb9
      clear hb9
      simp only [Bool.true_eq, Bool.and_eq_true, decide_eq_true_eq] at hb
      obtain ⟨q1, q2, q3, q4, q5, q6, q7, q8⟩ := rif_of hb.1 hb.2
      have hr6 := r6_iff.1 hb.1
      have z1 : IntKind.i64.wrap (r - 1) = r - 1 := IntWalk.i64_in _ (by omega)
      have z2 : IntKind.i64.wrap (hiV r - loV r) = hiV r - loV r := IntWalk.i64_in _ (by omega)
      have z3 : IntKind.i64.wrap (hiV r - loV r + 1) = 8 * r := by rw [q5]; exact IntWalk.i64_in _ (by omega)
      have z4 : IntKind.i64.wrap (8 * r) = 8 * r := IntWalk.i64_in _ (by omega)
      have z5 : IntKind.i64.wrap (2 * r) = 2 * r := IntWalk.i64_in _ (by omega)
      have z6 : IntKind.i64.wrap (2 * r - 1) = 2 * r - 1 := IntWalk.i64_in _ (by omega)
      have z7 : IntKind.i64.wrap ((2 * r - 1) * (2 * r - 1)) = loV r := by rw [q8]; exact IntWalk.i64_in _ (by omega)
      clear q5 q8
      go_wp2_with fail
      refine (impl_RingNumbers_any _ _).mono ?_
      rintro e v47 ⟨rfl, hb1⟩
      replace B1 := B1.on hb1
      replace B2 := B2.on hb1
      replace Og := Og.on hb1
      replace Ow := Ow.on hb1
      replace HB := below_go HB HBs hb1
      clear hb1
      go_wp2_with fail
      refine (impl_RootOf_any _ _).mono ?_
      rintro e v48 ⟨rfl, hb1⟩
      replace B1 := B1.on hb1
      replace B2 := B2.on hb1
      replace Og := Og.on hb1
      replace Ow := Ow.on hb1
      replace HB := below_go HB HBs hb1
      clear hb1
      go_wp2_with fail
      refine Met.intro ?_
      go_step
      refine MeetH.of ?_ ?_
      · exact HB
      repeat (first | refine Agr.skip ?_ | refine Agr.keep ?_ | exact Agr.nil)
    · simp only [h]
      go_wp2_with fail
      refine Met.intro ?_
      go_step
      refine MeetH.of ?_ ?_
      · exact HB
      repeat (first | refine Agr.skip ?_ | refine Agr.keep ?_ | exact Agr.nil)
  intro u49 v49 hb1
  replace B1 := B1.on hb1
  replace B2 := B2.on hb1
  replace Og := Og.on hb1
  replace Ow := Ow.on hb1
  replace HB := below_go HB HBs hb1
  clear hb1
  as_aux_lemma =>
  simp only [fillH]
  clear hb9
  go_upto_if 522 with fail
  refine wp_cut (MeetH [.inr 0, .inr 1, .inr 2, .inr 3, .inr 4, .inr 5, .inr 6, .inr 7, .inr 8, .inr 9, .inr 10, .inr 11, .inr 12, .inr 13, .inr 14, .inr 15, .inr 16, .inr 17, .inr 18, .inr 19, .inr 20, .inr 21, .inr 22, .inr 23, .inr 24, .inr 25, .inr 26, .inr 27, .inr 28, .inr 29, .inr 30, .inr 31, .inr 32, .inr 33, .inr 34, .inr 35, .inr 36, .inr 37, .inr 38, .inr 39, .inr 40, .inr 41, .inr 42, .inr 43, .inr 44, .inr 45, .inr 46, .inr 47, .inr 48, .inr 49, .inr 50, .inr 51, .inl (.int .i64 dx), .inl (.int .i64 dy), .inl (.int .i64 count), .inl (.slice Ag (dgV dx dy count).length cg), .inl (.bool (dgOk dx dy count)), .inr 57, .inr 58, .inl (.pointer (some ⟨RB2, 0, none⟩)), .inl (.int .i64 wide), .inl (.int .i64 tall), .inl (.slice Aw (wiV fx fy wide tall).length cw), .inl (.bool (wnOk fx fy wide tall)), .inr 64, .inr 65, .inr 66, .inr 67, .inr 68, .inr 69, .inr 70, .inr 71, .inr 72, .inr 73, .inr 74, .inr 75, .inr 76, .inr 77, .inr 78, .inr 79, .inr 80, .inr 81, .inr 82, .inr 83, .inr 84, .inr 85, .inr 86, .inr 87, .inr 88, .inr 89, .inr 90, .inr 91, .inr 92, .inr 93, .inr 94, .inr 95, .inr 96, .inr 97, .inr 98, .inr 99, .inr 100, .inr 101, .inr 102, .inr 103, .inr 104, .inr 105, .inr 106, .inr 107, .inr 108, .inr 109, .inr 110, .inr 111, .inr 112, .inr 113, .inr 114, .inr 115, .inr 116, .inr 117, .inr 118, .inr 119, .inr 120, .inr 121, .inr 122, .inr 123, .inr 124, .inr 125, .inr 126, .inr 127, .inr 128, .inr 129, .inr 130, .inr 131, .inr 132, .inr 133, .inr 134, .inr 135, .inr 136, .inr 137, .inr 138, .inr 139, .inr 140, .inr 141, .inr 142, .inr 143, .inr 144, .inr 145, .inr 146, .inr 147, .inr 148, .inr 149, .inr 150, .inr 151, .inr 152, .inr 153, .inr 154, .inr 155, .inr 156, .inr 157, .inr 158, .inr 159, .inr 160, .inr 161, .inr 162, .inr 163, .inr 164, .inr 165, .inr 166, .inr 167, .inr 168, .inr 169, .inr 170, .inr 171, .inr 172, .inr 173, .inr 174, .inr 175, .inr 176, .inr 177, .inr 178, .inr 179, .inr 180, .inr 181, .inr 182, .inr 183, .inr 184, .inr 185, .inr 186, .inr 187, .inr 188, .inr 189, .inr 190, .inr 191, .inr 192, .inr 193, .inr 194, .inr 195, .inr 196, .inr 197, .inr 198, .inr 199, .inr 200, .inr 201, .inr 202, .inr 203, .inr 204, .inr 205, .inr 206, .inr 207, .inr 208, .inr 209, .inr 210, .inr 211, .inr 212, .inr 213, .inr 214, .inr 215, .inr 216, .inr 217, .inr 218, .inr 219, .inr 220, .inr 221, .inr 222, .inr 223, .inr 224, .inr 225, .inr 226, .inr 227, .inr 228, .inr 229, .inr 230, .inr 231, .inr 232, .inr 233, .inr 234, .inr 235, .inr 236, .inr 237, .inr 238, .inr 239, .inr 240, .inr 241, .inr 242, .inr 243, .inr 244, .inr 245, .inr 246, .inr 247, .inr 248, .inr 249, .inr 250, .inr 251, .inr 252, .inr 253, .inr 254, .inr 255, .inr 256, .inr 257, .inr 258, .inr 259, .inr 260, .inr 261, .inr 262, .inr 263, .inr 264, .inr 265, .inr 266, .inr 267, .inr 268, .inr 269, .inr 270, .inr 271, .inr 272, .inr 273, .inr 274, .inr 275, .inr 276, .inr 277, .inr 278, .inr 279, .inr 280, .inr 281, .inr 282, .inr 283, .inr 284, .inr 285, .inr 286, .inr 287, .inr 288, .inr 289, .inr 290, .inr 291, .inr 292, .inr 293, .inr 294, .inr 295, .inr 296, .inr 297, .inr 298, .inr 299, .inr 300, .inr 301, .inr 302, .inr 303, .inr 304, .inr 305, .inr 306, .inr 307, .inr 308, .inr 309, .inr 310, .inr 311, .inr 312, .inr 313, .inr 314, .inr 315, .inr 316, .inr 317, .inr 318, .inr 319, .inr 320, .inr 321, .inr 322, .inr 323, .inr 324, .inr 325, .inr 326, .inr 327, .inr 328, .inr 329, .inr 330, .inr 331, .inr 332, .inr 333, .inr 334, .inr 335, .inr 336, .inr 337, .inr 338, .inr 339, .inr 340, .inr 341, .inr 342, .inr 343, .inr 344, .inr 345, .inr 346, .inr 347, .inr 348, .inr 349, .inr 350, .inr 351, .inr 352, .inr 353, .inr 354, .inr 355, .inr 356, .inr 357, .inr 358, .inr 359, .inr 360, .inr 361, .inr 362, .inr 363, .inr 364, .inr 365, .inr 366, .inr 367, .inr 368, .inr 369, .inr 370, .inr 371, .inr 372, .inr 373, .inr 374, .inr 375, .inr 376, .inr 377, .inr 378, .inr 379, .inr 380, .inr 381, .inr 382, .inr 383, .inr 384, .inr 385, .inr 386, .inr 387, .inr 388, .inr 389, .inr 390, .inr 391, .inr 392, .inr 393, .inr 394, .inr 395, .inr 396, .inr 397, .inr 398, .inr 399, .inr 400, .inr 401, .inr 402, .inr 403, .inr 404, .inr 405, .inr 406, .inr 407, .inr 408, .inr 409, .inr 410, .inr 411, .inr 412, .inr 413, .inr 414, .inr 415, .inr 416, .inr 417, .inr 418, .inr 419, .inr 420, .inr 421, .inr 422, .inr 423, .inr 424, .inr 425, .inr 426, .inr 427, .inr 428, .inr 429, .inr 430, .inr 431, .inr 432, .inr 433, .inr 434, .inr 435, .inr 436, .inr 437, .inr 438, .inr 439, .inr 440, .inr 441, .inr 442, .inr 443, .inr 444, .inr 445, .inr 446, .inr 447, .inr 448, .inr 449, .inr 450, .inr 451, .inr 452, .inr 453, .inr 454, .inr 455, .inr 456, .inr 457, .inr 458, .inr 459, .inr 460, .inr 461, .inr 462, .inr 463, .inr 464, .inr 465, .inr 466, .inr 467, .inr 468, .inr 469, .inr 470, .inr 471, .inr 472, .inr 473, .inr 474, .inr 475, .inr 476, .inr 477, .inr 478, .inr 479, .inr 480, .inr 481, .inr 482, .inr 483, .inr 484, .inr 485, .inr 486, .inr 487, .inr 488, .inr 489, .inr 490, .inr 491, .inr 492, .inr 493, .inr 494, .inr 495, .inr 496, .inr 497, .inr 498, .inr 499, .inr 500, .inr 501, .inr 502, .inr 503, .inr 504, .inr 505, .inr 506, .inr 507, .inr 508, .inr 509, .inr 510, .inr 511, .inr 512, .inr 513, .inr 514, .inr 515, .inr 516, .inr 517, .inr 518, .inr 519, .inr 520, .inr 521, .inr 522, .inr 523, .inr 524, .inr 525, .inr 526, .inr 527, .inr 528, .inr 529, .inr 530, .inr 531, .inr 532, .inr 533, .inr 534, .inr 535, .inr 536, .inr 537, .inr 538, .inr 539, .inr 540, .inr 541, .inr 542, .inr 543, .inr 544, .inr 545, .inr 546, .inr 547, .inr 548, .inr 549, .inr 550, .inr 551, .inr 552, .inr 553, .inr 554, .inr 555, .inr 556, .inr 557, .inr 558, .inr 559, .inr 560, .inr 561, .inr 562, .inr 563, .inr 564, .inr 565, .inr 566, .inr 567, .inr 568, .inr 569, .inr 570, .inr 571, .inr 572, .inr 573, .inr 574, .inr 575, .inr 576, .inr 577, .inr 578, .inr 579, .inr 580, .inr 581, .inr 582, .inr 583, .inr 584, .inr 585, .inr 586, .inr 587, .inr 588, .inr 589, .inr 590, .inr 591, .inr 592, .inr 593, .inr 594, .inr 595, .inr 596, .inr 597, .inr 598, .inr 599, .inr 600, .inr 601, .inr 602, .inr 603, .inr 604, .inr 605, .inr 606, .inr 607, .inr 608, .inr 609, .inr 610, .inr 611, .inr 612, .inr 613, .inr 614, .inr 615, .inr 616, .inr 617, .inr 618, .inr 619, .inr 620, .inr 621, .inr 622, .inr 623, .inr 624, .inr 625, .inr 626, .inr 627, .inr 628, .inr 629, .inr 630, .inr 631, .inr 632, .inr 633, .inr 634, .inr 635, .inr 636, .inr 637, .inr 638, .inr 639, .inr 640, .inr 641, .inr 642, .inr 643, .inr 644, .inr 645, .inr 646, .inr 647] (fun wx => Below v49.heap.size v49 wx)) (MeetH.go _ (by rfl) ?_) ?_
  rotate_left
  · intro _ _ _ _
    as_aux_lemma =>
    clear HB HBs
    have HB : Below v49.heap.size v49 v49 := Below.refl _ _
    have HBs : v49.heap.size ≤ v49.heap.size := Nat.le_refl _
    rcases Bool.eq_false_or_eq_true (d6B x y) with h | h
    · simp only [h]
      have q := dsf_of h
      have qa := q.fa
      have qb := q.fb
      have q1 := q.t
      have q2 := q.c
      have q3 := q.l
      have q4 := q.n
      have hz : (dsV x y == 0) = (x == y) := by rw [Bool.eq_iff_iff]; simp [q.z]
      have z1 : IntKind.i64.wrap (x - y) = x - y := IntWalk.i64_in _ (by omega)
      go_wp2_with fail
      refine (impl_DistanceOf_any _ _ _).mono ?_
      rintro e v50 ⟨rfl, hb1⟩
      replace B1 := B1.on hb1
      replace B2 := B2.on hb1
      replace Og := Og.on hb1
      replace Ow := Ow.on hb1
      replace HB := below_go HB HBs hb1
      clear hb1
      go_wp2_with (go_at_call 18; refine (oAbs6_any _ _ (by omega) (by omega)).mono ?_; rintro e w' ⟨rfl, rfl⟩)
      refine Met.intro ?_
      go_step
      refine MeetH.of ?_ ?_
      · exact HB
      repeat (first | refine Agr.skip ?_ | refine Agr.keep ?_ | exact Agr.nil)
    · simp only [h]
      go_wp2_with fail
      refine Met.intro ?_
      go_step
      refine MeetH.of ?_ ?_
      · exact HB
      repeat (first | refine Agr.skip ?_ | refine Agr.keep ?_ | exact Agr.nil)
  intro u51 v51 hb1
  replace B1 := B1.on hb1
  replace B2 := B2.on hb1
  replace Og := Og.on hb1
  replace Ow := Ow.on hb1
  replace HB := below_go HB HBs hb1
  clear hb1
  as_aux_lemma =>
  simp only [fillH]
  go_upto_if 552 with fail
  refine wp_cut (MeetH [.inr 0, .inr 1, .inr 2, .inr 3, .inr 4, .inr 5, .inr 6, .inr 7, .inr 8, .inr 9, .inr 10, .inr 11, .inr 12, .inr 13, .inr 14, .inr 15, .inr 16, .inr 17, .inr 18, .inr 19, .inr 20, .inr 21, .inr 22, .inr 23, .inr 24, .inr 25, .inr 26, .inr 27, .inr 28, .inr 29, .inr 30, .inr 31, .inr 32, .inr 33, .inr 34, .inr 35, .inr 36, .inr 37, .inr 38, .inr 39, .inr 40, .inr 41, .inr 42, .inr 43, .inr 44, .inr 45, .inr 46, .inr 47, .inr 48, .inr 49, .inr 50, .inr 51, .inr 52, .inr 53, .inr 54, .inr 55, .inr 56, .inr 57, .inr 58, .inl (.pointer (some ⟨RB2, 0, none⟩)), .inl (.int .i64 wide), .inl (.int .i64 tall), .inl (.slice Aw (wiV fx fy wide tall).length cw), .inl (.bool (wnOk fx fy wide tall)), .inr 64, .inr 65, .inr 66, .inr 67, .inr 68, .inr 69, .inr 70, .inr 71, .inr 72, .inr 73, .inr 74, .inr 75, .inr 76, .inr 77, .inr 78, .inr 79, .inr 80, .inr 81, .inr 82, .inr 83, .inr 84, .inr 85, .inr 86, .inr 87, .inr 88, .inr 89, .inr 90, .inr 91, .inr 92, .inr 93, .inr 94, .inr 95, .inr 96, .inr 97, .inr 98, .inr 99, .inr 100, .inr 101, .inr 102, .inr 103, .inr 104, .inr 105, .inr 106, .inr 107, .inr 108, .inr 109, .inr 110, .inr 111, .inr 112, .inr 113, .inr 114, .inr 115, .inr 116, .inr 117, .inr 118, .inr 119, .inr 120, .inr 121, .inr 122, .inr 123, .inr 124, .inr 125, .inr 126, .inr 127, .inr 128, .inr 129, .inr 130, .inr 131, .inr 132, .inr 133, .inr 134, .inr 135, .inr 136, .inr 137, .inr 138, .inr 139, .inr 140, .inr 141, .inr 142, .inr 143, .inr 144, .inr 145, .inr 146, .inr 147, .inr 148, .inr 149, .inr 150, .inr 151, .inr 152, .inr 153, .inr 154, .inr 155, .inr 156, .inr 157, .inr 158, .inr 159, .inr 160, .inr 161, .inr 162, .inr 163, .inr 164, .inr 165, .inr 166, .inr 167, .inr 168, .inr 169, .inr 170, .inr 171, .inr 172, .inr 173, .inr 174, .inr 175, .inr 176, .inr 177, .inr 178, .inr 179, .inr 180, .inr 181, .inr 182, .inr 183, .inr 184, .inr 185, .inr 186, .inr 187, .inr 188, .inr 189, .inr 190, .inr 191, .inr 192, .inr 193, .inr 194, .inr 195, .inr 196, .inr 197, .inr 198, .inr 199, .inr 200, .inr 201, .inr 202, .inr 203, .inr 204, .inr 205, .inr 206, .inr 207, .inr 208, .inr 209, .inr 210, .inr 211, .inr 212, .inr 213, .inr 214, .inr 215, .inr 216, .inr 217, .inr 218, .inr 219, .inr 220, .inr 221, .inr 222, .inr 223, .inr 224, .inr 225, .inr 226, .inr 227, .inr 228, .inr 229, .inr 230, .inr 231, .inr 232, .inr 233, .inr 234, .inr 235, .inr 236, .inr 237, .inr 238, .inr 239, .inr 240, .inr 241, .inr 242, .inr 243, .inr 244, .inr 245, .inr 246, .inr 247, .inr 248, .inr 249, .inr 250, .inr 251, .inr 252, .inr 253, .inr 254, .inr 255, .inr 256, .inr 257, .inr 258, .inr 259, .inr 260, .inr 261, .inr 262, .inr 263, .inr 264, .inr 265, .inr 266, .inr 267, .inr 268, .inr 269, .inr 270, .inr 271, .inr 272, .inr 273, .inr 274, .inr 275, .inr 276, .inr 277, .inr 278, .inr 279, .inr 280, .inr 281, .inr 282, .inr 283, .inr 284, .inr 285, .inr 286, .inr 287, .inr 288, .inr 289, .inr 290, .inr 291, .inr 292, .inr 293, .inr 294, .inr 295, .inr 296, .inr 297, .inr 298, .inr 299, .inr 300, .inr 301, .inr 302, .inr 303, .inr 304, .inr 305, .inr 306, .inr 307, .inr 308, .inr 309, .inr 310, .inr 311, .inr 312, .inr 313, .inr 314, .inr 315, .inr 316, .inr 317, .inr 318, .inr 319, .inr 320, .inr 321, .inr 322, .inr 323, .inr 324, .inr 325, .inr 326, .inr 327, .inr 328, .inr 329, .inr 330, .inr 331, .inr 332, .inr 333, .inr 334, .inr 335, .inr 336, .inr 337, .inr 338, .inr 339, .inr 340, .inr 341, .inr 342, .inr 343, .inr 344, .inr 345, .inr 346, .inr 347, .inr 348, .inr 349, .inr 350, .inr 351, .inr 352, .inr 353, .inr 354, .inr 355, .inr 356, .inr 357, .inr 358, .inr 359, .inr 360, .inr 361, .inr 362, .inr 363, .inr 364, .inr 365, .inr 366, .inr 367, .inr 368, .inr 369, .inr 370, .inr 371, .inr 372, .inr 373, .inr 374, .inr 375, .inr 376, .inr 377, .inr 378, .inr 379, .inr 380, .inr 381, .inr 382, .inr 383, .inr 384, .inr 385, .inr 386, .inr 387, .inr 388, .inr 389, .inr 390, .inr 391, .inr 392, .inr 393, .inr 394, .inr 395, .inr 396, .inr 397, .inr 398, .inr 399, .inr 400, .inr 401, .inr 402, .inr 403, .inr 404, .inr 405, .inr 406, .inr 407, .inr 408, .inr 409, .inr 410, .inr 411, .inr 412, .inr 413, .inr 414, .inr 415, .inr 416, .inr 417, .inr 418, .inr 419, .inr 420, .inr 421, .inr 422, .inr 423, .inr 424, .inr 425, .inr 426, .inr 427, .inr 428, .inr 429, .inr 430, .inr 431, .inr 432, .inr 433, .inr 434, .inr 435, .inr 436, .inr 437, .inr 438, .inr 439, .inr 440, .inr 441, .inr 442, .inr 443, .inr 444, .inr 445, .inr 446, .inr 447, .inr 448, .inr 449, .inr 450, .inr 451, .inr 452, .inr 453, .inr 454, .inr 455, .inr 456, .inr 457, .inr 458, .inr 459, .inr 460, .inr 461, .inr 462, .inr 463, .inr 464, .inr 465, .inr 466, .inr 467, .inr 468, .inr 469, .inr 470, .inr 471, .inr 472, .inr 473, .inr 474, .inr 475, .inr 476, .inr 477, .inr 478, .inr 479, .inr 480, .inr 481, .inr 482, .inr 483, .inr 484, .inr 485, .inr 486, .inr 487, .inr 488, .inr 489, .inr 490, .inr 491, .inr 492, .inr 493, .inr 494, .inr 495, .inr 496, .inr 497, .inr 498, .inr 499, .inr 500, .inr 501, .inr 502, .inr 503, .inr 504, .inr 505, .inr 506, .inr 507, .inr 508, .inr 509, .inr 510, .inr 511, .inr 512, .inr 513, .inr 514, .inr 515, .inr 516, .inr 517, .inr 518, .inr 519, .inr 520, .inr 521, .inr 522, .inr 523, .inr 524, .inr 525, .inr 526, .inr 527, .inr 528, .inr 529, .inr 530, .inr 531, .inr 532, .inr 533, .inr 534, .inr 535, .inr 536, .inr 537, .inr 538, .inr 539, .inr 540, .inr 541, .inr 542, .inr 543, .inr 544, .inr 545, .inr 546, .inr 547, .inr 548, .inr 549, .inr 550, .inr 551, .inr 552, .inr 553, .inr 554, .inr 555, .inr 556, .inr 557, .inr 558, .inr 559, .inr 560, .inr 561, .inr 562, .inr 563, .inr 564, .inr 565, .inr 566, .inr 567, .inr 568, .inr 569, .inr 570, .inr 571, .inr 572, .inr 573, .inr 574, .inr 575, .inr 576, .inr 577, .inr 578, .inr 579, .inr 580, .inr 581, .inr 582, .inr 583, .inr 584, .inr 585, .inr 586, .inr 587, .inr 588, .inr 589, .inr 590, .inr 591, .inr 592, .inr 593, .inr 594, .inr 595, .inr 596, .inr 597, .inr 598, .inr 599, .inr 600, .inr 601, .inr 602, .inr 603, .inr 604, .inr 605, .inr 606, .inr 607, .inr 608, .inr 609, .inr 610, .inr 611, .inr 612, .inr 613, .inr 614, .inr 615, .inr 616, .inr 617, .inr 618, .inr 619, .inr 620, .inr 621, .inr 622, .inr 623, .inr 624, .inr 625, .inr 626, .inr 627, .inr 628, .inr 629, .inr 630, .inr 631, .inr 632, .inr 633, .inr 634, .inr 635, .inr 636, .inr 637, .inr 638, .inr 639, .inr 640, .inr 641, .inr 642, .inr 643, .inr 644, .inr 645, .inr 646, .inr 647] (fun wx => Below v51.heap.size v51 wx)) (MeetH.go _ (by rfl) ?_) ?_
  rotate_left
  · intro _ _ _ _
    as_aux_lemma =>
    clear HB HBs
    have HB : Below v51.heap.size v51 v51 := Below.refl _ _
    have HBs : v51.heap.size ≤ v51.heap.size := Nat.le_refl _
    rcases Bool.eq_false_or_eq_true (dgOk dx dy count) with h | h
    · simp only [h]
      have q := dg_len h
      have q1 := q.1
      have q2 := q.2
      by_cases h1 : dx = 1 ∧ dy = 1
      · obtain ⟨rfl, rfl⟩ := h1
        have HO := Lib.hid Og
        have HE := Lib.hid fun k => dg_one h (k := k)
        clear Og h
        go_wp2_with fail
        generalize hn : (dgV 1 1 count).length = N at HO HE q1
        obtain rfl : count = (N : Int) := q1.symm
        have HN := Lib.hid hn
        clear q1 hn
        go_loopw [565] (fun i wr => ∃ k : Nat, k ≤ N ∧ i = .int .i64 k ∧ wr = v51) (fun i _ => N - (intOf i).toNat)
        case atStart => exact ⟨0, Nat.zero_le _, rfl, rfl⟩
        case round =>
          obtain ⟨k, hk, rfl, rfl⟩ := hrel
          by_cases hlt : k < N
          · obtain ⟨g, o, rfl, _, _, hc, _⟩ := HO.out.at_ (k := k) (by simpa [HN.out] using hlt)
            have he := HE.out k hlt
            have hc2 : wr.cell? ⟨g, o + k, none⟩ = some (.int .i64 (2 * (k : Int) * (2 * k - 1))) := by
              rw [hc]
              simp only [List.getElem_map, Option.some.injEq, Value.int.injEq, true_and]
              rw [List.getElem?_eq_getElem (by rw [HN.out]; exact hlt)] at he
              simpa using he
            obtain ⟨b1, b2⟩ := dg_bd k (by omega)
            clear hc he
            have z1 : IntKind.i64.wrap (2 * (k : Int)) = 2 * k := IntWalk.i64_in _ (by omega)
            have z2 : IntKind.i64.wrap (2 * (k : Int) - 1) = 2 * k - 1 := IntWalk.i64_in _ (by omega)
            have z3 : IntKind.i64.wrap (2 * (k : Int) * (2 * k - 1)) = 2 * k * (2 * k - 1) := IntWalk.i64_in _ (by omega)
            have hki : (k : Int) < (N : Int) := by omega
            go_wp2
            go_roundw
            case rel => exact ⟨k + 1, by omega, by go_num, by first | rfl | trivial⟩
            case measure => simp [intOf]; omega
          · have hki : ¬ (k : Int) < (N : Int) := by omega
            go_wp2
            refine Met.intro ?_
            go_step
            refine MeetH.of ?_ ?_
            · exact HB
            repeat (first | refine Agr.skip ?_ | refine Agr.keep ?_ | exact Agr.nil)
      · have h2 : (dx == 1 && dy == 1) = false := by simp; omega
        by_cases h3 : dx = 1
        · have h4 : (dy == 1) = false := by simp; omega
          have h5 : (dx == 1) = true := by simp [h3]
          clear h1 h3
          go_wp2_with fail
          refine Met.intro ?_
          go_step
          refine MeetH.of ?_ ?_
          · exact HB
          repeat (first | refine Agr.skip ?_ | refine Agr.keep ?_ | exact Agr.nil)
        · have h4 : (dx == 1) = false := by simp [h3]
          clear h1
          go_wp2_with fail
          refine Met.intro ?_
          go_step
          refine MeetH.of ?_ ?_
          · exact HB
          repeat (first | refine Agr.skip ?_ | refine Agr.keep ?_ | exact Agr.nil)
    · simp only [h]
      go_wp2_with fail
      refine Met.intro ?_
      go_step
      refine MeetH.of ?_ ?_
      · exact HB
      repeat (first | refine Agr.skip ?_ | refine Agr.keep ?_ | exact Agr.nil)
  intro u52 v52 hb1
  replace B1 := B1.on hb1
  replace B2 := B2.on hb1
  replace Og := Og.on hb1
  replace Ow := Ow.on hb1
  replace HB := below_go HB HBs hb1
  clear hb1
  as_aux_lemma =>
  simp only [fillH]
  clear Og B1
  have B2_0 := B2.c0
  have B2_1 := B2.c1
  have B2_z := B2.z
  rcases Bool.eq_false_or_eq_true (wnOk fx fy wide tall) with h | h
  · simp only [h]
    have q := wnf_of h
    have qx := q.fx
    have qy := q.fy
    have qa := q.fa
    have qb := q.fb
    have z1 : IntKind.i64.wrap (fx + wide) = fx + wide := IntWalk.i64_in _ (by omega)
    have z2 : IntKind.i64.wrap (fy - tall) = fy - tall := IntWalk.i64_in _ (by omega)
    by_cases h1 : 0 < wide
    · by_cases h2 : 0 < tall
      · by_cases h3 : fx + wide ≤ 400
        · by_cases h4 : -400 ≤ fy - tall
          · have qs := q.s
            obtain ⟨r0, c1, c2, c3⟩ := q.cor h1 h2
            obtain ⟨ls, r1, d1, d2, d3⟩ := q.las h1 h2 h3 h4
            obtain ⟨T, rfl⟩ : ∃ T : Nat, tall = (T : Int) + 1 := ⟨(tall - 1).toNat, by omega⟩
            obtain ⟨D, rfl⟩ : ∃ D : Nat, wide = (D : Int) + 1 := ⟨(wide - 1).toNat, by omega⟩
            have hl : (wiV fx fy ((D : Int) + 1) ((T : Int) + 1)).length = T + 1 := by have := q.len; omega
            rw [show ((T : Int) + 1).toNat - 1 = T from by omega] at d1
            rw [show ((D : Int) + 1).toNat - 1 = D from by omega] at d3
            have f0 : rowsOf (wiV fx fy ((D : Int) + 1) ((T : Int) + 1)) 0 = r0 := by rw [rowsOf, List.getD_eq_getElem?_getD, c1]; rfl
            have f1 : rowsOf (wiV fx fy ((D : Int) + 1) ((T : Int) + 1)) T = r1 := by rw [rowsOf, List.getD_eq_getElem?_getD, d1]; rfl
            have z3 : IntKind.i64.wrap (fx + ((D : Int) + 1) - 1) = fx + ((D : Int) + 1) - 1 := IntWalk.i64_in _ (by omega)
            have z4 : IntKind.i64.wrap (fy - ((T : Int) + 1) + 1) = fy - ((T : Int) + 1) + 1 := IntWalk.i64_in _ (by omega)
            have z5 : IntKind.i64.wrap ((T : Int) + 1 - 1) = (T : Int) := by rw [IntWalk.i64_in _ (by omega)]; omega
            have z6 : IntKind.i64.wrap ((D : Int) + 1 - 1) = (D : Int) := by rw [IntWalk.i64_in _ (by omega)]; omega
            simp only [hl]
            go_wp2_with fail
            refine (impl_NumberAt_any _ _ _).mono ?_
            rintro e v53 ⟨rfl, hb1⟩
            clear B2_0 B2_1 B2_z
            replace B2 := B2.on hb1
            replace Ow := Ow.on hb1
            replace HB := below_go HB HBs hb1
            clear hb1
            have B2_0 := B2.c0
            have B2_1 := B2.c1
            have B2_z := B2.z
            go_wp2_with fail
            refine (impl_NumberAt_any _ _ _).mono ?_
            rintro e v54 ⟨rfl, hb1⟩
            clear B2_0 B2_1 B2_z
            replace B2 := B2.on hb1
            replace Ow := Ow.on hb1
            replace HB := below_go HB HBs hb1
            clear hb1
            obtain ⟨g, o, g', o', rfl, _, x0, x1⟩ := ownL_get Ow (k := 0) (by omega) (by rw [f0]; omega)
            obtain ⟨g2, o2, g3, o3, eA, _, y0, y1⟩ := ownL_get Ow (k := T) (by omega) (by rw [f1]; omega)
            injection eA with eA
            injection eA with e1 e2 _
            subst e1
            subst e2
            rw [f0] at x0 x1
            rw [f1] at y0 y1
            have x2 := x1 0 (by omega)
            have y2 := y1 D (by omega)
            have e3 : r0.getD 0 0 = nuV fx fy := by rw [List.getD_eq_getElem?_getD, c3]; rfl
            have e4 : r1.getD D 0 = nuV (fx + ((D : Int) + 1) - 1) (fy - ((T : Int) + 1) + 1) := by rw [List.getD_eq_getElem?_getD, d3]; rfl
            have l0 : r0.length = D + 1 := by omega
            have l1 : r1.length = D + 1 := by omega
            rw [e3, Nat.add_zero] at x2
            rw [e4] at y2
            rw [l0, Nat.add_zero] at x0
            rw [l1] at y0
            clear x1 y1 Ow
            go_wp2_with fail
            go_ret
            first | exact ⟨rfl, HB⟩ | exact ⟨rfl, by assumption⟩
          · go_wp2_with fail
            go_ret
            first | exact ⟨rfl, HB⟩ | exact ⟨rfl, by assumption⟩
        · go_wp2_with fail
          go_ret
          first | exact ⟨rfl, HB⟩ | exact ⟨rfl, by assumption⟩
      · go_wp2_with fail
        go_ret
        first | exact ⟨rfl, HB⟩ | exact ⟨rfl, by assumption⟩
    · go_wp2_with fail
      go_ret
      first | exact ⟨rfl, HB⟩ | exact ⟨rfl, by assumption⟩
  · simp only [h]
    go_wp2_with fail
    go_ret
    first | exact ⟨rfl, HB⟩ | exact ⟨rfl, by assumption⟩
end Go.Proofs.Ytkhjeleoppdjgac
