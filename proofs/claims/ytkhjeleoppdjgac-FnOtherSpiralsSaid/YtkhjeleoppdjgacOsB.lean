/- The law FnOtherSpirals, walked: whatever the arguments it answers true. No condition. -/
import Derived.Test.YtkhjeleoppdjgacBase
import Derived.Test.YtkhjeleoppdjgacAnX
import Derived.Test.YtkhjeleoppdjgacAnW2
import Derived.Test.YtkhjeleoppdjgacAnA
import Derived.Test.YtkhjeleoppdjgacCapC
import Derived.Test.YtkhjeleoppdjgacCut
import Derived.Test.YtkhjeleoppdjgacMd
import Derived.Lib.Hide
import Derived.Deep.Cut
import Derived.Deep.CutBlock
namespace Go.Proofs.Ytkhjeleoppdjgac
open Go.ChangeShapes Go.WideShapes Go.ChangeAt Go.RowKit

theorem hb_len (n : Int) : (hbV n).length ≤ 1000000000 := by
  rcases Bool.eq_false_or_eq_true (n6B n) with h | h
  · have := (hpf_of h).len; omega
  · rw [hbV, h, cond_false]; simp
theorem own_take {w : World} {lo hi : Nat} {A : Option Addr} {xs : List Int} (h : Own w lo hi A (i64s xs)) (k : Nat) : Own w lo hi A (i64s (xs.take k)) := fun hn => by
  obtain ⟨g, o, e, h1, h2, hc⟩ := h (by simp only [List.length_map, List.length_take] at hn ⊢; omega)
  refine ⟨g, o, e, h1, h2, fun j u hu => hc j u ?_⟩
  have e2 : i64s (xs.take k) = (i64s xs).take k := List.map_take
  rw [e2, List.getElem?_take] at hu
  split at hu
  · exact hu
  · cases hu
theorem tdiv2_nn {x : Int} (h : 0 ≤ x) : x.tdiv 2 = x / 2 := Int.tdiv_eq_ediv_of_nonneg h
theorem tmod2_nn {x : Int} (h : 0 ≤ x) : x.tmod 2 = x % 2 := Int.tmod_eq_emod_of_nonneg h
set_option maxRecDepth 4000 in
set_option maxHeartbeats 16000000 in
theorem walk_OtherSpirals (A' : Option Addr) (n' a' : Nat) (B' : Option Addr) (m' c' : Nat) (w : World) (hn' : n' ≤ 9223372036854775807) (hx' : Bys w A' n') (hm' : m' ≤ 9223372036854775807) (hy' : Bys w B' m') :
    Calls Try.prog 5 #[.slice A' n' a', .slice B' m' c'] w fun e w' => e = .returned (.bool true) ∧ Below w.heap.size w w' := by
  have HB : Below w.heap.size w w := Below.refl _ _
  have HBs : w.heap.size ≤ w.heap.size := Nat.le_refl _
  rcases Bool.eq_false_or_eq_true (bgB n' m') with hg | hg
  · go_enter Try.func5, Try.ntmps5
    go_wp2_with (go_at_call 7; refine (big_any _ _ _ _ _ _ _ hn' hm').mono ?_; rintro e w' ⟨rfl, rfl⟩)
    go_ret
    exact ⟨rfl, Below.refl _ _⟩
  obtain ⟨gg1, gg2⟩ := bg_no hg
  go_enter Try.func5, Try.ntmps5
  go_wp2_with (go_at_call 7; refine (big_any _ _ _ _ _ _ _ hn' hm').mono ?_; rintro e w' ⟨rfl, rfl⟩)
  refine (DrawHexSpotOf_any A' n' a' _ hx' (by omega)).mono ?_
  rintro e v1 ⟨⟨n, rfl⟩, hb1⟩
  replace hy' := hy'.on hb1
  replace HB := below_go HB HBs hb1
  clear hb1
  go_wp2_with fail
  refine (impl_HexSpotOf_any n _).mono ?_
  rintro e v2 ⟨rfl, hb1⟩
  replace hy' := hy'.on hb1
  replace HB := below_go HB HBs hb1
  clear hb1
  go_wp2_with fail
  have hb1 := below_on (w := v2) (.cells #[.int .i64 (hpx n), .int .i64 (hpy n)] 26)
  have K1 := box_at v2 (hpx n) (hpy n) 26
  replace hy' := hy'.on hb1
  replace HB := below_go HB HBs hb1
  generalize hw1 : v2.alloc (.cells #[.int .i64 (hpx n), .int .i64 (hpy n)] 26) = v3 at hy' K1 HB ⊢
  generalize hR1 : v2.heap.size = RK1 at K1 ⊢
  clear hb1 hw1 hR1
  refine (spec_HexSpotOf_any n _).mono ?_
  rintro e v4 ⟨rfl, hb1⟩
  replace K1 := K1.on hb1
  replace hy' := hy'.on hb1
  replace HB := below_go HB HBs hb1
  clear hb1
  go_wp2_with fail
  have hb1 := below_on (w := v4) (.cells #[.int .i64 (hpx n), .int .i64 (hpy n)] 26)
  have K2 := box_at v4 (hpx n) (hpy n) 26
  replace K1 := K1.on hb1
  replace hy' := hy'.on hb1
  replace HB := below_go HB HBs hb1
  generalize hw1 : v4.alloc (.cells #[.int .i64 (hpx n), .int .i64 (hpy n)] 26) = v5 at K1 hy' K2 HB ⊢
  generalize hR1 : v4.heap.size = RK2 at K2 ⊢
  clear hb1 hw1 hR1
  refine (impl_HexRingOf_any n _).mono ?_
  rintro e v6 ⟨rfl, hb1⟩
  replace K1 := K1.on hb1
  replace K2 := K2.on hb1
  replace hy' := hy'.on hb1
  replace HB := below_go HB HBs hb1
  clear hb1
  go_wp2_with fail
  refine (spec_HexRingOf_any n _).mono ?_
  rintro e v7 ⟨rfl, hb1⟩
  replace K1 := K1.on hb1
  replace K2 := K2.on hb1
  replace hy' := hy'.on hb1
  replace HB := below_go HB HBs hb1
  clear hb1
  go_wp2_with fail
  refine (impl_HexBeside_c n _).mono ?_
  rintro e v8 ⟨Ab, cb, hcb, rfl, Ob, hb1⟩
  replace K1 := K1.on hb1
  replace K2 := K2.on hb1
  replace hy' := hy'.on hb1
  replace HB := below_go HB HBs hb1
  clear hb1
  go_wp2_with fail
  refine (spec_HexBeside_any n _).mono ?_
  rintro e v9 ⟨Ad, cd, rfl, Od, hb1⟩
  replace K1 := K1.on hb1
  replace K2 := K2.on hb1
  replace hy' := hy'.on hb1
  replace Ob := Ob.on hb1
  replace HB := below_go HB HBs hb1
  clear hb1
  have K1_0 := K1.c0
  have K1_1 := K1.c1
  have K1_z := K1.z
  have K2_0 := K2.c0
  have K2_1 := K2.c1
  have K2_z := K2.z
  go_wp2_with fail
  refine (oSame_b Ab Ad _ cb cd _ _ _ _ (hbV n) _ rfl (hb_len n) Ob Od).mono ?_
  rintro e v10 ⟨rfl, hb1⟩
  clear K1_0 K1_1 K1_z K2_0 K2_1 K2_z
  replace K1 := K1.on hb1
  replace K2 := K2.on hb1
  replace hy' := hy'.on hb1
  replace Ob := Ob.on hb1
  replace Od := Od.on hb1
  replace HB := below_go HB HBs hb1
  clear hb1
  clear Od K2
  go_upto_if 143 with fail
  refine wp_cut (MeetH [.inr 0, .inl (.slice B' m' c'), .inr 2, .inr 3, .inr 4, .inr 5, .inr 6, .inr 7, .inr 8, .inr 9, .inr 10, .inr 11, .inr 12, .inr 13, .inr 14, .inr 15, .inr 16, .inr 17, .inr 18, .inr 19, .inr 20, .inr 21, .inr 22, .inr 23, .inr 24, .inr 25, .inr 26, .inr 27, .inr 28, .inr 29, .inr 30, .inr 31, .inr 32, .inr 33, .inr 34, .inr 35, .inr 36, .inr 37, .inr 38, .inr 39, .inr 40, .inr 41, .inr 42, .inr 43, .inr 44, .inr 45, .inr 46, .inr 47, .inr 48, .inr 49, .inr 50, .inr 51, .inr 52, .inr 53, .inr 54, .inr 55, .inr 56, .inr 57, .inr 58, .inr 59, .inr 60, .inr 61, .inr 62, .inr 63, .inr 64, .inr 65, .inr 66, .inr 67, .inr 68, .inr 69, .inr 70, .inr 71, .inr 72, .inr 73, .inr 74, .inr 75, .inr 76, .inr 77, .inr 78, .inr 79, .inr 80, .inr 81, .inr 82, .inr 83, .inr 84, .inr 85, .inr 86, .inr 87, .inr 88, .inr 89, .inr 90, .inr 91, .inr 92, .inr 93, .inr 94, .inr 95, .inr 96, .inr 97, .inr 98, .inr 99, .inr 100, .inr 101, .inr 102, .inr 103, .inr 104, .inr 105, .inr 106, .inr 107, .inr 108, .inr 109, .inr 110, .inr 111, .inr 112, .inr 113, .inr 114, .inr 115, .inr 116, .inr 117, .inr 118, .inr 119, .inr 120, .inr 121, .inr 122, .inr 123, .inr 124, .inr 125, .inr 126, .inr 127, .inr 128, .inr 129, .inr 130, .inr 131, .inr 132, .inr 133, .inr 134, .inr 135, .inr 136, .inr 137, .inr 138, .inr 139, .inr 140, .inr 141, .inr 142, .inr 143, .inr 144, .inr 145, .inr 146, .inr 147, .inr 148, .inr 149, .inr 150, .inr 151, .inr 152, .inr 153, .inr 154, .inr 155, .inr 156, .inr 157, .inr 158, .inr 159, .inr 160, .inr 161, .inr 162, .inr 163, .inr 164, .inr 165, .inr 166, .inr 167, .inr 168, .inr 169, .inr 170, .inr 171, .inr 172, .inr 173, .inr 174, .inr 175, .inr 176, .inr 177, .inr 178, .inr 179, .inr 180, .inr 181, .inr 182, .inr 183, .inr 184, .inr 185, .inr 186, .inr 187, .inr 188, .inr 189, .inr 190, .inr 191, .inr 192, .inr 193, .inr 194, .inr 195, .inr 196, .inr 197, .inr 198, .inr 199, .inr 200, .inr 201, .inr 202, .inr 203, .inr 204, .inr 205, .inr 206, .inr 207, .inr 208, .inr 209, .inr 210, .inr 211, .inr 212, .inr 213, .inr 214, .inr 215, .inr 216, .inr 217, .inr 218, .inr 219, .inr 220, .inr 221, .inr 222, .inr 223, .inr 224, .inr 225, .inr 226, .inr 227, .inr 228, .inr 229, .inr 230, .inr 231, .inr 232, .inr 233, .inr 234, .inr 235, .inr 236, .inr 237, .inr 238, .inr 239, .inr 240, .inr 241, .inr 242, .inr 243, .inr 244, .inr 245, .inr 246, .inr 247, .inr 248, .inr 249, .inr 250, .inr 251, .inr 252, .inr 253, .inr 254, .inr 255, .inr 256, .inr 257, .inr 258, .inr 259, .inr 260, .inr 261, .inr 262, .inr 263, .inr 264, .inr 265, .inr 266, .inr 267, .inr 268, .inr 269, .inr 270, .inr 271, .inr 272, .inr 273, .inr 274, .inr 275, .inr 276, .inr 277, .inr 278, .inr 279, .inr 280, .inr 281, .inr 282, .inr 283, .inr 284, .inr 285, .inr 286, .inr 287, .inr 288, .inr 289, .inr 290, .inr 291, .inr 292, .inr 293, .inr 294, .inr 295, .inr 296, .inr 297, .inr 298, .inr 299, .inr 300, .inr 301, .inr 302, .inr 303, .inr 304, .inr 305, .inr 306, .inr 307, .inr 308, .inr 309, .inr 310, .inr 311, .inr 312, .inr 313, .inr 314, .inr 315, .inr 316, .inr 317, .inr 318, .inr 319, .inr 320, .inr 321, .inr 322, .inr 323, .inr 324, .inr 325, .inr 326, .inr 327, .inr 328, .inr 329, .inr 330, .inr 331, .inr 332, .inr 333, .inr 334, .inr 335, .inr 336, .inr 337, .inr 338, .inr 339, .inr 340, .inr 341, .inr 342, .inr 343, .inr 344, .inr 345, .inr 346, .inr 347, .inr 348, .inr 349, .inr 350, .inr 351, .inr 352, .inr 353, .inr 354, .inr 355, .inr 356, .inr 357, .inr 358, .inr 359, .inr 360, .inr 361, .inr 362, .inr 363, .inr 364, .inr 365, .inr 366, .inr 367, .inr 368, .inr 369, .inr 370, .inr 371, .inr 372, .inr 373, .inr 374, .inr 375, .inr 376, .inr 377, .inr 378, .inr 379, .inr 380, .inr 381, .inr 382, .inr 383, .inr 384, .inr 385, .inr 386, .inr 387, .inr 388, .inr 389, .inr 390, .inr 391, .inr 392, .inr 393, .inr 394, .inr 395, .inr 396, .inr 397, .inr 398, .inr 399, .inr 400, .inr 401, .inr 402, .inr 403, .inr 404, .inr 405, .inr 406, .inr 407, .inr 408, .inr 409, .inr 410, .inr 411, .inr 412, .inr 413, .inr 414, .inr 415, .inr 416, .inr 417, .inr 418, .inr 419, .inr 420, .inr 421, .inr 422, .inr 423, .inr 424, .inr 425, .inr 426, .inr 427, .inr 428, .inr 429, .inr 430, .inr 431, .inr 432, .inr 433, .inr 434, .inr 435, .inr 436, .inr 437, .inr 438, .inr 439, .inr 440, .inr 441, .inr 442, .inr 443, .inr 444, .inr 445, .inr 446, .inr 447, .inr 448, .inr 449, .inr 450, .inr 451, .inr 452, .inr 453, .inr 454, .inr 455, .inr 456, .inr 457, .inr 458, .inr 459, .inr 460, .inr 461, .inr 462, .inr 463, .inr 464, .inr 465, .inr 466, .inr 467, .inr 468, .inr 469, .inr 470, .inr 471, .inr 472, .inr 473, .inr 474, .inr 475, .inr 476, .inr 477, .inr 478, .inr 479, .inr 480, .inr 481, .inr 482, .inr 483, .inr 484, .inr 485, .inr 486, .inr 487, .inr 488, .inr 489, .inr 490, .inr 491, .inr 492, .inr 493, .inr 494, .inr 495, .inr 496, .inr 497, .inr 498, .inr 499, .inr 500, .inr 501, .inr 502, .inr 503, .inr 504, .inr 505, .inr 506, .inr 507, .inr 508, .inr 509, .inr 510, .inr 511, .inr 512, .inr 513, .inr 514, .inr 515, .inr 516, .inr 517, .inr 518, .inr 519, .inr 520, .inr 521, .inr 522, .inr 523, .inr 524, .inr 525, .inr 526, .inr 527, .inr 528, .inr 529, .inr 530, .inr 531, .inr 532, .inr 533, .inr 534, .inr 535, .inr 536, .inr 537, .inr 538, .inr 539, .inr 540, .inr 541, .inr 542] (fun wx => Below v10.heap.size v10 wx)) (MeetH.go _ (by rfl) ?_) ?_
  rotate_left
  · intro _ _ _ _
    as_aux_lemma =>
    clear HB HBs
    have HB : Below v10.heap.size v10 v10 := Below.refl _ _
    have HBs : v10.heap.size ≤ v10.heap.size := Nat.le_refl _
    rcases Bool.eq_false_or_eq_true (n6B n) with h | h
    · simp only [h]
      have q := hpf_of h
      have hlen := q.len
      have hn0 := q.n0
      have hn1 := q.n1
      have hr := q.r
      have hx := q.fx
      have hy := q.fy
      have hp1 := q.p1
      have hhi := q.hi
      rw [hlen] at hcb
      obtain ⟨g, o, rfl, _, _, _⟩ := Ob (by simp; omega)
      simp only [hlen]
      go_upto_region 13 with fail
      refine wp_cut (MeetH [.inr 0, .inl (.slice B' m' c'), .inr 2, .inr 3, .inr 4, .inl (.int .i64 (n)), .inl (.pointer (some ⟨RK1, 0, none⟩)), .inr 7, .inr 8, .inr 9, .inl (.int .i64 (hrV n)), .inr 11, .inr 12, .inr 13, .inl (.slice (some ⟨g, o, none⟩) 6 cb), .inr 15, .inr 16, .inr 17, .inr 18, .inr 19, .inr 20, .inr 21, .inr 22, .inr 23, .inr 24, .inr 25, .inr 26, .inr 27, .inr 28, .inr 29, .inr 30, .inr 31, .inr 32, .inr 33, .inr 34, .inr 35, .inr 36, .inr 37, .inr 38, .inr 39, .inr 40, .inr 41, .inr 42, .inr 43, .inr 44, .inr 45, .inr 46, .inr 47, .inr 48, .inr 49, .inr 50, .inr 51, .inr 52, .inr 53, .inr 54, .inr 55, .inr 56, .inr 57, .inr 58, .inr 59, .inr 60, .inr 61, .inr 62, .inr 63, .inr 64, .inr 65, .inr 66, .inr 67, .inr 68, .inr 69, .inr 70, .inr 71, .inr 72, .inr 73, .inr 74, .inr 75, .inr 76, .inr 77, .inr 78, .inr 79, .inr 80, .inr 81, .inr 82, .inr 83, .inr 84, .inr 85, .inr 86, .inr 87, .inr 88, .inr 89, .inr 90, .inr 91, .inr 92, .inr 93, .inr 94, .inr 95, .inr 96, .inr 97, .inr 98, .inr 99, .inr 100, .inr 101, .inr 102, .inr 103, .inr 104, .inr 105, .inr 106, .inr 107, .inr 108, .inr 109, .inr 110, .inr 111, .inr 112, .inr 113, .inr 114, .inr 115, .inr 116, .inr 117, .inr 118, .inr 119, .inr 120, .inr 121, .inr 122, .inr 123, .inr 124, .inr 125, .inr 126, .inr 127, .inr 128, .inr 129, .inr 130, .inr 131, .inr 132, .inr 133, .inr 134, .inr 135, .inr 136, .inr 137, .inr 138, .inr 139, .inr 140, .inr 141, .inr 142, .inr 143, .inr 144, .inr 145, .inr 146, .inr 147, .inr 148, .inr 149, .inr 150, .inr 151, .inr 152, .inr 153, .inr 154, .inr 155, .inr 156, .inr 157, .inr 158, .inr 159, .inr 160, .inr 161, .inr 162, .inr 163, .inr 164, .inr 165, .inr 166, .inr 167, .inr 168, .inr 169, .inr 170, .inr 171, .inr 172, .inr 173, .inr 174, .inr 175, .inr 176, .inr 177, .inr 178, .inr 179, .inr 180, .inr 181, .inr 182, .inr 183, .inr 184, .inr 185, .inl (.bool false), .inr 187, .inr 188, .inr 189, .inr 190, .inr 191, .inr 192, .inr 193, .inr 194, .inr 195, .inr 196, .inr 197, .inr 198, .inr 199, .inr 200, .inr 201, .inr 202, .inr 203, .inr 204, .inr 205, .inr 206, .inr 207, .inr 208, .inr 209, .inr 210, .inr 211, .inr 212, .inr 213, .inr 214, .inr 215, .inr 216, .inr 217, .inr 218, .inr 219, .inr 220, .inr 221, .inr 222, .inr 223, .inr 224, .inr 225, .inr 226, .inr 227, .inr 228, .inr 229, .inr 230, .inr 231, .inr 232, .inr 233, .inr 234, .inr 235, .inr 236, .inr 237, .inr 238, .inr 239, .inr 240, .inr 241, .inr 242, .inr 243, .inr 244, .inr 245, .inr 246, .inr 247, .inr 248, .inr 249, .inr 250, .inr 251, .inr 252, .inr 253, .inr 254, .inr 255, .inr 256, .inr 257, .inr 258, .inr 259, .inr 260, .inr 261, .inr 262, .inr 263, .inr 264, .inr 265, .inr 266, .inr 267, .inr 268, .inr 269, .inr 270, .inr 271, .inr 272, .inr 273, .inr 274, .inr 275, .inr 276, .inr 277, .inr 278, .inr 279, .inr 280, .inr 281, .inr 282, .inr 283, .inr 284, .inr 285, .inr 286, .inr 287, .inr 288, .inr 289, .inr 290, .inr 291, .inr 292, .inr 293, .inr 294, .inr 295, .inr 296, .inr 297, .inr 298, .inr 299, .inr 300, .inr 301, .inr 302, .inr 303, .inr 304, .inr 305, .inr 306, .inr 307, .inr 308, .inr 309, .inr 310, .inr 311, .inr 312, .inr 313, .inr 314, .inr 315, .inr 316, .inr 317, .inr 318, .inr 319, .inr 320, .inr 321, .inr 322, .inr 323, .inr 324, .inr 325, .inr 326, .inr 327, .inr 328, .inr 329, .inr 330, .inr 331, .inr 332, .inr 333, .inr 334, .inr 335, .inr 336, .inr 337, .inr 338, .inr 339, .inr 340, .inr 341, .inr 342, .inr 343, .inr 344, .inr 345, .inr 346, .inr 347, .inr 348, .inr 349, .inr 350, .inr 351, .inr 352, .inr 353, .inr 354, .inr 355, .inr 356, .inr 357, .inr 358, .inr 359, .inr 360, .inr 361, .inr 362, .inr 363, .inr 364, .inr 365, .inr 366, .inr 367, .inr 368, .inr 369, .inr 370, .inr 371, .inr 372, .inr 373, .inr 374, .inr 375, .inr 376, .inr 377, .inr 378, .inr 379, .inr 380, .inr 381, .inr 382, .inr 383, .inr 384, .inr 385, .inr 386, .inr 387, .inr 388, .inr 389, .inr 390, .inr 391, .inr 392, .inr 393, .inr 394, .inr 395, .inr 396, .inr 397, .inr 398, .inr 399, .inr 400, .inr 401, .inr 402, .inr 403, .inr 404, .inr 405, .inr 406, .inr 407, .inr 408, .inr 409, .inr 410, .inr 411, .inr 412, .inr 413, .inr 414, .inr 415, .inr 416, .inr 417, .inr 418, .inr 419, .inr 420, .inr 421, .inr 422, .inr 423, .inr 424, .inr 425, .inr 426, .inr 427, .inr 428, .inr 429, .inr 430, .inr 431, .inr 432, .inr 433, .inr 434, .inr 435, .inr 436, .inr 437, .inr 438, .inr 439, .inr 440, .inr 441, .inr 442, .inr 443, .inr 444, .inr 445, .inr 446, .inr 447, .inr 448, .inr 449, .inr 450, .inr 451, .inr 452, .inr 453, .inr 454, .inr 455, .inr 456, .inr 457, .inr 458, .inr 459, .inr 460, .inr 461, .inr 462, .inr 463, .inr 464, .inr 465, .inr 466, .inr 467, .inr 468, .inr 469, .inr 470, .inr 471, .inr 472, .inr 473, .inr 474, .inr 475, .inr 476, .inr 477, .inr 478, .inr 479, .inr 480, .inr 481, .inr 482, .inr 483, .inr 484, .inr 485, .inr 486, .inr 487, .inr 488, .inr 489, .inr 490, .inr 491, .inr 492, .inr 493, .inr 494, .inr 495, .inr 496, .inr 497, .inr 498, .inr 499, .inr 500, .inr 501, .inr 502, .inr 503, .inr 504, .inr 505, .inr 506, .inr 507, .inr 508, .inr 509, .inr 510, .inr 511, .inr 512, .inr 513, .inr 514, .inr 515, .inr 516, .inr 517, .inr 518, .inr 519, .inr 520, .inr 521, .inr 522, .inr 523, .inr 524, .inr 525, .inr 526, .inr 527, .inr 528, .inr 529, .inr 530, .inr 531, .inr 532, .inr 533, .inr 534, .inr 535, .inr 536, .inr 537, .inr 538, .inr 539, .inr 540, .inr 541, .inr 542] (fun wx => Below v10.heap.size v10 wx)) (MeetH.go _ (by rfl) ?_) ?_
      rotate_left
      · intro _ _ _ _
        as_aux_lemma =>
        clear HB HBs
        have HB : Below v10.heap.size v10 v10 := Below.refl _ _
        have HBs : v10.heap.size ≤ v10.heap.size := Nat.le_refl _
        have hw1 : IntKind.i64.wrap (n + 1) = n + 1 := IntWalk.i64_in _ (by omega)
        have hm1 : decide (n + 1 ∈ hbV n) = true := decide_eq_true q.up
        have hw3 : IntKind.i64.wrap (3 * hrV n) = 3 * hrV n := IntWalk.i64_in _ (by omega)
        have hw4 : IntKind.i64.wrap (hrV n + 1) = hrV n + 1 := IntWalk.i64_in _ (by omega)
        have hw5 : IntKind.i64.wrap (3 * hrV n * (hrV n + 1)) = 3 * hrV n * (hrV n + 1) := IntWalk.i64_in _ (by omega)
        have hle : decide (3 * hrV n * (hrV n + 1) < n) = false := decide_eq_false (by omega)
        rcases Int.lt_or_le 0 n with hp | hp
        · have hrp : 0 < hrV n := by
            rcases Int.lt_or_le 0 (hrV n) with h5 | h5
            · exact h5
            · have h6 : hrV n = 0 := by omega
              rw [h6] at hhi
              simp at hhi
              omega
          have hm2 : decide (n - 1 ∈ hbV n) = true := decide_eq_true (q.down hp)
          obtain ⟨p2, p3⟩ := q.p2 hrp
          have hw2 : IntKind.i64.wrap (n - 1) = n - 1 := IntWalk.i64_in _ (by omega)
          have hw6 : IntKind.i64.wrap (hrV n - 1) = hrV n - 1 := IntWalk.i64_in _ (by omega)
          have hw7 : IntKind.i64.wrap (3 * hrV n * (hrV n - 1)) = 3 * hrV n * (hrV n - 1) := IntWalk.i64_in _ (by omega)
          have hlf : decide (n ≤ 3 * hrV n * (hrV n - 1)) = false := decide_eq_false (by omega)
          go_wp2_with (go_at_call 19; refine (oHas_any _ 6 cb _ _ (hbV n) _ _ hlen (by omega) Ob).mono ?_; rintro e w' ⟨rfl, rfl⟩)
          refine Met.intro ?_
          go_step
          refine MeetH.of ?_ ?_
          · exact HB
          repeat (first | refine Agr.skip ?_ | refine Agr.keep ?_ | exact Agr.nil)
        · have hp2 : ¬ 0 < n := by omega
          have hrp : ¬ 0 < hrV n := by
            intro h5
            obtain ⟨p2, p3⟩ := q.p2 h5
            omega
          go_wp2_with (go_at_call 19; refine (oHas_any _ 6 cb _ _ (hbV n) _ _ hlen (by omega) Ob).mono ?_; rintro e w' ⟨rfl, rfl⟩)
          refine Met.intro ?_
          go_step
          refine MeetH.of ?_ ?_
          · exact HB
          repeat (first | refine Agr.skip ?_ | refine Agr.keep ?_ | exact Agr.nil)
      intro u11 v11 hb1
      replace K1 := K1.on hb1
      replace hy' := hy'.on hb1
      replace Ob := Ob.on hb1
      replace HB := below_go HB HBs hb1
      clear hb1
      as_aux_lemma =>
      simp only [fillH]
      go_upto_block 0 with fail
      refine wp_cut (MeetH [.inr 0, .inl (.slice B' m' c'), .inr 2, .inr 3, .inr 4, .inl (.int .i64 (n)), .inl (.pointer (some ⟨RK1, 0, none⟩)), .inr 7, .inr 8, .inr 9, .inl (.int .i64 (hrV n)), .inr 11, .inr 12, .inr 13, .inr 14, .inr 15, .inr 16, .inr 17, .inr 18, .inr 19, .inr 20, .inr 21, .inr 22, .inr 23, .inr 24, .inr 25, .inr 26, .inr 27, .inr 28, .inr 29, .inr 30, .inr 31, .inr 32, .inr 33, .inr 34, .inr 35, .inr 36, .inr 37, .inr 38, .inr 39, .inr 40, .inr 41, .inr 42, .inr 43, .inr 44, .inr 45, .inr 46, .inr 47, .inr 48, .inr 49, .inr 50, .inr 51, .inr 52, .inr 53, .inr 54, .inr 55, .inr 56, .inr 57, .inr 58, .inr 59, .inr 60, .inr 61, .inr 62, .inr 63, .inr 64, .inr 65, .inr 66, .inr 67, .inr 68, .inr 69, .inr 70, .inr 71, .inr 72, .inr 73, .inr 74, .inr 75, .inr 76, .inr 77, .inr 78, .inr 79, .inr 80, .inr 81, .inr 82, .inr 83, .inr 84, .inr 85, .inr 86, .inr 87, .inr 88, .inr 89, .inr 90, .inr 91, .inr 92, .inr 93, .inr 94, .inr 95, .inr 96, .inr 97, .inr 98, .inr 99, .inr 100, .inr 101, .inr 102, .inr 103, .inr 104, .inr 105, .inr 106, .inr 107, .inr 108, .inr 109, .inr 110, .inr 111, .inr 112, .inr 113, .inr 114, .inr 115, .inr 116, .inr 117, .inr 118, .inr 119, .inr 120, .inr 121, .inr 122, .inr 123, .inr 124, .inr 125, .inr 126, .inr 127, .inr 128, .inr 129, .inr 130, .inr 131, .inr 132, .inr 133, .inr 134, .inr 135, .inr 136, .inr 137, .inr 138, .inr 139, .inr 140, .inr 141, .inr 142, .inr 143, .inr 144, .inr 145, .inr 146, .inr 147, .inr 148, .inr 149, .inr 150, .inr 151, .inr 152, .inr 153, .inr 154, .inr 155, .inr 156, .inr 157, .inr 158, .inr 159, .inr 160, .inr 161, .inr 162, .inr 163, .inr 164, .inr 165, .inr 166, .inr 167, .inr 168, .inr 169, .inr 170, .inr 171, .inr 172, .inr 173, .inr 174, .inr 175, .inr 176, .inr 177, .inr 178, .inr 179, .inr 180, .inr 181, .inr 182, .inr 183, .inr 184, .inr 185, .inr 186, .inr 187, .inr 188, .inr 189, .inr 190, .inr 191, .inr 192, .inr 193, .inr 194, .inr 195, .inr 196, .inr 197, .inr 198, .inr 199, .inr 200, .inr 201, .inr 202, .inr 203, .inr 204, .inr 205, .inr 206, .inr 207, .inr 208, .inr 209, .inr 210, .inr 211, .inr 212, .inr 213, .inr 214, .inr 215, .inr 216, .inr 217, .inr 218, .inr 219, .inr 220, .inr 221, .inr 222, .inr 223, .inr 224, .inr 225, .inr 226, .inr 227, .inr 228, .inr 229, .inr 230, .inr 231, .inr 232, .inr 233, .inr 234, .inr 235, .inr 236, .inr 237, .inr 238, .inr 239, .inr 240, .inr 241, .inr 242, .inr 243, .inr 244, .inr 245, .inr 246, .inr 247, .inr 248, .inr 249, .inr 250, .inr 251, .inr 252, .inr 253, .inr 254, .inr 255, .inr 256, .inr 257, .inr 258, .inr 259, .inr 260, .inr 261, .inr 262, .inr 263, .inr 264, .inr 265, .inr 266, .inr 267, .inr 268, .inr 269, .inr 270, .inr 271, .inr 272, .inr 273, .inr 274, .inr 275, .inr 276, .inr 277, .inr 278, .inr 279, .inr 280, .inr 281, .inr 282, .inr 283, .inr 284, .inr 285, .inr 286, .inr 287, .inr 288, .inr 289, .inr 290, .inr 291, .inr 292, .inr 293, .inr 294, .inr 295, .inr 296, .inr 297, .inr 298, .inr 299, .inr 300, .inr 301, .inr 302, .inr 303, .inr 304, .inr 305, .inr 306, .inr 307, .inr 308, .inr 309, .inr 310, .inr 311, .inr 312, .inr 313, .inr 314, .inr 315, .inr 316, .inr 317, .inr 318, .inr 319, .inr 320, .inr 321, .inr 322, .inr 323, .inr 324, .inr 325, .inr 326, .inr 327, .inr 328, .inr 329, .inr 330, .inr 331, .inr 332, .inr 333, .inr 334, .inr 335, .inr 336, .inr 337, .inr 338, .inr 339, .inr 340, .inr 341, .inr 342, .inr 343, .inr 344, .inr 345, .inr 346, .inr 347, .inr 348, .inr 349, .inr 350, .inr 351, .inr 352, .inr 353, .inr 354, .inr 355, .inr 356, .inr 357, .inr 358, .inr 359, .inr 360, .inr 361, .inr 362, .inr 363, .inr 364, .inr 365, .inr 366, .inr 367, .inr 368, .inr 369, .inr 370, .inr 371, .inr 372, .inr 373, .inr 374, .inr 375, .inr 376, .inr 377, .inr 378, .inr 379, .inr 380, .inr 381, .inr 382, .inr 383, .inr 384, .inr 385, .inr 386, .inr 387, .inr 388, .inr 389, .inr 390, .inr 391, .inr 392, .inr 393, .inr 394, .inr 395, .inr 396, .inr 397, .inr 398, .inr 399, .inr 400, .inr 401, .inr 402, .inr 403, .inr 404, .inr 405, .inr 406, .inr 407, .inr 408, .inr 409, .inr 410, .inr 411, .inr 412, .inr 413, .inr 414, .inr 415, .inr 416, .inr 417, .inr 418, .inr 419, .inr 420, .inr 421, .inr 422, .inr 423, .inr 424, .inr 425, .inr 426, .inr 427, .inr 428, .inr 429, .inr 430, .inr 431, .inr 432, .inr 433, .inr 434, .inr 435, .inr 436, .inr 437, .inr 438, .inr 439, .inr 440, .inr 441, .inr 442, .inr 443, .inr 444, .inr 445, .inr 446, .inr 447, .inr 448, .inr 449, .inr 450, .inr 451, .inr 452, .inr 453, .inr 454, .inr 455, .inr 456, .inr 457, .inr 458, .inr 459, .inr 460, .inr 461, .inr 462, .inr 463, .inr 464, .inr 465, .inr 466, .inr 467, .inr 468, .inr 469, .inr 470, .inr 471, .inr 472, .inr 473, .inr 474, .inr 475, .inr 476, .inr 477, .inr 478, .inr 479, .inr 480, .inr 481, .inr 482, .inr 483, .inr 484, .inr 485, .inr 486, .inr 487, .inr 488, .inr 489, .inr 490, .inr 491, .inr 492, .inr 493, .inr 494, .inr 495, .inr 496, .inr 497, .inr 498, .inr 499, .inr 500, .inr 501, .inr 502, .inr 503, .inr 504, .inr 505, .inr 506, .inr 507, .inr 508, .inr 509, .inr 510, .inr 511, .inr 512, .inr 513, .inr 514, .inr 515, .inr 516, .inr 517, .inr 518, .inr 519, .inr 520, .inr 521, .inr 522, .inr 523, .inr 524, .inr 525, .inr 526, .inr 527, .inr 528, .inr 529, .inr 530, .inr 531, .inr 532, .inr 533, .inr 534, .inr 535, .inr 536, .inr 537, .inr 538, .inr 539, .inr 540, .inr 541, .inr 542] (fun wx => Below v11.heap.size v11 wx)) (MeetH.go _ (by rfl) ?_) ?_
      rotate_left
      · intro _ _ _ _
        as_aux_lemma =>
        clear HB HBs
        have HB : Below v11.heap.size v11 v11 := Below.refl _ _
        have HBs : v11.heap.size ≤ v11.heap.size := Nat.le_refl _
        have HO := Lib.hid Ob
        have HQ := Lib.hid q.el
        clear Ob q
        go_wp2_with fail
        go_loopw [189] (fun i wr => ∃ k : Nat, k ≤ 6 ∧ i = .int .i64 k ∧ Below v11.heap.size v11 wr) (fun i _ => 6 - (intOf i).toNat)
        case atStart => exact ⟨0, by omega, rfl, Below.refl _ _⟩
        case round =>
          obtain ⟨k, hk, rfl, hb⟩ := hrel
          by_cases hlt : k < 6
          · have hOw := HO.out.below hb (Nat.le_refl _)
            have hc := own_get hOw (k := k) (by omega)
            have hT := own_take hOw k
            have hTl : ((hbV n).take k).length = k := by simp; omega
            obtain ⟨p1, p2, p3, p4⟩ := HQ.out k hlt
            generalize (hbV n).getD k 0 = x at hc p1 p2 p3 p4
            have hki : (k : Int) < 6 := by omega
            have hxn : ¬ x < 0 := by omega
            have hkc : (k : Int) ≤ (cb : Int) := by omega
            have HT := Lib.hid hT
            clear hOw hT
            rcases Int.lt_or_le 1000000 x with h4 | h4
            · have h5 : ¬ x ≤ 1000000 := by omega
              clear p4
              go_wp2_with (go_at_call 19; refine (oHas_no _ k cb _ _ _ _ _ hTl (by omega) HT.out p3).mono ?_; rintro e w' ⟨rfl, rfl⟩)
              go_roundw
              case rel => exact ⟨k + 1, by omega, by go_num, hb⟩
              case measure => simp [intOf]; omega
            · obtain ⟨e1, e2⟩ := p4 h4
              go_wp2_with (first | (go_at_call 19; refine (oHas_no _ k cb _ _ _ _ _ hTl (by omega) HT.out p3).mono ?_; rintro e w' ⟨rfl, rfl⟩) | (go_at_call 43; refine (impl_HexDistance_any _ _ _).mono ?_; rintro e w1 ⟨rfl, hb1⟩; replace hb := hb.trans (hb1.mono hb.size); clear hb1))
              go_roundw
              case rel => exact ⟨k + 1, by omega, by go_num, hb⟩
              case measure => simp [intOf]; omega
          · have hki : ¬ (k : Int) < 6 := by omega
            go_wp2
            refine Met.intro ?_
            go_step
            refine MeetH.of ?_ ?_
            · exact hb
            repeat (first | refine Agr.skip ?_ | refine Agr.keep ?_ | exact Agr.nil)
      intro u12 v12 hb1
      replace K1 := K1.on hb1
      replace hy' := hy'.on hb1
      replace Ob := Ob.on hb1
      replace HB := below_go HB HBs hb1
      clear hb1
      as_aux_lemma =>
      simp only [fillH]
      clear Ob
      obtain ⟨z1, z2⟩ := q.zero
      go_wp2_with fail
      refine (impl_HexDistance_any n 0 _).mono ?_
      rintro e v13 ⟨rfl, hb1⟩
      replace K1 := K1.on hb1
      replace hy' := hy'.on hb1
      replace HB := below_go HB HBs hb1
      clear hb1
      go_upto_if 231 with fail
      refine wp_cut (MeetH [.inr 0, .inl (.slice B' m' c'), .inr 2, .inr 3, .inr 4, .inl (.int .i64 (n)), .inr 6, .inr 7, .inr 8, .inr 9, .inl (.int .i64 (hrV n)), .inr 11, .inr 12, .inr 13, .inr 14, .inr 15, .inr 16, .inr 17, .inr 18, .inr 19, .inr 20, .inr 21, .inr 22, .inr 23, .inr 24, .inr 25, .inr 26, .inr 27, .inr 28, .inr 29, .inr 30, .inr 31, .inr 32, .inr 33, .inr 34, .inr 35, .inr 36, .inr 37, .inr 38, .inr 39, .inr 40, .inr 41, .inr 42, .inr 43, .inr 44, .inr 45, .inr 46, .inr 47, .inr 48, .inr 49, .inr 50, .inr 51, .inr 52, .inr 53, .inr 54, .inr 55, .inr 56, .inr 57, .inr 58, .inr 59, .inr 60, .inr 61, .inr 62, .inr 63, .inr 64, .inr 65, .inr 66, .inr 67, .inr 68, .inr 69, .inr 70, .inr 71, .inr 72, .inr 73, .inr 74, .inr 75, .inr 76, .inr 77, .inr 78, .inr 79, .inr 80, .inr 81, .inr 82, .inr 83, .inr 84, .inr 85, .inr 86, .inr 87, .inr 88, .inr 89, .inr 90, .inr 91, .inr 92, .inr 93, .inr 94, .inr 95, .inr 96, .inr 97, .inr 98, .inr 99, .inr 100, .inr 101, .inr 102, .inr 103, .inr 104, .inr 105, .inr 106, .inr 107, .inr 108, .inr 109, .inr 110, .inr 111, .inr 112, .inr 113, .inr 114, .inr 115, .inr 116, .inr 117, .inr 118, .inr 119, .inr 120, .inr 121, .inr 122, .inr 123, .inr 124, .inr 125, .inr 126, .inr 127, .inr 128, .inr 129, .inr 130, .inr 131, .inr 132, .inr 133, .inr 134, .inr 135, .inr 136, .inr 137, .inr 138, .inr 139, .inr 140, .inr 141, .inr 142, .inr 143, .inr 144, .inr 145, .inr 146, .inr 147, .inr 148, .inr 149, .inr 150, .inr 151, .inr 152, .inr 153, .inr 154, .inr 155, .inr 156, .inr 157, .inr 158, .inr 159, .inr 160, .inr 161, .inr 162, .inr 163, .inr 164, .inr 165, .inr 166, .inr 167, .inr 168, .inr 169, .inr 170, .inr 171, .inr 172, .inr 173, .inr 174, .inr 175, .inr 176, .inr 177, .inr 178, .inr 179, .inr 180, .inr 181, .inr 182, .inr 183, .inr 184, .inr 185, .inr 186, .inr 187, .inr 188, .inr 189, .inr 190, .inr 191, .inr 192, .inr 193, .inr 194, .inr 195, .inr 196, .inr 197, .inr 198, .inr 199, .inr 200, .inr 201, .inr 202, .inr 203, .inr 204, .inr 205, .inr 206, .inr 207, .inr 208, .inr 209, .inr 210, .inr 211, .inr 212, .inr 213, .inr 214, .inr 215, .inr 216, .inr 217, .inr 218, .inr 219, .inr 220, .inr 221, .inr 222, .inr 223, .inr 224, .inr 225, .inr 226, .inr 227, .inr 228, .inr 229, .inr 230, .inr 231, .inr 232, .inr 233, .inr 234, .inr 235, .inr 236, .inr 237, .inr 238, .inr 239, .inr 240, .inr 241, .inr 242, .inr 243, .inr 244, .inr 245, .inr 246, .inr 247, .inr 248, .inr 249, .inr 250, .inr 251, .inr 252, .inr 253, .inr 254, .inr 255, .inr 256, .inr 257, .inr 258, .inr 259, .inr 260, .inr 261, .inr 262, .inr 263, .inr 264, .inr 265, .inr 266, .inr 267, .inr 268, .inr 269, .inr 270, .inr 271, .inr 272, .inr 273, .inr 274, .inr 275, .inr 276, .inr 277, .inr 278, .inr 279, .inr 280, .inr 281, .inr 282, .inr 283, .inr 284, .inr 285, .inr 286, .inr 287, .inr 288, .inr 289, .inr 290, .inr 291, .inr 292, .inr 293, .inr 294, .inr 295, .inr 296, .inr 297, .inr 298, .inr 299, .inr 300, .inr 301, .inr 302, .inr 303, .inr 304, .inr 305, .inr 306, .inr 307, .inr 308, .inr 309, .inr 310, .inr 311, .inr 312, .inr 313, .inr 314, .inr 315, .inr 316, .inr 317, .inr 318, .inr 319, .inr 320, .inr 321, .inr 322, .inr 323, .inr 324, .inr 325, .inr 326, .inr 327, .inr 328, .inr 329, .inr 330, .inr 331, .inr 332, .inr 333, .inr 334, .inr 335, .inr 336, .inr 337, .inr 338, .inr 339, .inr 340, .inr 341, .inr 342, .inr 343, .inr 344, .inr 345, .inr 346, .inr 347, .inr 348, .inr 349, .inr 350, .inr 351, .inr 352, .inr 353, .inr 354, .inr 355, .inr 356, .inr 357, .inr 358, .inr 359, .inr 360, .inr 361, .inr 362, .inr 363, .inr 364, .inr 365, .inr 366, .inr 367, .inr 368, .inr 369, .inr 370, .inr 371, .inr 372, .inr 373, .inr 374, .inr 375, .inr 376, .inr 377, .inr 378, .inr 379, .inr 380, .inr 381, .inr 382, .inr 383, .inr 384, .inr 385, .inr 386, .inr 387, .inr 388, .inr 389, .inr 390, .inr 391, .inr 392, .inr 393, .inr 394, .inr 395, .inr 396, .inr 397, .inr 398, .inr 399, .inr 400, .inr 401, .inr 402, .inr 403, .inr 404, .inr 405, .inr 406, .inr 407, .inr 408, .inr 409, .inr 410, .inr 411, .inr 412, .inr 413, .inr 414, .inr 415, .inr 416, .inr 417, .inr 418, .inr 419, .inr 420, .inr 421, .inr 422, .inr 423, .inr 424, .inr 425, .inr 426, .inr 427, .inr 428, .inr 429, .inr 430, .inr 431, .inr 432, .inr 433, .inr 434, .inr 435, .inr 436, .inr 437, .inr 438, .inr 439, .inr 440, .inr 441, .inr 442, .inr 443, .inr 444, .inr 445, .inr 446, .inr 447, .inr 448, .inr 449, .inr 450, .inr 451, .inr 452, .inr 453, .inr 454, .inr 455, .inr 456, .inr 457, .inr 458, .inr 459, .inr 460, .inr 461, .inr 462, .inr 463, .inr 464, .inr 465, .inr 466, .inr 467, .inr 468, .inr 469, .inr 470, .inr 471, .inr 472, .inr 473, .inr 474, .inr 475, .inr 476, .inr 477, .inr 478, .inr 479, .inr 480, .inr 481, .inr 482, .inr 483, .inr 484, .inr 485, .inr 486, .inr 487, .inr 488, .inr 489, .inr 490, .inr 491, .inr 492, .inr 493, .inr 494, .inr 495, .inr 496, .inr 497, .inr 498, .inr 499, .inr 500, .inr 501, .inr 502, .inr 503, .inr 504, .inr 505, .inr 506, .inr 507, .inr 508, .inr 509, .inr 510, .inr 511, .inr 512, .inr 513, .inr 514, .inr 515, .inr 516, .inr 517, .inr 518, .inr 519, .inr 520, .inr 521, .inr 522, .inr 523, .inr 524, .inr 525, .inr 526, .inr 527, .inr 528, .inr 529, .inr 530, .inr 531, .inr 532, .inr 533, .inr 534, .inr 535, .inr 536, .inr 537, .inr 538, .inr 539, .inr 540, .inr 541, .inr 542] (fun wx => Below v13.heap.size v13 wx)) (MeetH.go _ (by rfl) ?_) ?_
      rotate_left
      · intro _ _ _ _
        as_aux_lemma =>
        clear HB HBs
        have HB : Below v13.heap.size v13 v13 := Below.refl _ _
        have HBs : v13.heap.size ≤ v13.heap.size := Nat.le_refl _
        rcases Int.lt_or_le 400 (hrV n) with h4 | h4
        · have h5 : ¬ hrV n ≤ 400 := by omega
          go_wp2_with fail
          refine Met.intro ?_
          go_step
          refine MeetH.of ?_ ?_
          · exact HB
          repeat (first | refine Agr.skip ?_ | refine Agr.keep ?_ | exact Agr.nil)
        · obtain ⟨a1, a2⟩ := q.back h4
          have K1_0 := K1.c0
          have K1_1 := K1.c1
          have K1_z := K1.z
          go_wp2_with fail
          refine (impl_HexNumberAt_any _ _ _).mono ?_
          rintro e v14 ⟨rfl, hb1⟩
          clear K1_0 K1_1 K1_z
          replace K1 := K1.on hb1
          replace hy' := hy'.on hb1
          replace HB := below_go HB HBs hb1
          clear hb1
          go_wp2_with fail
          refine Met.intro ?_
          go_step
          refine MeetH.of ?_ ?_
          · exact HB
          repeat (first | refine Agr.skip ?_ | refine Agr.keep ?_ | exact Agr.nil)
      intro u15 v15 hb1
      replace K1 := K1.on hb1
      replace hy' := hy'.on hb1
      replace HB := below_go HB HBs hb1
      clear hb1
      as_aux_lemma =>
      simp only [fillH]
      go_upto_if 245 with fail
      rcases Int.lt_or_le 0 (hrV n) with h4 | h4
      · obtain ⟨a1, a2⟩ := q.cen h4
        obtain ⟨p2, p3⟩ := q.p2 h4
        have hw3 : IntKind.i64.wrap (3 * hrV n) = 3 * hrV n := IntWalk.i64_in _ (by omega)
        have hw6 : IntKind.i64.wrap (hrV n - 1) = hrV n - 1 := IntWalk.i64_in _ (by omega)
        have hw7 : IntKind.i64.wrap (3 * hrV n * (hrV n - 1)) = 3 * hrV n * (hrV n - 1) := IntWalk.i64_in _ (by omega)
        have hw8 : IntKind.i64.wrap (3 * hrV n * (hrV n - 1) + 1) = 3 * hrV n * (hrV n - 1) + 1 := IntWalk.i64_in _ (by omega)
        have hlf : ¬ n < 3 * hrV n * (hrV n - 1) + 1 := by omega
        go_wp2_with fail
        refine (impl_CentredNumber_any _ _ _).mono ?_
        rintro e v16 ⟨rfl, hb1⟩
        replace K1 := K1.on hb1
        replace hy' := hy'.on hb1
        replace HB := below_go HB HBs hb1
        clear hb1
        go_wp2_with fail
        refine Met.intro ?_
        go_step
        refine MeetH.of ?_ ?_
        · exact HB
        repeat (first | refine Agr.skip ?_ | refine Agr.keep ?_ | exact Agr.nil)
      · have h5 : ¬ 0 < hrV n := by omega
        go_wp2_with fail
        refine Met.intro ?_
        go_step
        refine MeetH.of ?_ ?_
        · exact HB
        repeat (first | refine Agr.skip ?_ | refine Agr.keep ?_ | exact Agr.nil)
    · simp only [h]
      go_wp2_with fail
      refine Met.intro ?_
      go_step
      refine MeetH.of ?_ ?_
      · exact HB
      repeat (first | refine Agr.skip ?_ | refine Agr.keep ?_ | exact Agr.nil)
  intro u17 v17 hb1
  replace K1 := K1.on hb1
  replace hy' := hy'.on hb1
  replace Ob := Ob.on hb1
  replace HB := below_go HB HBs hb1
  clear hb1
  as_aux_lemma =>
  simp only [fillH]
  clear K1 Ob
  clear hcb
  go_wp2_with fail
  refine (DrawHexNumberAt_any B' m' c' _ hy' (by omega)).mono ?_
  rintro e v18 ⟨⟨sx, sy, rfl⟩, hb1⟩
  replace hy' := hy'.on hb1
  replace HB := below_go HB HBs hb1
  clear hb1
  go_wp2_with fail
  have hb1 := below_on (w := v18) (.cells #[.int .i64 (sx), .int .i64 (sy)] 26)
  have B1 := box_at v18 (sx) (sy) 26
  replace hy' := hy'.on hb1
  replace HB := below_go HB HBs hb1
  generalize hw1 : v18.alloc (.cells #[.int .i64 (sx), .int .i64 (sy)] 26) = v19 at hy' B1 HB ⊢
  generalize hR1 : v18.heap.size = RB1 at B1 ⊢
  clear hb1 hw1 hR1
  refine (impl_HexNumberAt_any sx sy _).mono ?_
  rintro e v20 ⟨rfl, hb1⟩
  replace B1 := B1.on hb1
  replace hy' := hy'.on hb1
  replace HB := below_go HB HBs hb1
  clear hb1
  have B1_0 := B1.c0
  have B1_1 := B1.c1
  have B1_z := B1.z
  go_wp2_with fail
  refine (spec_HexNumberAt_any sx sy _).mono ?_
  rintro e v21 ⟨rfl, hb1⟩
  clear B1_0 B1_1 B1_z
  replace B1 := B1.on hb1
  replace hy' := hy'.on hb1
  replace HB := below_go HB HBs hb1
  clear hb1
  go_wp2_with fail
  refine (DrawHexDistance_any B' m' c' _ hy' (by omega)).mono ?_
  rintro e v22 ⟨⟨a, b, rfl⟩, hb1⟩
  replace B1 := B1.on hb1
  replace hy' := hy'.on hb1
  replace HB := below_go HB HBs hb1
  clear hb1
  go_wp2_with fail
  refine (impl_HexDistance_any a b _).mono ?_
  rintro e v23 ⟨rfl, hb1⟩
  replace B1 := B1.on hb1
  replace hy' := hy'.on hb1
  replace HB := below_go HB HBs hb1
  clear hb1
  go_wp2_with fail
  refine (spec_HexDistance_any a b _).mono ?_
  rintro e v24 ⟨rfl, hb1⟩
  replace B1 := B1.on hb1
  replace hy' := hy'.on hb1
  replace HB := below_go HB HBs hb1
  clear hb1
  go_wp2_with fail
  refine (DrawTriangleSpot_any B' m' c' _ hy' (by omega)).mono ?_
  rintro e v25 ⟨⟨t, rfl⟩, hb1⟩
  replace B1 := B1.on hb1
  replace hy' := hy'.on hb1
  replace HB := below_go HB HBs hb1
  clear hb1
  go_wp2_with fail
  refine (impl_TriangleSpot_any t _).mono ?_
  rintro e v26 ⟨rfl, hb1⟩
  replace B1 := B1.on hb1
  replace hy' := hy'.on hb1
  replace HB := below_go HB HBs hb1
  clear hb1
  go_wp2_with fail
  have hb1 := below_on (w := v26) (.cells #[.int .i64 (tix t), .int .i64 (tiy t)] 26)
  have K5 := box_at v26 (tix t) (tiy t) 26
  replace B1 := B1.on hb1
  replace hy' := hy'.on hb1
  replace HB := below_go HB HBs hb1
  generalize hw1 : v26.alloc (.cells #[.int .i64 (tix t), .int .i64 (tiy t)] 26) = v27 at B1 hy' K5 HB ⊢
  generalize hR1 : v26.heap.size = RK5 at K5 ⊢
  clear hb1 hw1 hR1
  refine (spec_TriangleSpot_any t _).mono ?_
  rintro e v28 ⟨rfl, hb1⟩
  replace B1 := B1.on hb1
  replace K5 := K5.on hb1
  replace hy' := hy'.on hb1
  replace HB := below_go HB HBs hb1
  clear hb1
  go_wp2_with fail
  have hb1 := below_on (w := v28) (.cells #[.int .i64 (tix t), .int .i64 (tiy t)] 26)
  have K6 := box_at v28 (tix t) (tiy t) 26
  replace B1 := B1.on hb1
  replace K5 := K5.on hb1
  replace hy' := hy'.on hb1
  replace HB := below_go HB HBs hb1
  generalize hw1 : v28.alloc (.cells #[.int .i64 (tix t), .int .i64 (tiy t)] 26) = v29 at B1 K5 hy' K6 HB ⊢
  generalize hR1 : v28.heap.size = RK6 at K6 ⊢
  clear hb1 hw1 hR1
  refine (DrawTriangleNumber_any B' m' c' _ hy' (by omega)).mono ?_
  rintro e v30 ⟨⟨px, py, rfl⟩, hb1⟩
  replace B1 := B1.on hb1
  replace K5 := K5.on hb1
  replace K6 := K6.on hb1
  replace hy' := hy'.on hb1
  replace HB := below_go HB HBs hb1
  clear hb1
  go_wp2_with fail
  have hb1 := below_on (w := v30) (.cells #[.int .i64 (px), .int .i64 (py)] 26)
  have B2 := box_at v30 (px) (py) 26
  replace B1 := B1.on hb1
  replace K5 := K5.on hb1
  replace K6 := K6.on hb1
  replace hy' := hy'.on hb1
  replace HB := below_go HB HBs hb1
  generalize hw1 : v30.alloc (.cells #[.int .i64 (px), .int .i64 (py)] 26) = v31 at B1 K5 K6 hy' B2 HB ⊢
  generalize hR1 : v30.heap.size = RB2 at B2 ⊢
  clear hb1 hw1 hR1
  refine (impl_TriangleNumber_any px py _).mono ?_
  rintro e v32 ⟨rfl, hb1⟩
  replace B1 := B1.on hb1
  replace K5 := K5.on hb1
  replace K6 := K6.on hb1
  replace B2 := B2.on hb1
  replace hy' := hy'.on hb1
  replace HB := below_go HB HBs hb1
  clear hb1
  have B2_0 := B2.c0
  have B2_1 := B2.c1
  have B2_z := B2.z
  go_wp2_with fail
  refine (spec_TriangleNumber_any px py _).mono ?_
  rintro e v33 ⟨rfl, hb1⟩
  clear B2_0 B2_1 B2_z
  replace B1 := B1.on hb1
  replace K5 := K5.on hb1
  replace K6 := K6.on hb1
  replace B2 := B2.on hb1
  replace hy' := hy'.on hb1
  replace HB := below_go HB HBs hb1
  clear hb1
  go_wp2_with fail
  refine (DrawZigzagNumber_any B' m' c' _ hy' (by omega)).mono ?_
  rintro e v34 ⟨⟨zx, zy, rfl⟩, hb1⟩
  replace B1 := B1.on hb1
  replace K5 := K5.on hb1
  replace K6 := K6.on hb1
  replace B2 := B2.on hb1
  replace hy' := hy'.on hb1
  replace HB := below_go HB HBs hb1
  clear hb1
  go_wp2_with fail
  have hb1 := below_on (w := v34) (.cells #[.int .i64 (zx), .int .i64 (zy)] 26)
  have B3 := box_at v34 (zx) (zy) 26
  replace B1 := B1.on hb1
  replace K5 := K5.on hb1
  replace K6 := K6.on hb1
  replace B2 := B2.on hb1
  replace hy' := hy'.on hb1
  replace HB := below_go HB HBs hb1
  generalize hw1 : v34.alloc (.cells #[.int .i64 (zx), .int .i64 (zy)] 26) = v35 at B1 K5 K6 B2 hy' B3 HB ⊢
  generalize hR1 : v34.heap.size = RB3 at B3 ⊢
  clear hb1 hw1 hR1
  refine (impl_ZigzagNumber_any zx zy _).mono ?_
  rintro e v36 ⟨rfl, hb1⟩
  replace B1 := B1.on hb1
  replace K5 := K5.on hb1
  replace K6 := K6.on hb1
  replace B2 := B2.on hb1
  replace B3 := B3.on hb1
  replace hy' := hy'.on hb1
  replace HB := below_go HB HBs hb1
  clear hb1
  have B3_0 := B3.c0
  have B3_1 := B3.c1
  have B3_z := B3.z
  go_wp2_with fail
  refine (spec_ZigzagNumber_any zx zy _).mono ?_
  rintro e v37 ⟨rfl, hb1⟩
  clear B3_0 B3_1 B3_z
  replace B1 := B1.on hb1
  replace K5 := K5.on hb1
  replace K6 := K6.on hb1
  replace B2 := B2.on hb1
  replace B3 := B3.on hb1
  replace hy' := hy'.on hb1
  replace HB := below_go HB HBs hb1
  clear hb1
  go_wp2_with fail
  refine (DrawZigzagSpot_any B' m' c' _ hy' (by omega)).mono ?_
  rintro e v38 ⟨⟨q0, rfl⟩, hb1⟩
  replace B1 := B1.on hb1
  replace K5 := K5.on hb1
  replace K6 := K6.on hb1
  replace B2 := B2.on hb1
  replace B3 := B3.on hb1
  replace hy' := hy'.on hb1
  replace HB := below_go HB HBs hb1
  clear hb1
  clear hy'
  go_wp2_with fail
  refine (impl_ZigzagSpot_any q0 _).mono ?_
  rintro e v39 ⟨rfl, hb1⟩
  replace B1 := B1.on hb1
  replace K5 := K5.on hb1
  replace K6 := K6.on hb1
  replace B2 := B2.on hb1
  replace B3 := B3.on hb1
  replace HB := below_go HB HBs hb1
  clear hb1
  go_wp2_with fail
  have hb1 := below_on (w := v39) (.cells #[.int .i64 (zgx q0), .int .i64 (zgy q0)] 26)
  have K7 := box_at v39 (zgx q0) (zgy q0) 26
  replace B1 := B1.on hb1
  replace K5 := K5.on hb1
  replace K6 := K6.on hb1
  replace B2 := B2.on hb1
  replace B3 := B3.on hb1
  replace HB := below_go HB HBs hb1
  generalize hw1 : v39.alloc (.cells #[.int .i64 (zgx q0), .int .i64 (zgy q0)] 26) = v40 at B1 K5 K6 B2 B3 K7 HB ⊢
  generalize hR1 : v39.heap.size = RK7 at K7 ⊢
  clear hb1 hw1 hR1
  refine (spec_ZigzagSpot_any q0 _).mono ?_
  rintro e v41 ⟨rfl, hb1⟩
  replace B1 := B1.on hb1
  replace K5 := K5.on hb1
  replace K6 := K6.on hb1
  replace B2 := B2.on hb1
  replace B3 := B3.on hb1
  replace K7 := K7.on hb1
  replace HB := below_go HB HBs hb1
  clear hb1
  go_upto_region 54 with fail
  have hb1 := below_on (w := v41) (.cells #[.int .i64 (zgx q0), .int .i64 (zgy q0)] 26)
  have K8 := box_at v41 (zgx q0) (zgy q0) 26
  replace B1 := B1.on hb1
  replace K5 := K5.on hb1
  replace K6 := K6.on hb1
  replace B2 := B2.on hb1
  replace B3 := B3.on hb1
  replace K7 := K7.on hb1
  replace HB := below_go HB HBs hb1
  generalize hw1 : v41.alloc (.cells #[.int .i64 (zgx q0), .int .i64 (zgy q0)] 26) = v42 at B1 K5 K6 B2 B3 K7 K8 HB ⊢
  generalize hR1 : v41.heap.size = RK8 at K8 ⊢
  clear hb1 hw1 hR1
  have K5_0 := K5.c0
  have K5_1 := K5.c1
  have K5_z := K5.z
  have K6_0 := K6.c0
  have K6_1 := K6.c1
  have K6_z := K6.z
  have K7_0 := K7.c0
  have K7_1 := K7.c1
  have K7_z := K7.z
  have K8_0 := K8.c0
  have K8_1 := K8.c1
  have K8_z := K8.z
  go_upto_if 403 with fail
  clear K5_0 K5_1 K5_z K6_0 K6_1 K6_z K7_0 K7_1 K7_z K8_0 K8_1 K8_z
  clear K6 K8
  refine wp_cut (MeetH [.inr 0, .inr 1, .inr 2, .inr 3, .inr 4, .inr 5, .inr 6, .inr 7, .inr 8, .inr 9, .inr 10, .inr 11, .inr 12, .inr 13, .inr 14, .inr 15, .inr 16, .inr 17, .inr 18, .inr 19, .inr 20, .inr 21, .inr 22, .inr 23, .inr 24, .inr 25, .inr 26, .inr 27, .inr 28, .inr 29, .inr 30, .inr 31, .inr 32, .inl (.int .i64 (a)), .inl (.int .i64 (b)), .inl (.int .i64 (hdV a b)), .inl (.bool (d6B a b)), .inr 37, .inr 38, .inl (.int .i64 (t)), .inl (.pointer (some ⟨RK5, 0, none⟩)), .inl (.bool (n6B t)), .inr 42, .inr 43, .inl (.pointer (some ⟨RB2, 0, none⟩)), .inl (.int .i64 (tnV px py)), .inl (.bool (triOk px py)), .inr 47, .inr 48, .inl (.pointer (some ⟨RB3, 0, none⟩)), .inl (.int .i64 (znV zx zy)), .inl (.bool (zzOk zx zy)), .inr 52, .inr 53, .inl (.int .i64 (q0)), .inl (.pointer (some ⟨RK7, 0, none⟩)), .inl (.bool (n6B q0)), .inr 57, .inr 58, .inr 59, .inr 60, .inr 61, .inr 62, .inr 63, .inr 64, .inr 65, .inr 66, .inr 67, .inr 68, .inr 69, .inr 70, .inr 71, .inr 72, .inr 73, .inr 74, .inr 75, .inr 76, .inr 77, .inr 78, .inr 79, .inr 80, .inr 81, .inr 82, .inr 83, .inr 84, .inr 85, .inr 86, .inr 87, .inr 88, .inr 89, .inr 90, .inr 91, .inr 92, .inr 93, .inr 94, .inr 95, .inr 96, .inr 97, .inr 98, .inr 99, .inr 100, .inr 101, .inr 102, .inr 103, .inr 104, .inr 105, .inr 106, .inr 107, .inr 108, .inr 109, .inr 110, .inr 111, .inr 112, .inr 113, .inr 114, .inr 115, .inr 116, .inr 117, .inr 118, .inr 119, .inr 120, .inr 121, .inr 122, .inr 123, .inr 124, .inr 125, .inr 126, .inr 127, .inr 128, .inr 129, .inr 130, .inr 131, .inr 132, .inr 133, .inr 134, .inr 135, .inr 136, .inr 137, .inr 138, .inr 139, .inr 140, .inr 141, .inr 142, .inr 143, .inr 144, .inr 145, .inr 146, .inr 147, .inr 148, .inr 149, .inr 150, .inr 151, .inr 152, .inr 153, .inr 154, .inr 155, .inr 156, .inr 157, .inr 158, .inr 159, .inr 160, .inr 161, .inr 162, .inr 163, .inr 164, .inr 165, .inr 166, .inr 167, .inr 168, .inr 169, .inr 170, .inr 171, .inr 172, .inr 173, .inr 174, .inr 175, .inr 176, .inr 177, .inr 178, .inr 179, .inr 180, .inr 181, .inr 182, .inr 183, .inr 184, .inr 185, .inr 186, .inr 187, .inr 188, .inr 189, .inr 190, .inr 191, .inr 192, .inr 193, .inr 194, .inr 195, .inr 196, .inr 197, .inr 198, .inr 199, .inr 200, .inr 201, .inr 202, .inr 203, .inr 204, .inr 205, .inr 206, .inr 207, .inr 208, .inr 209, .inr 210, .inr 211, .inr 212, .inr 213, .inr 214, .inr 215, .inr 216, .inr 217, .inr 218, .inr 219, .inr 220, .inr 221, .inr 222, .inr 223, .inr 224, .inr 225, .inr 226, .inr 227, .inr 228, .inr 229, .inr 230, .inr 231, .inr 232, .inr 233, .inr 234, .inr 235, .inr 236, .inr 237, .inr 238, .inr 239, .inr 240, .inr 241, .inr 242, .inr 243, .inr 244, .inr 245, .inr 246, .inr 247, .inr 248, .inr 249, .inr 250, .inr 251, .inr 252, .inr 253, .inr 254, .inr 255, .inr 256, .inr 257, .inr 258, .inr 259, .inr 260, .inr 261, .inr 262, .inr 263, .inr 264, .inr 265, .inr 266, .inr 267, .inr 268, .inr 269, .inr 270, .inr 271, .inr 272, .inr 273, .inr 274, .inr 275, .inr 276, .inr 277, .inr 278, .inr 279, .inr 280, .inr 281, .inr 282, .inr 283, .inr 284, .inr 285, .inr 286, .inr 287, .inr 288, .inr 289, .inr 290, .inr 291, .inr 292, .inr 293, .inr 294, .inr 295, .inr 296, .inr 297, .inr 298, .inr 299, .inr 300, .inr 301, .inr 302, .inr 303, .inr 304, .inr 305, .inr 306, .inr 307, .inr 308, .inr 309, .inr 310, .inr 311, .inr 312, .inr 313, .inr 314, .inr 315, .inr 316, .inr 317, .inr 318, .inr 319, .inr 320, .inr 321, .inr 322, .inr 323, .inr 324, .inr 325, .inr 326, .inr 327, .inr 328, .inr 329, .inr 330, .inr 331, .inr 332, .inr 333, .inr 334, .inr 335, .inr 336, .inr 337, .inr 338, .inr 339, .inr 340, .inr 341, .inr 342, .inr 343, .inr 344, .inr 345, .inr 346, .inr 347, .inr 348, .inr 349, .inr 350, .inr 351, .inr 352, .inr 353, .inr 354, .inr 355, .inr 356, .inr 357, .inr 358, .inr 359, .inr 360, .inr 361, .inr 362, .inr 363, .inr 364, .inr 365, .inr 366, .inr 367, .inr 368, .inr 369, .inr 370, .inr 371, .inr 372, .inr 373, .inr 374, .inr 375, .inr 376, .inr 377, .inr 378, .inr 379, .inr 380, .inr 381, .inr 382, .inr 383, .inr 384, .inr 385, .inr 386, .inr 387, .inr 388, .inr 389, .inr 390, .inr 391, .inr 392, .inr 393, .inr 394, .inr 395, .inr 396, .inr 397, .inr 398, .inr 399, .inr 400, .inr 401, .inr 402, .inr 403, .inr 404, .inr 405, .inr 406, .inr 407, .inr 408, .inr 409, .inr 410, .inr 411, .inr 412, .inr 413, .inr 414, .inr 415, .inr 416, .inr 417, .inr 418, .inr 419, .inr 420, .inr 421, .inr 422, .inr 423, .inr 424, .inr 425, .inr 426, .inr 427, .inr 428, .inr 429, .inr 430, .inr 431, .inr 432, .inr 433, .inr 434, .inr 435, .inr 436, .inr 437, .inr 438, .inr 439, .inr 440, .inr 441, .inr 442, .inr 443, .inr 444, .inr 445, .inr 446, .inr 447, .inr 448, .inr 449, .inr 450, .inr 451, .inr 452, .inr 453, .inr 454, .inr 455, .inr 456, .inr 457, .inr 458, .inr 459, .inr 460, .inr 461, .inr 462, .inr 463, .inr 464, .inr 465, .inr 466, .inr 467, .inr 468, .inr 469, .inr 470, .inr 471, .inr 472, .inr 473, .inr 474, .inr 475, .inr 476, .inr 477, .inr 478, .inr 479, .inr 480, .inr 481, .inr 482, .inr 483, .inr 484, .inr 485, .inr 486, .inr 487, .inr 488, .inr 489, .inr 490, .inr 491, .inr 492, .inr 493, .inr 494, .inr 495, .inr 496, .inr 497, .inr 498, .inr 499, .inr 500, .inr 501, .inr 502, .inr 503, .inr 504, .inr 505, .inr 506, .inr 507, .inr 508, .inr 509, .inr 510, .inr 511, .inr 512, .inr 513, .inr 514, .inr 515, .inr 516, .inr 517, .inr 518, .inr 519, .inr 520, .inr 521, .inr 522, .inr 523, .inr 524, .inr 525, .inr 526, .inr 527, .inr 528, .inr 529, .inr 530, .inr 531, .inr 532, .inr 533, .inr 534, .inr 535, .inr 536, .inr 537, .inr 538, .inr 539, .inr 540, .inr 541, .inr 542] (fun wx => Below v42.heap.size v42 wx)) (MeetH.go _ (by rfl) ?_) ?_
  rotate_left
  · intro _ _ _ _
    as_aux_lemma =>
    clear HB HBs
    have HB : Below v42.heap.size v42 v42 := Below.refl _ _
    have HBs : v42.heap.size ≤ v42.heap.size := Nat.le_refl _
    rcases Bool.eq_false_or_eq_true (isHexSpot sx sy) with h | h
    · simp only [h]
      have q := hnf_of h
      have e1 := q.b
      have e2 := q.sx
      have e3 := q.sy
      clear q
      go_wp2_with fail
      refine (impl_HexSpotOf_any _ _).mono ?_
      rintro e v43 ⟨rfl, hb1⟩
      replace B1 := B1.on hb1
      replace K5 := K5.on hb1
      replace B2 := B2.on hb1
      replace B3 := B3.on hb1
      replace K7 := K7.on hb1
      replace HB := below_go HB HBs hb1
      clear hb1
      go_upto_region 58 with fail
      try simp only [e2, e3]
      clear e2 e3
      have hb1 := below_on (w := v43) (.cells #[.int .i64 (sx), .int .i64 (sy)] 26)
      have K9 := box_at v43 (sx) (sy) 26
      replace B1 := B1.on hb1
      replace K5 := K5.on hb1
      replace B2 := B2.on hb1
      replace B3 := B3.on hb1
      replace K7 := K7.on hb1
      replace HB := below_go HB HBs hb1
      generalize hw1 : v43.alloc (.cells #[.int .i64 (sx), .int .i64 (sy)] 26) = v44 at B1 K5 B2 B3 K7 K9 HB ⊢
      generalize hR1 : v43.heap.size = RK9 at K9 ⊢
      clear hb1 hw1 hR1
      have B1_0 := B1.c0
      have B1_1 := B1.c1
      have B1_z := B1.z
      have K9_0 := K9.c0
      have K9_1 := K9.c1
      have K9_z := K9.z
      go_wp2_with fail
      refine Met.intro ?_
      go_step
      refine MeetH.of ?_ ?_
      · exact HB
      repeat (first | refine Agr.skip ?_ | refine Agr.keep ?_ | exact Agr.nil)
    · simp only [h]
      go_wp2_with fail
      refine Met.intro ?_
      go_step
      refine MeetH.of ?_ ?_
      · exact HB
      repeat (first | refine Agr.skip ?_ | refine Agr.keep ?_ | exact Agr.nil)
  intro u45 v45 hb1
  replace B1 := B1.on hb1
  replace K5 := K5.on hb1
  replace B2 := B2.on hb1
  replace B3 := B3.on hb1
  replace K7 := K7.on hb1
  replace HB := below_go HB HBs hb1
  clear hb1
  as_aux_lemma =>
  simp only [fillH]
  go_upto_if 416 with fail
  refine wp_cut (MeetH [.inr 0, .inr 1, .inr 2, .inr 3, .inr 4, .inr 5, .inr 6, .inr 7, .inr 8, .inr 9, .inr 10, .inr 11, .inr 12, .inr 13, .inr 14, .inr 15, .inr 16, .inr 17, .inr 18, .inr 19, .inr 20, .inr 21, .inr 22, .inr 23, .inr 24, .inr 25, .inr 26, .inr 27, .inr 28, .inr 29, .inr 30, .inr 31, .inr 32, .inr 33, .inr 34, .inr 35, .inr 36, .inr 37, .inr 38, .inl (.int .i64 (t)), .inl (.pointer (some ⟨RK5, 0, none⟩)), .inl (.bool (n6B t)), .inr 42, .inr 43, .inl (.pointer (some ⟨RB2, 0, none⟩)), .inl (.int .i64 (tnV px py)), .inl (.bool (triOk px py)), .inr 47, .inr 48, .inl (.pointer (some ⟨RB3, 0, none⟩)), .inl (.int .i64 (znV zx zy)), .inl (.bool (zzOk zx zy)), .inr 52, .inr 53, .inl (.int .i64 (q0)), .inl (.pointer (some ⟨RK7, 0, none⟩)), .inl (.bool (n6B q0)), .inr 57, .inr 58, .inr 59, .inr 60, .inr 61, .inr 62, .inr 63, .inr 64, .inr 65, .inr 66, .inr 67, .inr 68, .inr 69, .inr 70, .inr 71, .inr 72, .inr 73, .inr 74, .inr 75, .inr 76, .inr 77, .inr 78, .inr 79, .inr 80, .inr 81, .inr 82, .inr 83, .inr 84, .inr 85, .inr 86, .inr 87, .inr 88, .inr 89, .inr 90, .inr 91, .inr 92, .inr 93, .inr 94, .inr 95, .inr 96, .inr 97, .inr 98, .inr 99, .inr 100, .inr 101, .inr 102, .inr 103, .inr 104, .inr 105, .inr 106, .inr 107, .inr 108, .inr 109, .inr 110, .inr 111, .inr 112, .inr 113, .inr 114, .inr 115, .inr 116, .inr 117, .inr 118, .inr 119, .inr 120, .inr 121, .inr 122, .inr 123, .inr 124, .inr 125, .inr 126, .inr 127, .inr 128, .inr 129, .inr 130, .inr 131, .inr 132, .inr 133, .inr 134, .inr 135, .inr 136, .inr 137, .inr 138, .inr 139, .inr 140, .inr 141, .inr 142, .inr 143, .inr 144, .inr 145, .inr 146, .inr 147, .inr 148, .inr 149, .inr 150, .inr 151, .inr 152, .inr 153, .inr 154, .inr 155, .inr 156, .inr 157, .inr 158, .inr 159, .inr 160, .inr 161, .inr 162, .inr 163, .inr 164, .inr 165, .inr 166, .inr 167, .inr 168, .inr 169, .inr 170, .inr 171, .inr 172, .inr 173, .inr 174, .inr 175, .inr 176, .inr 177, .inr 178, .inr 179, .inr 180, .inr 181, .inr 182, .inr 183, .inr 184, .inr 185, .inr 186, .inr 187, .inr 188, .inr 189, .inr 190, .inr 191, .inr 192, .inr 193, .inr 194, .inr 195, .inr 196, .inr 197, .inr 198, .inr 199, .inr 200, .inr 201, .inr 202, .inr 203, .inr 204, .inr 205, .inr 206, .inr 207, .inr 208, .inr 209, .inr 210, .inr 211, .inr 212, .inr 213, .inr 214, .inr 215, .inr 216, .inr 217, .inr 218, .inr 219, .inr 220, .inr 221, .inr 222, .inr 223, .inr 224, .inr 225, .inr 226, .inr 227, .inr 228, .inr 229, .inr 230, .inr 231, .inr 232, .inr 233, .inr 234, .inr 235, .inr 236, .inr 237, .inr 238, .inr 239, .inr 240, .inr 241, .inr 242, .inr 243, .inr 244, .inr 245, .inr 246, .inr 247, .inr 248, .inr 249, .inr 250, .inr 251, .inr 252, .inr 253, .inr 254, .inr 255, .inr 256, .inr 257, .inr 258, .inr 259, .inr 260, .inr 261, .inr 262, .inr 263, .inr 264, .inr 265, .inr 266, .inr 267, .inr 268, .inr 269, .inr 270, .inr 271, .inr 272, .inr 273, .inr 274, .inr 275, .inr 276, .inr 277, .inr 278, .inr 279, .inr 280, .inr 281, .inr 282, .inr 283, .inr 284, .inr 285, .inr 286, .inr 287, .inr 288, .inr 289, .inr 290, .inr 291, .inr 292, .inr 293, .inr 294, .inr 295, .inr 296, .inr 297, .inr 298, .inr 299, .inr 300, .inr 301, .inr 302, .inr 303, .inr 304, .inr 305, .inr 306, .inr 307, .inr 308, .inr 309, .inr 310, .inr 311, .inr 312, .inr 313, .inr 314, .inr 315, .inr 316, .inr 317, .inr 318, .inr 319, .inr 320, .inr 321, .inr 322, .inr 323, .inr 324, .inr 325, .inr 326, .inr 327, .inr 328, .inr 329, .inr 330, .inr 331, .inr 332, .inr 333, .inr 334, .inr 335, .inr 336, .inr 337, .inr 338, .inr 339, .inr 340, .inr 341, .inr 342, .inr 343, .inr 344, .inr 345, .inr 346, .inr 347, .inr 348, .inr 349, .inr 350, .inr 351, .inr 352, .inr 353, .inr 354, .inr 355, .inr 356, .inr 357, .inr 358, .inr 359, .inr 360, .inr 361, .inr 362, .inr 363, .inr 364, .inr 365, .inr 366, .inr 367, .inr 368, .inr 369, .inr 370, .inr 371, .inr 372, .inr 373, .inr 374, .inr 375, .inr 376, .inr 377, .inr 378, .inr 379, .inr 380, .inr 381, .inr 382, .inr 383, .inr 384, .inr 385, .inr 386, .inr 387, .inr 388, .inr 389, .inr 390, .inr 391, .inr 392, .inr 393, .inr 394, .inr 395, .inr 396, .inr 397, .inr 398, .inr 399, .inr 400, .inr 401, .inr 402, .inr 403, .inr 404, .inr 405, .inr 406, .inr 407, .inr 408, .inr 409, .inr 410, .inr 411, .inr 412, .inr 413, .inr 414, .inr 415, .inr 416, .inr 417, .inr 418, .inr 419, .inr 420, .inr 421, .inr 422, .inr 423, .inr 424, .inr 425, .inr 426, .inr 427, .inr 428, .inr 429, .inr 430, .inr 431, .inr 432, .inr 433, .inr 434, .inr 435, .inr 436, .inr 437, .inr 438, .inr 439, .inr 440, .inr 441, .inr 442, .inr 443, .inr 444, .inr 445, .inr 446, .inr 447, .inr 448, .inr 449, .inr 450, .inr 451, .inr 452, .inr 453, .inr 454, .inr 455, .inr 456, .inr 457, .inr 458, .inr 459, .inr 460, .inr 461, .inr 462, .inr 463, .inr 464, .inr 465, .inr 466, .inr 467, .inr 468, .inr 469, .inr 470, .inr 471, .inr 472, .inr 473, .inr 474, .inr 475, .inr 476, .inr 477, .inr 478, .inr 479, .inr 480, .inr 481, .inr 482, .inr 483, .inr 484, .inr 485, .inr 486, .inr 487, .inr 488, .inr 489, .inr 490, .inr 491, .inr 492, .inr 493, .inr 494, .inr 495, .inr 496, .inr 497, .inr 498, .inr 499, .inr 500, .inr 501, .inr 502, .inr 503, .inr 504, .inr 505, .inr 506, .inr 507, .inr 508, .inr 509, .inr 510, .inr 511, .inr 512, .inr 513, .inr 514, .inr 515, .inr 516, .inr 517, .inr 518, .inr 519, .inr 520, .inr 521, .inr 522, .inr 523, .inr 524, .inr 525, .inr 526, .inr 527, .inr 528, .inr 529, .inr 530, .inr 531, .inr 532, .inr 533, .inr 534, .inr 535, .inr 536, .inr 537, .inr 538, .inr 539, .inr 540, .inr 541, .inr 542] (fun wx => Below v45.heap.size v45 wx)) (MeetH.go _ (by rfl) ?_) ?_
  rotate_left
  · intro _ _ _ _
    as_aux_lemma =>
    clear HB HBs
    have HB : Below v45.heap.size v45 v45 := Below.refl _ _
    have HBs : v45.heap.size ≤ v45.heap.size := Nat.le_refl _
    rcases Bool.eq_false_or_eq_true (d6B a b) with h | h
    · simp only [h]
      have q := hdf_of h
      have q1 := q.t
      have q2 := q.c
      have hz : (hdV a b == 0) = (a == b) := by rw [Bool.eq_iff_iff]; simp [q.z]
      clear q
      go_wp2_with fail
      refine (impl_HexDistance_any _ _ _).mono ?_
      rintro e v46 ⟨rfl, hb1⟩
      replace B1 := B1.on hb1
      replace K5 := K5.on hb1
      replace B2 := B2.on hb1
      replace B3 := B3.on hb1
      replace K7 := K7.on hb1
      replace HB := below_go HB HBs hb1
      clear hb1
      go_wp2_with fail
      refine Met.intro ?_
      go_step
      refine MeetH.of ?_ ?_
      · exact HB
      repeat (first | refine Agr.skip ?_ | refine Agr.keep ?_ | exact Agr.nil)
    · simp only [h]
      go_wp2_with fail
      refine Met.intro ?_
      go_step
      refine MeetH.of ?_ ?_
      · exact HB
      repeat (first | refine Agr.skip ?_ | refine Agr.keep ?_ | exact Agr.nil)
  intro u47 v47 hb1
  replace B1 := B1.on hb1
  replace K5 := K5.on hb1
  replace B2 := B2.on hb1
  replace B3 := B3.on hb1
  replace K7 := K7.on hb1
  replace HB := below_go HB HBs hb1
  clear hb1
  as_aux_lemma =>
  simp only [fillH]
  go_upto_region 64 with fail
  refine wp_cut (MeetH [.inr 0, .inr 1, .inr 2, .inr 3, .inr 4, .inr 5, .inr 6, .inr 7, .inr 8, .inr 9, .inr 10, .inr 11, .inr 12, .inr 13, .inr 14, .inr 15, .inr 16, .inr 17, .inr 18, .inr 19, .inr 20, .inr 21, .inr 22, .inr 23, .inr 24, .inr 25, .inr 26, .inr 27, .inr 28, .inr 29, .inr 30, .inr 31, .inr 32, .inr 33, .inr 34, .inr 35, .inr 36, .inr 37, .inr 38, .inr 39, .inr 40, .inr 41, .inr 42, .inr 43, .inl (.pointer (some ⟨RB2, 0, none⟩)), .inl (.int .i64 (tnV px py)), .inl (.bool (triOk px py)), .inr 47, .inr 48, .inl (.pointer (some ⟨RB3, 0, none⟩)), .inl (.int .i64 (znV zx zy)), .inl (.bool (zzOk zx zy)), .inr 52, .inr 53, .inl (.int .i64 (q0)), .inl (.pointer (some ⟨RK7, 0, none⟩)), .inl (.bool (n6B q0)), .inr 57, .inr 58, .inr 59, .inr 60, .inr 61, .inr 62, .inr 63, .inr 64, .inr 65, .inr 66, .inr 67, .inr 68, .inr 69, .inr 70, .inr 71, .inr 72, .inr 73, .inr 74, .inr 75, .inr 76, .inr 77, .inr 78, .inr 79, .inr 80, .inr 81, .inr 82, .inr 83, .inr 84, .inr 85, .inr 86, .inr 87, .inr 88, .inr 89, .inr 90, .inr 91, .inr 92, .inr 93, .inr 94, .inr 95, .inr 96, .inr 97, .inr 98, .inr 99, .inr 100, .inr 101, .inr 102, .inr 103, .inr 104, .inr 105, .inr 106, .inr 107, .inr 108, .inr 109, .inr 110, .inr 111, .inr 112, .inr 113, .inr 114, .inr 115, .inr 116, .inr 117, .inr 118, .inr 119, .inr 120, .inr 121, .inr 122, .inr 123, .inr 124, .inr 125, .inr 126, .inr 127, .inr 128, .inr 129, .inr 130, .inr 131, .inr 132, .inr 133, .inr 134, .inr 135, .inr 136, .inr 137, .inr 138, .inr 139, .inr 140, .inr 141, .inr 142, .inr 143, .inr 144, .inr 145, .inr 146, .inr 147, .inr 148, .inr 149, .inr 150, .inr 151, .inr 152, .inr 153, .inr 154, .inr 155, .inr 156, .inr 157, .inr 158, .inr 159, .inr 160, .inr 161, .inr 162, .inr 163, .inr 164, .inr 165, .inr 166, .inr 167, .inr 168, .inr 169, .inr 170, .inr 171, .inr 172, .inr 173, .inr 174, .inr 175, .inr 176, .inr 177, .inr 178, .inr 179, .inr 180, .inr 181, .inr 182, .inr 183, .inr 184, .inr 185, .inr 186, .inr 187, .inr 188, .inr 189, .inr 190, .inr 191, .inr 192, .inr 193, .inr 194, .inr 195, .inr 196, .inr 197, .inr 198, .inr 199, .inr 200, .inr 201, .inr 202, .inr 203, .inr 204, .inr 205, .inr 206, .inr 207, .inr 208, .inr 209, .inr 210, .inr 211, .inr 212, .inr 213, .inr 214, .inr 215, .inr 216, .inr 217, .inr 218, .inr 219, .inr 220, .inr 221, .inr 222, .inr 223, .inr 224, .inr 225, .inr 226, .inr 227, .inr 228, .inr 229, .inr 230, .inr 231, .inr 232, .inr 233, .inr 234, .inr 235, .inr 236, .inr 237, .inr 238, .inr 239, .inr 240, .inr 241, .inr 242, .inr 243, .inr 244, .inr 245, .inr 246, .inr 247, .inr 248, .inr 249, .inr 250, .inr 251, .inr 252, .inr 253, .inr 254, .inr 255, .inr 256, .inr 257, .inr 258, .inr 259, .inr 260, .inr 261, .inr 262, .inr 263, .inr 264, .inr 265, .inr 266, .inr 267, .inr 268, .inr 269, .inr 270, .inr 271, .inr 272, .inr 273, .inr 274, .inr 275, .inr 276, .inr 277, .inr 278, .inr 279, .inr 280, .inr 281, .inr 282, .inr 283, .inr 284, .inr 285, .inr 286, .inr 287, .inr 288, .inr 289, .inr 290, .inr 291, .inr 292, .inr 293, .inr 294, .inr 295, .inr 296, .inr 297, .inr 298, .inr 299, .inr 300, .inr 301, .inr 302, .inr 303, .inr 304, .inr 305, .inr 306, .inr 307, .inr 308, .inr 309, .inr 310, .inr 311, .inr 312, .inr 313, .inr 314, .inr 315, .inr 316, .inr 317, .inr 318, .inr 319, .inr 320, .inr 321, .inr 322, .inr 323, .inr 324, .inr 325, .inr 326, .inr 327, .inr 328, .inr 329, .inr 330, .inr 331, .inr 332, .inr 333, .inr 334, .inr 335, .inr 336, .inr 337, .inr 338, .inr 339, .inr 340, .inr 341, .inr 342, .inr 343, .inr 344, .inr 345, .inr 346, .inr 347, .inr 348, .inr 349, .inr 350, .inr 351, .inr 352, .inr 353, .inr 354, .inr 355, .inr 356, .inr 357, .inr 358, .inr 359, .inr 360, .inr 361, .inr 362, .inr 363, .inr 364, .inr 365, .inr 366, .inr 367, .inr 368, .inr 369, .inr 370, .inr 371, .inr 372, .inr 373, .inr 374, .inr 375, .inr 376, .inr 377, .inr 378, .inr 379, .inr 380, .inr 381, .inr 382, .inr 383, .inr 384, .inr 385, .inr 386, .inr 387, .inr 388, .inr 389, .inr 390, .inr 391, .inr 392, .inr 393, .inr 394, .inr 395, .inr 396, .inr 397, .inr 398, .inr 399, .inr 400, .inr 401, .inr 402, .inr 403, .inr 404, .inr 405, .inr 406, .inr 407, .inr 408, .inr 409, .inr 410, .inr 411, .inr 412, .inr 413, .inr 414, .inr 415, .inr 416, .inr 417, .inr 418, .inr 419, .inr 420, .inr 421, .inr 422, .inr 423, .inr 424, .inr 425, .inr 426, .inr 427, .inr 428, .inr 429, .inr 430, .inr 431, .inr 432, .inr 433, .inr 434, .inr 435, .inr 436, .inr 437, .inr 438, .inr 439, .inr 440, .inr 441, .inr 442, .inr 443, .inr 444, .inr 445, .inr 446, .inr 447, .inr 448, .inr 449, .inr 450, .inr 451, .inr 452, .inr 453, .inr 454, .inr 455, .inr 456, .inr 457, .inr 458, .inr 459, .inr 460, .inr 461, .inr 462, .inr 463, .inl (.bool false), .inr 465, .inr 466, .inr 467, .inr 468, .inr 469, .inr 470, .inr 471, .inr 472, .inr 473, .inr 474, .inr 475, .inr 476, .inr 477, .inr 478, .inr 479, .inr 480, .inr 481, .inr 482, .inr 483, .inr 484, .inr 485, .inr 486, .inr 487, .inr 488, .inr 489, .inr 490, .inr 491, .inr 492, .inr 493, .inr 494, .inr 495, .inr 496, .inr 497, .inr 498, .inr 499, .inr 500, .inr 501, .inr 502, .inr 503, .inr 504, .inr 505, .inr 506, .inr 507, .inr 508, .inr 509, .inr 510, .inr 511, .inr 512, .inr 513, .inr 514, .inr 515, .inr 516, .inr 517, .inr 518, .inr 519, .inr 520, .inr 521, .inr 522, .inr 523, .inr 524, .inr 525, .inr 526, .inr 527, .inr 528, .inr 529, .inr 530, .inr 531, .inr 532, .inr 533, .inr 534, .inr 535, .inr 536, .inr 537, .inr 538, .inr 539, .inr 540, .inr 541, .inr 542] (fun wx => Below v47.heap.size v47 wx)) (MeetH.go _ (by rfl) ?_) ?_
  rotate_left
  · intro _ _ _ _
    as_aux_lemma =>
    clear HB HBs
    have HB : Below v47.heap.size v47 v47 := Below.refl _ _
    have HBs : v47.heap.size ≤ v47.heap.size := Nat.le_refl _
    rcases Bool.eq_false_or_eq_true (n6B t) with h | h
    · simp only [h]
      obtain ⟨t0, t1, ⟨x0, x1⟩, ⟨y0, y1⟩, ⟨p0, p1⟩, te⟩ := tif_of h
      have s1 : IntKind.i64.wrap (tiy t + 1) = tiy t + 1 := IntWalk.i64_in _ (by omega)
      have s2 : IntKind.i64.wrap (tiy t * (tiy t + 1)) = tiy t * (tiy t + 1) := IntWalk.i64_in _ (by omega)
      have s3 : (tiy t * (tiy t + 1)).tdiv 2 = tiy t * (tiy t + 1) / 2 := tdiv2_nn p0
      have s4 : IntKind.i64.wrap (tiy t * (tiy t + 1) / 2) = tiy t * (tiy t + 1) / 2 := IntWalk.i64_in _ (by omega)
      have s5 : IntKind.i64.wrap (tiy t * (tiy t + 1) / 2 + tix t) = t := by rw [te]; exact IntWalk.i64_in _ (by omega)
      have s6 : ¬ tix t < 0 := by omega
      have s7 : ¬ tiy t < tix t := by omega
      clear te
      have K5_0 := K5.c0
      have K5_1 := K5.c1
      have K5_z := K5.z
      go_wp2_with fail
      refine Met.intro ?_
      go_step
      refine MeetH.of ?_ ?_
      · exact HB
      repeat (first | refine Agr.skip ?_ | refine Agr.keep ?_ | exact Agr.nil)
    · simp only [h]
      go_wp2_with fail
      refine Met.intro ?_
      go_step
      refine MeetH.of ?_ ?_
      · exact HB
      repeat (first | refine Agr.skip ?_ | refine Agr.keep ?_ | exact Agr.nil)
  intro u48 v48 hb1
  replace B1 := B1.on hb1
  replace K5 := K5.on hb1
  replace B2 := B2.on hb1
  replace B3 := B3.on hb1
  replace K7 := K7.on hb1
  replace HB := below_go HB HBs hb1
  clear hb1
  as_aux_lemma =>
  simp only [fillH]
  clear K5
  go_upto_if 465 with fail
  refine wp_cut (MeetH [.inr 0, .inr 1, .inr 2, .inr 3, .inr 4, .inr 5, .inr 6, .inr 7, .inr 8, .inr 9, .inr 10, .inr 11, .inr 12, .inr 13, .inr 14, .inr 15, .inr 16, .inr 17, .inr 18, .inr 19, .inr 20, .inr 21, .inr 22, .inr 23, .inr 24, .inr 25, .inr 26, .inr 27, .inr 28, .inr 29, .inr 30, .inr 31, .inr 32, .inr 33, .inr 34, .inr 35, .inr 36, .inr 37, .inr 38, .inr 39, .inr 40, .inr 41, .inr 42, .inr 43, .inr 44, .inr 45, .inr 46, .inr 47, .inr 48, .inl (.pointer (some ⟨RB3, 0, none⟩)), .inl (.int .i64 (znV zx zy)), .inl (.bool (zzOk zx zy)), .inr 52, .inr 53, .inl (.int .i64 (q0)), .inl (.pointer (some ⟨RK7, 0, none⟩)), .inl (.bool (n6B q0)), .inr 57, .inr 58, .inr 59, .inr 60, .inr 61, .inr 62, .inr 63, .inr 64, .inr 65, .inr 66, .inr 67, .inr 68, .inr 69, .inr 70, .inr 71, .inr 72, .inr 73, .inr 74, .inr 75, .inr 76, .inr 77, .inr 78, .inr 79, .inr 80, .inr 81, .inr 82, .inr 83, .inr 84, .inr 85, .inr 86, .inr 87, .inr 88, .inr 89, .inr 90, .inr 91, .inr 92, .inr 93, .inr 94, .inr 95, .inr 96, .inr 97, .inr 98, .inr 99, .inr 100, .inr 101, .inr 102, .inr 103, .inr 104, .inr 105, .inr 106, .inr 107, .inr 108, .inr 109, .inr 110, .inr 111, .inr 112, .inr 113, .inr 114, .inr 115, .inr 116, .inr 117, .inr 118, .inr 119, .inr 120, .inr 121, .inr 122, .inr 123, .inr 124, .inr 125, .inr 126, .inr 127, .inr 128, .inr 129, .inr 130, .inr 131, .inr 132, .inr 133, .inr 134, .inr 135, .inr 136, .inr 137, .inr 138, .inr 139, .inr 140, .inr 141, .inr 142, .inr 143, .inr 144, .inr 145, .inr 146, .inr 147, .inr 148, .inr 149, .inr 150, .inr 151, .inr 152, .inr 153, .inr 154, .inr 155, .inr 156, .inr 157, .inr 158, .inr 159, .inr 160, .inr 161, .inr 162, .inr 163, .inr 164, .inr 165, .inr 166, .inr 167, .inr 168, .inr 169, .inr 170, .inr 171, .inr 172, .inr 173, .inr 174, .inr 175, .inr 176, .inr 177, .inr 178, .inr 179, .inr 180, .inr 181, .inr 182, .inr 183, .inr 184, .inr 185, .inr 186, .inr 187, .inr 188, .inr 189, .inr 190, .inr 191, .inr 192, .inr 193, .inr 194, .inr 195, .inr 196, .inr 197, .inr 198, .inr 199, .inr 200, .inr 201, .inr 202, .inr 203, .inr 204, .inr 205, .inr 206, .inr 207, .inr 208, .inr 209, .inr 210, .inr 211, .inr 212, .inr 213, .inr 214, .inr 215, .inr 216, .inr 217, .inr 218, .inr 219, .inr 220, .inr 221, .inr 222, .inr 223, .inr 224, .inr 225, .inr 226, .inr 227, .inr 228, .inr 229, .inr 230, .inr 231, .inr 232, .inr 233, .inr 234, .inr 235, .inr 236, .inr 237, .inr 238, .inr 239, .inr 240, .inr 241, .inr 242, .inr 243, .inr 244, .inr 245, .inr 246, .inr 247, .inr 248, .inr 249, .inr 250, .inr 251, .inr 252, .inr 253, .inr 254, .inr 255, .inr 256, .inr 257, .inr 258, .inr 259, .inr 260, .inr 261, .inr 262, .inr 263, .inr 264, .inr 265, .inr 266, .inr 267, .inr 268, .inr 269, .inr 270, .inr 271, .inr 272, .inr 273, .inr 274, .inr 275, .inr 276, .inr 277, .inr 278, .inr 279, .inr 280, .inr 281, .inr 282, .inr 283, .inr 284, .inr 285, .inr 286, .inr 287, .inr 288, .inr 289, .inr 290, .inr 291, .inr 292, .inr 293, .inr 294, .inr 295, .inr 296, .inr 297, .inr 298, .inr 299, .inr 300, .inr 301, .inr 302, .inr 303, .inr 304, .inr 305, .inr 306, .inr 307, .inr 308, .inr 309, .inr 310, .inr 311, .inr 312, .inr 313, .inr 314, .inr 315, .inr 316, .inr 317, .inr 318, .inr 319, .inr 320, .inr 321, .inr 322, .inr 323, .inr 324, .inr 325, .inr 326, .inr 327, .inr 328, .inr 329, .inr 330, .inr 331, .inr 332, .inr 333, .inr 334, .inr 335, .inr 336, .inr 337, .inr 338, .inr 339, .inr 340, .inr 341, .inr 342, .inr 343, .inr 344, .inr 345, .inr 346, .inr 347, .inr 348, .inr 349, .inr 350, .inr 351, .inr 352, .inr 353, .inr 354, .inr 355, .inr 356, .inr 357, .inr 358, .inr 359, .inr 360, .inr 361, .inr 362, .inr 363, .inr 364, .inr 365, .inr 366, .inr 367, .inr 368, .inr 369, .inr 370, .inr 371, .inr 372, .inr 373, .inr 374, .inr 375, .inr 376, .inr 377, .inr 378, .inr 379, .inr 380, .inr 381, .inr 382, .inr 383, .inr 384, .inr 385, .inr 386, .inr 387, .inr 388, .inr 389, .inr 390, .inr 391, .inr 392, .inr 393, .inr 394, .inr 395, .inr 396, .inr 397, .inr 398, .inr 399, .inr 400, .inr 401, .inr 402, .inr 403, .inr 404, .inr 405, .inr 406, .inr 407, .inr 408, .inr 409, .inr 410, .inr 411, .inr 412, .inr 413, .inr 414, .inr 415, .inr 416, .inr 417, .inr 418, .inr 419, .inr 420, .inr 421, .inr 422, .inr 423, .inr 424, .inr 425, .inr 426, .inr 427, .inr 428, .inr 429, .inr 430, .inr 431, .inr 432, .inr 433, .inr 434, .inr 435, .inr 436, .inr 437, .inr 438, .inr 439, .inr 440, .inr 441, .inr 442, .inr 443, .inr 444, .inr 445, .inr 446, .inr 447, .inr 448, .inr 449, .inr 450, .inr 451, .inr 452, .inr 453, .inr 454, .inr 455, .inr 456, .inr 457, .inr 458, .inr 459, .inr 460, .inr 461, .inr 462, .inr 463, .inr 464, .inr 465, .inr 466, .inr 467, .inr 468, .inr 469, .inr 470, .inr 471, .inr 472, .inr 473, .inr 474, .inr 475, .inr 476, .inr 477, .inr 478, .inr 479, .inr 480, .inr 481, .inr 482, .inr 483, .inr 484, .inr 485, .inr 486, .inr 487, .inr 488, .inr 489, .inr 490, .inr 491, .inr 492, .inr 493, .inr 494, .inr 495, .inr 496, .inr 497, .inr 498, .inr 499, .inr 500, .inr 501, .inr 502, .inr 503, .inr 504, .inr 505, .inr 506, .inr 507, .inr 508, .inr 509, .inr 510, .inr 511, .inr 512, .inr 513, .inr 514, .inr 515, .inr 516, .inr 517, .inr 518, .inr 519, .inr 520, .inr 521, .inr 522, .inr 523, .inr 524, .inr 525, .inr 526, .inr 527, .inr 528, .inr 529, .inr 530, .inr 531, .inr 532, .inr 533, .inr 534, .inr 535, .inr 536, .inr 537, .inr 538, .inr 539, .inr 540, .inr 541, .inr 542] (fun wx => Below v48.heap.size v48 wx)) (MeetH.go _ (by rfl) ?_) ?_
  rotate_left
  · intro _ _ _ _
    as_aux_lemma =>
    clear HB HBs
    have HB : Below v48.heap.size v48 v48 := Below.refl _ _
    have HBs : v48.heap.size ≤ v48.heap.size := Nat.le_refl _
    rcases Bool.eq_false_or_eq_true (triOk px py) with h | h
    · simp only [h]
      have q := trf_of h
      have e1 := q.b
      have e2 := q.sx
      have e3 := q.sy
      clear q
      go_wp2_with fail
      refine (impl_TriangleSpot_any _ _).mono ?_
      rintro e v49 ⟨rfl, hb1⟩
      replace B1 := B1.on hb1
      replace B2 := B2.on hb1
      replace B3 := B3.on hb1
      replace K7 := K7.on hb1
      replace HB := below_go HB HBs hb1
      clear hb1
      go_upto_region 68 with fail
      try simp only [e2, e3]
      clear e2 e3
      have hb1 := below_on (w := v49) (.cells #[.int .i64 (px), .int .i64 (py)] 26)
      have K9 := box_at v49 (px) (py) 26
      replace B1 := B1.on hb1
      replace B2 := B2.on hb1
      replace B3 := B3.on hb1
      replace K7 := K7.on hb1
      replace HB := below_go HB HBs hb1
      generalize hw1 : v49.alloc (.cells #[.int .i64 (px), .int .i64 (py)] 26) = v50 at B1 B2 B3 K7 K9 HB ⊢
      generalize hR1 : v49.heap.size = RK9 at K9 ⊢
      clear hb1 hw1 hR1
      have B2_0 := B2.c0
      have B2_1 := B2.c1
      have B2_z := B2.z
      have K9_0 := K9.c0
      have K9_1 := K9.c1
      have K9_z := K9.z
      go_wp2_with fail
      refine Met.intro ?_
      go_step
      refine MeetH.of ?_ ?_
      · exact HB
      repeat (first | refine Agr.skip ?_ | refine Agr.keep ?_ | exact Agr.nil)
    · simp only [h]
      go_wp2_with fail
      refine Met.intro ?_
      go_step
      refine MeetH.of ?_ ?_
      · exact HB
      repeat (first | refine Agr.skip ?_ | refine Agr.keep ?_ | exact Agr.nil)
  intro u51 v51 hb1
  replace B1 := B1.on hb1
  replace B2 := B2.on hb1
  replace B3 := B3.on hb1
  replace K7 := K7.on hb1
  replace HB := below_go HB HBs hb1
  clear hb1
  as_aux_lemma =>
  simp only [fillH]
  go_upto_if 478 with fail
  refine wp_cut (MeetH [.inr 0, .inr 1, .inr 2, .inr 3, .inr 4, .inr 5, .inr 6, .inr 7, .inr 8, .inr 9, .inr 10, .inr 11, .inr 12, .inr 13, .inr 14, .inr 15, .inr 16, .inr 17, .inr 18, .inr 19, .inr 20, .inr 21, .inr 22, .inr 23, .inr 24, .inr 25, .inr 26, .inr 27, .inr 28, .inr 29, .inr 30, .inr 31, .inr 32, .inr 33, .inr 34, .inr 35, .inr 36, .inr 37, .inr 38, .inr 39, .inr 40, .inr 41, .inr 42, .inr 43, .inr 44, .inr 45, .inr 46, .inr 47, .inr 48, .inr 49, .inr 50, .inr 51, .inr 52, .inr 53, .inl (.int .i64 (q0)), .inl (.pointer (some ⟨RK7, 0, none⟩)), .inl (.bool (n6B q0)), .inr 57, .inr 58, .inr 59, .inr 60, .inr 61, .inr 62, .inr 63, .inr 64, .inr 65, .inr 66, .inr 67, .inr 68, .inr 69, .inr 70, .inr 71, .inr 72, .inr 73, .inr 74, .inr 75, .inr 76, .inr 77, .inr 78, .inr 79, .inr 80, .inr 81, .inr 82, .inr 83, .inr 84, .inr 85, .inr 86, .inr 87, .inr 88, .inr 89, .inr 90, .inr 91, .inr 92, .inr 93, .inr 94, .inr 95, .inr 96, .inr 97, .inr 98, .inr 99, .inr 100, .inr 101, .inr 102, .inr 103, .inr 104, .inr 105, .inr 106, .inr 107, .inr 108, .inr 109, .inr 110, .inr 111, .inr 112, .inr 113, .inr 114, .inr 115, .inr 116, .inr 117, .inr 118, .inr 119, .inr 120, .inr 121, .inr 122, .inr 123, .inr 124, .inr 125, .inr 126, .inr 127, .inr 128, .inr 129, .inr 130, .inr 131, .inr 132, .inr 133, .inr 134, .inr 135, .inr 136, .inr 137, .inr 138, .inr 139, .inr 140, .inr 141, .inr 142, .inr 143, .inr 144, .inr 145, .inr 146, .inr 147, .inr 148, .inr 149, .inr 150, .inr 151, .inr 152, .inr 153, .inr 154, .inr 155, .inr 156, .inr 157, .inr 158, .inr 159, .inr 160, .inr 161, .inr 162, .inr 163, .inr 164, .inr 165, .inr 166, .inr 167, .inr 168, .inr 169, .inr 170, .inr 171, .inr 172, .inr 173, .inr 174, .inr 175, .inr 176, .inr 177, .inr 178, .inr 179, .inr 180, .inr 181, .inr 182, .inr 183, .inr 184, .inr 185, .inr 186, .inr 187, .inr 188, .inr 189, .inr 190, .inr 191, .inr 192, .inr 193, .inr 194, .inr 195, .inr 196, .inr 197, .inr 198, .inr 199, .inr 200, .inr 201, .inr 202, .inr 203, .inr 204, .inr 205, .inr 206, .inr 207, .inr 208, .inr 209, .inr 210, .inr 211, .inr 212, .inr 213, .inr 214, .inr 215, .inr 216, .inr 217, .inr 218, .inr 219, .inr 220, .inr 221, .inr 222, .inr 223, .inr 224, .inr 225, .inr 226, .inr 227, .inr 228, .inr 229, .inr 230, .inr 231, .inr 232, .inr 233, .inr 234, .inr 235, .inr 236, .inr 237, .inr 238, .inr 239, .inr 240, .inr 241, .inr 242, .inr 243, .inr 244, .inr 245, .inr 246, .inr 247, .inr 248, .inr 249, .inr 250, .inr 251, .inr 252, .inr 253, .inr 254, .inr 255, .inr 256, .inr 257, .inr 258, .inr 259, .inr 260, .inr 261, .inr 262, .inr 263, .inr 264, .inr 265, .inr 266, .inr 267, .inr 268, .inr 269, .inr 270, .inr 271, .inr 272, .inr 273, .inr 274, .inr 275, .inr 276, .inr 277, .inr 278, .inr 279, .inr 280, .inr 281, .inr 282, .inr 283, .inr 284, .inr 285, .inr 286, .inr 287, .inr 288, .inr 289, .inr 290, .inr 291, .inr 292, .inr 293, .inr 294, .inr 295, .inr 296, .inr 297, .inr 298, .inr 299, .inr 300, .inr 301, .inr 302, .inr 303, .inr 304, .inr 305, .inr 306, .inr 307, .inr 308, .inr 309, .inr 310, .inr 311, .inr 312, .inr 313, .inr 314, .inr 315, .inr 316, .inr 317, .inr 318, .inr 319, .inr 320, .inr 321, .inr 322, .inr 323, .inr 324, .inr 325, .inr 326, .inr 327, .inr 328, .inr 329, .inr 330, .inr 331, .inr 332, .inr 333, .inr 334, .inr 335, .inr 336, .inr 337, .inr 338, .inr 339, .inr 340, .inr 341, .inr 342, .inr 343, .inr 344, .inr 345, .inr 346, .inr 347, .inr 348, .inr 349, .inr 350, .inr 351, .inr 352, .inr 353, .inr 354, .inr 355, .inr 356, .inr 357, .inr 358, .inr 359, .inr 360, .inr 361, .inr 362, .inr 363, .inr 364, .inr 365, .inr 366, .inr 367, .inr 368, .inr 369, .inr 370, .inr 371, .inr 372, .inr 373, .inr 374, .inr 375, .inr 376, .inr 377, .inr 378, .inr 379, .inr 380, .inr 381, .inr 382, .inr 383, .inr 384, .inr 385, .inr 386, .inr 387, .inr 388, .inr 389, .inr 390, .inr 391, .inr 392, .inr 393, .inr 394, .inr 395, .inr 396, .inr 397, .inr 398, .inr 399, .inr 400, .inr 401, .inr 402, .inr 403, .inr 404, .inr 405, .inr 406, .inr 407, .inr 408, .inr 409, .inr 410, .inr 411, .inr 412, .inr 413, .inr 414, .inr 415, .inr 416, .inr 417, .inr 418, .inr 419, .inr 420, .inr 421, .inr 422, .inr 423, .inr 424, .inr 425, .inr 426, .inr 427, .inr 428, .inr 429, .inr 430, .inr 431, .inr 432, .inr 433, .inr 434, .inr 435, .inr 436, .inr 437, .inr 438, .inr 439, .inr 440, .inr 441, .inr 442, .inr 443, .inr 444, .inr 445, .inr 446, .inr 447, .inr 448, .inr 449, .inr 450, .inr 451, .inr 452, .inr 453, .inr 454, .inr 455, .inr 456, .inr 457, .inr 458, .inr 459, .inr 460, .inr 461, .inr 462, .inr 463, .inr 464, .inr 465, .inr 466, .inr 467, .inr 468, .inr 469, .inr 470, .inr 471, .inr 472, .inr 473, .inr 474, .inr 475, .inr 476, .inr 477, .inr 478, .inr 479, .inr 480, .inr 481, .inr 482, .inr 483, .inr 484, .inr 485, .inr 486, .inr 487, .inr 488, .inr 489, .inr 490, .inr 491, .inr 492, .inr 493, .inr 494, .inr 495, .inr 496, .inr 497, .inr 498, .inr 499, .inr 500, .inr 501, .inr 502, .inr 503, .inr 504, .inr 505, .inr 506, .inr 507, .inr 508, .inr 509, .inr 510, .inr 511, .inr 512, .inr 513, .inr 514, .inr 515, .inr 516, .inr 517, .inr 518, .inr 519, .inr 520, .inr 521, .inr 522, .inr 523, .inr 524, .inr 525, .inr 526, .inr 527, .inr 528, .inr 529, .inr 530, .inr 531, .inr 532, .inr 533, .inr 534, .inr 535, .inr 536, .inr 537, .inr 538, .inr 539, .inr 540, .inr 541, .inr 542] (fun wx => Below v51.heap.size v51 wx)) (MeetH.go _ (by rfl) ?_) ?_
  rotate_left
  · intro _ _ _ _
    as_aux_lemma =>
    clear HB HBs
    have HB : Below v51.heap.size v51 v51 := Below.refl _ _
    have HBs : v51.heap.size ≤ v51.heap.size := Nat.le_refl _
    rcases Bool.eq_false_or_eq_true (zzOk zx zy) with h | h
    · simp only [h]
      have q := zzf_of h
      have e1 := q.b
      have e2 := q.sx
      have e3 := q.sy
      clear q
      go_wp2_with fail
      refine (impl_ZigzagSpot_any _ _).mono ?_
      rintro e v52 ⟨rfl, hb1⟩
      replace B1 := B1.on hb1
      replace B2 := B2.on hb1
      replace B3 := B3.on hb1
      replace K7 := K7.on hb1
      replace HB := below_go HB HBs hb1
      clear hb1
      go_upto_region 72 with fail
      try simp only [e2, e3]
      clear e2 e3
      have hb1 := below_on (w := v52) (.cells #[.int .i64 (zx), .int .i64 (zy)] 26)
      have K9 := box_at v52 (zx) (zy) 26
      replace B1 := B1.on hb1
      replace B2 := B2.on hb1
      replace B3 := B3.on hb1
      replace K7 := K7.on hb1
      replace HB := below_go HB HBs hb1
      generalize hw1 : v52.alloc (.cells #[.int .i64 (zx), .int .i64 (zy)] 26) = v53 at B1 B2 B3 K7 K9 HB ⊢
      generalize hR1 : v52.heap.size = RK9 at K9 ⊢
      clear hb1 hw1 hR1
      have B3_0 := B3.c0
      have B3_1 := B3.c1
      have B3_z := B3.z
      have K9_0 := K9.c0
      have K9_1 := K9.c1
      have K9_z := K9.z
      go_wp2_with fail
      refine Met.intro ?_
      go_step
      refine MeetH.of ?_ ?_
      · exact HB
      repeat (first | refine Agr.skip ?_ | refine Agr.keep ?_ | exact Agr.nil)
    · simp only [h]
      go_wp2_with fail
      refine Met.intro ?_
      go_step
      refine MeetH.of ?_ ?_
      · exact HB
      repeat (first | refine Agr.skip ?_ | refine Agr.keep ?_ | exact Agr.nil)
  intro u54 v54 hb1
  replace B1 := B1.on hb1
  replace B2 := B2.on hb1
  replace B3 := B3.on hb1
  replace K7 := K7.on hb1
  replace HB := below_go HB HBs hb1
  clear hb1
  as_aux_lemma =>
  simp only [fillH]
  go_upto_if 491 with fail
  rcases Bool.eq_false_or_eq_true (n6B q0) with h | h
  · simp only [h]
    obtain ⟨n0, n1, ⟨x0, x1⟩, ⟨y0, y1⟩, ⟨s0, s1⟩, ⟨p0, p1⟩, k0, k1, eo⟩ := zsf_of h
    have z1 : IntKind.i64.wrap (zgx q0 + zgy q0) = zgx q0 + zgy q0 := IntWalk.i64_in _ (by omega)
    have z2 : IntKind.i64.wrap (zgx q0 + zgy q0 + 1) = zgx q0 + zgy q0 + 1 := IntWalk.i64_in _ (by omega)
    have z3 : IntKind.i64.wrap ((zgx q0 + zgy q0) * (zgx q0 + zgy q0 + 1)) = (zgx q0 + zgy q0) * (zgx q0 + zgy q0 + 1) := IntWalk.i64_in _ (by omega)
    have z4 : ((zgx q0 + zgy q0) * (zgx q0 + zgy q0 + 1)).tdiv 2 = (zgx q0 + zgy q0) * (zgx q0 + zgy q0 + 1) / 2 := tdiv2_nn p0
    have z5 : IntKind.i64.wrap ((zgx q0 + zgy q0) * (zgx q0 + zgy q0 + 1) / 2) = (zgx q0 + zgy q0) * (zgx q0 + zgy q0 + 1) / 2 := IntWalk.i64_in _ (by omega)
    have z6 : IntKind.i64.wrap (q0 - (zgx q0 + zgy q0) * (zgx q0 + zgy q0 + 1) / 2) = q0 - (zgx q0 + zgy q0) * (zgx q0 + zgy q0 + 1) / 2 := IntWalk.i64_in _ (by omega)
    have z7 : (zgx q0 + zgy q0).tmod 2 = (zgx q0 + zgy q0) % 2 := tmod2_nn s0
    have K7_0 := K7.c0
    have K7_1 := K7.c1
    have K7_z := K7.z
    go_upto_region 77 with fail
    rcases eo with ⟨e1, e2⟩ | ⟨e1, e2⟩
    · rw [e1] at z7
      rw [e2] at k0 k1 z6
      simp only [e2]
      clear e1 e2 p0 p1 z2 z3 z4 z5
      go_wp2_with fail
      go_ret
      first | exact ⟨rfl, HB⟩ | exact ⟨rfl, by rw [← hR0]; exact HB⟩
    · rw [e1] at z7
      rw [e2] at k0 k1 z6
      simp only [e2]
      clear e1 e2 p0 p1 z2 z3 z4 z5
      go_wp2_with fail
      go_ret
      first | exact ⟨rfl, HB⟩ | exact ⟨rfl, by rw [← hR0]; exact HB⟩
  · simp only [h]
    go_wp2_with fail
    go_ret
    first | exact ⟨rfl, HB⟩ | exact ⟨rfl, by rw [← hR0]; exact HB⟩
end Go.Proofs.Ytkhjeleoppdjgac
