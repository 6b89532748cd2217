/- The law FnPlacesFound, walked: whatever the bytes it answers true. No condition. -/
import Derived.Test.YtkhjeleoppdjgabBase
import Derived.Test.YtkhjeleoppdjgabAnA
import Derived.Test.YtkhjeleoppdjgabAnB
import Derived.Test.YtkhjeleoppdjgabAnC
import Derived.Test.YtkhjeleoppdjgabAnW
import Derived.Test.YtkhjeleoppdjgabCut
import Derived.Test.YtkhjeleoppdjgabDrW
import Derived.Lib.Hide
import Derived.Deep.Cut
namespace Go.Proofs.Ytkhjeleoppdjgab
open Go.ChangeShapes Go.WideShapes Go.ChangeAt Go.RowKit

set_option maxRecDepth 4000 in
set_option maxHeartbeats 16000000 in
theorem walk_PlacesFound (A' : Option Addr) (n' a' : Nat) (B' : Option Addr) (m' c' : Nat) (w : World) (hn' : n' ≤ 9223372036854775807) (hx' : Bys w A' n') (hm' : m' ≤ 9223372036854775807) (hy' : Bys w B' m') :
    Calls Try.prog 5 #[.slice A' n' a', .slice B' m' c'] w fun e w' => e = .returned (.bool true) ∧ Below w.heap.size w w' := by
  have HB : Below w.heap.size w w := Below.refl _ _
  have HBs : w.heap.size ≤ w.heap.size := Nat.le_refl _
  rcases Bool.eq_false_or_eq_true (bgB n' m') with hg | hg
  · go_enter Try.func5, Try.ntmps5
    go_wp2_with (go_at_call 23; refine (big_any _ _ _ _ _ _ _ hn' hm').mono ?_; rintro e w' ⟨rfl, rfl⟩)
    go_ret
    exact ⟨rfl, Below.refl _ _⟩
  obtain ⟨gg1, gg2⟩ := bg_no hg
  go_enter Try.func5, Try.ntmps5
  go_wp2_with (go_at_call 23; refine (big_any _ _ _ _ _ _ _ hn' hm').mono ?_; rintro e w' ⟨rfl, rfl⟩)
  refine (DrawPlaceOf_any A' n' a' _ hx' (by omega)).mono ?_
  rintro e v1 ⟨⟨s, n, rfl⟩, hb1⟩
  replace hy' := hy'.on hb1
  replace HB := below_go HB HBs hb1
  clear hb1
  go_wp2_with fail
  refine (impl_PlaceOf_any s n _).mono ?_
  rintro e v2 ⟨rfl, hb1⟩
  replace hy' := hy'.on hb1
  replace HB := below_go HB HBs hb1
  clear hb1
  go_wp2_with fail
  refine (spec_PlaceOf_any s n _).mono ?_
  rintro e w' ⟨rfl, rfl⟩
  go_wp2_with fail
  refine (impl_IsPolygonal_any s n _).mono ?_
  rintro e v3 ⟨rfl, hb1⟩
  replace hy' := hy'.on hb1
  replace HB := below_go HB HBs hb1
  clear hb1
  go_wp2_with fail
  refine (spec_IsPolygonal_any s n _).mono ?_
  rintro e w' ⟨rfl, rfl⟩
  go_wp2_with fail
  refine (impl_NextPolygonal_any s n _).mono ?_
  rintro e v4 ⟨rfl, hb1⟩
  replace hy' := hy'.on hb1
  replace HB := below_go HB HBs hb1
  clear hb1
  go_wp2_with fail
  refine (spec_NextPolygonal_any s n _).mono ?_
  rintro e w' ⟨rfl, rfl⟩
  go_wp2_with fail
  refine (impl_CountUpTo_any s n _).mono ?_
  rintro e v5 ⟨rfl, hb1⟩
  replace hy' := hy'.on hb1
  replace HB := below_go HB HBs hb1
  clear hb1
  go_wp2_with fail
  refine (spec_CountUpTo_any s n _).mono ?_
  rintro e w' ⟨rfl, rfl⟩
  go_wp2_with fail
  refine (impl_SquareTest_any s n _).mono ?_
  rintro e v6 ⟨rfl, hb1⟩
  replace hy' := hy'.on hb1
  replace HB := below_go HB HBs hb1
  clear hb1
  go_wp2_with fail
  refine (spec_SquareTest_any s n _).mono ?_
  rintro e w' ⟨rfl, rfl⟩
  go_wp2_with fail
  refine (impl_WidePlace_any s n _).mono ?_
  rintro e v7 ⟨rfl, hb1⟩
  replace hy' := hy'.on hb1
  replace HB := below_go HB HBs hb1
  clear hb1
  go_wp2_with fail
  refine (spec_WidePlace_any s n _).mono ?_
  rintro e w' ⟨rfl, rfl⟩
  go_upto_region 16 with fail
  simp only [List.append]
  generalize hbt : tsB s n = bt
  generalize hbp : poB s n = bp
  generalize hbw : wdB s n = bw
  have HT := Lib.hid hbt
  have HP := Lib.hid hbp
  have HW := Lib.hid hbw
  clear hbt hbp hbw
  refine wp_cut (MeetH [.inr 0, .inl (.slice B' m' c'), .inr 2, .inr 3, .inr 4, .inl (.int .i64 (s)), .inl (.int .i64 (n)), .inl (.int .i64 (poV s n)), .inl (.bool bp), .inr 9, .inr 10, .inl (.bool bp), .inl (.bool bt), .inr 13, .inr 14, .inl (.int .i64 (npV s n)), .inr 16, .inr 17, .inr 18, .inl (.int .i64 (cuV s n)), .inr 20, .inr 21, .inr 22, .inl (.int .i64 (stV s n)), .inr 24, .inr 25, .inr 26, .inl (.int .i64 (wdV s n)), .inl (.bool bw), .inr 29, .inr 30, .inr 31, .inr 32, .inr 33, .inr 34, .inr 35, .inr 36, .inr 37, .inr 38, .inr 39, .inr 40, .inr 41, .inr 42, .inr 43, .inr 44, .inr 45, .inr 46, .inr 47, .inr 48, .inr 49, .inr 50, .inr 51, .inr 52, .inr 53, .inr 54, .inr 55, .inr 56, .inr 57, .inr 58, .inr 59, .inr 60, .inr 61, .inr 62, .inr 63, .inr 64, .inr 65, .inr 66, .inr 67, .inr 68, .inr 69, .inr 70, .inr 71, .inr 72, .inr 73, .inr 74, .inr 75, .inr 76, .inr 77, .inr 78, .inr 79, .inr 80, .inr 81, .inr 82, .inr 83, .inr 84, .inr 85, .inr 86, .inr 87, .inr 88, .inr 89, .inr 90, .inr 91, .inr 92, .inr 93, .inr 94, .inr 95, .inr 96, .inr 97, .inr 98, .inr 99, .inr 100, .inr 101, .inr 102, .inr 103, .inr 104, .inr 105, .inr 106, .inr 107, .inr 108, .inr 109, .inr 110, .inr 111, .inr 112, .inr 113, .inr 114, .inr 115, .inr 116, .inr 117, .inr 118, .inr 119, .inr 120, .inr 121, .inr 122, .inr 123, .inr 124, .inr 125, .inr 126, .inr 127, .inr 128, .inr 129, .inr 130, .inr 131, .inr 132, .inr 133, .inr 134, .inr 135, .inr 136, .inr 137, .inr 138, .inr 139, .inr 140, .inr 141, .inr 142, .inr 143, .inr 144, .inr 145, .inr 146, .inr 147, .inr 148, .inr 149, .inr 150, .inr 151, .inr 152, .inr 153, .inr 154, .inr 155, .inr 156, .inr 157, .inr 158, .inr 159, .inr 160, .inr 161, .inr 162, .inr 163, .inr 164, .inr 165, .inr 166, .inr 167, .inr 168, .inr 169, .inr 170, .inr 171, .inr 172, .inr 173, .inr 174, .inr 175, .inr 176, .inr 177, .inr 178, .inr 179, .inr 180, .inr 181, .inr 182, .inr 183, .inr 184, .inr 185, .inr 186, .inr 187, .inr 188, .inr 189, .inr 190, .inr 191, .inr 192, .inr 193, .inr 194, .inr 195, .inr 196, .inr 197, .inr 198, .inr 199, .inr 200, .inr 201, .inr 202, .inr 203, .inr 204, .inr 205, .inr 206, .inr 207, .inr 208, .inr 209, .inr 210, .inr 211, .inr 212, .inr 213, .inr 214, .inr 215, .inr 216, .inr 217, .inr 218, .inr 219, .inr 220, .inr 221, .inr 222, .inr 223, .inr 224, .inr 225, .inr 226, .inr 227, .inr 228, .inr 229, .inr 230, .inr 231, .inl (.bool false), .inr 233, .inr 234, .inr 235, .inr 236, .inr 237, .inr 238, .inr 239, .inr 240, .inr 241, .inr 242, .inr 243, .inr 244, .inr 245, .inr 246, .inr 247, .inr 248, .inr 249, .inr 250, .inr 251, .inr 252, .inr 253, .inr 254, .inr 255, .inr 256, .inr 257, .inr 258, .inr 259, .inr 260, .inr 261, .inr 262, .inr 263, .inr 264, .inr 265, .inr 266, .inr 267, .inr 268, .inr 269, .inr 270, .inr 271, .inr 272, .inr 273, .inr 274, .inr 275, .inr 276, .inr 277, .inr 278, .inr 279, .inr 280, .inr 281, .inr 282, .inr 283, .inr 284, .inr 285, .inr 286, .inr 287, .inr 288, .inr 289, .inr 290, .inr 291, .inr 292, .inr 293, .inr 294, .inr 295, .inr 296, .inr 297, .inr 298, .inr 299, .inr 300, .inr 301, .inr 302, .inr 303, .inr 304, .inr 305, .inr 306, .inr 307, .inr 308, .inr 309, .inr 310, .inr 311, .inr 312, .inr 313, .inr 314, .inr 315, .inr 316, .inr 317, .inr 318, .inr 319, .inr 320, .inr 321, .inr 322, .inr 323, .inr 324, .inr 325, .inr 326, .inr 327, .inr 328, .inr 329, .inr 330, .inr 331, .inr 332, .inr 333, .inr 334, .inr 335, .inr 336, .inr 337, .inr 338, .inr 339, .inr 340, .inr 341, .inr 342, .inr 343, .inr 344, .inr 345, .inr 346, .inr 347, .inr 348, .inr 349, .inr 350, .inr 351, .inr 352, .inr 353, .inr 354, .inr 355, .inr 356, .inr 357, .inr 358, .inr 359, .inr 360, .inr 361, .inr 362, .inr 363, .inr 364, .inr 365, .inr 366, .inr 367, .inr 368, .inr 369, .inr 370, .inr 371, .inr 372, .inr 373, .inr 374, .inr 375, .inr 376, .inr 377, .inr 378, .inr 379, .inr 380, .inr 381, .inr 382, .inr 383, .inr 384, .inr 385, .inr 386, .inr 387, .inr 388, .inr 389, .inr 390, .inr 391, .inr 392, .inr 393, .inr 394, .inr 395, .inr 396, .inr 397, .inr 398, .inr 399, .inr 400, .inr 401, .inr 402, .inr 403, .inr 404, .inr 405, .inr 406, .inr 407, .inr 408, .inr 409, .inr 410, .inr 411, .inr 412, .inr 413, .inr 414, .inr 415, .inr 416, .inr 417, .inr 418, .inr 419, .inr 420, .inr 421, .inr 422, .inr 423, .inr 424, .inr 425, .inr 426, .inr 427, .inr 428, .inr 429, .inr 430, .inr 431, .inr 432, .inr 433, .inr 434, .inr 435, .inr 436, .inr 437, .inr 438, .inr 439, .inr 440, .inr 441, .inr 442, .inr 443, .inr 444, .inr 445, .inr 446, .inr 447, .inr 448, .inr 449, .inr 450, .inr 451, .inr 452, .inr 453, .inr 454, .inr 455, .inr 456, .inr 457, .inr 458, .inr 459, .inr 460, .inr 461, .inr 462, .inr 463, .inr 464, .inr 465, .inr 466, .inr 467, .inr 468, .inr 469, .inr 470, .inr 471, .inr 472, .inr 473, .inr 474, .inr 475, .inr 476, .inr 477, .inr 478, .inr 479, .inr 480, .inr 481, .inr 482, .inr 483, .inr 484, .inr 485, .inr 486, .inr 487, .inr 488, .inr 489, .inr 490, .inr 491, .inr 492, .inr 493, .inr 494, .inr 495, .inr 496, .inr 497, .inr 498] (fun wx => Below v7.heap.size v7 wx)) (MeetH.go _ (by rfl) ?_) ?_
  rotate_left
  · intro _ _ _ _
    as_aux_lemma =>
    clear HB HBs
    have HB : Below v7.heap.size v7 v7 := Below.refl _ _
    have HBs : v7.heap.size ≤ v7.heap.size := Nat.le_refl _
    cases bt with
    | false =>
      have e1 : poB s n = false := by simp [poB, HT.out]
      have e2 : wdB s n = false := by simp [wdB, HT.out]
      obtain rfl : bp = false := by rw [← HP.out]; exact e1
      obtain rfl : bw = false := by rw [← HW.out]; exact e2
      clear e1 e2
      go_wp2_with fail
      refine Met.intro ?_
      go_step
      refine MeetH.of ?_ ?_
      · exact HB
      repeat (first | refine Agr.skip ?_ | refine Agr.keep ?_ | exact Agr.nil)
    | true =>
      cases bp with
      | true =>
        obtain ⟨p1, p2, p3, p4, p5, p6⟩ := pol_of HT.out HP.out
        obtain rfl : bw = true := by rw [← HW.out]; first | exact p1 | exact p2 | exact p3 | exact p4 | exact p5 | exact p6
        clear p1 p2 p3 p4 p5 p6
        go_wp2_with fail
        refine Met.intro ?_
        go_step
        refine MeetH.of ?_ ?_
        · exact HB
        repeat (first | refine Agr.skip ?_ | refine Agr.keep ?_ | exact Agr.nil)
      | false =>
        cases bw with
        | true =>
          go_wp2_with fail
          refine Met.intro ?_
          go_step
          refine MeetH.of ?_ ?_
          · exact HB
          repeat (first | refine Agr.skip ?_ | refine Agr.keep ?_ | exact Agr.nil)
        | false =>
          go_wp2_with fail
          refine Met.intro ?_
          go_step
          refine MeetH.of ?_ ?_
          · exact HB
          repeat (first | refine Agr.skip ?_ | refine Agr.keep ?_ | exact Agr.nil)
  intro u8 v8 hb1
  replace hy' := hy'.on hb1
  replace HB := below_go HB HBs hb1
  clear hb1
  as_aux_lemma =>
  simp only [fillH]
  go_upto_if 233 with fail
  refine wp_cut (MeetH [.inr 0, .inl (.slice B' m' c'), .inr 2, .inr 3, .inr 4, .inr 5, .inr 6, .inr 7, .inr 8, .inr 9, .inr 10, .inr 11, .inr 12, .inr 13, .inr 14, .inr 15, .inr 16, .inr 17, .inr 18, .inr 19, .inr 20, .inr 21, .inr 22, .inr 23, .inr 24, .inr 25, .inr 26, .inr 27, .inr 28, .inr 29, .inr 30, .inr 31, .inr 32, .inr 33, .inr 34, .inr 35, .inr 36, .inr 37, .inr 38, .inr 39, .inr 40, .inr 41, .inr 42, .inr 43, .inr 44, .inr 45, .inr 46, .inr 47, .inr 48, .inr 49, .inr 50, .inr 51, .inr 52, .inr 53, .inr 54, .inr 55, .inr 56, .inr 57, .inr 58, .inr 59, .inr 60, .inr 61, .inr 62, .inr 63, .inr 64, .inr 65, .inr 66, .inr 67, .inr 68, .inr 69, .inr 70, .inr 71, .inr 72, .inr 73, .inr 74, .inr 75, .inr 76, .inr 77, .inr 78, .inr 79, .inr 80, .inr 81, .inr 82, .inr 83, .inr 84, .inr 85, .inr 86, .inr 87, .inr 88, .inr 89, .inr 90, .inr 91, .inr 92, .inr 93, .inr 94, .inr 95, .inr 96, .inr 97, .inr 98, .inr 99, .inr 100, .inr 101, .inr 102, .inr 103, .inr 104, .inr 105, .inr 106, .inr 107, .inr 108, .inr 109, .inr 110, .inr 111, .inr 112, .inr 113, .inr 114, .inr 115, .inr 116, .inr 117, .inr 118, .inr 119, .inr 120, .inr 121, .inr 122, .inr 123, .inr 124, .inr 125, .inr 126, .inr 127, .inr 128, .inr 129, .inr 130, .inr 131, .inr 132, .inr 133, .inr 134, .inr 135, .inr 136, .inr 137, .inr 138, .inr 139, .inr 140, .inr 141, .inr 142, .inr 143, .inr 144, .inr 145, .inr 146, .inr 147, .inr 148, .inr 149, .inr 150, .inr 151, .inr 152, .inr 153, .inr 154, .inr 155, .inr 156, .inr 157, .inr 158, .inr 159, .inr 160, .inr 161, .inr 162, .inr 163, .inr 164, .inr 165, .inr 166, .inr 167, .inr 168, .inr 169, .inr 170, .inr 171, .inr 172, .inr 173, .inr 174, .inr 175, .inr 176, .inr 177, .inr 178, .inr 179, .inr 180, .inr 181, .inr 182, .inr 183, .inr 184, .inr 185, .inr 186, .inr 187, .inr 188, .inr 189, .inr 190, .inr 191, .inr 192, .inr 193, .inr 194, .inr 195, .inr 196, .inr 197, .inr 198, .inr 199, .inr 200, .inr 201, .inr 202, .inr 203, .inr 204, .inr 205, .inr 206, .inr 207, .inr 208, .inr 209, .inr 210, .inr 211, .inr 212, .inr 213, .inr 214, .inr 215, .inr 216, .inr 217, .inr 218, .inr 219, .inr 220, .inr 221, .inr 222, .inr 223, .inr 224, .inr 225, .inr 226, .inr 227, .inr 228, .inr 229, .inr 230, .inr 231, .inr 232, .inr 233, .inr 234, .inr 235, .inr 236, .inr 237, .inr 238, .inr 239, .inr 240, .inr 241, .inr 242, .inr 243, .inr 244, .inr 245, .inr 246, .inr 247, .inr 248, .inr 249, .inr 250, .inr 251, .inr 252, .inr 253, .inr 254, .inr 255, .inr 256, .inr 257, .inr 258, .inr 259, .inr 260, .inr 261, .inr 262, .inr 263, .inr 264, .inr 265, .inr 266, .inr 267, .inr 268, .inr 269, .inr 270, .inr 271, .inr 272, .inr 273, .inr 274, .inr 275, .inr 276, .inr 277, .inr 278, .inr 279, .inr 280, .inr 281, .inr 282, .inr 283, .inr 284, .inr 285, .inr 286, .inr 287, .inr 288, .inr 289, .inr 290, .inr 291, .inr 292, .inr 293, .inr 294, .inr 295, .inr 296, .inr 297, .inr 298, .inr 299, .inr 300, .inr 301, .inr 302, .inr 303, .inr 304, .inr 305, .inr 306, .inr 307, .inr 308, .inr 309, .inr 310, .inr 311, .inr 312, .inr 313, .inr 314, .inr 315, .inr 316, .inr 317, .inr 318, .inr 319, .inr 320, .inr 321, .inr 322, .inr 323, .inr 324, .inr 325, .inr 326, .inr 327, .inr 328, .inr 329, .inr 330, .inr 331, .inr 332, .inr 333, .inr 334, .inr 335, .inr 336, .inr 337, .inr 338, .inr 339, .inr 340, .inr 341, .inr 342, .inr 343, .inr 344, .inr 345, .inr 346, .inr 347, .inr 348, .inr 349, .inr 350, .inr 351, .inr 352, .inr 353, .inr 354, .inr 355, .inr 356, .inr 357, .inr 358, .inr 359, .inr 360, .inr 361, .inr 362, .inr 363, .inr 364, .inr 365, .inr 366, .inr 367, .inr 368, .inr 369, .inr 370, .inr 371, .inr 372, .inr 373, .inr 374, .inr 375, .inr 376, .inr 377, .inr 378, .inr 379, .inr 380, .inr 381, .inr 382, .inr 383, .inr 384, .inr 385, .inr 386, .inr 387, .inr 388, .inr 389, .inr 390, .inr 391, .inr 392, .inr 393, .inr 394, .inr 395, .inr 396, .inr 397, .inr 398, .inr 399, .inr 400, .inr 401, .inr 402, .inr 403, .inr 404, .inr 405, .inr 406, .inr 407, .inr 408, .inr 409, .inr 410, .inr 411, .inr 412, .inr 413, .inr 414, .inr 415, .inr 416, .inr 417, .inr 418, .inr 419, .inr 420, .inr 421, .inr 422, .inr 423, .inr 424, .inr 425, .inr 426, .inr 427, .inr 428, .inr 429, .inr 430, .inr 431, .inr 432, .inr 433, .inr 434, .inr 435, .inr 436, .inr 437, .inr 438, .inr 439, .inr 440, .inr 441, .inr 442, .inr 443, .inr 444, .inr 445, .inr 446, .inr 447, .inr 448, .inr 449, .inr 450, .inr 451, .inr 452, .inr 453, .inr 454, .inr 455, .inr 456, .inr 457, .inr 458, .inr 459, .inr 460, .inr 461, .inr 462, .inr 463, .inr 464, .inr 465, .inr 466, .inr 467, .inr 468, .inr 469, .inr 470, .inr 471, .inr 472, .inr 473, .inr 474, .inr 475, .inr 476, .inr 477, .inr 478, .inr 479, .inr 480, .inr 481, .inr 482, .inr 483, .inr 484, .inr 485, .inr 486, .inr 487, .inr 488, .inr 489, .inr 490, .inr 491, .inr 492, .inr 493, .inr 494, .inr 495, .inr 496, .inr 497, .inr 498] (fun wx => Below v8.heap.size v8 wx)) (MeetH.go _ (by rfl) ?_) ?_
  rotate_left
  · intro _ _ _ _
    as_aux_lemma =>
    clear HB HBs
    have HB : Below v8.heap.size v8 v8 := Below.refl _ _
    have HBs : v8.heap.size ≤ v8.heap.size := Nat.le_refl _
    cases bt with
    | false =>
      go_wp2_with fail
      refine Met.intro ?_
      go_step
      refine MeetH.of ?_ ?_
      · exact HB
      repeat (first | refine Agr.skip ?_ | refine Agr.keep ?_ | exact Agr.nil)
    | true =>
      have ht := HT.out
      cases bp with
      | true =>
        have hp := HP.out
        obtain ⟨z1, z2, z3, z4, z5, z6⟩ := pol_of ht hp
        obtain rfl : bw = true := by rw [← HW.out]; first | exact z1 | exact z2 | exact z3 | exact z4 | exact z5 | exact z6
        clear z1 z2 z3 z4 z5 z6 HW HP HT
        rcases Int.lt_or_le (cuV s n) 100000 with hc | hc
        · obtain ⟨t1, t2, t3, t4, t5, t6, t7, t8, t9⟩ := tst_of ht
          have t2' : ¬ npV s n ≤ n := by omega
          obtain ⟨c1, c2, c3, c4, c5⟩ := cnt_of ht hc
          obtain ⟨p1, p2, p3, p4, p5, p6⟩ := pol_of ht hp
          have c5' : pnV s (cuV s n) = n := by simpa [p1] using c5
          clear c5
          have w1 : wnB s (cuV s n) = true := by obtain ⟨⟨q1, q2⟩, _⟩ := ts_iff.1 ht; simp [wnB]; omega
          have w2 : wnV s (cuV s n) = n := by simp only [wnV, w1, cond_true]; exact p6
          have w5 : ab (cuV s n) = cuV s n := ab_pos t3
          clear p6
          as_aux_lemma =>
          go_wp2_with (first | (go_at_call 40; refine (impl_RootOf_any _ _).mono ?_; rintro e w1 ⟨rfl, hb1⟩; replace HB := HB.trans (hb1.mono HB.size); clear hb1) | (go_at_call 41; refine (impl_PolygonNumber_any _ _ _).mono ?_; rintro e w1 ⟨rfl, hb1⟩; replace HB := HB.trans (hb1.mono HB.size); clear hb1) | (go_at_call 42; refine (impl_WideNumber_any _ _ _).mono ?_; rintro e w1 ⟨rfl, hb1⟩; replace HB := HB.trans (hb1.mono HB.size); clear hb1) | (go_at_call 43; refine (oAbs_any _ _ (by omega) (by omega)).mono ?_; rintro e w' ⟨rfl, rfl⟩))
          refine Met.intro ?_
          go_step
          refine MeetH.of ?_ ?_
          · exact HB
          repeat (first | refine Agr.skip ?_ | refine Agr.keep ?_ | exact Agr.nil)
        · rcases Int.lt_or_le 100000 (cuV s n) with hd | hd
          · obtain ⟨t1, t2, t3, t4, t5, t6, t7, t8, t9⟩ := tst_of ht
            have t2' : ¬ npV s n ≤ n := by omega
            obtain ⟨p1, p2, p3, p4, p5, p6⟩ := pol_of ht hp
            have w5 : ab (cuV s n) = cuV s n := ab_pos t3
            clear p6
            as_aux_lemma =>
            go_wp2_with (first | (go_at_call 40; refine (impl_RootOf_any _ _).mono ?_; rintro e w1 ⟨rfl, hb1⟩; replace HB := HB.trans (hb1.mono HB.size); clear hb1) | (go_at_call 41; refine (impl_PolygonNumber_any _ _ _).mono ?_; rintro e w1 ⟨rfl, hb1⟩; replace HB := HB.trans (hb1.mono HB.size); clear hb1) | (go_at_call 42; refine (impl_WideNumber_any _ _ _).mono ?_; rintro e w1 ⟨rfl, hb1⟩; replace HB := HB.trans (hb1.mono HB.size); clear hb1) | (go_at_call 43; refine (oAbs_any _ _ (by omega) (by omega)).mono ?_; rintro e w' ⟨rfl, rfl⟩))
            refine Met.intro ?_
            go_step
            refine MeetH.of ?_ ?_
            · exact HB
            repeat (first | refine Agr.skip ?_ | refine Agr.keep ?_ | exact Agr.nil)
          · obtain ⟨t1, t2, t3, t4, t5, t6, t7, t8, t9⟩ := tst_of ht
            have t2' : ¬ npV s n ≤ n := by omega
            obtain ⟨p1, p2, p3, p4, p5, p6⟩ := pol_of ht hp
            have w1 : wnB s (cuV s n) = true := by obtain ⟨⟨q1, q2⟩, _⟩ := ts_iff.1 ht; simp [wnB]; omega
            have w2 : wnV s (cuV s n) = n := by simp only [wnV, w1, cond_true]; exact p6
            have w5 : ab (cuV s n) = cuV s n := ab_pos t3
            clear p6
            as_aux_lemma =>
            go_wp2_with (first | (go_at_call 40; refine (impl_RootOf_any _ _).mono ?_; rintro e w1 ⟨rfl, hb1⟩; replace HB := HB.trans (hb1.mono HB.size); clear hb1) | (go_at_call 41; refine (impl_PolygonNumber_any _ _ _).mono ?_; rintro e w1 ⟨rfl, hb1⟩; replace HB := HB.trans (hb1.mono HB.size); clear hb1) | (go_at_call 42; refine (impl_WideNumber_any _ _ _).mono ?_; rintro e w1 ⟨rfl, hb1⟩; replace HB := HB.trans (hb1.mono HB.size); clear hb1) | (go_at_call 43; refine (oAbs_any _ _ (by omega) (by omega)).mono ?_; rintro e w' ⟨rfl, rfl⟩))
            refine Met.intro ?_
            go_step
            refine MeetH.of ?_ ?_
            · exact HB
            repeat (first | refine Agr.skip ?_ | refine Agr.keep ?_ | exact Agr.nil)
      | false =>
        have hp := HP.out
        cases bw with
        | true =>
          have hw := HW.out
          clear HW HP HT
          rcases Int.lt_or_le (wdV s n) (-100000) with hv | hv
          · rcases Int.lt_or_le (cuV s n) 100000 with hc | hc
            · obtain ⟨t1, t2, t3, t4, t5, t6, t7, t8, t9⟩ := tst_of ht
              have t2' : ¬ npV s n ≤ n := by omega
              obtain ⟨c1, c2, c3, c4, c5⟩ := cnt_of ht hc
              obtain ⟨p1, p2, p3, p4, p5, p6⟩ := wde_of ht hp hw
              have c5' : ¬ pnV s (cuV s n) = n := by simpa [p1] using c5
              have c6' : (pnV s (cuV s n) == n) = false := by simpa using c5'
              clear c5
              clear p4
              as_aux_lemma =>
              go_wp2_with (first | (go_at_call 40; refine (impl_RootOf_any _ _).mono ?_; rintro e w1 ⟨rfl, hb1⟩; replace HB := HB.trans (hb1.mono HB.size); clear hb1) | (go_at_call 41; refine (impl_PolygonNumber_any _ _ _).mono ?_; rintro e w1 ⟨rfl, hb1⟩; replace HB := HB.trans (hb1.mono HB.size); clear hb1) | (go_at_call 42; refine (impl_WideNumber_any _ _ _).mono ?_; rintro e w1 ⟨rfl, hb1⟩; replace HB := HB.trans (hb1.mono HB.size); clear hb1) | (go_at_call 43; refine (oAbs_any _ _ (by omega) (by omega)).mono ?_; rintro e w' ⟨rfl, rfl⟩))
              refine Met.intro ?_
              go_step
              refine MeetH.of ?_ ?_
              · exact HB
              repeat (first | refine Agr.skip ?_ | refine Agr.keep ?_ | exact Agr.nil)
            · obtain ⟨t1, t2, t3, t4, t5, t6, t7, t8, t9⟩ := tst_of ht
              have t2' : ¬ npV s n ≤ n := by omega
              obtain ⟨p1, p2, p3, p4, p5, p6⟩ := wde_of ht hp hw
              clear p4
              as_aux_lemma =>
              go_wp2_with (first | (go_at_call 40; refine (impl_RootOf_any _ _).mono ?_; rintro e w1 ⟨rfl, hb1⟩; replace HB := HB.trans (hb1.mono HB.size); clear hb1) | (go_at_call 41; refine (impl_PolygonNumber_any _ _ _).mono ?_; rintro e w1 ⟨rfl, hb1⟩; replace HB := HB.trans (hb1.mono HB.size); clear hb1) | (go_at_call 42; refine (impl_WideNumber_any _ _ _).mono ?_; rintro e w1 ⟨rfl, hb1⟩; replace HB := HB.trans (hb1.mono HB.size); clear hb1) | (go_at_call 43; refine (oAbs_any _ _ (by omega) (by omega)).mono ?_; rintro e w' ⟨rfl, rfl⟩))
              refine Met.intro ?_
              go_step
              refine MeetH.of ?_ ?_
              · exact HB
              repeat (first | refine Agr.skip ?_ | refine Agr.keep ?_ | exact Agr.nil)
          · rcases Int.lt_or_le (cuV s n) 100000 with hc | hc
            · obtain ⟨t1, t2, t3, t4, t5, t6, t7, t8, t9⟩ := tst_of ht
              have t2' : ¬ npV s n ≤ n := by omega
              obtain ⟨c1, c2, c3, c4, c5⟩ := cnt_of ht hc
              obtain ⟨p1, p2, p3, p4, p5, p6⟩ := wde_of ht hp hw
              have c5' : ¬ pnV s (cuV s n) = n := by simpa [p1] using c5
              have c6' : (pnV s (cuV s n) == n) = false := by simpa using c5'
              clear c5
              have w1 : wnB s (wdV s n) = true := by obtain ⟨⟨q1, q2⟩, _⟩ := ts_iff.1 ht; simp [wnB]; omega
              have w2 : wnV s (wdV s n) = n := by simp only [wnV, w1, cond_true]; exact p4
              clear p4
              as_aux_lemma =>
              go_wp2_with (first | (go_at_call 40; refine (impl_RootOf_any _ _).mono ?_; rintro e w1 ⟨rfl, hb1⟩; replace HB := HB.trans (hb1.mono HB.size); clear hb1) | (go_at_call 41; refine (impl_PolygonNumber_any _ _ _).mono ?_; rintro e w1 ⟨rfl, hb1⟩; replace HB := HB.trans (hb1.mono HB.size); clear hb1) | (go_at_call 42; refine (impl_WideNumber_any _ _ _).mono ?_; rintro e w1 ⟨rfl, hb1⟩; replace HB := HB.trans (hb1.mono HB.size); clear hb1) | (go_at_call 43; refine (oAbs_any _ _ (by omega) (by omega)).mono ?_; rintro e w' ⟨rfl, rfl⟩))
              refine Met.intro ?_
              go_step
              refine MeetH.of ?_ ?_
              · exact HB
              repeat (first | refine Agr.skip ?_ | refine Agr.keep ?_ | exact Agr.nil)
            · obtain ⟨t1, t2, t3, t4, t5, t6, t7, t8, t9⟩ := tst_of ht
              have t2' : ¬ npV s n ≤ n := by omega
              obtain ⟨p1, p2, p3, p4, p5, p6⟩ := wde_of ht hp hw
              have w1 : wnB s (wdV s n) = true := by obtain ⟨⟨q1, q2⟩, _⟩ := ts_iff.1 ht; simp [wnB]; omega
              have w2 : wnV s (wdV s n) = n := by simp only [wnV, w1, cond_true]; exact p4
              clear p4
              as_aux_lemma =>
              go_wp2_with (first | (go_at_call 40; refine (impl_RootOf_any _ _).mono ?_; rintro e w1 ⟨rfl, hb1⟩; replace HB := HB.trans (hb1.mono HB.size); clear hb1) | (go_at_call 41; refine (impl_PolygonNumber_any _ _ _).mono ?_; rintro e w1 ⟨rfl, hb1⟩; replace HB := HB.trans (hb1.mono HB.size); clear hb1) | (go_at_call 42; refine (impl_WideNumber_any _ _ _).mono ?_; rintro e w1 ⟨rfl, hb1⟩; replace HB := HB.trans (hb1.mono HB.size); clear hb1) | (go_at_call 43; refine (oAbs_any _ _ (by omega) (by omega)).mono ?_; rintro e w' ⟨rfl, rfl⟩))
              refine Met.intro ?_
              go_step
              refine MeetH.of ?_ ?_
              · exact HB
              repeat (first | refine Agr.skip ?_ | refine Agr.keep ?_ | exact Agr.nil)
        | false =>
          have hw := HW.out
          clear HW HP HT
          by_cases hr0 : rtV (stV s n) * rtV (stV s n) = stV s n
          · skip
            rcases Int.lt_or_le (cuV s n) 100000 with hc | hc
            · obtain ⟨t1, t2, t3, t4, t5, t6, t7, t8, t9⟩ := tst_of ht
              have t2' : ¬ npV s n ≤ n := by omega
              obtain ⟨c1, c2, c3, c4, c5⟩ := cnt_of ht hc
              have c5' : ¬ pnV s (cuV s n) = n := by simpa [hp] using c5
              have c6' : (pnV s (cuV s n) == n) = false := by simpa using c5'
              clear c5
              obtain ⟨n1, n2⟩ := none_of ht hp hw hr0
              have m1 : ((rtV (stV s n) + s - 4).tmod (2 * (s - 2)) == 0) = false := by simpa using n1
              have m2 : ((rtV (stV s n) - s + 4).tmod (2 * (s - 2)) == 0) = false := by simpa using n2
              have s3 : 3 ≤ s := (ts_iff.1 ht).1.1
              have s4 : s ≤ 24 := (ts_iff.1 ht).1.2
              have m3 : (2 * (s - 2) == 0) = false := by simp; omega
              as_aux_lemma =>
              go_wp2_with (first | (go_at_call 40; refine (impl_RootOf_any _ _).mono ?_; rintro e w1 ⟨rfl, hb1⟩; replace HB := HB.trans (hb1.mono HB.size); clear hb1) | (go_at_call 41; refine (impl_PolygonNumber_any _ _ _).mono ?_; rintro e w1 ⟨rfl, hb1⟩; replace HB := HB.trans (hb1.mono HB.size); clear hb1) | (go_at_call 42; refine (impl_WideNumber_any _ _ _).mono ?_; rintro e w1 ⟨rfl, hb1⟩; replace HB := HB.trans (hb1.mono HB.size); clear hb1) | (go_at_call 43; refine (oAbs_any _ _ (by omega) (by omega)).mono ?_; rintro e w' ⟨rfl, rfl⟩))
              refine Met.intro ?_
              go_step
              refine MeetH.of ?_ ?_
              · exact HB
              repeat (first | refine Agr.skip ?_ | refine Agr.keep ?_ | exact Agr.nil)
            · obtain ⟨t1, t2, t3, t4, t5, t6, t7, t8, t9⟩ := tst_of ht
              have t2' : ¬ npV s n ≤ n := by omega
              obtain ⟨n1, n2⟩ := none_of ht hp hw hr0
              have m1 : ((rtV (stV s n) + s - 4).tmod (2 * (s - 2)) == 0) = false := by simpa using n1
              have m2 : ((rtV (stV s n) - s + 4).tmod (2 * (s - 2)) == 0) = false := by simpa using n2
              have s3 : 3 ≤ s := (ts_iff.1 ht).1.1
              have s4 : s ≤ 24 := (ts_iff.1 ht).1.2
              have m3 : (2 * (s - 2) == 0) = false := by simp; omega
              as_aux_lemma =>
              go_wp2_with (first | (go_at_call 40; refine (impl_RootOf_any _ _).mono ?_; rintro e w1 ⟨rfl, hb1⟩; replace HB := HB.trans (hb1.mono HB.size); clear hb1) | (go_at_call 41; refine (impl_PolygonNumber_any _ _ _).mono ?_; rintro e w1 ⟨rfl, hb1⟩; replace HB := HB.trans (hb1.mono HB.size); clear hb1) | (go_at_call 42; refine (impl_WideNumber_any _ _ _).mono ?_; rintro e w1 ⟨rfl, hb1⟩; replace HB := HB.trans (hb1.mono HB.size); clear hb1) | (go_at_call 43; refine (oAbs_any _ _ (by omega) (by omega)).mono ?_; rintro e w' ⟨rfl, rfl⟩))
              refine Met.intro ?_
              go_step
              refine MeetH.of ?_ ?_
              · exact HB
              repeat (first | refine Agr.skip ?_ | refine Agr.keep ?_ | exact Agr.nil)
          · skip
            rcases Int.lt_or_le (cuV s n) 100000 with hc | hc
            · obtain ⟨t1, t2, t3, t4, t5, t6, t7, t8, t9⟩ := tst_of ht
              have t2' : ¬ npV s n ≤ n := by omega
              obtain ⟨c1, c2, c3, c4, c5⟩ := cnt_of ht hc
              have c5' : ¬ pnV s (cuV s n) = n := by simpa [hp] using c5
              have c6' : (pnV s (cuV s n) == n) = false := by simpa using c5'
              clear c5
              as_aux_lemma =>
              go_wp2_with (first | (go_at_call 40; refine (impl_RootOf_any _ _).mono ?_; rintro e w1 ⟨rfl, hb1⟩; replace HB := HB.trans (hb1.mono HB.size); clear hb1) | (go_at_call 41; refine (impl_PolygonNumber_any _ _ _).mono ?_; rintro e w1 ⟨rfl, hb1⟩; replace HB := HB.trans (hb1.mono HB.size); clear hb1) | (go_at_call 42; refine (impl_WideNumber_any _ _ _).mono ?_; rintro e w1 ⟨rfl, hb1⟩; replace HB := HB.trans (hb1.mono HB.size); clear hb1) | (go_at_call 43; refine (oAbs_any _ _ (by omega) (by omega)).mono ?_; rintro e w' ⟨rfl, rfl⟩))
              refine Met.intro ?_
              go_step
              refine MeetH.of ?_ ?_
              · exact HB
              repeat (first | refine Agr.skip ?_ | refine Agr.keep ?_ | exact Agr.nil)
            · obtain ⟨t1, t2, t3, t4, t5, t6, t7, t8, t9⟩ := tst_of ht
              have t2' : ¬ npV s n ≤ n := by omega
              as_aux_lemma =>
              go_wp2_with (first | (go_at_call 40; refine (impl_RootOf_any _ _).mono ?_; rintro e w1 ⟨rfl, hb1⟩; replace HB := HB.trans (hb1.mono HB.size); clear hb1) | (go_at_call 41; refine (impl_PolygonNumber_any _ _ _).mono ?_; rintro e w1 ⟨rfl, hb1⟩; replace HB := HB.trans (hb1.mono HB.size); clear hb1) | (go_at_call 42; refine (impl_WideNumber_any _ _ _).mono ?_; rintro e w1 ⟨rfl, hb1⟩; replace HB := HB.trans (hb1.mono HB.size); clear hb1) | (go_at_call 43; refine (oAbs_any _ _ (by omega) (by omega)).mono ?_; rintro e w' ⟨rfl, rfl⟩))
              refine Met.intro ?_
              go_step
              refine MeetH.of ?_ ?_
              · exact HB
              repeat (first | refine Agr.skip ?_ | refine Agr.keep ?_ | exact Agr.nil)
  intro u9 v9 hb1
  replace hy' := hy'.on hb1
  replace HB := below_go HB HBs hb1
  clear hb1
  as_aux_lemma =>
  simp only [fillH]
  clear HT HP HW
  go_wp2_with fail
  refine (DrawGnomonOf_any B' m' c' _ hy' (by omega)).mono ?_
  rintro e v10 ⟨⟨s2, k, rfl⟩, hb1⟩
  replace hy' := hy'.on hb1
  replace HB := below_go HB HBs hb1
  clear hb1
  rcases Bool.eq_false_or_eq_true (gnB s2 k) with hg2 | hg2
  case' inl => obtain ⟨g1, g2, g3, g4, g5, g6, g7, g8, g9, g10, g11, g12, g13, g14, g15, g16, g17⟩ := gnm_of hg2
  all_goals
    as_aux_lemma =>
    go_wp2_with (first | (go_at_call 45; refine (impl_GnomonOf_any _ _ _).mono ?_; rintro e w1 ⟨rfl, hb1⟩; replace HB := below_go HB HBs hb1; replace hy' := hy'.on hb1; clear hb1) | (go_at_call 46; refine (spec_GnomonOf_any _ _ _).mono ?_; rintro e w' ⟨rfl, rfl⟩) | (go_at_call 41; refine (impl_PolygonNumber_any _ _ _).mono ?_; rintro e w1 ⟨rfl, hb1⟩; replace HB := below_go HB HBs hb1; replace hy' := hy'.on hb1; clear hb1) | (go_at_call 47; refine (spec_PolygonNumber_any _ _ _).mono ?_; rintro e w' ⟨rfl, rfl⟩) | (go_at_call 28; refine (impl_PlaceOf_any _ _ _).mono ?_; rintro e w1 ⟨rfl, hb1⟩; replace HB := below_go HB HBs hb1; replace hy' := hy'.on hb1; clear hb1))
    refine (DrawRootOf_any B' m' c' _ hy' (by omega)).mono ?_
    rintro e wv ⟨⟨r, rfl⟩, hb1⟩
    replace HB := below_go HB HBs hb1
    clear hb1 hy'
    rcases Bool.eq_false_or_eq_true (rtB r) with hr | hr
    case' inl => obtain ⟨r1, r2, r3, r4, r5, r6, r7, r8⟩ := rtd_of hr
    all_goals
      go_wp2_with (first | (go_at_call 40; refine (impl_RootOf_any _ _).mono ?_; rintro e w1 ⟨rfl, hb1⟩; replace HB := below_go HB HBs hb1; clear hb1) | (go_at_call 49; refine (spec_RootOf_any _ _).mono ?_; rintro e w' ⟨rfl, rfl⟩))
      go_ret
      exact ⟨rfl, HB⟩
end Go.Proofs.Ytkhjeleoppdjgab
