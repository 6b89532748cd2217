/- The law FnSumsOfShapes, walked: whatever the arguments it answers true. The library's table lies where the program laid it. -/
import Derived.Test.YtegbikakfckehaaDoorSfC
import Derived.Test.YtegbikakfckehaaDoorCut
import Derived.Test.YtegbikakfckehaaDoorMd
import Derived.Lib.Hide
import Derived.Deep.Cut
import Derived.Deep.CutBlock
namespace Go.Proofs.YtegbikakfckehaaDoor
open Go.ChangeShapes Go.WideShapes Go.ChangeAt Go.RowKit Go.Maps

set_option maxRecDepth 4000 in
set_option maxHeartbeats 16000000 in
theorem walk_SumsOfShapes (A' : Option Addr) (n' a' : Nat) (B' : Option Addr) (m' c' : Nat) (w : World) (hn' : n' ≤ 9223372036854775807) (hx' : Bys w A' n') (hm' : m' ≤ 9223372036854775807) (hy' : Bys w B' m') (ht : Tabd w) :
    Calls Tryd.prog 3 #[.slice A' n' a', .slice B' m' c'] w fun e w' => e = .returned (.bool true) ∧ Below w.heap.size w w' := by
  have HB : Below w.heap.size w w := Below.refl _ _
  have HBs : w.heap.size ≤ w.heap.size := Nat.le_refl _
  rcases Bool.eq_false_or_eq_true (bgB n' m') with hg | hg
  · go_enter Tryd.func3, Tryd.ntmps3
    go_wp2_with (go_at_call 5; refine (big_any _ _ _ _ _ _ _ hn' hm').mono ?_; rintro e w' ⟨rfl, rfl⟩)
    go_ret
    exact ⟨rfl, Below.refl _ _⟩
  obtain ⟨gg1, gg2⟩ := bg_no hg
  go_enter Tryd.func3, Tryd.ntmps3
  go_wp2_with (go_at_call 5; refine (big_any _ _ _ _ _ _ _ hn' hm').mono ?_; rintro e w' ⟨rfl, rfl⟩)
  refine (DrawThreeTriangles_any A' n' a' _ hx' (by omega)).mono ?_
  rintro e v1 ⟨⟨gn, rfl⟩, hb1⟩
  replace ht := ht.on hb1
  replace hy' := hy'.on hb1
  replace HB := below_go HB HBs hb1
  clear hb1
  go_wp2_with fail
  refine (impl_ThreeTriangles_any gn _ ht).mono ?_
  rintro e v2 ⟨At, ct, rfl, Ot, hb1⟩
  replace ht := ht.on hb1
  replace hy' := hy'.on hb1
  replace HB := below_go HB HBs hb1
  clear hb1
  go_wp2_with fail
  refine (spec_ThreeTriangles_any gn _).mono ?_
  rintro e v3 ⟨Ar, cr, rfl, Or, hb1⟩
  replace ht := ht.on hb1
  replace hy' := hy'.on hb1
  replace Ot := Ot.on hb1
  replace HB := below_go HB HBs hb1
  clear hb1
  go_wp2_with fail
  refine (impl_CountThreeTriangles_any gn _).mono ?_
  rintro e v4 ⟨rfl, hb1⟩
  replace ht := ht.on hb1
  replace hy' := hy'.on hb1
  replace Ot := Ot.on hb1
  replace Or := Or.on hb1
  replace HB := below_go HB HBs hb1
  clear hb1
  go_wp2_with fail
  refine (spec_CountThreeTriangles_any gn _).mono ?_
  rintro e v5 ⟨rfl, hb1⟩
  replace ht := ht.on hb1
  replace hy' := hy'.on hb1
  replace Ot := Ot.on hb1
  replace Or := Or.on hb1
  replace HB := below_go HB HBs hb1
  clear hb1
  go_wp2_with fail
  have hl9 := tt_len gn
  refine (oSame_b At Ar _ ct cr _ _ _ _ (ttL gn) _ rfl (by omega) Ot Or).mono ?_
  rintro e v6 ⟨rfl, hb1⟩
  replace ht := ht.on hb1
  replace hy' := hy'.on hb1
  replace Ot := Ot.on hb1
  replace Or := Or.on hb1
  replace HB := below_go HB HBs hb1
  clear hb1
  clear Or
  clear hl9
  go_upto_if 114 with fail
  refine wp_cut (MeetH [.inr 0, .inl (.slice B' m' c'), .inr 2, .inr 3, .inr 4, .inr 5, .inr 6, .inr 7, .inr 8, .inr 9, .inr 10, .inr 11, .inr 12, .inr 13, .inr 14, .inr 15, .inr 16, .inr 17, .inr 18, .inr 19, .inr 20, .inr 21, .inr 22, .inr 23, .inr 24, .inr 25, .inr 26, .inr 27, .inr 28, .inr 29, .inr 30, .inr 31, .inr 32, .inr 33, .inr 34, .inr 35, .inr 36, .inr 37, .inr 38, .inr 39, .inr 40, .inr 41, .inr 42, .inr 43, .inr 44, .inr 45, .inr 46, .inr 47, .inr 48, .inr 49, .inr 50, .inr 51, .inr 52, .inr 53, .inr 54, .inr 55, .inr 56, .inr 57, .inr 58, .inr 59, .inr 60, .inr 61, .inr 62, .inr 63, .inr 64, .inr 65, .inr 66, .inr 67, .inr 68, .inr 69, .inr 70, .inr 71, .inr 72, .inr 73, .inr 74, .inr 75, .inr 76, .inr 77, .inr 78, .inr 79, .inr 80, .inr 81, .inr 82, .inr 83, .inr 84, .inr 85, .inr 86, .inr 87, .inr 88, .inr 89, .inr 90, .inr 91, .inr 92, .inr 93, .inr 94, .inr 95, .inr 96, .inr 97, .inr 98, .inr 99, .inr 100, .inr 101, .inr 102, .inr 103, .inr 104, .inr 105, .inr 106, .inr 107, .inr 108, .inr 109, .inr 110, .inr 111, .inr 112, .inr 113, .inr 114, .inr 115, .inr 116, .inr 117, .inr 118, .inr 119, .inr 120, .inr 121, .inr 122, .inr 123, .inr 124, .inr 125, .inr 126, .inr 127, .inr 128, .inr 129, .inr 130, .inr 131, .inr 132, .inr 133, .inr 134, .inr 135, .inr 136, .inr 137, .inr 138, .inr 139, .inr 140, .inr 141, .inr 142, .inr 143, .inr 144, .inr 145, .inr 146, .inr 147, .inr 148, .inr 149, .inr 150, .inr 151, .inr 152, .inr 153, .inr 154, .inr 155, .inr 156, .inr 157, .inr 158, .inr 159, .inr 160, .inr 161, .inr 162, .inr 163, .inr 164, .inr 165, .inr 166, .inr 167, .inr 168, .inr 169, .inr 170, .inr 171, .inr 172, .inr 173, .inr 174, .inr 175, .inr 176, .inr 177, .inr 178, .inr 179, .inr 180, .inr 181, .inr 182, .inr 183, .inr 184, .inr 185, .inr 186, .inr 187, .inr 188, .inr 189, .inr 190, .inr 191, .inr 192, .inr 193, .inr 194, .inr 195, .inr 196, .inr 197, .inr 198, .inr 199, .inr 200, .inr 201, .inr 202, .inr 203, .inr 204, .inr 205, .inr 206, .inr 207, .inr 208, .inr 209, .inr 210, .inr 211, .inr 212, .inr 213, .inr 214, .inr 215, .inr 216, .inr 217, .inr 218, .inr 219, .inr 220, .inr 221, .inr 222, .inr 223, .inr 224, .inr 225, .inr 226, .inr 227, .inr 228, .inr 229, .inr 230, .inr 231, .inr 232, .inr 233, .inr 234, .inr 235, .inr 236, .inr 237, .inr 238, .inr 239, .inr 240, .inr 241, .inr 242, .inr 243, .inr 244, .inr 245, .inr 246, .inr 247, .inr 248, .inr 249, .inr 250, .inr 251, .inr 252, .inr 253, .inr 254, .inr 255, .inr 256, .inr 257, .inr 258, .inr 259, .inr 260, .inr 261, .inr 262, .inr 263, .inr 264, .inr 265, .inr 266, .inr 267, .inr 268, .inr 269, .inr 270, .inr 271, .inr 272, .inr 273, .inr 274, .inr 275, .inr 276, .inr 277, .inr 278, .inr 279, .inr 280, .inr 281, .inr 282, .inr 283, .inr 284, .inr 285, .inr 286, .inr 287, .inr 288, .inr 289, .inr 290, .inr 291, .inr 292, .inr 293, .inr 294, .inr 295, .inr 296, .inr 297, .inr 298, .inr 299, .inr 300, .inr 301, .inr 302, .inr 303, .inr 304, .inr 305, .inr 306, .inr 307, .inr 308, .inr 309, .inr 310, .inr 311, .inr 312, .inr 313, .inr 314, .inr 315, .inr 316, .inr 317, .inr 318, .inr 319, .inr 320, .inr 321, .inr 322, .inr 323, .inr 324, .inr 325, .inr 326, .inr 327, .inr 328, .inr 329, .inr 330, .inr 331, .inr 332, .inr 333, .inr 334, .inr 335, .inr 336, .inr 337, .inr 338, .inr 339, .inr 340, .inr 341, .inr 342, .inr 343, .inr 344, .inr 345, .inr 346, .inr 347, .inr 348, .inr 349, .inr 350, .inr 351, .inr 352, .inr 353, .inr 354, .inr 355, .inr 356, .inr 357, .inr 358, .inr 359, .inr 360, .inr 361, .inr 362, .inr 363, .inr 364, .inr 365, .inr 366, .inr 367, .inr 368, .inr 369, .inr 370, .inr 371, .inr 372, .inr 373, .inr 374, .inr 375, .inr 376, .inr 377, .inr 378, .inr 379, .inr 380, .inr 381, .inr 382, .inr 383, .inr 384, .inr 385, .inr 386, .inr 387, .inr 388, .inr 389, .inr 390, .inr 391, .inr 392, .inr 393, .inr 394, .inr 395, .inr 396, .inr 397, .inr 398, .inr 399, .inr 400, .inr 401, .inr 402, .inr 403, .inr 404, .inr 405, .inr 406, .inr 407, .inr 408, .inr 409, .inr 410, .inr 411, .inr 412, .inr 413, .inr 414, .inr 415, .inr 416, .inr 417, .inr 418, .inr 419, .inr 420, .inr 421, .inr 422, .inr 423, .inr 424, .inr 425, .inr 426, .inr 427, .inr 428, .inr 429, .inr 430, .inr 431, .inr 432, .inr 433, .inr 434, .inr 435, .inr 436, .inr 437, .inr 438, .inr 439, .inr 440, .inr 441, .inr 442, .inr 443, .inr 444, .inr 445, .inr 446, .inr 447, .inr 448, .inr 449, .inr 450, .inr 451, .inr 452, .inr 453, .inr 454, .inr 455, .inr 456, .inr 457, .inr 458, .inr 459, .inr 460, .inr 461, .inr 462, .inr 463, .inr 464, .inr 465, .inr 466, .inr 467, .inr 468, .inr 469, .inr 470, .inr 471, .inr 472, .inr 473, .inr 474, .inr 475, .inr 476, .inr 477, .inr 478, .inr 479, .inr 480, .inr 481, .inr 482, .inr 483, .inr 484, .inr 485, .inr 486] (fun wx => Below v6.heap.size v6 wx)) (MeetH.go _ (by rfl) ?_) ?_
  rotate_left
  · intro _ _ _ _
    as_aux_lemma =>
    clear HB HBs
    have HB : Below v6.heap.size v6 v6 := Below.refl _ _
    have HBs : v6.heap.size ≤ v6.heap.size := Nat.le_refl _
    rcases Bool.eq_false_or_eq_true (ttB gn) with h | h
    · simp only [h]
      have q := ttf_of h
      have qlen := q.len
      have qpos := q.pos
      simp only [qlen]
      go_wp2_with fail
      refine (oFalls_any At 3 ct _ _ (ttL gn) 0 _ qlen (by omega) Ot (fun k hk => (q.el k hk).1) q.fall).mono ?_
      rintro e vh ⟨rfl, rfl⟩
      go_wp2_with fail
      have hsum := q.sum
      have hn1 := q.n1
      refine (oTotal_any 3 At 3 ct _ (ttL gn) _ (by omega) (by omega) qlen (by omega) Ot (fun k hk => ⟨(q.el k hk).1, Int.le_trans (q.el k hk).2 (by omega)⟩) (by rw [hsum]; omega) gn hsum).mono ?_
      rintro e v7 ⟨rfl, hb1⟩
      replace ht := ht.on hb1
      replace hy' := hy'.on hb1
      replace Ot := Ot.on hb1
      replace HB := below_go HB HBs hb1
      clear hb1
      clear Ot
      clear hsum hn1 qlen
      go_upto_block 0 with fail
      refine wp_cut (MeetH [.inr 0, .inl (.slice B' m' c'), .inr 2, .inr 3, .inr 4, .inr 5, .inr 6, .inr 7, .inr 8, .inr 9, .inl (.int .i64 (tcV gn)), .inr 11, .inr 12, .inr 13, .inl (.int .i64 (tcV gn)), .inr 15, .inr 16, .inr 17, .inr 18, .inr 19, .inr 20, .inr 21, .inr 22, .inr 23, .inr 24, .inr 25, .inr 26, .inr 27, .inr 28, .inr 29, .inr 30, .inr 31, .inr 32, .inr 33, .inr 34, .inr 35, .inr 36, .inr 37, .inr 38, .inr 39, .inr 40, .inr 41, .inr 42, .inr 43, .inr 44, .inr 45, .inr 46, .inr 47, .inr 48, .inr 49, .inr 50, .inr 51, .inr 52, .inr 53, .inr 54, .inr 55, .inr 56, .inr 57, .inr 58, .inr 59, .inr 60, .inr 61, .inr 62, .inr 63, .inr 64, .inr 65, .inr 66, .inr 67, .inr 68, .inr 69, .inr 70, .inr 71, .inr 72, .inr 73, .inr 74, .inr 75, .inr 76, .inr 77, .inr 78, .inr 79, .inr 80, .inr 81, .inr 82, .inr 83, .inr 84, .inr 85, .inr 86, .inr 87, .inr 88, .inr 89, .inr 90, .inr 91, .inr 92, .inr 93, .inr 94, .inr 95, .inr 96, .inr 97, .inr 98, .inr 99, .inr 100, .inr 101, .inr 102, .inr 103, .inr 104, .inr 105, .inr 106, .inr 107, .inr 108, .inr 109, .inr 110, .inr 111, .inr 112, .inr 113, .inr 114, .inr 115, .inr 116, .inr 117, .inr 118, .inr 119, .inr 120, .inr 121, .inr 122, .inr 123, .inr 124, .inr 125, .inr 126, .inr 127, .inr 128, .inr 129, .inr 130, .inr 131, .inr 132, .inr 133, .inr 134, .inr 135, .inr 136, .inr 137, .inr 138, .inr 139, .inr 140, .inr 141, .inr 142, .inr 143, .inr 144, .inr 145, .inr 146, .inr 147, .inr 148, .inr 149, .inr 150, .inr 151, .inr 152, .inr 153, .inr 154, .inr 155, .inr 156, .inr 157, .inr 158, .inr 159, .inr 160, .inr 161, .inr 162, .inr 163, .inr 164, .inr 165, .inr 166, .inr 167, .inr 168, .inr 169, .inr 170, .inr 171, .inr 172, .inr 173, .inr 174, .inr 175, .inr 176, .inr 177, .inr 178, .inr 179, .inr 180, .inr 181, .inr 182, .inr 183, .inr 184, .inr 185, .inr 186, .inr 187, .inr 188, .inr 189, .inr 190, .inr 191, .inr 192, .inr 193, .inr 194, .inr 195, .inr 196, .inr 197, .inr 198, .inr 199, .inr 200, .inr 201, .inr 202, .inr 203, .inr 204, .inr 205, .inr 206, .inr 207, .inr 208, .inr 209, .inr 210, .inr 211, .inr 212, .inr 213, .inr 214, .inr 215, .inr 216, .inr 217, .inr 218, .inr 219, .inr 220, .inr 221, .inr 222, .inr 223, .inr 224, .inr 225, .inr 226, .inr 227, .inr 228, .inr 229, .inr 230, .inr 231, .inr 232, .inr 233, .inr 234, .inr 235, .inr 236, .inr 237, .inr 238, .inr 239, .inr 240, .inr 241, .inr 242, .inr 243, .inr 244, .inr 245, .inr 246, .inr 247, .inr 248, .inr 249, .inr 250, .inr 251, .inr 252, .inr 253, .inr 254, .inr 255, .inr 256, .inr 257, .inr 258, .inr 259, .inr 260, .inr 261, .inr 262, .inr 263, .inr 264, .inr 265, .inr 266, .inr 267, .inr 268, .inr 269, .inr 270, .inr 271, .inr 272, .inr 273, .inr 274, .inr 275, .inr 276, .inr 277, .inr 278, .inr 279, .inr 280, .inr 281, .inr 282, .inr 283, .inr 284, .inr 285, .inr 286, .inr 287, .inr 288, .inr 289, .inr 290, .inr 291, .inr 292, .inr 293, .inr 294, .inr 295, .inr 296, .inr 297, .inr 298, .inr 299, .inr 300, .inr 301, .inr 302, .inr 303, .inr 304, .inr 305, .inr 306, .inr 307, .inr 308, .inr 309, .inr 310, .inr 311, .inr 312, .inr 313, .inr 314, .inr 315, .inr 316, .inr 317, .inr 318, .inr 319, .inr 320, .inr 321, .inr 322, .inr 323, .inr 324, .inr 325, .inr 326, .inr 327, .inr 328, .inr 329, .inr 330, .inr 331, .inr 332, .inr 333, .inr 334, .inr 335, .inr 336, .inr 337, .inr 338, .inr 339, .inr 340, .inr 341, .inr 342, .inr 343, .inr 344, .inr 345, .inr 346, .inr 347, .inr 348, .inr 349, .inr 350, .inr 351, .inr 352, .inr 353, .inr 354, .inr 355, .inr 356, .inr 357, .inr 358, .inr 359, .inr 360, .inr 361, .inr 362, .inr 363, .inr 364, .inr 365, .inr 366, .inr 367, .inr 368, .inr 369, .inr 370, .inr 371, .inr 372, .inr 373, .inr 374, .inr 375, .inr 376, .inr 377, .inr 378, .inr 379, .inr 380, .inr 381, .inr 382, .inr 383, .inr 384, .inr 385, .inr 386, .inr 387, .inr 388, .inr 389, .inr 390, .inr 391, .inr 392, .inr 393, .inr 394, .inr 395, .inr 396, .inr 397, .inr 398, .inr 399, .inr 400, .inr 401, .inr 402, .inr 403, .inr 404, .inr 405, .inr 406, .inr 407, .inr 408, .inr 409, .inr 410, .inr 411, .inr 412, .inr 413, .inr 414, .inr 415, .inr 416, .inr 417, .inr 418, .inr 419, .inr 420, .inr 421, .inr 422, .inr 423, .inr 424, .inr 425, .inr 426, .inr 427, .inr 428, .inr 429, .inr 430, .inr 431, .inr 432, .inr 433, .inr 434, .inr 435, .inr 436, .inr 437, .inr 438, .inr 439, .inr 440, .inr 441, .inr 442, .inr 443, .inr 444, .inr 445, .inr 446, .inr 447, .inr 448, .inr 449, .inr 450, .inr 451, .inr 452, .inr 453, .inr 454, .inr 455, .inr 456, .inr 457, .inr 458, .inr 459, .inr 460, .inr 461, .inr 462, .inr 463, .inr 464, .inr 465, .inr 466, .inr 467, .inr 468, .inr 469, .inr 470, .inr 471, .inr 472, .inr 473, .inr 474, .inr 475, .inr 476, .inr 477, .inr 478, .inr 479, .inr 480, .inr 481, .inr 482, .inr 483, .inr 484, .inr 485, .inr 486] (fun wx => Below v7.heap.size v7 wx)) (MeetH.go _ (by rfl) ?_) ?_
      rotate_left
      · intro _ _ _ _
        as_aux_lemma =>
        clear HB HBs
        have HB : Below v7.heap.size v7 v7 := Below.refl _ _
        have HBs : v7.heap.size ≤ v7.heap.size := Nat.le_refl _
        have HC := Lib.hid q.cs
        have HZ := Lib.hid q.zs
        have HW := Lib.hid q.zb
        clear q qpos h
        generalize (pl 3 gn).toNat = K at *
        go_wp2_with fail
        go_loopw [14, 15] (fun v i wr => ∃ k : Nat, k ≤ 4 ∧ i = .int .i64 k ∧ v = .int .i64 (zsum 3 K gn k) ∧ 0 ≤ zsum 3 K gn k ∧ zsum 3 K gn k ≤ 1000000000000000000 * (k : Int) ∧ Below v7.heap.size v7 wr) (fun _ i _ => 4 - (intOf i).toNat)
        case atStart => exact ⟨0, by omega, rfl, rfl, by simp [zsum], by simp [zsum], Below.refl _ _⟩
        case round =>
          obtain ⟨k, hk, rfl, rfl, s0, s1, hb⟩ := hrel
          by_cases hlt : k ≤ 3
          · have hki : (k : Int) ≤ 3 := by omega
            obtain ⟨e1, e2⟩ := HC.out k hlt
            obtain ⟨x0, x1⟩ := HW.out k hlt
            have HR : Hid (∀ v : Value, v = .int .i64 (zsum 3 K gn k + (W 3 K k gn : Int)) → v = .int .i64 (zsum 3 K gn (k + 1))) := Lib.hid fun v h => h
            have HR2 : Hid (zsum 3 K gn (k + 1) = zsum 3 K gn k + (W 3 K k gn : Int)) := Lib.hid rfl
            generalize (W 3 K k gn : Int) = x at e2 x0 x1 HR HR2
            have hw : IntKind.i64.wrap (zsum 3 K gn k + x) = zsum 3 K gn k + x := IntWalk.i64_in _ (by omega)
            clear HB HBs
            have HB := hb
            have HBs : v7.heap.size ≤ v7.heap.size := Nat.le_refl _
            clear hb
            have S0 := Lib.hid s0
            have S1 := Lib.hid s1
            clear s0 s1
            go_wp2_with fail
            refine (impl_CountSums_any 3 gn (k : Int) _).mono ?_
            rintro e v8 ⟨rfl, hb1⟩
            replace HB := below_go HB HBs hb1
            clear hb1
            simp only [e1, e2]
            clear e1 e2
            go_wp2_with fail
            go_roundw
            case rel =>
              have s0 := S0.out
              have s1 := S1.out
              have e := HR2.out
              exact ⟨k + 1, by omega, by go_num, HR.out _ rfl, by omega, by omega, HB⟩
            case measure => simp [intOf] <;> omega
          · have hki : ¬ (k : Int) ≤ 3 := by omega
            obtain rfl : k = 4 := by omega
            rw [HZ.out]
            go_wp2
            refine Met.intro ?_
            go_step
            refine MeetH.of ?_ ?_
            · exact hb
            repeat (first | refine Agr.skip ?_ | refine Agr.keep ?_ | exact Agr.nil)
      intro u9 v9 hb1
      replace ht := ht.on hb1
      replace hy' := hy'.on hb1
      replace HB := below_go HB HBs hb1
      clear hb1
      as_aux_lemma =>
      simp only [fillH]
      go_wp2_with fail
      refine Met.intro ?_
      go_step
      refine MeetH.of ?_ ?_
      · exact HB
      repeat (first | refine Agr.skip ?_ | refine Agr.keep ?_ | exact Agr.nil)
    · simp only [h]
      go_wp2_with fail
      refine Met.intro ?_
      go_step
      refine MeetH.of ?_ ?_
      · exact HB
      repeat (first | refine Agr.skip ?_ | refine Agr.keep ?_ | exact Agr.nil)
  intro u10 v10 hb1
  replace ht := ht.on hb1
  replace hy' := hy'.on hb1
  replace Ot := Ot.on hb1
  replace HB := below_go HB HBs hb1
  clear hb1
  as_aux_lemma =>
  simp only [fillH]
  clear Ot
  go_wp2_with fail
  refine (DrawNeedMost_any B' m' c' _ hy' (by omega)).mono ?_
  rintro e v11 ⟨⟨gs, gm, rfl⟩, hb1⟩
  replace ht := ht.on hb1
  replace hy' := hy'.on hb1
  replace HB := below_go HB HBs hb1
  clear hb1
  go_wp2_with fail
  refine (impl_NeedMost_any gs gm _ ht).mono ?_
  rintro e v12 ⟨Am, cm, rfl, Om, hb1⟩
  replace ht := ht.on hb1
  replace hy' := hy'.on hb1
  replace HB := below_go HB HBs hb1
  clear hb1
  go_wp2_with fail
  refine (spec_NeedMost_any gs gm _).mono ?_
  rintro e v13 ⟨Ad, cd, rfl, Od, hb1⟩
  replace ht := ht.on hb1
  replace hy' := hy'.on hb1
  replace Om := Om.on hb1
  replace HB := below_go HB HBs hb1
  clear hb1
  go_wp2_with fail
  refine (impl_GreatestNeed_any gs gm _ ht).mono ?_
  rintro e v14 ⟨rfl, hb1⟩
  replace ht := ht.on hb1
  replace hy' := hy'.on hb1
  replace Om := Om.on hb1
  replace Od := Od.on hb1
  replace HB := below_go HB HBs hb1
  clear hb1
  go_wp2_with fail
  refine (spec_GreatestNeed_any gs gm _).mono ?_
  rintro e v15 ⟨rfl, hb1⟩
  replace ht := ht.on hb1
  replace hy' := hy'.on hb1
  replace Om := Om.on hb1
  replace Od := Od.on hb1
  replace HB := below_go HB HBs hb1
  clear hb1
  go_wp2_with fail
  refine (impl_NoDifferentSum_any gs gm _).mono ?_
  rintro e v16 ⟨Az, cz, rfl, Oz, hb1⟩
  replace ht := ht.on hb1
  replace hy' := hy'.on hb1
  replace Om := Om.on hb1
  replace Od := Od.on hb1
  replace HB := below_go HB HBs hb1
  clear hb1
  go_wp2_with fail
  refine (spec_NoDifferentSum_any gs gm _).mono ?_
  rintro e v17 ⟨Ae, ce, rfl, Oe, hb1⟩
  replace ht := ht.on hb1
  replace hy' := hy'.on hb1
  replace Om := Om.on hb1
  replace Od := Od.on hb1
  replace Oz := Oz.on hb1
  replace HB := below_go HB HBs hb1
  clear hb1
  go_wp2_with fail
  refine (impl_CountDifferentSums_any gs gm _).mono ?_
  rintro e v18 ⟨rfl, hb1⟩
  replace ht := ht.on hb1
  replace hy' := hy'.on hb1
  replace Om := Om.on hb1
  replace Od := Od.on hb1
  replace Oz := Oz.on hb1
  replace Oe := Oe.on hb1
  replace HB := below_go HB HBs hb1
  clear hb1
  go_wp2_with fail
  refine (spec_CountDifferentSums_any gs gm _).mono ?_
  rintro e v19 ⟨rfl, hb1⟩
  replace ht := ht.on hb1
  replace hy' := hy'.on hb1
  replace Om := Om.on hb1
  replace Od := Od.on hb1
  replace Oz := Oz.on hb1
  replace Oe := Oe.on hb1
  replace HB := below_go HB HBs hb1
  clear hb1
  go_wp2_with fail
  refine (impl_FirstDifferentSum_any gs gm _).mono ?_
  rintro e v20 ⟨Au, cu, rfl, Ou, hb1⟩
  replace ht := ht.on hb1
  replace hy' := hy'.on hb1
  replace Om := Om.on hb1
  replace Od := Od.on hb1
  replace Oz := Oz.on hb1
  replace Oe := Oe.on hb1
  replace HB := below_go HB HBs hb1
  clear hb1
  go_wp2_with fail
  refine (spec_FirstDifferentSum_any gs gm _).mono ?_
  rintro e v21 ⟨Av, cv, rfl, Ov, hb1⟩
  replace ht := ht.on hb1
  replace hy' := hy'.on hb1
  replace Om := Om.on hb1
  replace Od := Od.on hb1
  replace Oz := Oz.on hb1
  replace Oe := Oe.on hb1
  replace Ou := Ou.on hb1
  replace HB := below_go HB HBs hb1
  clear hb1
  go_upto_region 34 with fail
  have hm9 := nm_len gs gm
  have hz9 := zf_len gs gm
  have hu9 := fd_len2 gs gm
  obtain ⟨bs, hbs⟩ : ∃ b : Bool, sfB gs gm = b := ⟨_, rfl⟩
  obtain ⟨bf, hbf⟩ : ∃ b : Bool, fdB gs gm = b := ⟨_, rfl⟩
  simp only [hbs, hbf]
  have HBS := Lib.hid hbs
  have HBF := Lib.hid hbf
  clear hbs hbf
  refine wp_cut (MeetH [.inr 0, .inl (.slice B' m' c'), .inr 2, .inr 3, .inr 4, .inr 5, .inr 6, .inr 7, .inr 8, .inr 9, .inr 10, .inr 11, .inr 12, .inr 13, .inr 14, .inr 15, .inr 16, .inr 17, .inl (.int .i64 (gs)), .inl (.int .i64 (gm)), .inl (.slice Am (nmL gs gm).length cm), .inl (.bool (bs)), .inr 22, .inr 23, .inl (.int .i64 (gnV gs gm)), .inr 25, .inr 26, .inr 27, .inl (.slice Az (zfL gs gm).length cz), .inr 29, .inr 30, .inr 31, .inl (.int .i64 (cdV gs gm)), .inr 33, .inr 34, .inr 35, .inl (.slice Au (fdL gs gm).length cu), .inl (.bool (bf)), .inr 38, .inr 39, .inr 40, .inr 41, .inr 42, .inr 43, .inr 44, .inr 45, .inr 46, .inr 47, .inr 48, .inr 49, .inr 50, .inr 51, .inr 52, .inr 53, .inr 54, .inr 55, .inr 56, .inr 57, .inr 58, .inr 59, .inr 60, .inr 61, .inr 62, .inr 63, .inr 64, .inr 65, .inr 66, .inr 67, .inr 68, .inr 69, .inr 70, .inr 71, .inr 72, .inr 73, .inr 74, .inr 75, .inr 76, .inr 77, .inr 78, .inr 79, .inr 80, .inr 81, .inr 82, .inr 83, .inr 84, .inr 85, .inr 86, .inr 87, .inr 88, .inr 89, .inr 90, .inr 91, .inr 92, .inr 93, .inr 94, .inr 95, .inr 96, .inr 97, .inr 98, .inr 99, .inr 100, .inr 101, .inr 102, .inr 103, .inr 104, .inr 105, .inr 106, .inr 107, .inr 108, .inr 109, .inr 110, .inr 111, .inr 112, .inr 113, .inr 114, .inr 115, .inr 116, .inr 117, .inr 118, .inr 119, .inr 120, .inr 121, .inr 122, .inr 123, .inr 124, .inr 125, .inr 126, .inr 127, .inr 128, .inr 129, .inr 130, .inr 131, .inr 132, .inr 133, .inr 134, .inr 135, .inr 136, .inr 137, .inr 138, .inr 139, .inr 140, .inr 141, .inr 142, .inr 143, .inr 144, .inr 145, .inr 146, .inr 147, .inr 148, .inr 149, .inr 150, .inr 151, .inr 152, .inr 153, .inr 154, .inr 155, .inr 156, .inr 157, .inr 158, .inr 159, .inr 160, .inr 161, .inr 162, .inr 163, .inr 164, .inr 165, .inr 166, .inr 167, .inr 168, .inr 169, .inr 170, .inr 171, .inr 172, .inr 173, .inr 174, .inr 175, .inr 176, .inr 177, .inr 178, .inr 179, .inr 180, .inr 181, .inr 182, .inr 183, .inr 184, .inr 185, .inr 186, .inr 187, .inr 188, .inr 189, .inr 190, .inr 191, .inr 192, .inr 193, .inr 194, .inr 195, .inr 196, .inr 197, .inr 198, .inr 199, .inr 200, .inr 201, .inr 202, .inr 203, .inr 204, .inr 205, .inr 206, .inr 207, .inr 208, .inr 209, .inr 210, .inr 211, .inr 212, .inr 213, .inr 214, .inr 215, .inr 216, .inr 217, .inr 218, .inr 219, .inr 220, .inr 221, .inr 222, .inr 223, .inr 224, .inr 225, .inr 226, .inr 227, .inr 228, .inr 229, .inr 230, .inr 231, .inr 232, .inr 233, .inr 234, .inr 235, .inr 236, .inr 237, .inr 238, .inr 239, .inr 240, .inr 241, .inr 242, .inr 243, .inr 244, .inr 245, .inr 246, .inr 247, .inr 248, .inr 249, .inr 250, .inr 251, .inr 252, .inr 253, .inr 254, .inr 255, .inr 256, .inr 257, .inr 258, .inr 259, .inr 260, .inr 261, .inr 262, .inr 263, .inr 264, .inr 265, .inr 266, .inr 267, .inr 268, .inr 269, .inr 270, .inr 271, .inr 272, .inr 273, .inr 274, .inr 275, .inr 276, .inr 277, .inr 278, .inr 279, .inr 280, .inr 281, .inr 282, .inr 283, .inr 284, .inr 285, .inr 286, .inr 287, .inr 288, .inr 289, .inl (.bool false), .inr 291, .inr 292, .inr 293, .inr 294, .inr 295, .inr 296, .inr 297, .inr 298, .inr 299, .inr 300, .inr 301, .inr 302, .inr 303, .inr 304, .inr 305, .inr 306, .inr 307, .inr 308, .inr 309, .inr 310, .inr 311, .inr 312, .inr 313, .inr 314, .inr 315, .inr 316, .inr 317, .inr 318, .inr 319, .inr 320, .inr 321, .inr 322, .inr 323, .inr 324, .inr 325, .inr 326, .inr 327, .inr 328, .inr 329, .inr 330, .inr 331, .inr 332, .inr 333, .inr 334, .inr 335, .inr 336, .inr 337, .inr 338, .inr 339, .inr 340, .inr 341, .inr 342, .inr 343, .inr 344, .inr 345, .inr 346, .inr 347, .inr 348, .inr 349, .inr 350, .inr 351, .inr 352, .inr 353, .inr 354, .inr 355, .inr 356, .inr 357, .inr 358, .inr 359, .inr 360, .inr 361, .inr 362, .inr 363, .inr 364, .inr 365, .inr 366, .inr 367, .inr 368, .inr 369, .inr 370, .inr 371, .inr 372, .inr 373, .inr 374, .inr 375, .inr 376, .inr 377, .inr 378, .inr 379, .inr 380, .inr 381, .inr 382, .inr 383, .inr 384, .inr 385, .inr 386, .inr 387, .inr 388, .inr 389, .inr 390, .inr 391, .inr 392, .inr 393, .inr 394, .inr 395, .inr 396, .inr 397, .inr 398, .inr 399, .inr 400, .inr 401, .inr 402, .inr 403, .inr 404, .inr 405, .inr 406, .inr 407, .inr 408, .inr 409, .inr 410, .inr 411, .inr 412, .inr 413, .inr 414, .inr 415, .inr 416, .inr 417, .inr 418, .inr 419, .inr 420, .inr 421, .inr 422, .inr 423, .inr 424, .inr 425, .inr 426, .inr 427, .inr 428, .inr 429, .inr 430, .inr 431, .inr 432, .inr 433, .inr 434, .inr 435, .inr 436, .inr 437, .inr 438, .inr 439, .inr 440, .inr 441, .inr 442, .inr 443, .inr 444, .inr 445, .inr 446, .inr 447, .inr 448, .inr 449, .inr 450, .inr 451, .inr 452, .inr 453, .inr 454, .inr 455, .inr 456, .inr 457, .inr 458, .inr 459, .inr 460, .inr 461, .inr 462, .inr 463, .inr 464, .inr 465, .inr 466, .inr 467, .inr 468, .inr 469, .inr 470, .inr 471, .inr 472, .inr 473, .inr 474, .inr 475, .inr 476, .inr 477, .inr 478, .inr 479, .inr 480, .inr 481, .inr 482, .inr 483, .inr 484, .inr 485, .inr 486] (fun wx => Below v21.heap.size v21 wx)) (MeetH.go _ (by rfl) ?_) ?_
  rotate_left
  · intro _ _ _ _
    as_aux_lemma =>
    clear HB HBs
    have HB : Below v21.heap.size v21 v21 := Below.refl _ _
    have HBs : v21.heap.size ≤ v21.heap.size := Nat.le_refl _
    cases bs
    · have h2 : fdB gs gm = false := by rw [fdB, HBS.out, cond_false]
      obtain rfl : bf = false := HBF.out.symm.trans h2
      clear h2 HBS HBF
      simp only [List.append]
      go_wp2_with fail
      refine (oSame_b Am Ad _ cm cd _ _ _ _ (nmL gs gm) _ rfl (by omega) Om Od).mono ?_
      rintro e v22 ⟨rfl, hb1⟩
      replace ht := ht.on hb1
      replace hy' := hy'.on hb1
      replace Om := Om.on hb1
      replace Od := Od.on hb1
      replace Oz := Oz.on hb1
      replace Oe := Oe.on hb1
      replace Ou := Ou.on hb1
      replace Ov := Ov.on hb1
      replace HB := below_go HB HBs hb1
      clear hb1
      go_wp2_with fail
      refine (oSame_b Az Ae _ cz ce _ _ _ _ (zfL gs gm) _ rfl (by omega) Oz Oe).mono ?_
      rintro e v23 ⟨rfl, hb1⟩
      replace ht := ht.on hb1
      replace hy' := hy'.on hb1
      replace Om := Om.on hb1
      replace Od := Od.on hb1
      replace Oz := Oz.on hb1
      replace Oe := Oe.on hb1
      replace Ou := Ou.on hb1
      replace Ov := Ov.on hb1
      replace HB := below_go HB HBs hb1
      clear hb1
      go_wp2_with fail
      refine (oSame_b Au Av _ cu cv _ _ _ _ (fdL gs gm) _ rfl (by omega) Ou Ov).mono ?_
      rintro e v24 ⟨rfl, hb1⟩
      replace ht := ht.on hb1
      replace hy' := hy'.on hb1
      replace Om := Om.on hb1
      replace Od := Od.on hb1
      replace Oz := Oz.on hb1
      replace Oe := Oe.on hb1
      replace Ou := Ou.on hb1
      replace Ov := Ov.on hb1
      replace HB := below_go HB HBs hb1
      clear hb1
      go_wp2_with fail
      refine Met.intro ?_
      go_step
      refine MeetH.of ?_ ?_
      · exact HB
      repeat (first | refine Agr.skip ?_ | refine Agr.keep ?_ | exact Agr.nil)
    · have e9 := (zf_of HBS.out).2.2
      cases bf
      · have hc : decide (0 < cdV gs gm) = false := e9.symm.trans HBF.out
        clear e9 HBS HBF
        simp only [List.append]
        go_wp2_with fail
        refine (oSame_b Am Ad _ cm cd _ _ _ _ (nmL gs gm) _ rfl (by omega) Om Od).mono ?_
        rintro e v25 ⟨rfl, hb1⟩
        replace ht := ht.on hb1
        replace hy' := hy'.on hb1
        replace Om := Om.on hb1
        replace Od := Od.on hb1
        replace Oz := Oz.on hb1
        replace Oe := Oe.on hb1
        replace Ou := Ou.on hb1
        replace Ov := Ov.on hb1
        replace HB := below_go HB HBs hb1
        clear hb1
        go_wp2_with fail
        refine (oSame_b Az Ae _ cz ce _ _ _ _ (zfL gs gm) _ rfl (by omega) Oz Oe).mono ?_
        rintro e v26 ⟨rfl, hb1⟩
        replace ht := ht.on hb1
        replace hy' := hy'.on hb1
        replace Om := Om.on hb1
        replace Od := Od.on hb1
        replace Oz := Oz.on hb1
        replace Oe := Oe.on hb1
        replace Ou := Ou.on hb1
        replace Ov := Ov.on hb1
        replace HB := below_go HB HBs hb1
        clear hb1
        go_wp2_with fail
        refine (oSame_b Au Av _ cu cv _ _ _ _ (fdL gs gm) _ rfl (by omega) Ou Ov).mono ?_
        rintro e v27 ⟨rfl, hb1⟩
        replace ht := ht.on hb1
        replace hy' := hy'.on hb1
        replace Om := Om.on hb1
        replace Od := Od.on hb1
        replace Oz := Oz.on hb1
        replace Oe := Oe.on hb1
        replace Ou := Ou.on hb1
        replace Ov := Ov.on hb1
        replace HB := below_go HB HBs hb1
        clear hb1
        go_wp2_with fail
        refine Met.intro ?_
        go_step
        refine MeetH.of ?_ ?_
        · exact HB
        repeat (first | refine Agr.skip ?_ | refine Agr.keep ?_ | exact Agr.nil)
      · have hc : 0 < cdV gs gm := of_decide_eq_true (e9.symm.trans HBF.out)
        clear e9 HBS HBF
        simp only [List.append]
        go_wp2_with fail
        refine (oSame_b Am Ad _ cm cd _ _ _ _ (nmL gs gm) _ rfl (by omega) Om Od).mono ?_
        rintro e v28 ⟨rfl, hb1⟩
        replace ht := ht.on hb1
        replace hy' := hy'.on hb1
        replace Om := Om.on hb1
        replace Od := Od.on hb1
        replace Oz := Oz.on hb1
        replace Oe := Oe.on hb1
        replace Ou := Ou.on hb1
        replace Ov := Ov.on hb1
        replace HB := below_go HB HBs hb1
        clear hb1
        go_wp2_with fail
        refine (oSame_b Az Ae _ cz ce _ _ _ _ (zfL gs gm) _ rfl (by omega) Oz Oe).mono ?_
        rintro e v29 ⟨rfl, hb1⟩
        replace ht := ht.on hb1
        replace hy' := hy'.on hb1
        replace Om := Om.on hb1
        replace Od := Od.on hb1
        replace Oz := Oz.on hb1
        replace Oe := Oe.on hb1
        replace Ou := Ou.on hb1
        replace Ov := Ov.on hb1
        replace HB := below_go HB HBs hb1
        clear hb1
        go_wp2_with fail
        refine (oSame_b Au Av _ cu cv _ _ _ _ (fdL gs gm) _ rfl (by omega) Ou Ov).mono ?_
        rintro e v30 ⟨rfl, hb1⟩
        replace ht := ht.on hb1
        replace hy' := hy'.on hb1
        replace Om := Om.on hb1
        replace Od := Od.on hb1
        replace Oz := Oz.on hb1
        replace Oe := Oe.on hb1
        replace Ou := Ou.on hb1
        replace Ov := Ov.on hb1
        replace HB := below_go HB HBs hb1
        clear hb1
        go_wp2_with fail
        refine Met.intro ?_
        go_step
        refine MeetH.of ?_ ?_
        · exact HB
        repeat (first | refine Agr.skip ?_ | refine Agr.keep ?_ | exact Agr.nil)
  intro u31 v31 hb1
  replace ht := ht.on hb1
  replace hy' := hy'.on hb1
  replace Om := Om.on hb1
  replace Od := Od.on hb1
  replace Oz := Oz.on hb1
  replace Oe := Oe.on hb1
  replace Ou := Ou.on hb1
  replace Ov := Ov.on hb1
  replace HB := below_go HB HBs hb1
  clear hb1
  as_aux_lemma =>
  simp only [fillH]
  clear Od Oe Ov
  go_upto_if 291 with fail
  refine wp_cut (MeetH [.inr 0, .inl (.slice B' m' c'), .inr 2, .inr 3, .inr 4, .inr 5, .inr 6, .inr 7, .inr 8, .inr 9, .inr 10, .inr 11, .inr 12, .inr 13, .inr 14, .inr 15, .inr 16, .inr 17, .inl (.int .i64 (gs)), .inl (.int .i64 (gm)), .inr 20, .inr 21, .inr 22, .inr 23, .inr 24, .inr 25, .inr 26, .inr 27, .inr 28, .inr 29, .inr 30, .inr 31, .inr 32, .inr 33, .inr 34, .inr 35, .inl (.slice Au (fdL gs gm).length cu), .inl (.bool (bf)), .inr 38, .inr 39, .inr 40, .inr 41, .inr 42, .inr 43, .inr 44, .inr 45, .inr 46, .inr 47, .inr 48, .inr 49, .inr 50, .inr 51, .inr 52, .inr 53, .inr 54, .inr 55, .inr 56, .inr 57, .inr 58, .inr 59, .inr 60, .inr 61, .inr 62, .inr 63, .inr 64, .inr 65, .inr 66, .inr 67, .inr 68, .inr 69, .inr 70, .inr 71, .inr 72, .inr 73, .inr 74, .inr 75, .inr 76, .inr 77, .inr 78, .inr 79, .inr 80, .inr 81, .inr 82, .inr 83, .inr 84, .inr 85, .inr 86, .inr 87, .inr 88, .inr 89, .inr 90, .inr 91, .inr 92, .inr 93, .inr 94, .inr 95, .inr 96, .inr 97, .inr 98, .inr 99, .inr 100, .inr 101, .inr 102, .inr 103, .inr 104, .inr 105, .inr 106, .inr 107, .inr 108, .inr 109, .inr 110, .inr 111, .inr 112, .inr 113, .inr 114, .inr 115, .inr 116, .inr 117, .inr 118, .inr 119, .inr 120, .inr 121, .inr 122, .inr 123, .inr 124, .inr 125, .inr 126, .inr 127, .inr 128, .inr 129, .inr 130, .inr 131, .inr 132, .inr 133, .inr 134, .inr 135, .inr 136, .inr 137, .inr 138, .inr 139, .inr 140, .inr 141, .inr 142, .inr 143, .inr 144, .inr 145, .inr 146, .inr 147, .inr 148, .inr 149, .inr 150, .inr 151, .inr 152, .inr 153, .inr 154, .inr 155, .inr 156, .inr 157, .inr 158, .inr 159, .inr 160, .inr 161, .inr 162, .inr 163, .inr 164, .inr 165, .inr 166, .inr 167, .inr 168, .inr 169, .inr 170, .inr 171, .inr 172, .inr 173, .inr 174, .inr 175, .inr 176, .inr 177, .inr 178, .inr 179, .inr 180, .inr 181, .inr 182, .inr 183, .inr 184, .inr 185, .inr 186, .inr 187, .inr 188, .inr 189, .inr 190, .inr 191, .inr 192, .inr 193, .inr 194, .inr 195, .inr 196, .inr 197, .inr 198, .inr 199, .inr 200, .inr 201, .inr 202, .inr 203, .inr 204, .inr 205, .inr 206, .inr 207, .inr 208, .inr 209, .inr 210, .inr 211, .inr 212, .inr 213, .inr 214, .inr 215, .inr 216, .inr 217, .inr 218, .inr 219, .inr 220, .inr 221, .inr 222, .inr 223, .inr 224, .inr 225, .inr 226, .inr 227, .inr 228, .inr 229, .inr 230, .inr 231, .inr 232, .inr 233, .inr 234, .inr 235, .inr 236, .inr 237, .inr 238, .inr 239, .inr 240, .inr 241, .inr 242, .inr 243, .inr 244, .inr 245, .inr 246, .inr 247, .inr 248, .inr 249, .inr 250, .inr 251, .inr 252, .inr 253, .inr 254, .inr 255, .inr 256, .inr 257, .inr 258, .inr 259, .inr 260, .inr 261, .inr 262, .inr 263, .inr 264, .inr 265, .inr 266, .inr 267, .inr 268, .inr 269, .inr 270, .inr 271, .inr 272, .inr 273, .inr 274, .inr 275, .inr 276, .inr 277, .inr 278, .inr 279, .inr 280, .inr 281, .inr 282, .inr 283, .inr 284, .inr 285, .inr 286, .inr 287, .inr 288, .inr 289, .inr 290, .inr 291, .inr 292, .inr 293, .inr 294, .inr 295, .inr 296, .inr 297, .inr 298, .inr 299, .inr 300, .inr 301, .inr 302, .inr 303, .inr 304, .inr 305, .inr 306, .inr 307, .inr 308, .inr 309, .inr 310, .inr 311, .inr 312, .inr 313, .inr 314, .inr 315, .inr 316, .inr 317, .inr 318, .inr 319, .inr 320, .inr 321, .inr 322, .inr 323, .inr 324, .inr 325, .inr 326, .inr 327, .inr 328, .inr 329, .inr 330, .inr 331, .inr 332, .inr 333, .inr 334, .inr 335, .inr 336, .inr 337, .inr 338, .inr 339, .inr 340, .inr 341, .inr 342, .inr 343, .inr 344, .inr 345, .inr 346, .inr 347, .inr 348, .inr 349, .inr 350, .inr 351, .inr 352, .inr 353, .inr 354, .inr 355, .inr 356, .inr 357, .inr 358, .inr 359, .inr 360, .inr 361, .inr 362, .inr 363, .inr 364, .inr 365, .inr 366, .inr 367, .inr 368, .inr 369, .inr 370, .inr 371, .inr 372, .inr 373, .inr 374, .inr 375, .inr 376, .inr 377, .inr 378, .inr 379, .inr 380, .inr 381, .inr 382, .inr 383, .inr 384, .inr 385, .inr 386, .inr 387, .inr 388, .inr 389, .inr 390, .inr 391, .inr 392, .inr 393, .inr 394, .inr 395, .inr 396, .inr 397, .inr 398, .inr 399, .inr 400, .inr 401, .inr 402, .inr 403, .inr 404, .inr 405, .inr 406, .inr 407, .inr 408, .inr 409, .inr 410, .inr 411, .inr 412, .inr 413, .inr 414, .inr 415, .inr 416, .inr 417, .inr 418, .inr 419, .inr 420, .inr 421, .inr 422, .inr 423, .inr 424, .inr 425, .inr 426, .inr 427, .inr 428, .inr 429, .inr 430, .inr 431, .inr 432, .inr 433, .inr 434, .inr 435, .inr 436, .inr 437, .inr 438, .inr 439, .inr 440, .inr 441, .inr 442, .inr 443, .inr 444, .inr 445, .inr 446, .inr 447, .inr 448, .inr 449, .inr 450, .inr 451, .inr 452, .inr 453, .inr 454, .inr 455, .inr 456, .inr 457, .inr 458, .inr 459, .inr 460, .inr 461, .inr 462, .inr 463, .inr 464, .inr 465, .inr 466, .inr 467, .inr 468, .inr 469, .inr 470, .inr 471, .inr 472, .inr 473, .inr 474, .inr 475, .inr 476, .inr 477, .inr 478, .inr 479, .inr 480, .inr 481, .inr 482, .inr 483, .inr 484, .inr 485, .inr 486] (fun wx => Below v31.heap.size v31 wx)) (MeetH.go _ (by rfl) ?_) ?_
  rotate_left
  · intro _ _ _ _
    as_aux_lemma =>
    clear HB HBs
    have HB : Below v31.heap.size v31 v31 := Below.refl _ _
    have HBs : v31.heap.size ≤ v31.heap.size := Nat.le_refl _
    rcases Bool.eq_false_or_eq_true (bs) with h | h
    · simp only [h]
      replace h := HBS.out.trans h
      clear HBS HBF
      have q := nm_of h
      obtain ⟨z1, z2, _⟩ := zf_of h
      have hgs : ¬ gs < gnV gs gm := by have := q.le; omega
      obtain ⟨N, hN⟩ : ∃ N, (nmL gs gm).length = N := ⟨_, rfl⟩
      have hqe := q.eq
      rw [hN] at hqe hm9
      simp only [hN]
      go_upto_region 37 with fail
      refine wp_cut (MeetH [.inr 0, .inl (.slice B' m' c'), .inr 2, .inr 3, .inr 4, .inr 5, .inr 6, .inr 7, .inr 8, .inr 9, .inr 10, .inr 11, .inr 12, .inr 13, .inr 14, .inr 15, .inr 16, .inr 17, .inl (.int .i64 (gs)), .inl (.int .i64 (gm)), .inl (.slice Am N cm), .inr 21, .inr 22, .inr 23, .inr 24, .inr 25, .inr 26, .inr 27, .inr 28, .inr 29, .inr 30, .inr 31, .inr 32, .inr 33, .inr 34, .inr 35, .inl (.slice Au (fdL gs gm).length cu), .inl (.bool (bf)), .inr 38, .inr 39, .inr 40, .inr 41, .inr 42, .inr 43, .inr 44, .inr 45, .inr 46, .inr 47, .inr 48, .inr 49, .inr 50, .inr 51, .inr 52, .inr 53, .inr 54, .inr 55, .inr 56, .inr 57, .inr 58, .inr 59, .inr 60, .inr 61, .inr 62, .inr 63, .inr 64, .inr 65, .inr 66, .inr 67, .inr 68, .inr 69, .inr 70, .inr 71, .inr 72, .inr 73, .inr 74, .inr 75, .inr 76, .inr 77, .inr 78, .inr 79, .inr 80, .inr 81, .inr 82, .inr 83, .inr 84, .inr 85, .inr 86, .inr 87, .inr 88, .inr 89, .inr 90, .inr 91, .inr 92, .inr 93, .inr 94, .inr 95, .inr 96, .inr 97, .inr 98, .inr 99, .inr 100, .inr 101, .inr 102, .inr 103, .inr 104, .inr 105, .inr 106, .inr 107, .inr 108, .inr 109, .inr 110, .inr 111, .inr 112, .inr 113, .inr 114, .inr 115, .inr 116, .inr 117, .inr 118, .inr 119, .inr 120, .inr 121, .inr 122, .inr 123, .inr 124, .inr 125, .inr 126, .inr 127, .inr 128, .inr 129, .inr 130, .inr 131, .inr 132, .inr 133, .inr 134, .inr 135, .inr 136, .inr 137, .inr 138, .inr 139, .inr 140, .inr 141, .inr 142, .inr 143, .inr 144, .inr 145, .inr 146, .inr 147, .inr 148, .inr 149, .inr 150, .inr 151, .inr 152, .inr 153, .inr 154, .inr 155, .inr 156, .inr 157, .inr 158, .inr 159, .inr 160, .inr 161, .inr 162, .inr 163, .inr 164, .inr 165, .inr 166, .inr 167, .inr 168, .inr 169, .inr 170, .inr 171, .inr 172, .inr 173, .inr 174, .inr 175, .inr 176, .inr 177, .inr 178, .inr 179, .inr 180, .inr 181, .inr 182, .inr 183, .inr 184, .inr 185, .inr 186, .inr 187, .inr 188, .inr 189, .inr 190, .inr 191, .inr 192, .inr 193, .inr 194, .inr 195, .inr 196, .inr 197, .inr 198, .inr 199, .inr 200, .inr 201, .inr 202, .inr 203, .inr 204, .inr 205, .inr 206, .inr 207, .inr 208, .inr 209, .inr 210, .inr 211, .inr 212, .inr 213, .inr 214, .inr 215, .inr 216, .inr 217, .inr 218, .inr 219, .inr 220, .inr 221, .inr 222, .inr 223, .inr 224, .inr 225, .inr 226, .inr 227, .inr 228, .inr 229, .inr 230, .inr 231, .inr 232, .inr 233, .inr 234, .inr 235, .inr 236, .inr 237, .inr 238, .inr 239, .inr 240, .inr 241, .inr 242, .inr 243, .inr 244, .inr 245, .inr 246, .inr 247, .inr 248, .inr 249, .inr 250, .inr 251, .inr 252, .inr 253, .inr 254, .inr 255, .inr 256, .inr 257, .inr 258, .inr 259, .inr 260, .inr 261, .inr 262, .inr 263, .inr 264, .inr 265, .inr 266, .inr 267, .inr 268, .inr 269, .inr 270, .inr 271, .inr 272, .inr 273, .inr 274, .inr 275, .inr 276, .inr 277, .inr 278, .inr 279, .inr 280, .inr 281, .inr 282, .inr 283, .inr 284, .inr 285, .inr 286, .inr 287, .inr 288, .inr 289, .inr 290, .inr 291, .inr 292, .inr 293, .inr 294, .inr 295, .inr 296, .inr 297, .inr 298, .inr 299, .inr 300, .inr 301, .inr 302, .inr 303, .inr 304, .inr 305, .inr 306, .inr 307, .inr 308, .inr 309, .inr 310, .inr 311, .inr 312, .inr 313, .inr 314, .inl (.bool false), .inr 316, .inr 317, .inr 318, .inr 319, .inr 320, .inr 321, .inr 322, .inr 323, .inr 324, .inr 325, .inr 326, .inr 327, .inr 328, .inr 329, .inr 330, .inr 331, .inr 332, .inr 333, .inr 334, .inr 335, .inr 336, .inr 337, .inr 338, .inr 339, .inr 340, .inr 341, .inr 342, .inr 343, .inr 344, .inr 345, .inr 346, .inr 347, .inr 348, .inr 349, .inr 350, .inr 351, .inr 352, .inr 353, .inr 354, .inr 355, .inr 356, .inr 357, .inr 358, .inr 359, .inr 360, .inr 361, .inr 362, .inr 363, .inr 364, .inr 365, .inr 366, .inr 367, .inr 368, .inr 369, .inr 370, .inr 371, .inr 372, .inr 373, .inr 374, .inr 375, .inr 376, .inr 377, .inr 378, .inr 379, .inr 380, .inr 381, .inr 382, .inr 383, .inr 384, .inr 385, .inr 386, .inr 387, .inr 388, .inr 389, .inr 390, .inr 391, .inr 392, .inr 393, .inr 394, .inr 395, .inr 396, .inr 397, .inr 398, .inr 399, .inr 400, .inr 401, .inr 402, .inr 403, .inr 404, .inr 405, .inr 406, .inr 407, .inr 408, .inr 409, .inr 410, .inr 411, .inr 412, .inr 413, .inr 414, .inr 415, .inr 416, .inr 417, .inr 418, .inr 419, .inr 420, .inr 421, .inr 422, .inr 423, .inr 424, .inr 425, .inr 426, .inr 427, .inr 428, .inr 429, .inr 430, .inr 431, .inr 432, .inr 433, .inr 434, .inr 435, .inr 436, .inr 437, .inr 438, .inr 439, .inr 440, .inr 441, .inr 442, .inr 443, .inr 444, .inr 445, .inr 446, .inr 447, .inr 448, .inr 449, .inr 450, .inr 451, .inr 452, .inr 453, .inr 454, .inr 455, .inr 456, .inr 457, .inr 458, .inr 459, .inr 460, .inr 461, .inr 462, .inr 463, .inr 464, .inr 465, .inr 466, .inr 467, .inr 468, .inr 469, .inr 470, .inr 471, .inr 472, .inr 473, .inr 474, .inr 475, .inr 476, .inr 477, .inr 478, .inr 479, .inr 480, .inr 481, .inr 482, .inr 483, .inr 484, .inr 485, .inr 486] (fun wx => Below v31.heap.size v31 wx)) (MeetH.go _ (by rfl) ?_) ?_
      rotate_left
      · intro _ _ _ _
        as_aux_lemma =>
        clear HB HBs
        have HB : Below v31.heap.size v31 v31 := Below.refl _ _
        have HBs : v31.heap.size ≤ v31.heap.size := Nat.le_refl _
        clear q hN h
        rcases Nat.eq_zero_or_pos N with rfl | hN0
        · replace hqe := hqe.trans (decide_eq_false (by omega))
          rcases Bool.eq_false_or_eq_true (cdV gs gm == 0) with hz | hz
          · skip
            have hz3 := z1.trans hz
            clear z1
            go_wp2_with fail
            refine (oHas_b Az _ cz _ _ (zfL gs gm) gm _ rfl (by omega) Oz true hz3).mono ?_
            rintro e v32 ⟨rfl, hb1⟩
            replace ht := ht.on hb1
            replace hy' := hy'.on hb1
            replace Om := Om.on hb1
            replace Oz := Oz.on hb1
            replace Ou := Ou.on hb1
            replace HB := below_go HB HBs hb1
            clear hb1
            go_wp2_with fail
            refine (oHas_b Az _ cz _ _ (zfL gs gm) 0 _ rfl (by omega) Oz false z2).mono ?_
            rintro e v33 ⟨rfl, hb1⟩
            replace ht := ht.on hb1
            replace hy' := hy'.on hb1
            replace Om := Om.on hb1
            replace Oz := Oz.on hb1
            replace Ou := Ou.on hb1
            replace HB := below_go HB HBs hb1
            clear hb1
            go_wp2_with fail
            refine Met.intro ?_
            go_step
            refine MeetH.of ?_ ?_
            · exact HB
            repeat (first | refine Agr.skip ?_ | refine Agr.keep ?_ | exact Agr.nil)
          · skip
            have hz3 := z1.trans hz
            clear z1
            go_wp2_with fail
            refine (oHas_b Az _ cz _ _ (zfL gs gm) gm _ rfl (by omega) Oz false hz3).mono ?_
            rintro e v34 ⟨rfl, hb1⟩
            replace ht := ht.on hb1
            replace hy' := hy'.on hb1
            replace Om := Om.on hb1
            replace Oz := Oz.on hb1
            replace Ou := Ou.on hb1
            replace HB := below_go HB HBs hb1
            clear hb1
            go_wp2_with fail
            refine (oHas_b Az _ cz _ _ (zfL gs gm) 0 _ rfl (by omega) Oz false z2).mono ?_
            rintro e v35 ⟨rfl, hb1⟩
            replace ht := ht.on hb1
            replace hy' := hy'.on hb1
            replace Om := Om.on hb1
            replace Oz := Oz.on hb1
            replace Ou := Ou.on hb1
            replace HB := below_go HB HBs hb1
            clear hb1
            go_wp2_with fail
            refine Met.intro ?_
            go_step
            refine MeetH.of ?_ ?_
            · exact HB
            repeat (first | refine Agr.skip ?_ | refine Agr.keep ?_ | exact Agr.nil)
        · have hN1 : (0 : Int) < (N : Int) := by omega
          rw [decide_eq_true hN1] at hqe
          clear hN0
          rcases Bool.eq_false_or_eq_true (cdV gs gm == 0) with hz | hz
          · skip
            have hz3 := z1.trans hz
            clear z1
            go_wp2_with fail
            refine (oHas_b Az _ cz _ _ (zfL gs gm) gm _ rfl (by omega) Oz true hz3).mono ?_
            rintro e v36 ⟨rfl, hb1⟩
            replace ht := ht.on hb1
            replace hy' := hy'.on hb1
            replace Om := Om.on hb1
            replace Oz := Oz.on hb1
            replace Ou := Ou.on hb1
            replace HB := below_go HB HBs hb1
            clear hb1
            go_wp2_with fail
            refine (oHas_b Az _ cz _ _ (zfL gs gm) 0 _ rfl (by omega) Oz false z2).mono ?_
            rintro e v37 ⟨rfl, hb1⟩
            replace ht := ht.on hb1
            replace hy' := hy'.on hb1
            replace Om := Om.on hb1
            replace Oz := Oz.on hb1
            replace Ou := Ou.on hb1
            replace HB := below_go HB HBs hb1
            clear hb1
            go_wp2_with fail
            refine Met.intro ?_
            go_step
            refine MeetH.of ?_ ?_
            · exact HB
            repeat (first | refine Agr.skip ?_ | refine Agr.keep ?_ | exact Agr.nil)
          · skip
            have hz3 := z1.trans hz
            clear z1
            go_wp2_with fail
            refine (oHas_b Az _ cz _ _ (zfL gs gm) gm _ rfl (by omega) Oz false hz3).mono ?_
            rintro e v38 ⟨rfl, hb1⟩
            replace ht := ht.on hb1
            replace hy' := hy'.on hb1
            replace Om := Om.on hb1
            replace Oz := Oz.on hb1
            replace Ou := Ou.on hb1
            replace HB := below_go HB HBs hb1
            clear hb1
            go_wp2_with fail
            refine (oHas_b Az _ cz _ _ (zfL gs gm) 0 _ rfl (by omega) Oz false z2).mono ?_
            rintro e v39 ⟨rfl, hb1⟩
            replace ht := ht.on hb1
            replace hy' := hy'.on hb1
            replace Om := Om.on hb1
            replace Oz := Oz.on hb1
            replace Ou := Ou.on hb1
            replace HB := below_go HB HBs hb1
            clear hb1
            go_wp2_with fail
            refine Met.intro ?_
            go_step
            refine MeetH.of ?_ ?_
            · exact HB
            repeat (first | refine Agr.skip ?_ | refine Agr.keep ?_ | exact Agr.nil)
      intro u40 v40 hb1
      replace ht := ht.on hb1
      replace hy' := hy'.on hb1
      replace Om := Om.on hb1
      replace Oz := Oz.on hb1
      replace Ou := Ou.on hb1
      replace HB := below_go HB HBs hb1
      clear hb1
      as_aux_lemma =>
      simp only [fillH]
      clear Oz Ou
      clear hqe hgs z1 z2 hz9 hu9
      go_upto_block 2 with fail
      have HO := Lib.hid Om
      have HT := Lib.hid ht
      have HQ := Lib.hid q
      have HH := Lib.hid h
      have HN := Lib.hid hN
      clear Om ht q h hN
      go_wp2_with fail
      go_loopw [318] (fun i wr => ∃ k : Nat, k ≤ N ∧ i = .int .i64 k ∧ Below v40.heap.size v40 wr) (fun i _ => N - (intOf i).toNat)
      case atStart => exact ⟨0, by omega, rfl, Below.refl _ _⟩
      case round =>
        obtain ⟨k, hk, rfl, hb⟩ := hrel
        by_cases hlt : k < N
        · have hlk : k < (nmL gs gm).length := by rw [HN.out]; exact hlt
          have Ow := HO.out.on hb
          have htw := HT.out.on hb
          obtain ⟨g, o, rfl, -⟩ := Ow (by simp only [List.length_map]; omega)
          have hki : (k : Int) < (N : Int) := by omega
          have ck := own_get Ow (k := k) hlk
          obtain ⟨x0, x1, x2⟩ := HQ.out.el k hlk
          have HF := Lib.hid fun (hk0 : 0 < k) => (show (nmL gs gm).getD (k - 1) 0 < (nmL gs gm).getD k 0 by have := HQ.out.up (k - 1) (by rw [HN.out]; omega); rwa [Nat.sub_add_cancel hk0] at this)
          generalize (nmL gs gm).getD k 0 = x at ck x0 x1 x2 HF
          obtain ⟨e1, e2⟩ := fw_of HH.out x0 x1 x2
          clear x0 x1 x2
          clear HB HBs
          have HB := hb
          have HBs : v40.heap.size ≤ v40.heap.size := Nat.le_refl _
          clear hb
          go_wp2_with fail
          refine (impl_FewestParts_any gs x _ htw).mono ?_
          rintro e v41 ⟨rfl, hb1⟩
          replace Ow := Ow.on hb1
          replace HB := below_go HB HBs hb1
          clear hb1
          clear ck htw
          simp only [e1, e2]
          clear e1 e2
          rcases Nat.eq_zero_or_pos k with hk0 | hk0
          · have hk0i : ¬ (0 : Int) < (k : Int) := by omega
            clear hk0
            go_wp2_with fail
            go_roundw
            case rel => exact ⟨k + 1, by omega, by go_num, HB⟩
            case measure => simp [intOf]; omega
          · have hk0i : (0 : Int) < (k : Int) := by omega
            have hf := HF.out hk0
            have c1 := own_get Ow (k := k - 1) (by omega)
            generalize (nmL gs gm).getD (k - 1) 0 = z at hf c1
            have hzx : ¬ x ≤ z := by omega
            have i1 : IntKind.i64.wrap ((k : Int) - 1) = (k : Int) - 1 := IntWalk.i64_in _ (by omega)
            have i2 : (0 : Int) ≤ (k : Int) - 1 := by omega
            have i3 : (k : Int) - 1 < (N : Int) := by omega
            have i4 : ((k : Int) - 1).toNat = k - 1 := by omega
            clear hk0 hf HF
            go_wp2_with fail
            go_roundw
            case rel => exact ⟨k + 1, by omega, by go_num, HB⟩
            case measure => simp [intOf]; omega
        · have hki : ¬ (k : Int) < (N : Int) := by omega
          go_wp2
          refine Met.intro ?_
          go_step
          refine MeetH.of ?_ ?_
          · exact (below_go HB HBs hb)
          repeat (first | refine Agr.skip ?_ | refine Agr.keep ?_ | exact Agr.nil)
    · simp only [h]
      go_wp2_with fail
      refine Met.intro ?_
      go_step
      refine MeetH.of ?_ ?_
      · exact HB
      repeat (first | refine Agr.skip ?_ | refine Agr.keep ?_ | exact Agr.nil)
  intro u42 v42 hb1
  replace ht := ht.on hb1
  replace hy' := hy'.on hb1
  replace Om := Om.on hb1
  replace Oz := Oz.on hb1
  replace Ou := Ou.on hb1
  replace HB := below_go HB HBs hb1
  clear hb1
  as_aux_lemma =>
  simp only [fillH]
  clear Om Oz ht
  clear hm9 hz9 HBS
  go_upto_if 350 with fail
  refine wp_cut (MeetH [.inr 0, .inl (.slice B' m' c'), .inr 2, .inr 3, .inr 4, .inr 5, .inr 6, .inr 7, .inr 8, .inr 9, .inr 10, .inr 11, .inr 12, .inr 13, .inr 14, .inr 15, .inr 16, .inr 17, .inr 18, .inr 19, .inr 20, .inr 21, .inr 22, .inr 23, .inr 24, .inr 25, .inr 26, .inr 27, .inr 28, .inr 29, .inr 30, .inr 31, .inr 32, .inr 33, .inr 34, .inr 35, .inr 36, .inr 37, .inr 38, .inr 39, .inr 40, .inr 41, .inr 42, .inr 43, .inr 44, .inr 45, .inr 46, .inr 47, .inr 48, .inr 49, .inr 50, .inr 51, .inr 52, .inr 53, .inr 54, .inr 55, .inr 56, .inr 57, .inr 58, .inr 59, .inr 60, .inr 61, .inr 62, .inr 63, .inr 64, .inr 65, .inr 66, .inr 67, .inr 68, .inr 69, .inr 70, .inr 71, .inr 72, .inr 73, .inr 74, .inr 75, .inr 76, .inr 77, .inr 78, .inr 79, .inr 80, .inr 81, .inr 82, .inr 83, .inr 84, .inr 85, .inr 86, .inr 87, .inr 88, .inr 89, .inr 90, .inr 91, .inr 92, .inr 93, .inr 94, .inr 95, .inr 96, .inr 97, .inr 98, .inr 99, .inr 100, .inr 101, .inr 102, .inr 103, .inr 104, .inr 105, .inr 106, .inr 107, .inr 108, .inr 109, .inr 110, .inr 111, .inr 112, .inr 113, .inr 114, .inr 115, .inr 116, .inr 117, .inr 118, .inr 119, .inr 120, .inr 121, .inr 122, .inr 123, .inr 124, .inr 125, .inr 126, .inr 127, .inr 128, .inr 129, .inr 130, .inr 131, .inr 132, .inr 133, .inr 134, .inr 135, .inr 136, .inr 137, .inr 138, .inr 139, .inr 140, .inr 141, .inr 142, .inr 143, .inr 144, .inr 145, .inr 146, .inr 147, .inr 148, .inr 149, .inr 150, .inr 151, .inr 152, .inr 153, .inr 154, .inr 155, .inr 156, .inr 157, .inr 158, .inr 159, .inr 160, .inr 161, .inr 162, .inr 163, .inr 164, .inr 165, .inr 166, .inr 167, .inr 168, .inr 169, .inr 170, .inr 171, .inr 172, .inr 173, .inr 174, .inr 175, .inr 176, .inr 177, .inr 178, .inr 179, .inr 180, .inr 181, .inr 182, .inr 183, .inr 184, .inr 185, .inr 186, .inr 187, .inr 188, .inr 189, .inr 190, .inr 191, .inr 192, .inr 193, .inr 194, .inr 195, .inr 196, .inr 197, .inr 198, .inr 199, .inr 200, .inr 201, .inr 202, .inr 203, .inr 204, .inr 205, .inr 206, .inr 207, .inr 208, .inr 209, .inr 210, .inr 211, .inr 212, .inr 213, .inr 214, .inr 215, .inr 216, .inr 217, .inr 218, .inr 219, .inr 220, .inr 221, .inr 222, .inr 223, .inr 224, .inr 225, .inr 226, .inr 227, .inr 228, .inr 229, .inr 230, .inr 231, .inr 232, .inr 233, .inr 234, .inr 235, .inr 236, .inr 237, .inr 238, .inr 239, .inr 240, .inr 241, .inr 242, .inr 243, .inr 244, .inr 245, .inr 246, .inr 247, .inr 248, .inr 249, .inr 250, .inr 251, .inr 252, .inr 253, .inr 254, .inr 255, .inr 256, .inr 257, .inr 258, .inr 259, .inr 260, .inr 261, .inr 262, .inr 263, .inr 264, .inr 265, .inr 266, .inr 267, .inr 268, .inr 269, .inr 270, .inr 271, .inr 272, .inr 273, .inr 274, .inr 275, .inr 276, .inr 277, .inr 278, .inr 279, .inr 280, .inr 281, .inr 282, .inr 283, .inr 284, .inr 285, .inr 286, .inr 287, .inr 288, .inr 289, .inr 290, .inr 291, .inr 292, .inr 293, .inr 294, .inr 295, .inr 296, .inr 297, .inr 298, .inr 299, .inr 300, .inr 301, .inr 302, .inr 303, .inr 304, .inr 305, .inr 306, .inr 307, .inr 308, .inr 309, .inr 310, .inr 311, .inr 312, .inr 313, .inr 314, .inr 315, .inr 316, .inr 317, .inr 318, .inr 319, .inr 320, .inr 321, .inr 322, .inr 323, .inr 324, .inr 325, .inr 326, .inr 327, .inr 328, .inr 329, .inr 330, .inr 331, .inr 332, .inr 333, .inr 334, .inr 335, .inr 336, .inr 337, .inr 338, .inr 339, .inr 340, .inr 341, .inr 342, .inr 343, .inr 344, .inr 345, .inr 346, .inr 347, .inr 348, .inr 349, .inr 350, .inr 351, .inr 352, .inr 353, .inr 354, .inr 355, .inr 356, .inr 357, .inr 358, .inr 359, .inr 360, .inr 361, .inr 362, .inr 363, .inr 364, .inr 365, .inr 366, .inr 367, .inr 368, .inr 369, .inr 370, .inr 371, .inr 372, .inr 373, .inr 374, .inr 375, .inr 376, .inr 377, .inr 378, .inr 379, .inr 380, .inr 381, .inr 382, .inr 383, .inr 384, .inr 385, .inr 386, .inr 387, .inr 388, .inr 389, .inr 390, .inr 391, .inr 392, .inr 393, .inr 394, .inr 395, .inr 396, .inr 397, .inr 398, .inr 399, .inr 400, .inr 401, .inr 402, .inr 403, .inr 404, .inr 405, .inr 406, .inr 407, .inr 408, .inr 409, .inr 410, .inr 411, .inr 412, .inr 413, .inr 414, .inr 415, .inr 416, .inr 417, .inr 418, .inr 419, .inr 420, .inr 421, .inr 422, .inr 423, .inr 424, .inr 425, .inr 426, .inr 427, .inr 428, .inr 429, .inr 430, .inr 431, .inr 432, .inr 433, .inr 434, .inr 435, .inr 436, .inr 437, .inr 438, .inr 439, .inr 440, .inr 441, .inr 442, .inr 443, .inr 444, .inr 445, .inr 446, .inr 447, .inr 448, .inr 449, .inr 450, .inr 451, .inr 452, .inr 453, .inr 454, .inr 455, .inr 456, .inr 457, .inr 458, .inr 459, .inr 460, .inr 461, .inr 462, .inr 463, .inr 464, .inr 465, .inr 466, .inr 467, .inr 468, .inr 469, .inr 470, .inr 471, .inr 472, .inr 473, .inr 474, .inr 475, .inr 476, .inr 477, .inr 478, .inr 479, .inr 480, .inr 481, .inr 482, .inr 483, .inr 484, .inr 485, .inr 486] (fun wx => Below v42.heap.size v42 wx)) (MeetH.go _ (by rfl) ?_) ?_
  rotate_left
  · intro _ _ _ _
    as_aux_lemma =>
    clear HB HBs
    have HB : Below v42.heap.size v42 v42 := Below.refl _ _
    have HBs : v42.heap.size ≤ v42.heap.size := Nat.le_refl _
    rcases Bool.eq_false_or_eq_true (bf) with h | h
    · simp only [h]
      replace h := HBF.out.trans h
      clear HBF
      have q := fdf_of h
      obtain ⟨N, hN⟩ : ∃ N, (fdL gs gm).length = N := ⟨_, rfl⟩
      rw [hN] at hu9
      simp only [hN]
      have HO := Lib.hid Ou
      have HQ := Lib.hid q
      have HN := Lib.hid hN
      clear Ou q h hN
      go_wp2_with fail
      go_loopw [353] (fun i wr => ∃ k : Nat, k ≤ N ∧ i = .int .i64 k ∧ Below v42.heap.size v42 wr) (fun i _ => N - (intOf i).toNat)
      case atStart => exact ⟨0, by omega, rfl, Below.refl _ _⟩
      case round =>
        obtain ⟨k, hk, rfl, hb⟩ := hrel
        by_cases hlt : k < N
        · have hlk : k < (fdL gs gm).length := by rw [HN.out]; exact hlt
          have Ow := HO.out.on hb
          obtain ⟨g, o, rfl, -⟩ := Ow (by simp only [List.length_map]; omega)
          have hki : (k : Int) < (N : Int) := by omega
          have ck := own_get Ow (k := k) hlk
          obtain ⟨x0, x1⟩ := HQ.out.el k hlk
          have HF := Lib.hid fun (hk0 : 0 < k) => (show (fdL gs gm).getD k 0 < (fdL gs gm).getD (k - 1) 0 by have := HQ.out.fall (k - 1) (by rw [HN.out]; omega); rwa [Nat.sub_add_cancel hk0] at this)
          generalize (fdL gs gm).getD k 0 = x at ck x0 x1 HF
          have hx1 : ¬ x < 1 := by omega
          clear HB HBs
          have HB := hb
          have HBs : v42.heap.size ≤ v42.heap.size := Nat.le_refl _
          clear hb
          rcases Nat.eq_zero_or_pos k with hk0 | hk0
          · have hk0i : ¬ (0 : Int) < (k : Int) := by omega
            clear hk0
            go_wp2_with fail
            go_roundw
            case rel => exact ⟨k + 1, by omega, by go_num, HB⟩
            case measure => simp [intOf]; omega
          · have hk0i : (0 : Int) < (k : Int) := by omega
            have hf := HF.out hk0
            have c1 := own_get Ow (k := k - 1) (by omega)
            generalize (fdL gs gm).getD (k - 1) 0 = z at hf c1
            have hzx : ¬ z ≤ x := by omega
            have i1 : IntKind.i64.wrap ((k : Int) - 1) = (k : Int) - 1 := IntWalk.i64_in _ (by omega)
            have i2 : (0 : Int) ≤ (k : Int) - 1 := by omega
            have i3 : (k : Int) - 1 < (N : Int) := by omega
            have i4 : ((k : Int) - 1).toNat = k - 1 := by omega
            clear hk0 hf HF
            go_wp2_with fail
            go_roundw
            case rel => exact ⟨k + 1, by omega, by go_num, HB⟩
            case measure => simp [intOf]; omega
        · have hki : ¬ (k : Int) < (N : Int) := by omega
          have Ow := HO.out.on hb
          obtain ⟨s1, s2, m0, m1, el, _, hs⟩ := HQ.out
          rw [HN.out] at el hs
          have HB2 := below_go HB HBs hb
          clear HB
          have HB := HB2
          clear HB2 hb
          go_wp2_with fail
          refine (oTotal_any gs Au N cu _ (fdL gs gm) _ s1 s2 HN.out (by omega) Ow (fun k hk => by have := el k hk; omega) (by rw [hs]; omega) gm hs).mono ?_
          rintro e v43 ⟨rfl, hb1⟩
          replace HB := below_go HB HBs hb1
          clear hb1
          go_wp2_with fail
          refine Met.intro ?_
          go_step
          refine MeetH.of ?_ ?_
          · exact HB
          repeat (first | refine Agr.skip ?_ | refine Agr.keep ?_ | exact Agr.nil)
    · simp only [h]
      go_wp2_with fail
      refine Met.intro ?_
      go_step
      refine MeetH.of ?_ ?_
      · exact HB
      repeat (first | refine Agr.skip ?_ | refine Agr.keep ?_ | exact Agr.nil)
  intro u44 v44 hb1
  replace hy' := hy'.on hb1
  replace Ou := Ou.on hb1
  replace HB := below_go HB HBs hb1
  clear hb1
  as_aux_lemma =>
  simp only [fillH]
  clear Ou
  clear hu9 HBF
  go_wp2_with fail
  refine (DrawTwoShapes_any B' m' c' _ hy' (by omega)).mono ?_
  rintro e v45 ⟨⟨ga, gb, gx, rfl⟩, hb1⟩
  replace hy' := hy'.on hb1
  replace HB := below_go HB HBs hb1
  clear hb1
  clear hy'
  obtain ⟨p9, hp9⟩ : ∃ p : Int, ((twP ga gb gx).length : Int) = p := ⟨_, rfl⟩
  obtain ⟨bt, hbt⟩ : ∃ b : Bool, decide (0 < p9) = b := ⟨_, rfl⟩
  obtain ⟨b6, hb6⟩ : ∃ b : Bool, twB ga gb gx = b := ⟨_, rfl⟩
  have HP9 := Lib.hid hp9
  have HBT := Lib.hid hbt
  have HB6 := Lib.hid hb6
  clear hp9 hbt hb6
  go_wp2_with fail
  refine (impl_TwoShapes_any ga gb gx _).mono ?_
  rintro e v46 ⟨rfl, hb1⟩
  simp only [HP9.out, HBT.out]
  replace HB := below_go HB HBs hb1
  clear hb1
  go_wp2_with fail
  refine (spec_TwoShapes_any ga gb gx _).mono ?_
  rintro e v47 ⟨rfl, hb1⟩
  simp only [HP9.out, HBT.out]
  replace HB := below_go HB HBs hb1
  clear hb1
  go_wp2_with fail
  refine (impl_CountTwoShapes_any ga gb gx _).mono ?_
  rintro e v48 ⟨rfl, hb1⟩
  simp only [HP9.out, HB6.out]
  replace HB := below_go HB HBs hb1
  clear hb1
  go_wp2_with fail
  refine (spec_CountTwoShapes_any ga gb gx _).mono ?_
  rintro e v49 ⟨rfl, hb1⟩
  simp only [HP9.out, HB6.out]
  replace HB := below_go HB HBs hb1
  clear hb1
  go_upto_region 60 with fail
  refine wp_cut (MeetH [.inr 0, .inr 1, .inr 2, .inr 3, .inr 4, .inr 5, .inr 6, .inr 7, .inr 8, .inr 9, .inr 10, .inr 11, .inr 12, .inr 13, .inr 14, .inr 15, .inr 16, .inr 17, .inr 18, .inr 19, .inr 20, .inr 21, .inr 22, .inr 23, .inr 24, .inr 25, .inr 26, .inr 27, .inr 28, .inr 29, .inr 30, .inr 31, .inr 32, .inr 33, .inr 34, .inr 35, .inr 36, .inr 37, .inr 38, .inr 39, .inr 40, .inr 41, .inr 42, .inr 43, .inr 44, .inr 45, .inl (.int .i64 (ga)), .inl (.int .i64 (gb)), .inl (.int .i64 (gx)), .inl (.int .i64 (hp1 (twP ga gb gx))), .inl (.int .i64 (hp2 (twP ga gb gx))), .inl (.bool (bt)), .inr 52, .inr 53, .inr 54, .inl (.int .i64 (p9)), .inl (.bool (b6)), .inr 57, .inr 58, .inr 59, .inr 60, .inr 61, .inr 62, .inr 63, .inr 64, .inr 65, .inr 66, .inr 67, .inr 68, .inr 69, .inr 70, .inr 71, .inr 72, .inr 73, .inr 74, .inr 75, .inr 76, .inr 77, .inr 78, .inr 79, .inr 80, .inr 81, .inr 82, .inr 83, .inr 84, .inr 85, .inr 86, .inr 87, .inr 88, .inr 89, .inr 90, .inr 91, .inr 92, .inr 93, .inr 94, .inr 95, .inr 96, .inr 97, .inr 98, .inr 99, .inr 100, .inr 101, .inr 102, .inr 103, .inr 104, .inr 105, .inr 106, .inr 107, .inr 108, .inr 109, .inr 110, .inr 111, .inr 112, .inr 113, .inr 114, .inr 115, .inr 116, .inr 117, .inr 118, .inr 119, .inr 120, .inr 121, .inr 122, .inr 123, .inr 124, .inr 125, .inr 126, .inr 127, .inr 128, .inr 129, .inr 130, .inr 131, .inr 132, .inr 133, .inr 134, .inr 135, .inr 136, .inr 137, .inr 138, .inr 139, .inr 140, .inr 141, .inr 142, .inr 143, .inr 144, .inr 145, .inr 146, .inr 147, .inr 148, .inr 149, .inr 150, .inr 151, .inr 152, .inr 153, .inr 154, .inr 155, .inr 156, .inr 157, .inr 158, .inr 159, .inr 160, .inr 161, .inr 162, .inr 163, .inr 164, .inr 165, .inr 166, .inr 167, .inr 168, .inr 169, .inr 170, .inr 171, .inr 172, .inr 173, .inr 174, .inr 175, .inr 176, .inr 177, .inr 178, .inr 179, .inr 180, .inr 181, .inr 182, .inr 183, .inr 184, .inr 185, .inr 186, .inr 187, .inr 188, .inr 189, .inr 190, .inr 191, .inr 192, .inr 193, .inr 194, .inr 195, .inr 196, .inr 197, .inr 198, .inr 199, .inr 200, .inr 201, .inr 202, .inr 203, .inr 204, .inr 205, .inr 206, .inr 207, .inr 208, .inr 209, .inr 210, .inr 211, .inr 212, .inr 213, .inr 214, .inr 215, .inr 216, .inr 217, .inr 218, .inr 219, .inr 220, .inr 221, .inr 222, .inr 223, .inr 224, .inr 225, .inr 226, .inr 227, .inr 228, .inr 229, .inr 230, .inr 231, .inr 232, .inr 233, .inr 234, .inr 235, .inr 236, .inr 237, .inr 238, .inr 239, .inr 240, .inr 241, .inr 242, .inr 243, .inr 244, .inr 245, .inr 246, .inr 247, .inr 248, .inr 249, .inr 250, .inr 251, .inr 252, .inr 253, .inr 254, .inr 255, .inr 256, .inr 257, .inr 258, .inr 259, .inr 260, .inr 261, .inr 262, .inr 263, .inr 264, .inr 265, .inr 266, .inr 267, .inr 268, .inr 269, .inr 270, .inr 271, .inr 272, .inr 273, .inr 274, .inr 275, .inr 276, .inr 277, .inr 278, .inr 279, .inr 280, .inr 281, .inr 282, .inr 283, .inr 284, .inr 285, .inr 286, .inr 287, .inr 288, .inr 289, .inr 290, .inr 291, .inr 292, .inr 293, .inr 294, .inr 295, .inr 296, .inr 297, .inr 298, .inr 299, .inr 300, .inr 301, .inr 302, .inr 303, .inr 304, .inr 305, .inr 306, .inr 307, .inr 308, .inr 309, .inr 310, .inr 311, .inr 312, .inr 313, .inr 314, .inr 315, .inr 316, .inr 317, .inr 318, .inr 319, .inr 320, .inr 321, .inr 322, .inr 323, .inr 324, .inr 325, .inr 326, .inr 327, .inr 328, .inr 329, .inr 330, .inr 331, .inr 332, .inr 333, .inr 334, .inr 335, .inr 336, .inr 337, .inr 338, .inr 339, .inr 340, .inr 341, .inr 342, .inr 343, .inr 344, .inr 345, .inr 346, .inr 347, .inr 348, .inr 349, .inr 350, .inr 351, .inr 352, .inr 353, .inr 354, .inr 355, .inr 356, .inr 357, .inr 358, .inr 359, .inr 360, .inr 361, .inr 362, .inr 363, .inr 364, .inr 365, .inr 366, .inr 367, .inr 368, .inr 369, .inr 370, .inr 371, .inr 372, .inr 373, .inr 374, .inr 375, .inr 376, .inr 377, .inr 378, .inr 379, .inr 380, .inr 381, .inr 382, .inr 383, .inr 384, .inr 385, .inr 386, .inr 387, .inr 388, .inr 389, .inr 390, .inr 391, .inr 392, .inr 393, .inr 394, .inr 395, .inr 396, .inr 397, .inr 398, .inr 399, .inr 400, .inr 401, .inr 402, .inr 403, .inr 404, .inr 405, .inr 406, .inr 407, .inr 408, .inr 409, .inr 410, .inr 411, .inr 412, .inr 413, .inr 414, .inr 415, .inr 416, .inr 417, .inr 418, .inr 419, .inr 420, .inr 421, .inr 422, .inr 423, .inr 424, .inr 425, .inr 426, .inr 427, .inr 428, .inr 429, .inr 430, .inr 431, .inr 432, .inr 433, .inr 434, .inr 435, .inr 436, .inr 437, .inr 438, .inr 439, .inr 440, .inr 441, .inr 442, .inr 443, .inr 444, .inr 445, .inl (.bool false), .inr 447, .inr 448, .inr 449, .inr 450, .inr 451, .inr 452, .inr 453, .inr 454, .inr 455, .inr 456, .inr 457, .inr 458, .inr 459, .inr 460, .inr 461, .inr 462, .inr 463, .inr 464, .inr 465, .inr 466, .inr 467, .inr 468, .inr 469, .inr 470, .inr 471, .inr 472, .inr 473, .inr 474, .inr 475, .inr 476, .inr 477, .inr 478, .inr 479, .inr 480, .inr 481, .inr 482, .inr 483, .inr 484, .inr 485, .inr 486] (fun wx => Below v49.heap.size v49 wx)) (MeetH.go _ (by rfl) ?_) ?_
  rotate_left
  · intro _ _ _ _
    as_aux_lemma =>
    clear HB HBs
    have HB : Below v49.heap.size v49 v49 := Below.refl _ _
    have HBs : v49.heap.size ≤ v49.heap.size := Nat.le_refl _
    cases bt
    · have hp := HBT.out
      clear HBT HP9 HB6
      cases b6
      · skip
        go_wp2_with fail
        refine Met.intro ?_
        go_step
        refine MeetH.of ?_ ?_
        · exact HB
        repeat (first | refine Agr.skip ?_ | refine Agr.keep ?_ | exact Agr.nil)
      · skip
        go_wp2_with fail
        refine Met.intro ?_
        go_step
        refine MeetH.of ?_ ?_
        · exact HB
        repeat (first | refine Agr.skip ?_ | refine Agr.keep ?_ | exact Agr.nil)
    · have hp := of_decide_eq_true HBT.out
      clear HBT
      cases b6
      · have e := HP9.out
        rw [tw_none HB6.out] at e
        simp only [List.length_nil] at e
        omega
      · clear HP9 HB6
        go_wp2_with fail
        refine Met.intro ?_
        go_step
        refine MeetH.of ?_ ?_
        · exact HB
        repeat (first | refine Agr.skip ?_ | refine Agr.keep ?_ | exact Agr.nil)
  intro u50 v50 hb1
  replace HB := below_go HB HBs hb1
  clear hb1
  as_aux_lemma =>
  simp only [fillH]
  go_upto_if 447 with fail
  refine wp_cut (MeetH [.inr 0, .inr 1, .inr 2, .inr 3, .inr 4, .inr 5, .inr 6, .inr 7, .inr 8, .inr 9, .inr 10, .inr 11, .inr 12, .inr 13, .inr 14, .inr 15, .inr 16, .inr 17, .inr 18, .inr 19, .inr 20, .inr 21, .inr 22, .inr 23, .inr 24, .inr 25, .inr 26, .inr 27, .inr 28, .inr 29, .inr 30, .inr 31, .inr 32, .inr 33, .inr 34, .inr 35, .inr 36, .inr 37, .inr 38, .inr 39, .inr 40, .inr 41, .inr 42, .inr 43, .inr 44, .inr 45, .inl (.int .i64 (ga)), .inl (.int .i64 (gb)), .inl (.int .i64 (gx)), .inr 49, .inr 50, .inr 51, .inr 52, .inr 53, .inr 54, .inl (.int .i64 (p9)), .inl (.bool (b6)), .inr 57, .inr 58, .inr 59, .inr 60, .inr 61, .inr 62, .inr 63, .inr 64, .inr 65, .inr 66, .inr 67, .inr 68, .inr 69, .inr 70, .inr 71, .inr 72, .inr 73, .inr 74, .inr 75, .inr 76, .inr 77, .inr 78, .inr 79, .inr 80, .inr 81, .inr 82, .inr 83, .inr 84, .inr 85, .inr 86, .inr 87, .inr 88, .inr 89, .inr 90, .inr 91, .inr 92, .inr 93, .inr 94, .inr 95, .inr 96, .inr 97, .inr 98, .inr 99, .inr 100, .inr 101, .inr 102, .inr 103, .inr 104, .inr 105, .inr 106, .inr 107, .inr 108, .inr 109, .inr 110, .inr 111, .inr 112, .inr 113, .inr 114, .inr 115, .inr 116, .inr 117, .inr 118, .inr 119, .inr 120, .inr 121, .inr 122, .inr 123, .inr 124, .inr 125, .inr 126, .inr 127, .inr 128, .inr 129, .inr 130, .inr 131, .inr 132, .inr 133, .inr 134, .inr 135, .inr 136, .inr 137, .inr 138, .inr 139, .inr 140, .inr 141, .inr 142, .inr 143, .inr 144, .inr 145, .inr 146, .inr 147, .inr 148, .inr 149, .inr 150, .inr 151, .inr 152, .inr 153, .inr 154, .inr 155, .inr 156, .inr 157, .inr 158, .inr 159, .inr 160, .inr 161, .inr 162, .inr 163, .inr 164, .inr 165, .inr 166, .inr 167, .inr 168, .inr 169, .inr 170, .inr 171, .inr 172, .inr 173, .inr 174, .inr 175, .inr 176, .inr 177, .inr 178, .inr 179, .inr 180, .inr 181, .inr 182, .inr 183, .inr 184, .inr 185, .inr 186, .inr 187, .inr 188, .inr 189, .inr 190, .inr 191, .inr 192, .inr 193, .inr 194, .inr 195, .inr 196, .inr 197, .inr 198, .inr 199, .inr 200, .inr 201, .inr 202, .inr 203, .inr 204, .inr 205, .inr 206, .inr 207, .inr 208, .inr 209, .inr 210, .inr 211, .inr 212, .inr 213, .inr 214, .inr 215, .inr 216, .inr 217, .inr 218, .inr 219, .inr 220, .inr 221, .inr 222, .inr 223, .inr 224, .inr 225, .inr 226, .inr 227, .inr 228, .inr 229, .inr 230, .inr 231, .inr 232, .inr 233, .inr 234, .inr 235, .inr 236, .inr 237, .inr 238, .inr 239, .inr 240, .inr 241, .inr 242, .inr 243, .inr 244, .inr 245, .inr 246, .inr 247, .inr 248, .inr 249, .inr 250, .inr 251, .inr 252, .inr 253, .inr 254, .inr 255, .inr 256, .inr 257, .inr 258, .inr 259, .inr 260, .inr 261, .inr 262, .inr 263, .inr 264, .inr 265, .inr 266, .inr 267, .inr 268, .inr 269, .inr 270, .inr 271, .inr 272, .inr 273, .inr 274, .inr 275, .inr 276, .inr 277, .inr 278, .inr 279, .inr 280, .inr 281, .inr 282, .inr 283, .inr 284, .inr 285, .inr 286, .inr 287, .inr 288, .inr 289, .inr 290, .inr 291, .inr 292, .inr 293, .inr 294, .inr 295, .inr 296, .inr 297, .inr 298, .inr 299, .inr 300, .inr 301, .inr 302, .inr 303, .inr 304, .inr 305, .inr 306, .inr 307, .inr 308, .inr 309, .inr 310, .inr 311, .inr 312, .inr 313, .inr 314, .inr 315, .inr 316, .inr 317, .inr 318, .inr 319, .inr 320, .inr 321, .inr 322, .inr 323, .inr 324, .inr 325, .inr 326, .inr 327, .inr 328, .inr 329, .inr 330, .inr 331, .inr 332, .inr 333, .inr 334, .inr 335, .inr 336, .inr 337, .inr 338, .inr 339, .inr 340, .inr 341, .inr 342, .inr 343, .inr 344, .inr 345, .inr 346, .inr 347, .inr 348, .inr 349, .inr 350, .inr 351, .inr 352, .inr 353, .inr 354, .inr 355, .inr 356, .inr 357, .inr 358, .inr 359, .inr 360, .inr 361, .inr 362, .inr 363, .inr 364, .inr 365, .inr 366, .inr 367, .inr 368, .inr 369, .inr 370, .inr 371, .inr 372, .inr 373, .inr 374, .inr 375, .inr 376, .inr 377, .inr 378, .inr 379, .inr 380, .inr 381, .inr 382, .inr 383, .inr 384, .inr 385, .inr 386, .inr 387, .inr 388, .inr 389, .inr 390, .inr 391, .inr 392, .inr 393, .inr 394, .inr 395, .inr 396, .inr 397, .inr 398, .inr 399, .inr 400, .inr 401, .inr 402, .inr 403, .inr 404, .inr 405, .inr 406, .inr 407, .inr 408, .inr 409, .inr 410, .inr 411, .inr 412, .inr 413, .inr 414, .inr 415, .inr 416, .inr 417, .inr 418, .inr 419, .inr 420, .inr 421, .inr 422, .inr 423, .inr 424, .inr 425, .inr 426, .inr 427, .inr 428, .inr 429, .inr 430, .inr 431, .inr 432, .inr 433, .inr 434, .inr 435, .inr 436, .inr 437, .inr 438, .inr 439, .inr 440, .inr 441, .inr 442, .inr 443, .inr 444, .inr 445, .inr 446, .inr 447, .inr 448, .inr 449, .inr 450, .inr 451, .inr 452, .inr 453, .inr 454, .inr 455, .inr 456, .inr 457, .inr 458, .inr 459, .inr 460, .inr 461, .inr 462, .inr 463, .inr 464, .inr 465, .inr 466, .inr 467, .inr 468, .inr 469, .inr 470, .inr 471, .inr 472, .inr 473, .inr 474, .inr 475, .inr 476, .inr 477, .inr 478, .inr 479, .inr 480, .inr 481, .inr 482, .inr 483, .inr 484, .inr 485, .inr 486] (fun wx => Below v50.heap.size v50 wx)) (MeetH.go _ (by rfl) ?_) ?_
  rotate_left
  · intro _ _ _ _
    as_aux_lemma =>
    clear HB HBs
    have HB : Below v50.heap.size v50 v50 := Below.refl _ _
    have HBs : v50.heap.size ≤ v50.heap.size := Nat.le_refl _
    rcases Bool.eq_false_or_eq_true (bt) with h | h
    · simp only [h]
      have hp := of_decide_eq_true (HBT.out.trans h)
      rcases Bool.eq_false_or_eq_true (twB ga gb gx) with h5 | h5
      rotate_left
      · have e := HP9.out
        rw [tw_none h5] at e
        simp only [List.length_nil] at e
        omega
      obtain ⟨⟨a1, a2⟩, ⟨b1, b2⟩, _, _⟩ := tw_t h5
      obtain ⟨j0, j1, k0, k1, m0, m1, m2, hs⟩ := twf_of h5 (by rw [HP9.out]; exact hp)
      have hw : IntKind.i64.wrap (num ga (hp1 (twP ga gb gx)) + num gb (hp2 (twP ga gb gx))) = gx := by rw [hs]; exact IntWalk.i64_in _ (by omega)
      clear hs hp h HBT HP9 h5
      go_wp2_with fail
      refine (impl_PolygonNumber_yes ga (hp1 (twP ga gb gx)) _ a1 a2 j0 j1).mono ?_
      rintro e v51 ⟨rfl, hb1⟩
      replace HB := below_go HB HBs hb1
      clear hb1
      go_wp2_with fail
      refine (impl_PolygonNumber_yes gb (hp2 (twP ga gb gx)) _ b1 b2 k0 k1).mono ?_
      rintro e v52 ⟨rfl, hb1⟩
      replace HB := below_go HB HBs hb1
      clear hb1
      go_wp2_with fail
      refine Met.intro ?_
      go_step
      refine MeetH.of ?_ ?_
      · exact HB
      repeat (first | refine Agr.skip ?_ | refine Agr.keep ?_ | exact Agr.nil)
    · simp only [h]
      go_wp2_with fail
      refine Met.intro ?_
      go_step
      refine MeetH.of ?_ ?_
      · exact HB
      repeat (first | refine Agr.skip ?_ | refine Agr.keep ?_ | exact Agr.nil)
  intro u53 v53 hb1
  replace HB := below_go HB HBs hb1
  clear hb1
  as_aux_lemma =>
  simp only [fillH]
  go_upto_if 473 with fail
  rcases Bool.eq_false_or_eq_true b6 with h | h
  · simp only [h]
    replace h := HB6.out.trans h
    go_wp2_with fail
    refine (impl_CountTwoShapes_any gb ga gx _).mono ?_
    rintro e v54 ⟨rfl, hb1⟩
    replace HB := below_go HB HBs hb1
    clear hb1
    simp only [(tw_turn ga gb gx).1, (tw_turn ga gb gx).2, h, HP9.out]
    go_wp2_with fail
    go_ret
    exact ⟨rfl, HB⟩
  · simp only [h]
    go_wp2_with fail
    go_ret
    exact ⟨rfl, HB⟩
end Go.Proofs.YtegbikakfckehaaDoor
