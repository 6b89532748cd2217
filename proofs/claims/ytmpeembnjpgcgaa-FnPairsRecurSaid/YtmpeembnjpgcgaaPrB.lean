/- The law FnPairsRecur, walked: whatever the arguments it answers true. No condition. -/
import Derived.Test.YtmpeembnjpgcgaaBase
import Derived.Test.YtmpeembnjpgcgaaAnR
import Derived.Test.YtmpeembnjpgcgaaAnA
import Derived.Test.YtmpeembnjpgcgaaAnW
import Derived.Test.YtmpeembnjpgcgaaCut
import Derived.Test.YtmpeembnjpgcgaaDrF
import Derived.Lib.Hide
import Derived.Deep.Cut
namespace Go.Proofs.Ytmpeembnjpgcgaa
open Go.ChangeShapes Go.WideShapes Go.ChangeAt Go.RowKit

theorem nr_len (k : Int) : (nrL k).length ≤ 1000000000 := by
  rcases Bool.eq_false_or_eq_true (prB k) with h | h
  · rw [nr_of h]; simp
  · simp [nrL, h]
theorem tmod_nn {x : Int} (h : 0 ≤ x) (d : Int) : x.tmod d = x % d := Int.tmod_eq_emod_of_nonneg h
theorem tdiv_nn {x : Int} (h : 0 ≤ x) (d : Int) : x.tdiv d = x / d := Int.tdiv_eq_ediv_of_nonneg h
set_option maxRecDepth 4000 in
set_option maxHeartbeats 16000000 in
theorem walk_PairsRecur (A' : Option Addr) (n' a' : Nat) (B' : Option Addr) (m' c' : Nat) (w : World) (hn' : n' ≤ 9223372036854775807) (hx' : Bys w A' n') (hm' : m' ≤ 9223372036854775807) (hy' : Bys w B' m') :
    Calls Try.prog 4 #[.slice A' n' a', .slice B' m' c'] w fun e w' => e = .returned (.bool true) ∧ Below w.heap.size w w' := by
  have HB : Below w.heap.size w w := Below.refl _ _
  have HBs : w.heap.size ≤ w.heap.size := Nat.le_refl _
  rcases Bool.eq_false_or_eq_true (bgB n' m') with hg | hg
  · go_enter Try.func4, Try.ntmps4
    go_wp2_with (go_at_call 25; refine (big_any _ _ _ _ _ _ _ hn' hm').mono ?_; rintro e w' ⟨rfl, rfl⟩)
    go_ret
    exact ⟨rfl, Below.refl _ _⟩
  obtain ⟨gg1, gg2⟩ := bg_no hg
  go_enter Try.func4, Try.ntmps4
  go_wp2_with (go_at_call 25; refine (big_any _ _ _ _ _ _ _ hn' hm').mono ?_; rintro e w' ⟨rfl, rfl⟩)
  refine (DrawTwicePair_any A' n' a' _ hx' (by omega)).mono ?_
  rintro e v1 ⟨⟨k, rfl⟩, hb1⟩
  replace hy' := hy'.on hb1
  replace HB := below_go HB HBs hb1
  clear hb1
  go_wp2_with fail
  refine (impl_TwicePair_any k _).mono ?_
  rintro e v2 ⟨rfl, hb1⟩
  replace hy' := hy'.on hb1
  replace HB := below_go HB HBs hb1
  clear hb1
  go_wp2_with fail
  refine (spec_TwicePair_any k _).mono ?_
  rintro e v3 ⟨rfl, hb1⟩
  replace hy' := hy'.on hb1
  replace HB := below_go HB HBs hb1
  clear hb1
  go_wp2_with fail
  refine (impl_TriangleSquare_any k _).mono ?_
  rintro e v4 ⟨rfl, hb1⟩
  replace hy' := hy'.on hb1
  replace HB := below_go HB HBs hb1
  clear hb1
  go_wp2_with fail
  refine (spec_TriangleSquare_any k _).mono ?_
  rintro e v5 ⟨rfl, hb1⟩
  replace hy' := hy'.on hb1
  replace HB := below_go HB HBs hb1
  clear hb1
  go_wp2_with fail
  refine (impl_TriangleSquarePlaces_any k _).mono ?_
  rintro e v6 ⟨rfl, hb1⟩
  replace hy' := hy'.on hb1
  replace HB := below_go HB HBs hb1
  clear hb1
  go_wp2_with fail
  refine (spec_TriangleSquarePlaces_any k _).mono ?_
  rintro e v7 ⟨rfl, hb1⟩
  replace hy' := hy'.on hb1
  replace HB := below_go HB HBs hb1
  clear hb1
  go_wp2_with fail
  refine (impl_TwiceTriangle_any k _).mono ?_
  rintro e v8 ⟨rfl, hb1⟩
  replace hy' := hy'.on hb1
  replace HB := below_go HB HBs hb1
  clear hb1
  go_wp2_with fail
  refine (spec_TwiceTriangle_any k _).mono ?_
  rintro e v9 ⟨rfl, hb1⟩
  replace hy' := hy'.on hb1
  replace HB := below_go HB HBs hb1
  clear hb1
  go_wp2_with fail
  refine (impl_NearRight_any k _).mono ?_
  rintro e v10 ⟨Aa, ca, rfl, Oa, hb1⟩
  replace hy' := hy'.on hb1
  replace HB := below_go HB HBs hb1
  clear hb1
  go_wp2_with fail
  refine (spec_NearRight_any k _).mono ?_
  rintro e v11 ⟨Ab, cb, rfl, Ob, hb1⟩
  replace hy' := hy'.on hb1
  replace Oa := Oa.on hb1
  replace HB := below_go HB HBs hb1
  clear hb1
  go_upto_region 14 with fail
  simp only [List.append]
  go_wp2_with fail
  refine (hSame_b Aa Ab _ ca cb _ _ _ _ (nrL k) _ rfl (nr_len k) Oa Ob).mono ?_
  rintro e v12 ⟨rfl, hb1⟩
  replace hy' := hy'.on hb1
  replace Oa := Oa.on hb1
  replace Ob := Ob.on hb1
  replace HB := below_go HB HBs hb1
  clear hb1
  clear Ob
  go_upto_if 223 with fail
  refine wp_cut (MeetH [.inr 0, .inl (.slice B' m' c'), .inr 2, .inr 3, .inr 4, .inr 5, .inr 6, .inr 7, .inr 8, .inr 9, .inr 10, .inr 11, .inr 12, .inr 13, .inr 14, .inr 15, .inr 16, .inr 17, .inr 18, .inr 19, .inr 20, .inr 21, .inr 22, .inr 23, .inr 24, .inr 25, .inr 26, .inr 27, .inr 28, .inr 29, .inr 30, .inr 31, .inr 32, .inr 33, .inr 34, .inr 35, .inr 36, .inr 37, .inr 38, .inr 39, .inr 40, .inr 41, .inr 42, .inr 43, .inr 44, .inr 45, .inr 46, .inr 47, .inr 48, .inr 49, .inr 50, .inr 51, .inr 52, .inr 53, .inr 54, .inr 55, .inr 56, .inr 57, .inr 58, .inr 59, .inr 60, .inr 61, .inr 62, .inr 63, .inr 64, .inr 65, .inr 66, .inr 67, .inr 68, .inr 69, .inr 70, .inr 71, .inr 72, .inr 73, .inr 74, .inr 75, .inr 76, .inr 77, .inr 78, .inr 79, .inr 80, .inr 81, .inr 82, .inr 83, .inr 84, .inr 85, .inr 86, .inr 87, .inr 88, .inr 89, .inr 90, .inr 91, .inr 92, .inr 93, .inr 94, .inr 95, .inr 96, .inr 97, .inr 98, .inr 99, .inr 100, .inr 101, .inr 102, .inr 103, .inr 104, .inr 105, .inr 106, .inr 107, .inr 108, .inr 109, .inr 110, .inr 111, .inr 112, .inr 113, .inr 114, .inr 115, .inr 116, .inr 117, .inr 118, .inr 119, .inr 120, .inr 121, .inr 122, .inr 123, .inr 124, .inr 125, .inr 126, .inr 127, .inr 128, .inr 129, .inr 130, .inr 131, .inr 132, .inr 133, .inr 134, .inr 135, .inr 136, .inr 137, .inr 138, .inr 139, .inr 140, .inr 141, .inr 142, .inr 143, .inr 144, .inr 145, .inr 146, .inr 147, .inr 148, .inr 149, .inr 150, .inr 151, .inr 152, .inr 153, .inr 154, .inr 155, .inr 156, .inr 157, .inr 158, .inr 159, .inr 160, .inr 161, .inr 162, .inr 163, .inr 164, .inr 165, .inr 166, .inr 167, .inr 168, .inr 169, .inr 170, .inr 171, .inr 172, .inr 173, .inr 174, .inr 175, .inr 176, .inr 177, .inr 178, .inr 179, .inr 180, .inr 181, .inr 182, .inr 183, .inr 184, .inr 185, .inr 186, .inr 187, .inr 188, .inr 189, .inr 190, .inr 191, .inr 192, .inr 193, .inr 194, .inr 195, .inr 196, .inr 197, .inr 198, .inr 199, .inr 200, .inr 201, .inr 202, .inr 203, .inr 204, .inr 205, .inr 206, .inr 207, .inr 208, .inr 209, .inr 210, .inr 211, .inr 212, .inr 213, .inr 214, .inr 215, .inr 216, .inr 217, .inr 218, .inr 219, .inr 220, .inr 221, .inr 222, .inr 223, .inr 224, .inr 225, .inr 226, .inr 227, .inr 228, .inr 229, .inr 230, .inr 231, .inr 232, .inr 233, .inr 234, .inr 235, .inr 236, .inr 237, .inr 238, .inr 239, .inr 240, .inr 241, .inr 242, .inr 243, .inr 244, .inr 245, .inr 246, .inr 247, .inr 248, .inr 249, .inr 250, .inr 251, .inr 252, .inr 253, .inr 254, .inr 255, .inr 256, .inr 257, .inr 258, .inr 259, .inr 260, .inr 261, .inr 262, .inr 263, .inr 264, .inr 265, .inr 266, .inr 267, .inr 268, .inr 269, .inr 270, .inr 271, .inr 272, .inr 273, .inr 274, .inr 275, .inr 276, .inr 277, .inr 278, .inr 279, .inr 280, .inr 281, .inr 282, .inr 283, .inr 284, .inr 285, .inr 286, .inr 287, .inr 288, .inr 289, .inr 290, .inr 291, .inr 292, .inr 293, .inr 294, .inr 295, .inr 296, .inr 297, .inr 298, .inr 299, .inr 300, .inr 301, .inr 302, .inr 303, .inr 304, .inr 305, .inr 306, .inr 307, .inr 308, .inr 309, .inr 310, .inr 311, .inr 312, .inr 313, .inr 314, .inr 315, .inr 316, .inr 317, .inr 318, .inr 319, .inr 320, .inr 321, .inr 322, .inr 323, .inr 324, .inr 325, .inr 326, .inr 327, .inr 328, .inr 329, .inr 330, .inr 331, .inr 332, .inr 333, .inr 334, .inr 335, .inr 336, .inr 337, .inr 338, .inr 339, .inr 340, .inr 341, .inr 342, .inr 343, .inr 344, .inr 345, .inr 346, .inr 347, .inr 348, .inr 349, .inr 350, .inr 351, .inr 352, .inr 353, .inr 354, .inr 355, .inr 356, .inr 357, .inr 358, .inr 359, .inr 360, .inr 361, .inr 362, .inr 363, .inr 364, .inr 365, .inr 366, .inr 367, .inr 368, .inr 369, .inr 370, .inr 371, .inr 372, .inr 373, .inr 374, .inr 375, .inr 376, .inr 377, .inr 378, .inr 379, .inr 380, .inr 381, .inr 382, .inr 383, .inr 384, .inr 385, .inr 386, .inr 387, .inr 388, .inr 389, .inr 390, .inr 391, .inr 392, .inr 393, .inr 394, .inr 395, .inr 396, .inr 397, .inr 398, .inr 399, .inr 400, .inr 401, .inr 402, .inr 403, .inr 404, .inr 405, .inr 406, .inr 407, .inr 408, .inr 409, .inr 410, .inr 411, .inr 412, .inr 413, .inr 414, .inr 415, .inr 416, .inr 417, .inr 418, .inr 419, .inr 420, .inr 421, .inr 422, .inr 423, .inr 424, .inr 425, .inr 426, .inr 427, .inr 428, .inr 429, .inr 430, .inr 431, .inr 432, .inr 433, .inr 434, .inr 435, .inr 436, .inr 437, .inr 438, .inr 439, .inr 440, .inr 441, .inr 442, .inr 443, .inr 444, .inr 445, .inr 446, .inr 447, .inr 448, .inr 449, .inr 450, .inr 451, .inr 452, .inr 453, .inr 454, .inr 455, .inr 456, .inr 457, .inr 458, .inr 459, .inr 460, .inr 461, .inr 462, .inr 463, .inr 464, .inr 465, .inr 466, .inr 467, .inr 468, .inr 469, .inr 470, .inr 471, .inr 472, .inr 473, .inr 474, .inr 475, .inr 476, .inr 477, .inr 478, .inr 479, .inr 480, .inr 481, .inr 482, .inr 483, .inr 484, .inr 485, .inr 486, .inr 487, .inr 488, .inr 489, .inr 490, .inr 491, .inr 492, .inr 493, .inr 494, .inr 495, .inr 496, .inr 497, .inr 498, .inr 499, .inr 500, .inr 501, .inr 502, .inr 503, .inr 504, .inr 505, .inr 506, .inr 507, .inr 508, .inr 509, .inr 510, .inr 511, .inr 512, .inr 513, .inr 514, .inr 515, .inr 516, .inr 517, .inr 518, .inr 519, .inr 520, .inr 521, .inr 522, .inr 523, .inr 524, .inr 525, .inr 526, .inr 527, .inr 528, .inr 529, .inr 530, .inr 531, .inr 532, .inr 533, .inr 534, .inr 535, .inr 536, .inr 537, .inr 538, .inr 539, .inr 540, .inr 541, .inr 542, .inr 543, .inr 544, .inr 545, .inr 546, .inr 547, .inr 548, .inr 549, .inr 550, .inr 551, .inr 552, .inr 553, .inr 554, .inr 555, .inr 556, .inr 557, .inr 558, .inr 559, .inr 560, .inr 561, .inr 562, .inr 563, .inr 564, .inr 565, .inr 566, .inr 567, .inr 568] (fun wx => Below v12.heap.size v12 wx)) (MeetH.go _ (by rfl) ?_) ?_
  rotate_left
  · intro _ _ _ _
    as_aux_lemma =>
    clear HB HBs
    have HB : Below v12.heap.size v12 v12 := Below.refl _ _
    have HBs : v12.heap.size ≤ v12.heap.size := Nat.le_refl _
    rcases Bool.eq_false_or_eq_true (prB k) with h | h
    · simp only [h]
      have q := prs_of h
      have k0 := q.k0
      have k1 := q.k1
      obtain ⟨sg, hsg⟩ : ∃ sg, txV k * txV k - 2 * tyV k * tyV k = sg := ⟨_, rfl⟩
      have HSG := Lib.hid hsg
      have hnr := nr_of h
      rw [hnr] at Oa
      simp only [hnr, List.length_cons, List.length_nil]
      clear hsg hnr
      obtain ⟨g, o, rfl, _, _, _⟩ := Oa (by simp)
      go_upto_if 226 with fail
      refine wp_cut (MeetH [.inr 0, .inl (.slice B' m' c'), .inr 2, .inr 3, .inr 4, .inl (.int .i64 (k)), .inl (.int .i64 (txV k)), .inl (.int .i64 (tyV k)), .inr 8, .inr 9, .inr 10, .inr 11, .inl (.int .i64 (tsV k)), .inr 13, .inr 14, .inr 15, .inl (.int .i64 (tmV k)), .inl (.int .i64 (trV k)), .inr 18, .inr 19, .inr 20, .inr 21, .inl (.int .i64 (tpV k)), .inl (.int .i64 (tqV k)), .inr 24, .inr 25, .inr 26, .inr 27, .inl (.slice (some ⟨g, o, none⟩) 3 ca), .inr 29, .inr 30, .inr 31, .inl (.int .i64 (sg)), .inr 33, .inr 34, .inr 35, .inr 36, .inr 37, .inr 38, .inr 39, .inr 40, .inr 41, .inr 42, .inr 43, .inr 44, .inr 45, .inr 46, .inr 47, .inr 48, .inr 49, .inr 50, .inr 51, .inr 52, .inr 53, .inr 54, .inr 55, .inr 56, .inr 57, .inr 58, .inr 59, .inr 60, .inr 61, .inr 62, .inr 63, .inr 64, .inr 65, .inr 66, .inr 67, .inr 68, .inr 69, .inr 70, .inr 71, .inr 72, .inr 73, .inr 74, .inr 75, .inr 76, .inr 77, .inr 78, .inr 79, .inr 80, .inr 81, .inr 82, .inr 83, .inr 84, .inr 85, .inr 86, .inr 87, .inr 88, .inr 89, .inr 90, .inr 91, .inr 92, .inr 93, .inr 94, .inr 95, .inr 96, .inr 97, .inr 98, .inr 99, .inr 100, .inr 101, .inr 102, .inr 103, .inr 104, .inr 105, .inr 106, .inr 107, .inr 108, .inr 109, .inr 110, .inr 111, .inr 112, .inr 113, .inr 114, .inr 115, .inr 116, .inr 117, .inr 118, .inr 119, .inr 120, .inr 121, .inr 122, .inr 123, .inr 124, .inr 125, .inr 126, .inr 127, .inr 128, .inr 129, .inr 130, .inr 131, .inr 132, .inr 133, .inr 134, .inr 135, .inr 136, .inr 137, .inr 138, .inr 139, .inr 140, .inr 141, .inr 142, .inr 143, .inr 144, .inr 145, .inr 146, .inr 147, .inr 148, .inr 149, .inr 150, .inr 151, .inr 152, .inr 153, .inr 154, .inr 155, .inr 156, .inr 157, .inr 158, .inr 159, .inr 160, .inr 161, .inr 162, .inr 163, .inr 164, .inr 165, .inr 166, .inr 167, .inr 168, .inr 169, .inr 170, .inr 171, .inr 172, .inr 173, .inr 174, .inr 175, .inr 176, .inr 177, .inr 178, .inr 179, .inr 180, .inr 181, .inr 182, .inr 183, .inr 184, .inr 185, .inr 186, .inr 187, .inr 188, .inr 189, .inr 190, .inr 191, .inr 192, .inr 193, .inr 194, .inr 195, .inr 196, .inr 197, .inr 198, .inr 199, .inr 200, .inr 201, .inr 202, .inr 203, .inr 204, .inr 205, .inr 206, .inr 207, .inr 208, .inr 209, .inr 210, .inr 211, .inr 212, .inr 213, .inr 214, .inr 215, .inr 216, .inr 217, .inr 218, .inr 219, .inr 220, .inr 221, .inr 222, .inr 223, .inr 224, .inr 225, .inr 226, .inr 227, .inr 228, .inr 229, .inr 230, .inr 231, .inr 232, .inr 233, .inr 234, .inr 235, .inr 236, .inr 237, .inr 238, .inr 239, .inr 240, .inr 241, .inr 242, .inr 243, .inr 244, .inr 245, .inr 246, .inr 247, .inr 248, .inr 249, .inr 250, .inr 251, .inr 252, .inr 253, .inr 254, .inr 255, .inr 256, .inr 257, .inr 258, .inr 259, .inr 260, .inr 261, .inr 262, .inr 263, .inr 264, .inr 265, .inr 266, .inr 267, .inr 268, .inr 269, .inr 270, .inr 271, .inr 272, .inr 273, .inr 274, .inr 275, .inr 276, .inr 277, .inr 278, .inr 279, .inr 280, .inr 281, .inr 282, .inr 283, .inr 284, .inr 285, .inr 286, .inr 287, .inr 288, .inr 289, .inr 290, .inr 291, .inr 292, .inr 293, .inr 294, .inr 295, .inr 296, .inr 297, .inr 298, .inr 299, .inr 300, .inr 301, .inr 302, .inr 303, .inr 304, .inr 305, .inr 306, .inr 307, .inr 308, .inr 309, .inr 310, .inr 311, .inr 312, .inr 313, .inr 314, .inr 315, .inr 316, .inr 317, .inr 318, .inr 319, .inr 320, .inr 321, .inr 322, .inr 323, .inr 324, .inr 325, .inr 326, .inr 327, .inr 328, .inr 329, .inr 330, .inr 331, .inr 332, .inr 333, .inr 334, .inr 335, .inr 336, .inr 337, .inr 338, .inr 339, .inr 340, .inr 341, .inr 342, .inr 343, .inr 344, .inr 345, .inr 346, .inr 347, .inr 348, .inr 349, .inr 350, .inr 351, .inr 352, .inr 353, .inr 354, .inr 355, .inr 356, .inr 357, .inr 358, .inr 359, .inr 360, .inr 361, .inr 362, .inr 363, .inr 364, .inr 365, .inr 366, .inr 367, .inr 368, .inr 369, .inr 370, .inr 371, .inr 372, .inr 373, .inr 374, .inr 375, .inr 376, .inr 377, .inr 378, .inr 379, .inr 380, .inr 381, .inr 382, .inr 383, .inr 384, .inr 385, .inr 386, .inr 387, .inr 388, .inr 389, .inr 390, .inr 391, .inr 392, .inr 393, .inr 394, .inr 395, .inr 396, .inr 397, .inr 398, .inr 399, .inr 400, .inr 401, .inr 402, .inr 403, .inr 404, .inr 405, .inr 406, .inr 407, .inr 408, .inr 409, .inr 410, .inr 411, .inr 412, .inr 413, .inr 414, .inr 415, .inr 416, .inr 417, .inr 418, .inr 419, .inr 420, .inr 421, .inr 422, .inr 423, .inr 424, .inr 425, .inr 426, .inr 427, .inr 428, .inr 429, .inr 430, .inr 431, .inr 432, .inr 433, .inr 434, .inr 435, .inr 436, .inr 437, .inr 438, .inr 439, .inr 440, .inr 441, .inr 442, .inr 443, .inr 444, .inr 445, .inr 446, .inr 447, .inr 448, .inr 449, .inr 450, .inr 451, .inr 452, .inr 453, .inr 454, .inr 455, .inr 456, .inr 457, .inr 458, .inr 459, .inr 460, .inr 461, .inr 462, .inr 463, .inr 464, .inr 465, .inr 466, .inr 467, .inr 468, .inr 469, .inr 470, .inr 471, .inr 472, .inr 473, .inr 474, .inr 475, .inr 476, .inr 477, .inr 478, .inr 479, .inr 480, .inr 481, .inr 482, .inr 483, .inr 484, .inr 485, .inr 486, .inr 487, .inr 488, .inr 489, .inr 490, .inr 491, .inr 492, .inr 493, .inr 494, .inr 495, .inr 496, .inr 497, .inr 498, .inr 499, .inr 500, .inr 501, .inr 502, .inr 503, .inr 504, .inr 505, .inr 506, .inr 507, .inr 508, .inr 509, .inr 510, .inr 511, .inr 512, .inr 513, .inr 514, .inr 515, .inr 516, .inr 517, .inr 518, .inr 519, .inr 520, .inr 521, .inr 522, .inr 523, .inr 524, .inr 525, .inr 526, .inr 527, .inr 528, .inr 529, .inr 530, .inr 531, .inr 532, .inr 533, .inr 534, .inr 535, .inr 536, .inr 537, .inr 538, .inr 539, .inr 540, .inr 541, .inr 542, .inr 543, .inr 544, .inr 545, .inr 546, .inr 547, .inr 548, .inr 549, .inr 550, .inr 551, .inr 552, .inr 553, .inr 554, .inr 555, .inr 556, .inr 557, .inr 558, .inr 559, .inr 560, .inr 561, .inr 562, .inr 563, .inr 564, .inr 565, .inr 566, .inr 567, .inr 568] (fun wx => Below v12.heap.size v12 wx)) (MeetH.go _ (by rfl) ?_) ?_
      rotate_left
      · intro _ _ _ _
        as_aux_lemma =>
        clear HB HBs
        have HB : Below v12.heap.size v12 v12 := Below.refl _ _
        have HBs : v12.heap.size ≤ v12.heap.size := Nat.le_refl _
        rcases q.par with ⟨hp, he⟩ | ⟨hp, he⟩
        · obtain rfl : sg = -1 := by rw [← HSG.out]; exact he
          have ht : k.tmod 2 = 1 := by rw [tmod_nn k0]; exact hp
          clear he HSG
          go_wp2_with fail
          refine Met.intro ?_
          go_step
          refine MeetH.of ?_ ?_
          · exact HB
          repeat (first | refine Agr.skip ?_ | refine Agr.keep ?_ | exact Agr.nil)
        · obtain rfl : sg = 1 := by rw [← HSG.out]; exact he
          have ht : k.tmod 2 = 0 := by rw [tmod_nn k0]; exact hp
          clear he HSG
          go_wp2_with fail
          refine Met.intro ?_
          go_step
          refine MeetH.of ?_ ?_
          · exact HB
          repeat (first | refine Agr.skip ?_ | refine Agr.keep ?_ | exact Agr.nil)
      intro u13 v13 hb1
      replace hy' := hy'.on hb1
      replace Oa := Oa.on hb1
      replace HB := below_go HB HBs hb1
      clear hb1
      as_aux_lemma =>
      simp only [fillH]
      obtain ⟨_, _, _, _, p1, p2, p3, p4, p5, b1, b2, b3, b4, b5, b6, b7, b8, b9, b10, b11, b12, b13, b14, b15, b16⟩ := q
      have s1 : IntKind.i64.wrap (txV k * txV k) = txV k * txV k := IntWalk.i64_in _ (by omega)
      have s2 : IntKind.i64.wrap (2 * tyV k) = 2 * tyV k := IntWalk.i64_in _ (by omega)
      have s3 : IntKind.i64.wrap (2 * tyV k * tyV k) = 2 * tyV k * tyV k := IntWalk.i64_in _ (by omega)
      have s4 : IntKind.i64.wrap (txV k * txV k - 2 * tyV k * tyV k) = sg := by rw [← HSG.out]; exact IntWalk.i64_in _ (by omega)
      have s5 : IntKind.i64.wrap (txV k * tyV k) = txV k * tyV k := IntWalk.i64_in _ (by omega)
      have s6 : IntKind.i64.wrap (txV k * tyV k * txV k) = txV k * tyV k * txV k := IntWalk.i64_in _ (by omega)
      have s7 : IntKind.i64.wrap (txV k * tyV k * txV k * tyV k) = tsV k := by rw [p1]; exact IntWalk.i64_in _ (by omega)
      have s8 : IntKind.i64.wrap (trV k * trV k) = tsV k := by rw [p2]; exact IntWalk.i64_in _ (by omega)
      have s9 : IntKind.i64.wrap (tmV k + 1) = tmV k + 1 := IntWalk.i64_in _ (by omega)
      have s10 : IntKind.i64.wrap (tmV k * (tmV k + 1)) = tmV k * (tmV k + 1) := IntWalk.i64_in _ (by omega)
      have s11 : (tmV k * (tmV k + 1)).tdiv 2 = tsV k := by rw [tdiv_nn (by omega)]; exact p3
      have s12 : IntKind.i64.wrap (tpV k + 1) = tpV k + 1 := IntWalk.i64_in _ (by omega)
      have s13 : IntKind.i64.wrap (tpV k * (tpV k + 1)) = 2 * tqV k * (tqV k + 1) := by rw [← p4]; exact IntWalk.i64_in _ (by omega)
      have s14 : IntKind.i64.wrap (2 * tqV k) = 2 * tqV k := IntWalk.i64_in _ (by omega)
      have s15 : IntKind.i64.wrap (tqV k + 1) = tqV k + 1 := IntWalk.i64_in _ (by omega)
      have s16 : IntKind.i64.wrap (2 * tqV k * (tqV k + 1)) = 2 * tqV k * (tqV k + 1) := by rw [← p4]; exact IntWalk.i64_in _ (by omega)
      have s17 : IntKind.i64.wrap (tpV k * tpV k) = tpV k * tpV k := IntWalk.i64_in _ (by omega)
      have s18 : IntKind.i64.wrap ((tpV k + 1) * (tpV k + 1)) = (tpV k + 1) * (tpV k + 1) := IntWalk.i64_in _ (by omega)
      have s19 : IntKind.i64.wrap (tpV k * tpV k + (tpV k + 1) * (tpV k + 1)) = tzV k * tzV k := by rw [p5]; exact IntWalk.i64_in _ (by omega)
      have s20 : IntKind.i64.wrap (tzV k * tzV k) = tzV k * tzV k := IntWalk.i64_in _ (by omega)
      have s21 : IntKind.i64.wrap (tsV k) = tsV k := IntWalk.i64_in _ (by omega)
      have c0 := own_get Oa (k := 0) (by simp)
      have c1 := own_get Oa (k := 1) (by simp)
      have c2 := own_get Oa (k := 2) (by simp)
      simp only [Nat.add_zero, List.getD_cons_zero, List.getD_cons_succ] at c0 c1 c2
      clear p1 p2 p3 p4 p5 b1 b2 b3 b4 b5 b6 b8 b9 b10 b11 b12 b13 b14 b15 b16 HSG
      go_upto_region 20 with fail
      simp only [List.append]
      refine wp_cut (MeetH [.inr 0, .inl (.slice B' m' c'), .inr 2, .inr 3, .inr 4, .inl (.int .i64 (k)), .inl (.int .i64 (txV k)), .inl (.int .i64 (tyV k)), .inr 8, .inr 9, .inr 10, .inr 11, .inl (.int .i64 (tsV k)), .inr 13, .inr 14, .inr 15, .inr 16, .inr 17, .inr 18, .inr 19, .inr 20, .inr 21, .inr 22, .inr 23, .inr 24, .inr 25, .inr 26, .inr 27, .inr 28, .inr 29, .inr 30, .inr 31, .inr 32, .inr 33, .inr 34, .inr 35, .inr 36, .inr 37, .inr 38, .inr 39, .inr 40, .inr 41, .inr 42, .inr 43, .inr 44, .inr 45, .inr 46, .inr 47, .inr 48, .inr 49, .inr 50, .inr 51, .inr 52, .inr 53, .inr 54, .inr 55, .inr 56, .inr 57, .inr 58, .inr 59, .inr 60, .inr 61, .inr 62, .inr 63, .inr 64, .inr 65, .inr 66, .inr 67, .inr 68, .inr 69, .inr 70, .inr 71, .inr 72, .inr 73, .inr 74, .inr 75, .inr 76, .inr 77, .inr 78, .inr 79, .inr 80, .inr 81, .inr 82, .inr 83, .inr 84, .inr 85, .inr 86, .inr 87, .inr 88, .inr 89, .inr 90, .inr 91, .inr 92, .inr 93, .inr 94, .inr 95, .inr 96, .inr 97, .inr 98, .inr 99, .inr 100, .inr 101, .inr 102, .inr 103, .inr 104, .inr 105, .inr 106, .inr 107, .inr 108, .inr 109, .inr 110, .inr 111, .inr 112, .inr 113, .inr 114, .inr 115, .inr 116, .inr 117, .inr 118, .inr 119, .inr 120, .inr 121, .inr 122, .inr 123, .inr 124, .inr 125, .inr 126, .inr 127, .inr 128, .inr 129, .inr 130, .inr 131, .inr 132, .inr 133, .inr 134, .inr 135, .inr 136, .inr 137, .inr 138, .inr 139, .inr 140, .inr 141, .inr 142, .inr 143, .inr 144, .inr 145, .inr 146, .inr 147, .inr 148, .inr 149, .inr 150, .inr 151, .inr 152, .inr 153, .inr 154, .inr 155, .inr 156, .inr 157, .inr 158, .inr 159, .inr 160, .inr 161, .inr 162, .inr 163, .inr 164, .inr 165, .inr 166, .inr 167, .inr 168, .inr 169, .inr 170, .inr 171, .inr 172, .inr 173, .inr 174, .inr 175, .inr 176, .inr 177, .inr 178, .inr 179, .inr 180, .inr 181, .inr 182, .inr 183, .inr 184, .inr 185, .inr 186, .inr 187, .inr 188, .inr 189, .inr 190, .inr 191, .inr 192, .inr 193, .inr 194, .inr 195, .inr 196, .inr 197, .inr 198, .inr 199, .inr 200, .inr 201, .inr 202, .inr 203, .inr 204, .inr 205, .inr 206, .inr 207, .inr 208, .inr 209, .inr 210, .inr 211, .inr 212, .inr 213, .inr 214, .inr 215, .inr 216, .inr 217, .inr 218, .inr 219, .inr 220, .inr 221, .inr 222, .inr 223, .inr 224, .inr 225, .inr 226, .inr 227, .inr 228, .inr 229, .inr 230, .inr 231, .inr 232, .inr 233, .inr 234, .inr 235, .inr 236, .inr 237, .inr 238, .inr 239, .inr 240, .inr 241, .inr 242, .inr 243, .inr 244, .inr 245, .inr 246, .inr 247, .inr 248, .inr 249, .inr 250, .inr 251, .inr 252, .inr 253, .inr 254, .inr 255, .inr 256, .inr 257, .inr 258, .inr 259, .inr 260, .inr 261, .inr 262, .inr 263, .inr 264, .inr 265, .inr 266, .inr 267, .inr 268, .inr 269, .inr 270, .inr 271, .inr 272, .inr 273, .inr 274, .inr 275, .inr 276, .inr 277, .inr 278, .inr 279, .inr 280, .inr 281, .inr 282, .inr 283, .inr 284, .inr 285, .inr 286, .inr 287, .inr 288, .inr 289, .inr 290, .inr 291, .inr 292, .inr 293, .inr 294, .inr 295, .inr 296, .inr 297, .inr 298, .inr 299, .inr 300, .inr 301, .inr 302, .inr 303, .inr 304, .inr 305, .inr 306, .inr 307, .inr 308, .inr 309, .inr 310, .inr 311, .inr 312, .inr 313, .inr 314, .inl (.bool false), .inr 316, .inr 317, .inr 318, .inr 319, .inr 320, .inr 321, .inr 322, .inr 323, .inr 324, .inr 325, .inr 326, .inr 327, .inr 328, .inr 329, .inr 330, .inr 331, .inr 332, .inr 333, .inr 334, .inr 335, .inr 336, .inr 337, .inr 338, .inr 339, .inr 340, .inr 341, .inr 342, .inr 343, .inr 344, .inr 345, .inr 346, .inr 347, .inr 348, .inr 349, .inr 350, .inr 351, .inr 352, .inr 353, .inr 354, .inr 355, .inr 356, .inr 357, .inr 358, .inr 359, .inr 360, .inr 361, .inr 362, .inr 363, .inr 364, .inr 365, .inr 366, .inr 367, .inr 368, .inr 369, .inr 370, .inr 371, .inr 372, .inr 373, .inr 374, .inr 375, .inr 376, .inr 377, .inr 378, .inr 379, .inr 380, .inr 381, .inr 382, .inr 383, .inr 384, .inr 385, .inr 386, .inr 387, .inr 388, .inr 389, .inr 390, .inr 391, .inr 392, .inr 393, .inr 394, .inr 395, .inr 396, .inr 397, .inr 398, .inr 399, .inr 400, .inr 401, .inr 402, .inr 403, .inr 404, .inr 405, .inr 406, .inr 407, .inr 408, .inr 409, .inr 410, .inr 411, .inr 412, .inr 413, .inr 414, .inr 415, .inr 416, .inr 417, .inr 418, .inr 419, .inr 420, .inr 421, .inr 422, .inr 423, .inr 424, .inr 425, .inr 426, .inr 427, .inr 428, .inr 429, .inr 430, .inr 431, .inr 432, .inr 433, .inr 434, .inr 435, .inr 436, .inr 437, .inr 438, .inr 439, .inr 440, .inr 441, .inr 442, .inr 443, .inr 444, .inr 445, .inr 446, .inr 447, .inr 448, .inr 449, .inr 450, .inr 451, .inr 452, .inr 453, .inr 454, .inr 455, .inr 456, .inr 457, .inr 458, .inr 459, .inr 460, .inr 461, .inr 462, .inr 463, .inr 464, .inr 465, .inr 466, .inr 467, .inr 468, .inr 469, .inr 470, .inr 471, .inr 472, .inr 473, .inr 474, .inr 475, .inr 476, .inr 477, .inr 478, .inr 479, .inr 480, .inr 481, .inr 482, .inr 483, .inr 484, .inr 485, .inr 486, .inr 487, .inr 488, .inr 489, .inr 490, .inr 491, .inr 492, .inr 493, .inr 494, .inr 495, .inr 496, .inr 497, .inr 498, .inr 499, .inr 500, .inr 501, .inr 502, .inr 503, .inr 504, .inr 505, .inr 506, .inr 507, .inr 508, .inr 509, .inr 510, .inr 511, .inr 512, .inr 513, .inr 514, .inr 515, .inr 516, .inr 517, .inr 518, .inr 519, .inr 520, .inr 521, .inr 522, .inr 523, .inr 524, .inr 525, .inr 526, .inr 527, .inr 528, .inr 529, .inr 530, .inr 531, .inr 532, .inr 533, .inr 534, .inr 535, .inr 536, .inr 537, .inr 538, .inr 539, .inr 540, .inr 541, .inr 542, .inr 543, .inr 544, .inr 545, .inr 546, .inr 547, .inr 548, .inr 549, .inr 550, .inr 551, .inr 552, .inr 553, .inr 554, .inr 555, .inr 556, .inr 557, .inr 558, .inr 559, .inr 560, .inr 561, .inr 562, .inr 563, .inr 564, .inr 565, .inr 566, .inr 567, .inr 568] (fun wx => Below v13.heap.size v13 wx)) (MeetH.go _ (by rfl) ?_) ?_
      rotate_left
      · intro _ _ _ _
        as_aux_lemma =>
        clear HB HBs
        have HB : Below v13.heap.size v13 v13 := Below.refl _ _
        have HBs : v13.heap.size ≤ v13.heap.size := Nat.le_refl _
        go_quiet (fail)
        try go_wp2_with fail
        refine Met.intro ?_
        go_step
        refine MeetH.of ?_ ?_
        · exact below_drewN HB _
        repeat (first | refine Agr.skip ?_ | refine Agr.keep ?_ | exact Agr.nil)
      intro u14 v14 hb1
      replace hy' := hy'.on hb1
      replace Oa := Oa.on hb1
      replace HB := below_go HB HBs hb1
      clear hb1
      as_aux_lemma =>
      simp only [fillH]
      clear s1 s2 s3 s4 s5 s6 s7 s8 s9 s10 s11 s12 s13 s14 s15 s16 s17 s18 s19 s20 s21 c0 c1 c2 b7
      go_upto_if 317 with fail
      clear Oa
      refine wp_cut (MeetH [.inr 0, .inl (.slice B' m' c'), .inr 2, .inr 3, .inr 4, .inl (.int .i64 (k)), .inr 6, .inr 7, .inr 8, .inr 9, .inr 10, .inr 11, .inl (.int .i64 (tsV k)), .inr 13, .inr 14, .inr 15, .inr 16, .inr 17, .inr 18, .inr 19, .inr 20, .inr 21, .inr 22, .inr 23, .inr 24, .inr 25, .inr 26, .inr 27, .inr 28, .inr 29, .inr 30, .inr 31, .inr 32, .inr 33, .inr 34, .inr 35, .inr 36, .inr 37, .inr 38, .inr 39, .inr 40, .inr 41, .inr 42, .inr 43, .inr 44, .inr 45, .inr 46, .inr 47, .inr 48, .inr 49, .inr 50, .inr 51, .inr 52, .inr 53, .inr 54, .inr 55, .inr 56, .inr 57, .inr 58, .inr 59, .inr 60, .inr 61, .inr 62, .inr 63, .inr 64, .inr 65, .inr 66, .inr 67, .inr 68, .inr 69, .inr 70, .inr 71, .inr 72, .inr 73, .inr 74, .inr 75, .inr 76, .inr 77, .inr 78, .inr 79, .inr 80, .inr 81, .inr 82, .inr 83, .inr 84, .inr 85, .inr 86, .inr 87, .inr 88, .inr 89, .inr 90, .inr 91, .inr 92, .inr 93, .inr 94, .inr 95, .inr 96, .inr 97, .inr 98, .inr 99, .inr 100, .inr 101, .inr 102, .inr 103, .inr 104, .inr 105, .inr 106, .inr 107, .inr 108, .inr 109, .inr 110, .inr 111, .inr 112, .inr 113, .inr 114, .inr 115, .inr 116, .inr 117, .inr 118, .inr 119, .inr 120, .inr 121, .inr 122, .inr 123, .inr 124, .inr 125, .inr 126, .inr 127, .inr 128, .inr 129, .inr 130, .inr 131, .inr 132, .inr 133, .inr 134, .inr 135, .inr 136, .inr 137, .inr 138, .inr 139, .inr 140, .inr 141, .inr 142, .inr 143, .inr 144, .inr 145, .inr 146, .inr 147, .inr 148, .inr 149, .inr 150, .inr 151, .inr 152, .inr 153, .inr 154, .inr 155, .inr 156, .inr 157, .inr 158, .inr 159, .inr 160, .inr 161, .inr 162, .inr 163, .inr 164, .inr 165, .inr 166, .inr 167, .inr 168, .inr 169, .inr 170, .inr 171, .inr 172, .inr 173, .inr 174, .inr 175, .inr 176, .inr 177, .inr 178, .inr 179, .inr 180, .inr 181, .inr 182, .inr 183, .inr 184, .inr 185, .inr 186, .inr 187, .inr 188, .inr 189, .inr 190, .inr 191, .inr 192, .inr 193, .inr 194, .inr 195, .inr 196, .inr 197, .inr 198, .inr 199, .inr 200, .inr 201, .inr 202, .inr 203, .inr 204, .inr 205, .inr 206, .inr 207, .inr 208, .inr 209, .inr 210, .inr 211, .inr 212, .inr 213, .inr 214, .inr 215, .inr 216, .inr 217, .inr 218, .inr 219, .inr 220, .inr 221, .inr 222, .inr 223, .inr 224, .inr 225, .inr 226, .inr 227, .inr 228, .inr 229, .inr 230, .inr 231, .inr 232, .inr 233, .inr 234, .inr 235, .inr 236, .inr 237, .inr 238, .inr 239, .inr 240, .inr 241, .inr 242, .inr 243, .inr 244, .inr 245, .inr 246, .inr 247, .inr 248, .inr 249, .inr 250, .inr 251, .inr 252, .inr 253, .inr 254, .inr 255, .inr 256, .inr 257, .inr 258, .inr 259, .inr 260, .inr 261, .inr 262, .inr 263, .inr 264, .inr 265, .inr 266, .inr 267, .inr 268, .inr 269, .inr 270, .inr 271, .inr 272, .inr 273, .inr 274, .inr 275, .inr 276, .inr 277, .inr 278, .inr 279, .inr 280, .inr 281, .inr 282, .inr 283, .inr 284, .inr 285, .inr 286, .inr 287, .inr 288, .inr 289, .inr 290, .inr 291, .inr 292, .inr 293, .inr 294, .inr 295, .inr 296, .inr 297, .inr 298, .inr 299, .inr 300, .inr 301, .inr 302, .inr 303, .inr 304, .inr 305, .inr 306, .inr 307, .inr 308, .inr 309, .inr 310, .inr 311, .inr 312, .inr 313, .inr 314, .inr 315, .inr 316, .inr 317, .inr 318, .inr 319, .inr 320, .inr 321, .inr 322, .inr 323, .inr 324, .inr 325, .inr 326, .inr 327, .inr 328, .inr 329, .inr 330, .inr 331, .inr 332, .inr 333, .inr 334, .inr 335, .inr 336, .inr 337, .inr 338, .inr 339, .inr 340, .inr 341, .inr 342, .inr 343, .inr 344, .inr 345, .inr 346, .inr 347, .inr 348, .inr 349, .inr 350, .inr 351, .inr 352, .inr 353, .inr 354, .inr 355, .inr 356, .inr 357, .inr 358, .inr 359, .inr 360, .inr 361, .inr 362, .inr 363, .inr 364, .inr 365, .inr 366, .inr 367, .inr 368, .inr 369, .inr 370, .inr 371, .inr 372, .inr 373, .inr 374, .inr 375, .inr 376, .inr 377, .inr 378, .inr 379, .inr 380, .inr 381, .inr 382, .inr 383, .inr 384, .inr 385, .inr 386, .inr 387, .inr 388, .inr 389, .inr 390, .inr 391, .inr 392, .inr 393, .inr 394, .inr 395, .inr 396, .inr 397, .inr 398, .inr 399, .inr 400, .inr 401, .inr 402, .inr 403, .inr 404, .inr 405, .inr 406, .inr 407, .inr 408, .inr 409, .inr 410, .inr 411, .inr 412, .inr 413, .inr 414, .inr 415, .inr 416, .inr 417, .inr 418, .inr 419, .inr 420, .inr 421, .inr 422, .inr 423, .inr 424, .inr 425, .inr 426, .inr 427, .inr 428, .inr 429, .inr 430, .inr 431, .inr 432, .inr 433, .inr 434, .inr 435, .inr 436, .inr 437, .inr 438, .inr 439, .inr 440, .inr 441, .inr 442, .inr 443, .inr 444, .inr 445, .inr 446, .inr 447, .inr 448, .inr 449, .inr 450, .inr 451, .inr 452, .inr 453, .inr 454, .inr 455, .inr 456, .inr 457, .inr 458, .inr 459, .inr 460, .inr 461, .inr 462, .inr 463, .inr 464, .inr 465, .inr 466, .inr 467, .inr 468, .inr 469, .inr 470, .inr 471, .inr 472, .inr 473, .inr 474, .inr 475, .inr 476, .inr 477, .inr 478, .inr 479, .inr 480, .inr 481, .inr 482, .inr 483, .inr 484, .inr 485, .inr 486, .inr 487, .inr 488, .inr 489, .inr 490, .inr 491, .inr 492, .inr 493, .inr 494, .inr 495, .inr 496, .inr 497, .inr 498, .inr 499, .inr 500, .inr 501, .inr 502, .inr 503, .inr 504, .inr 505, .inr 506, .inr 507, .inr 508, .inr 509, .inr 510, .inr 511, .inr 512, .inr 513, .inr 514, .inr 515, .inr 516, .inr 517, .inr 518, .inr 519, .inr 520, .inr 521, .inr 522, .inr 523, .inr 524, .inr 525, .inr 526, .inr 527, .inr 528, .inr 529, .inr 530, .inr 531, .inr 532, .inr 533, .inr 534, .inr 535, .inr 536, .inr 537, .inr 538, .inr 539, .inr 540, .inr 541, .inr 542, .inr 543, .inr 544, .inr 545, .inr 546, .inr 547, .inr 548, .inr 549, .inr 550, .inr 551, .inr 552, .inr 553, .inr 554, .inr 555, .inr 556, .inr 557, .inr 558, .inr 559, .inr 560, .inr 561, .inr 562, .inr 563, .inr 564, .inr 565, .inr 566, .inr 567, .inr 568] (fun wx => Below v14.heap.size v14 wx)) (MeetH.go _ (by rfl) ?_) ?_
      rotate_left
      · intro _ _ _ _
        as_aux_lemma =>
        clear HB HBs
        have HB : Below v14.heap.size v14 v14 := Below.refl _ _
        have HBs : v14.heap.size ≤ v14.heap.size := Nat.le_refl _
        rcases Int.lt_or_le 0 k with hp | hp
        · obtain ⟨q1, q2, q3, q4, q5⟩ := prt_of h hp
          have s1 : IntKind.i64.wrap (k - 1) = k - 1 := IntWalk.i64_in _ (by omega)
          have s2 : IntKind.i64.wrap (2 * tyV (k - 1)) = 2 * tyV (k - 1) := IntWalk.i64_in _ (by omega)
          have s3 : IntKind.i64.wrap (txV (k - 1) + 2 * tyV (k - 1)) = txV k := by rw [← q2]; exact IntWalk.i64_in _ (by omega)
          have s4 : IntKind.i64.wrap (txV (k - 1) + tyV (k - 1)) = tyV k := by rw [← q3]; exact IntWalk.i64_in _ (by omega)
          clear q2 q3 q4 q5
          go_wp2_with fail
          refine (impl_TwicePair_any _ _).mono ?_
          rintro e v15 ⟨rfl, hb1⟩
          replace hy' := hy'.on hb1
          replace HB := below_go HB HBs hb1
          clear hb1
          go_wp2_with fail
          refine Met.intro ?_
          go_step
          refine MeetH.of ?_ ?_
          · exact HB
          repeat (first | refine Agr.skip ?_ | refine Agr.keep ?_ | exact Agr.nil)
        · have hp2 : ¬ 0 < k := by omega
          go_wp2_with fail
          refine Met.intro ?_
          go_step
          refine MeetH.of ?_ ?_
          · exact HB
          repeat (first | refine Agr.skip ?_ | refine Agr.keep ?_ | exact Agr.nil)
      intro u16 v16 hb1
      replace hy' := hy'.on hb1
      replace HB := below_go HB HBs hb1
      clear hb1
      as_aux_lemma =>
      simp only [fillH]
      go_upto_if 343 with fail
      rcases Int.lt_or_le 1 k with hp | hp
      · have hp2 : 2 ≤ k := by omega
        have e1 := (prt_of h (by omega)).b
        obtain ⟨q1, q2, q3, q4⟩ := pru_of h hp2
        have s1 : IntKind.i64.wrap (k - 1) = k - 1 := IntWalk.i64_in _ (by omega)
        have s2 : IntKind.i64.wrap (k - 2) = k - 2 := IntWalk.i64_in _ (by omega)
        have s3 : IntKind.i64.wrap (34 * tsV (k - 1)) = 34 * tsV (k - 1) := IntWalk.i64_in _ (by omega)
        have s4 : IntKind.i64.wrap (34 * tsV (k - 1) - tsV (k - 2)) = 34 * tsV (k - 1) - tsV (k - 2) := IntWalk.i64_in _ (by omega)
        have s5 : IntKind.i64.wrap (34 * tsV (k - 1) - tsV (k - 2) + 2) = tsV k := by rw [← q2]; exact IntWalk.i64_in _ (by omega)
        clear q2 q3 q4
        go_wp2_with fail
        refine (impl_TriangleSquare_any _ _).mono ?_
        rintro e v17 ⟨rfl, hb1⟩
        replace hy' := hy'.on hb1
        replace HB := below_go HB HBs hb1
        clear hb1
        go_wp2_with fail
        refine (impl_TriangleSquare_any _ _).mono ?_
        rintro e v18 ⟨rfl, hb1⟩
        replace hy' := hy'.on hb1
        replace HB := below_go HB HBs hb1
        clear hb1
        go_wp2_with fail
        refine Met.intro ?_
        go_step
        refine MeetH.of ?_ ?_
        · exact HB
        repeat (first | refine Agr.skip ?_ | refine Agr.keep ?_ | exact Agr.nil)
      · have hp2 : ¬ 2 ≤ k := by omega
        go_wp2_with fail
        refine Met.intro ?_
        go_step
        refine MeetH.of ?_ ?_
        · exact HB
        repeat (first | refine Agr.skip ?_ | refine Agr.keep ?_ | exact Agr.nil)
    · simp only [h]
      go_wp2_with fail
      refine Met.intro ?_
      go_step
      refine MeetH.of ?_ ?_
      · exact HB
      repeat (first | refine Agr.skip ?_ | refine Agr.keep ?_ | exact Agr.nil)
  intro u19 v19 hb1
  replace hy' := hy'.on hb1
  replace Oa := Oa.on hb1
  replace HB := below_go HB HBs hb1
  clear hb1
  as_aux_lemma =>
  simp only [fillH]
  clear Oa
  go_wp2_with fail
  refine (DrawRecurrenceOf_any B' m' c' _ hy' (by omega)).mono ?_
  rintro e v20 ⟨A, n, c, Z, rfl, hZ, hn, hO, hb1⟩
  have hR := hO.rd
  clear hO
  replace hy' := hy'.on hb1
  replace HB := below_go HB HBs hb1
  clear hb1
  go_wp2_with fail
  refine (impl_RecurrenceOf_all A n c Z _ hZ (by omega) hR).mono ?_
  rintro e v21 ⟨rfl, hb1⟩
  replace hy' := hy'.on hb1
  replace hR := hR.on hb1
  replace HB := below_go HB HBs hb1
  clear hb1
  go_wp2_with fail
  refine (spec_RecurrenceOf_all A n c Z _ hZ (by omega) hR).mono ?_
  rintro e v22 ⟨rfl, hb1⟩
  replace hy' := hy'.on hb1
  replace hR := hR.on hb1
  replace HB := below_go HB HBs hb1
  clear hb1
  go_upto_if 398 with fail
  refine wp_cut (MeetH [.inr 0, .inl (.slice B' m' c'), .inr 2, .inr 3, .inr 4, .inr 5, .inr 6, .inr 7, .inr 8, .inr 9, .inr 10, .inr 11, .inr 12, .inr 13, .inr 14, .inr 15, .inr 16, .inr 17, .inr 18, .inr 19, .inr 20, .inr 21, .inr 22, .inr 23, .inr 24, .inr 25, .inr 26, .inr 27, .inr 28, .inr 29, .inr 30, .inr 31, .inr 32, .inr 33, .inr 34, .inr 35, .inr 36, .inr 37, .inr 38, .inr 39, .inr 40, .inr 41, .inr 42, .inr 43, .inr 44, .inr 45, .inr 46, .inr 47, .inr 48, .inr 49, .inr 50, .inr 51, .inr 52, .inr 53, .inr 54, .inr 55, .inr 56, .inr 57, .inr 58, .inr 59, .inr 60, .inr 61, .inr 62, .inr 63, .inr 64, .inr 65, .inr 66, .inr 67, .inr 68, .inr 69, .inr 70, .inr 71, .inr 72, .inr 73, .inr 74, .inr 75, .inr 76, .inr 77, .inr 78, .inr 79, .inr 80, .inr 81, .inr 82, .inr 83, .inr 84, .inr 85, .inr 86, .inr 87, .inr 88, .inr 89, .inr 90, .inr 91, .inr 92, .inr 93, .inr 94, .inr 95, .inr 96, .inr 97, .inr 98, .inr 99, .inr 100, .inr 101, .inr 102, .inr 103, .inr 104, .inr 105, .inr 106, .inr 107, .inr 108, .inr 109, .inr 110, .inr 111, .inr 112, .inr 113, .inr 114, .inr 115, .inr 116, .inr 117, .inr 118, .inr 119, .inr 120, .inr 121, .inr 122, .inr 123, .inr 124, .inr 125, .inr 126, .inr 127, .inr 128, .inr 129, .inr 130, .inr 131, .inr 132, .inr 133, .inr 134, .inr 135, .inr 136, .inr 137, .inr 138, .inr 139, .inr 140, .inr 141, .inr 142, .inr 143, .inr 144, .inr 145, .inr 146, .inr 147, .inr 148, .inr 149, .inr 150, .inr 151, .inr 152, .inr 153, .inr 154, .inr 155, .inr 156, .inr 157, .inr 158, .inr 159, .inr 160, .inr 161, .inr 162, .inr 163, .inr 164, .inr 165, .inr 166, .inr 167, .inr 168, .inr 169, .inr 170, .inr 171, .inr 172, .inr 173, .inr 174, .inr 175, .inr 176, .inr 177, .inr 178, .inr 179, .inr 180, .inr 181, .inr 182, .inr 183, .inr 184, .inr 185, .inr 186, .inr 187, .inr 188, .inr 189, .inr 190, .inr 191, .inr 192, .inr 193, .inr 194, .inr 195, .inr 196, .inr 197, .inr 198, .inr 199, .inr 200, .inr 201, .inr 202, .inr 203, .inr 204, .inr 205, .inr 206, .inr 207, .inr 208, .inr 209, .inr 210, .inr 211, .inr 212, .inr 213, .inr 214, .inr 215, .inr 216, .inr 217, .inr 218, .inr 219, .inr 220, .inr 221, .inr 222, .inr 223, .inr 224, .inr 225, .inr 226, .inr 227, .inr 228, .inr 229, .inr 230, .inr 231, .inr 232, .inr 233, .inr 234, .inr 235, .inr 236, .inr 237, .inr 238, .inr 239, .inr 240, .inr 241, .inr 242, .inr 243, .inr 244, .inr 245, .inr 246, .inr 247, .inr 248, .inr 249, .inr 250, .inr 251, .inr 252, .inr 253, .inr 254, .inr 255, .inr 256, .inr 257, .inr 258, .inr 259, .inr 260, .inr 261, .inr 262, .inr 263, .inr 264, .inr 265, .inr 266, .inr 267, .inr 268, .inr 269, .inr 270, .inr 271, .inr 272, .inr 273, .inr 274, .inr 275, .inr 276, .inr 277, .inr 278, .inr 279, .inr 280, .inr 281, .inr 282, .inr 283, .inr 284, .inr 285, .inr 286, .inr 287, .inr 288, .inr 289, .inr 290, .inr 291, .inr 292, .inr 293, .inr 294, .inr 295, .inr 296, .inr 297, .inr 298, .inr 299, .inr 300, .inr 301, .inr 302, .inr 303, .inr 304, .inr 305, .inr 306, .inr 307, .inr 308, .inr 309, .inr 310, .inr 311, .inr 312, .inr 313, .inr 314, .inr 315, .inr 316, .inr 317, .inr 318, .inr 319, .inr 320, .inr 321, .inr 322, .inr 323, .inr 324, .inr 325, .inr 326, .inr 327, .inr 328, .inr 329, .inr 330, .inr 331, .inr 332, .inr 333, .inr 334, .inr 335, .inr 336, .inr 337, .inr 338, .inr 339, .inr 340, .inr 341, .inr 342, .inr 343, .inr 344, .inr 345, .inr 346, .inr 347, .inr 348, .inr 349, .inr 350, .inr 351, .inr 352, .inr 353, .inr 354, .inr 355, .inr 356, .inr 357, .inr 358, .inr 359, .inr 360, .inr 361, .inr 362, .inr 363, .inr 364, .inr 365, .inr 366, .inr 367, .inr 368, .inr 369, .inr 370, .inr 371, .inr 372, .inr 373, .inr 374, .inr 375, .inr 376, .inr 377, .inr 378, .inr 379, .inr 380, .inr 381, .inr 382, .inr 383, .inr 384, .inr 385, .inr 386, .inr 387, .inr 388, .inr 389, .inr 390, .inr 391, .inr 392, .inr 393, .inr 394, .inr 395, .inr 396, .inr 397, .inr 398, .inr 399, .inr 400, .inr 401, .inr 402, .inr 403, .inr 404, .inr 405, .inr 406, .inr 407, .inr 408, .inr 409, .inr 410, .inr 411, .inr 412, .inr 413, .inr 414, .inr 415, .inr 416, .inr 417, .inr 418, .inr 419, .inr 420, .inr 421, .inr 422, .inr 423, .inr 424, .inr 425, .inr 426, .inr 427, .inr 428, .inr 429, .inr 430, .inr 431, .inr 432, .inr 433, .inr 434, .inr 435, .inr 436, .inr 437, .inr 438, .inr 439, .inr 440, .inr 441, .inr 442, .inr 443, .inr 444, .inr 445, .inr 446, .inr 447, .inr 448, .inr 449, .inr 450, .inr 451, .inr 452, .inr 453, .inr 454, .inr 455, .inr 456, .inr 457, .inr 458, .inr 459, .inr 460, .inr 461, .inr 462, .inr 463, .inr 464, .inr 465, .inr 466, .inr 467, .inr 468, .inr 469, .inr 470, .inr 471, .inr 472, .inr 473, .inr 474, .inr 475, .inr 476, .inr 477, .inr 478, .inr 479, .inr 480, .inr 481, .inr 482, .inr 483, .inr 484, .inr 485, .inr 486, .inr 487, .inr 488, .inr 489, .inr 490, .inr 491, .inr 492, .inr 493, .inr 494, .inr 495, .inr 496, .inr 497, .inr 498, .inr 499, .inr 500, .inr 501, .inr 502, .inr 503, .inr 504, .inr 505, .inr 506, .inr 507, .inr 508, .inr 509, .inr 510, .inr 511, .inr 512, .inr 513, .inr 514, .inr 515, .inr 516, .inr 517, .inr 518, .inr 519, .inr 520, .inr 521, .inr 522, .inr 523, .inr 524, .inr 525, .inr 526, .inr 527, .inr 528, .inr 529, .inr 530, .inr 531, .inr 532, .inr 533, .inr 534, .inr 535, .inr 536, .inr 537, .inr 538, .inr 539, .inr 540, .inr 541, .inr 542, .inr 543, .inr 544, .inr 545, .inr 546, .inr 547, .inr 548, .inr 549, .inr 550, .inr 551, .inr 552, .inr 553, .inr 554, .inr 555, .inr 556, .inr 557, .inr 558, .inr 559, .inr 560, .inr 561, .inr 562, .inr 563, .inr 564, .inr 565, .inr 566, .inr 567, .inr 568] (fun wx => Below v22.heap.size v22 wx)) (MeetH.go _ (by rfl) ?_) ?_
  rotate_left
  · intro _ _ _ _
    as_aux_lemma =>
    clear HB HBs
    have HB : Below v22.heap.size v22 v22 := Below.refl _ _
    have HBs : v22.heap.size ≤ v22.heap.size := Nat.le_refl _
    rcases Bool.eq_false_or_eq_true (rcB Z) with h | h
    · simp only [h]
      have q := rcf_of h
      have n0 := q.n0
      have n1 := q.n1
      obtain ⟨f1, f2⟩ := q.f
      obtain ⟨a1, a2⟩ := q.a
      have HK := Lib.hid q.keep
      have HX := Lib.hid q.bd
      have HR := Lib.hid hR
      generalize rcF Z = f at *
      generalize rcA Z = C at *
      clear q hR h
      obtain ⟨ad, rfl, _, _⟩ := HR.out.get (k := 0) (by omega)
      go_wp2_with fail
      go_loopw [47] (fun i wr => ∃ j q : Nat, j + 2 ≤ n ∧ i = .int .i64 ((j : Int) + 2) ∧ wr = v22.drewN q) (fun i _ => n - (intOf i).toNat)
      case atStart => exact ⟨0, 0, by omega, by simp, rfl⟩
      case round =>
        obtain ⟨j, q, hj, rfl, rfl⟩ := hrel
        by_cases hlj : j + 2 < n
        · have hji : (j : Int) + 2 < (n : Int) := by omega
          have hke := HK.out j (by omega)
          obtain ⟨y0, y1⟩ := HX.out j
          obtain ⟨y2, y3⟩ := HX.out (j + 1)
          obtain ⟨y4, y5⟩ := HX.out (j + 2)
          obtain ⟨_, e1, _, cA⟩ := HR.out.get (k := j + 2) (by omega)
          obtain ⟨_, e2, _, cB⟩ := HR.out.get (k := j + 1) (by omega)
          obtain ⟨_, e3, _, cC⟩ := HR.out.get (k := j) (by omega)
          injection e1 with e1
          injection e2 with e2
          injection e3 with e3
          subst e1
          subst e2
          subst e3
          have cA' : v22.cell? ⟨ad.block, ad.off + (j + 2), none⟩ = some (.int .i64 (Z.getD (j + 2) 0)) := cA
          have cB' : v22.cell? ⟨ad.block, ad.off + (j + 1), none⟩ = some (.int .i64 (Z.getD (j + 1) 0)) := cB
          generalize Z.getD j 0 = x0 at *
          generalize Z.getD (j + 1) 0 = x1 at *
          generalize Z.getD (j + 2) 0 = x2 at *
          obtain ⟨p1, p2⟩ := mil_le f x1 1000000000000000 f1 f2 y2 y3
          have q1 : IntKind.i64.wrap (f * x1) = f * x1 := IntWalk.i64_in _ (by omega)
          have q2 : IntKind.i64.wrap (f * x1 - x0) = f * x1 - x0 := IntWalk.i64_in _ (by omega)
          have q3 : IntKind.i64.wrap (f * x1 - x0 + C) = x2 := by rw [hke]; exact IntWalk.i64_in _ (by omega)
          have w1e : IntKind.i64.wrap ((j : Int) + 2 - 1) = (j : Int) + 1 := by rw [IntWalk.i64_in _ (by omega)]; omega
          have w2e : IntKind.i64.wrap (j : Int) = (j : Int) := IntWalk.i64_in _ (by omega)
          have w3e : IntKind.i64.wrap ((j : Int) + 2 - 2) = (j : Int) := by rw [IntWalk.i64_in _ (by omega)]; omega
          have i1' : (0 : Int) ≤ (j : Int) + 1 := by omega
          have i2' : (j : Int) + 1 < (n : Int) := by omega
          have i3 : (0 : Int) ≤ (j : Int) := by omega
          have i4 : (j : Int) < (n : Int) := by omega
          have i5 : ((j : Int) + 1).toNat = j + 1 := by omega
          have i6 : ((j : Int) + 2).toNat = j + 2 := by omega
          have i7 : (0 : Int) ≤ (j : Int) + 2 := by omega
          clear y0 y1 y2 y3 y4 y5 p1 p2 hke
          go_wp2_with fail
          go_quiet (fail)
          clear q1 q2 q3 w1e w2e w3e i1' i2' i3 i4 i5 i6 i7 cA cB cC cA' cB'
          go_wp2
          go_roundw
          case rel => exact ⟨j + 1, _, by omega, by go_num, by first | rfl | trivial⟩
          case measure => simp [intOf]; omega
        · have hji : ¬ (j : Int) + 2 < (n : Int) := by omega
          go_wp2
          refine Met.intro ?_
          go_step
          refine MeetH.of ?_ ?_
          · exact below_drewN HB _
          repeat (first | refine Agr.skip ?_ | refine Agr.keep ?_ | exact Agr.nil)
    · simp only [h]
      go_wp2_with fail
      refine Met.intro ?_
      go_step
      refine MeetH.of ?_ ?_
      · exact HB
      repeat (first | refine Agr.skip ?_ | refine Agr.keep ?_ | exact Agr.nil)
  intro u23 v23 hb1
  replace hy' := hy'.on hb1
  replace hR := hR.on hb1
  replace HB := below_go HB HBs hb1
  clear hb1
  as_aux_lemma =>
  simp only [fillH]
  clear hR
  clear hZ hn
  go_wp2_with fail
  refine (DrawGoOnBy_any B' m' c' _ hy' (by omega)).mono ?_
  rintro e v24 ⟨⟨gu, gv, gb, gm, gc, rfl⟩, hb1⟩
  replace hy' := hy'.on hb1
  replace HB := below_go HB HBs hb1
  clear hb1
  go_wp2_with fail
  refine (impl_GoOnBy_any gu gv gb gm gc _).mono ?_
  rintro e v25 ⟨Am, cm, rfl, Om, hb1⟩
  replace hy' := hy'.on hb1
  replace HB := below_go HB HBs hb1
  clear hb1
  go_wp2_with fail
  refine (spec_GoOnBy_any gu gv gb gm gc _).mono ?_
  rintro e v26 ⟨Ad, cd, rfl, Od, hb1⟩
  replace hy' := hy'.on hb1
  replace Om := Om.on hb1
  replace HB := below_go HB HBs hb1
  clear hb1
  go_wp2_with fail
  refine (DrawHexagonsAre_any B' m' c' _ hy' (by omega)).mono ?_
  rintro e v27 ⟨⟨pl, rfl⟩, hb1⟩
  replace hy' := hy'.on hb1
  replace Om := Om.on hb1
  replace Od := Od.on hb1
  replace HB := below_go HB HBs hb1
  clear hb1
  go_wp2_with fail
  refine (impl_HexagonsAre_any pl _).mono ?_
  rintro e v28 ⟨rfl, hb1⟩
  replace hy' := hy'.on hb1
  replace Om := Om.on hb1
  replace Od := Od.on hb1
  replace HB := below_go HB HBs hb1
  clear hb1
  go_wp2_with fail
  refine (spec_HexagonsAre_any pl _).mono ?_
  rintro e v29 ⟨rfl, hb1⟩
  replace hy' := hy'.on hb1
  replace Om := Om.on hb1
  replace Od := Od.on hb1
  replace HB := below_go HB HBs hb1
  clear hb1
  go_wp2_with fail
  refine (DrawSquareOfOdd_any B' m' c' _ hy' (by omega)).mono ?_
  rintro e v30 ⟨⟨od, rfl⟩, hb1⟩
  replace hy' := hy'.on hb1
  replace Om := Om.on hb1
  replace Od := Od.on hb1
  replace HB := below_go HB HBs hb1
  clear hb1
  go_wp2_with fail
  refine (impl_SquareOfOdd_any od _).mono ?_
  rintro e v31 ⟨rfl, hb1⟩
  replace hy' := hy'.on hb1
  replace Om := Om.on hb1
  replace Od := Od.on hb1
  replace HB := below_go HB HBs hb1
  clear hb1
  go_wp2_with fail
  refine (spec_SquareOfOdd_any od _).mono ?_
  rintro e v32 ⟨rfl, hb1⟩
  replace hy' := hy'.on hb1
  replace Om := Om.on hb1
  replace Od := Od.on hb1
  replace HB := below_go HB HBs hb1
  clear hb1
  go_wp2_with fail
  have hgs := go_small gu gv gb gm gc
  refine (hSame_b Am Ad _ cm cd _ _ _ _ (goL gu gv gb gm gc) _ rfl (by omega) Om Od).mono ?_
  rintro e v33 ⟨rfl, hb1⟩
  replace hy' := hy'.on hb1
  replace Om := Om.on hb1
  replace Od := Od.on hb1
  replace HB := below_go HB HBs hb1
  clear hb1
  clear Od
  clear hy'
  go_upto_region 53 with fail
  obtain ⟨b9, hb9⟩ : ∃ b, b = (goB gu gv gb gm gc && decide (4 ≤ gc)) := ⟨_, rfl⟩
  refine wp_cut (MeetH [.inr 0, .inr 1, .inr 2, .inr 3, .inr 4, .inr 5, .inr 6, .inr 7, .inr 8, .inr 9, .inr 10, .inr 11, .inr 12, .inr 13, .inr 14, .inr 15, .inr 16, .inr 17, .inr 18, .inr 19, .inr 20, .inr 21, .inr 22, .inr 23, .inr 24, .inr 25, .inr 26, .inr 27, .inr 28, .inr 29, .inr 30, .inr 31, .inr 32, .inr 33, .inr 34, .inr 35, .inr 36, .inr 37, .inr 38, .inr 39, .inr 40, .inr 41, .inr 42, .inr 43, .inr 44, .inr 45, .inr 46, .inr 47, .inr 48, .inr 49, .inl (.int .i64 (gb)), .inl (.int .i64 (gm)), .inr 52, .inl (.slice Am (goL gu gv gb gm gc).length cm), .inr 54, .inr 55, .inr 56, .inl (.int .i64 (pl)), .inl (.int .i64 (hxV pl)), .inl (.bool (hxB pl)), .inr 60, .inr 61, .inr 62, .inl (.int .i64 (odV od)), .inl (.int .i64 (odW od)), .inl (.bool (odB od)), .inr 66, .inr 67, .inr 68, .inr 69, .inr 70, .inr 71, .inr 72, .inr 73, .inr 74, .inr 75, .inr 76, .inr 77, .inr 78, .inr 79, .inr 80, .inr 81, .inr 82, .inr 83, .inr 84, .inr 85, .inr 86, .inr 87, .inr 88, .inr 89, .inr 90, .inr 91, .inr 92, .inr 93, .inr 94, .inr 95, .inr 96, .inr 97, .inr 98, .inr 99, .inr 100, .inr 101, .inr 102, .inr 103, .inr 104, .inr 105, .inr 106, .inr 107, .inr 108, .inr 109, .inr 110, .inr 111, .inr 112, .inr 113, .inr 114, .inr 115, .inr 116, .inr 117, .inr 118, .inr 119, .inr 120, .inr 121, .inr 122, .inr 123, .inr 124, .inr 125, .inr 126, .inr 127, .inr 128, .inr 129, .inr 130, .inr 131, .inr 132, .inr 133, .inr 134, .inr 135, .inr 136, .inr 137, .inr 138, .inr 139, .inr 140, .inr 141, .inr 142, .inr 143, .inr 144, .inr 145, .inr 146, .inr 147, .inr 148, .inr 149, .inr 150, .inr 151, .inr 152, .inr 153, .inr 154, .inr 155, .inr 156, .inr 157, .inr 158, .inr 159, .inr 160, .inr 161, .inr 162, .inr 163, .inr 164, .inr 165, .inr 166, .inr 167, .inr 168, .inr 169, .inr 170, .inr 171, .inr 172, .inr 173, .inr 174, .inr 175, .inr 176, .inr 177, .inr 178, .inr 179, .inr 180, .inr 181, .inr 182, .inr 183, .inr 184, .inr 185, .inr 186, .inr 187, .inr 188, .inr 189, .inr 190, .inr 191, .inr 192, .inr 193, .inr 194, .inr 195, .inr 196, .inr 197, .inr 198, .inr 199, .inr 200, .inr 201, .inr 202, .inr 203, .inr 204, .inr 205, .inr 206, .inr 207, .inr 208, .inr 209, .inr 210, .inr 211, .inr 212, .inr 213, .inr 214, .inr 215, .inr 216, .inr 217, .inr 218, .inr 219, .inr 220, .inr 221, .inr 222, .inr 223, .inr 224, .inr 225, .inr 226, .inr 227, .inr 228, .inr 229, .inr 230, .inr 231, .inr 232, .inr 233, .inr 234, .inr 235, .inr 236, .inr 237, .inr 238, .inr 239, .inr 240, .inr 241, .inr 242, .inr 243, .inr 244, .inr 245, .inr 246, .inr 247, .inr 248, .inr 249, .inr 250, .inr 251, .inr 252, .inr 253, .inr 254, .inr 255, .inr 256, .inr 257, .inr 258, .inr 259, .inr 260, .inr 261, .inr 262, .inr 263, .inr 264, .inr 265, .inr 266, .inr 267, .inr 268, .inr 269, .inr 270, .inr 271, .inr 272, .inr 273, .inr 274, .inr 275, .inr 276, .inr 277, .inr 278, .inr 279, .inr 280, .inr 281, .inr 282, .inr 283, .inr 284, .inr 285, .inr 286, .inr 287, .inr 288, .inr 289, .inr 290, .inr 291, .inr 292, .inr 293, .inr 294, .inr 295, .inr 296, .inr 297, .inr 298, .inr 299, .inr 300, .inr 301, .inr 302, .inr 303, .inr 304, .inr 305, .inr 306, .inr 307, .inr 308, .inr 309, .inr 310, .inr 311, .inr 312, .inr 313, .inr 314, .inr 315, .inr 316, .inr 317, .inr 318, .inr 319, .inr 320, .inr 321, .inr 322, .inr 323, .inr 324, .inr 325, .inr 326, .inr 327, .inr 328, .inr 329, .inr 330, .inr 331, .inr 332, .inr 333, .inr 334, .inr 335, .inr 336, .inr 337, .inr 338, .inr 339, .inr 340, .inr 341, .inr 342, .inr 343, .inr 344, .inr 345, .inr 346, .inr 347, .inr 348, .inr 349, .inr 350, .inr 351, .inr 352, .inr 353, .inr 354, .inr 355, .inr 356, .inr 357, .inr 358, .inr 359, .inr 360, .inr 361, .inr 362, .inr 363, .inr 364, .inr 365, .inr 366, .inr 367, .inr 368, .inr 369, .inr 370, .inr 371, .inr 372, .inr 373, .inr 374, .inr 375, .inr 376, .inr 377, .inr 378, .inr 379, .inr 380, .inr 381, .inr 382, .inr 383, .inr 384, .inr 385, .inr 386, .inr 387, .inr 388, .inr 389, .inr 390, .inr 391, .inr 392, .inr 393, .inr 394, .inr 395, .inr 396, .inr 397, .inr 398, .inr 399, .inr 400, .inr 401, .inr 402, .inr 403, .inr 404, .inr 405, .inr 406, .inr 407, .inr 408, .inr 409, .inr 410, .inr 411, .inr 412, .inr 413, .inr 414, .inr 415, .inr 416, .inr 417, .inr 418, .inr 419, .inr 420, .inr 421, .inr 422, .inr 423, .inr 424, .inr 425, .inr 426, .inr 427, .inr 428, .inr 429, .inr 430, .inr 431, .inr 432, .inr 433, .inr 434, .inr 435, .inr 436, .inr 437, .inr 438, .inr 439, .inr 440, .inr 441, .inr 442, .inr 443, .inr 444, .inr 445, .inr 446, .inr 447, .inr 448, .inr 449, .inr 450, .inr 451, .inr 452, .inr 453, .inr 454, .inr 455, .inr 456, .inr 457, .inr 458, .inr 459, .inr 460, .inr 461, .inr 462, .inr 463, .inr 464, .inr 465, .inr 466, .inr 467, .inr 468, .inr 469, .inr 470, .inr 471, .inr 472, .inr 473, .inr 474, .inr 475, .inr 476, .inr 477, .inr 478, .inr 479, .inr 480, .inr 481, .inr 482, .inr 483, .inr 484, .inr 485, .inr 486, .inr 487, .inr 488, .inr 489, .inr 490, .inr 491, .inr 492, .inr 493, .inr 494, .inr 495, .inr 496, .inr 497, .inr 498, .inr 499, .inr 500, .inr 501, .inr 502, .inr 503, .inr 504, .inr 505, .inr 506, .inr 507, .inr 508, .inr 509, .inr 510, .inr 511, .inr 512, .inr 513, .inr 514, .inl (.bool b9), .inr 516, .inr 517, .inr 518, .inr 519, .inr 520, .inr 521, .inr 522, .inr 523, .inr 524, .inr 525, .inr 526, .inr 527, .inr 528, .inr 529, .inr 530, .inr 531, .inr 532, .inr 533, .inr 534, .inr 535, .inr 536, .inr 537, .inr 538, .inr 539, .inr 540, .inr 541, .inr 542, .inr 543, .inr 544, .inr 545, .inr 546, .inr 547, .inr 548, .inr 549, .inr 550, .inr 551, .inr 552, .inr 553, .inr 554, .inr 555, .inr 556, .inr 557, .inr 558, .inr 559, .inr 560, .inr 561, .inr 562, .inr 563, .inr 564, .inr 565, .inr 566, .inr 567, .inr 568] (fun wx => Below v33.heap.size v33 wx)) (MeetH.go _ (by rfl) ?_) ?_
  rotate_left
  · intro _ _ _ _
    as_aux_lemma =>
    clear HB HBs
    have HB : Below v33.heap.size v33 v33 := Below.refl _ _
    have HBs : v33.heap.size ≤ v33.heap.size := Nat.le_refl _
    rcases Bool.eq_false_or_eq_true (goB gu gv gb gm gc) with h | h
    · simp only [h]
      rcases Int.lt_or_le 3 gc with hp | hp
      · obtain rfl : b9 = true := by rw [hb9, h]; simp; omega
        clear hb9
        have hp2 : 4 ≤ gc := by omega
        go_wp2_with fail
        refine Met.intro ?_
        go_step
        refine MeetH.of ?_ ?_
        · exact HB
        repeat (first | refine Agr.skip ?_ | refine Agr.keep ?_ | exact Agr.nil)
      · obtain rfl : b9 = false := by rw [hb9, h]; simp; omega
        clear hb9
        have hp2 : ¬ 4 ≤ gc := by omega
        go_wp2_with fail
        refine Met.intro ?_
        go_step
        refine MeetH.of ?_ ?_
        · exact HB
        repeat (first | refine Agr.skip ?_ | refine Agr.keep ?_ | exact Agr.nil)
    · simp only [h]
      obtain rfl : b9 = false := by rw [hb9, h]; simp
      clear hb9
      go_wp2_with fail
      refine Met.intro ?_
      go_step
      refine MeetH.of ?_ ?_
      · exact HB
      repeat (first | refine Agr.skip ?_ | refine Agr.keep ?_ | exact Agr.nil)
  intro u34 v34 hb1
  replace Om := Om.on hb1
  replace HB := below_go HB HBs hb1
  clear hb1
  as_aux_lemma =>
  simp only [fillH]
  go_upto_if 515 with fail
  refine wp_cut (MeetH [.inr 0, .inr 1, .inr 2, .inr 3, .inr 4, .inr 5, .inr 6, .inr 7, .inr 8, .inr 9, .inr 10, .inr 11, .inr 12, .inr 13, .inr 14, .inr 15, .inr 16, .inr 17, .inr 18, .inr 19, .inr 20, .inr 21, .inr 22, .inr 23, .inr 24, .inr 25, .inr 26, .inr 27, .inr 28, .inr 29, .inr 30, .inr 31, .inr 32, .inr 33, .inr 34, .inr 35, .inr 36, .inr 37, .inr 38, .inr 39, .inr 40, .inr 41, .inr 42, .inr 43, .inr 44, .inr 45, .inr 46, .inr 47, .inr 48, .inr 49, .inr 50, .inr 51, .inr 52, .inr 53, .inr 54, .inr 55, .inr 56, .inl (.int .i64 (pl)), .inl (.int .i64 (hxV pl)), .inl (.bool (hxB pl)), .inr 60, .inr 61, .inr 62, .inl (.int .i64 (odV od)), .inl (.int .i64 (odW od)), .inl (.bool (odB od)), .inr 66, .inr 67, .inr 68, .inr 69, .inr 70, .inr 71, .inr 72, .inr 73, .inr 74, .inr 75, .inr 76, .inr 77, .inr 78, .inr 79, .inr 80, .inr 81, .inr 82, .inr 83, .inr 84, .inr 85, .inr 86, .inr 87, .inr 88, .inr 89, .inr 90, .inr 91, .inr 92, .inr 93, .inr 94, .inr 95, .inr 96, .inr 97, .inr 98, .inr 99, .inr 100, .inr 101, .inr 102, .inr 103, .inr 104, .inr 105, .inr 106, .inr 107, .inr 108, .inr 109, .inr 110, .inr 111, .inr 112, .inr 113, .inr 114, .inr 115, .inr 116, .inr 117, .inr 118, .inr 119, .inr 120, .inr 121, .inr 122, .inr 123, .inr 124, .inr 125, .inr 126, .inr 127, .inr 128, .inr 129, .inr 130, .inr 131, .inr 132, .inr 133, .inr 134, .inr 135, .inr 136, .inr 137, .inr 138, .inr 139, .inr 140, .inr 141, .inr 142, .inr 143, .inr 144, .inr 145, .inr 146, .inr 147, .inr 148, .inr 149, .inr 150, .inr 151, .inr 152, .inr 153, .inr 154, .inr 155, .inr 156, .inr 157, .inr 158, .inr 159, .inr 160, .inr 161, .inr 162, .inr 163, .inr 164, .inr 165, .inr 166, .inr 167, .inr 168, .inr 169, .inr 170, .inr 171, .inr 172, .inr 173, .inr 174, .inr 175, .inr 176, .inr 177, .inr 178, .inr 179, .inr 180, .inr 181, .inr 182, .inr 183, .inr 184, .inr 185, .inr 186, .inr 187, .inr 188, .inr 189, .inr 190, .inr 191, .inr 192, .inr 193, .inr 194, .inr 195, .inr 196, .inr 197, .inr 198, .inr 199, .inr 200, .inr 201, .inr 202, .inr 203, .inr 204, .inr 205, .inr 206, .inr 207, .inr 208, .inr 209, .inr 210, .inr 211, .inr 212, .inr 213, .inr 214, .inr 215, .inr 216, .inr 217, .inr 218, .inr 219, .inr 220, .inr 221, .inr 222, .inr 223, .inr 224, .inr 225, .inr 226, .inr 227, .inr 228, .inr 229, .inr 230, .inr 231, .inr 232, .inr 233, .inr 234, .inr 235, .inr 236, .inr 237, .inr 238, .inr 239, .inr 240, .inr 241, .inr 242, .inr 243, .inr 244, .inr 245, .inr 246, .inr 247, .inr 248, .inr 249, .inr 250, .inr 251, .inr 252, .inr 253, .inr 254, .inr 255, .inr 256, .inr 257, .inr 258, .inr 259, .inr 260, .inr 261, .inr 262, .inr 263, .inr 264, .inr 265, .inr 266, .inr 267, .inr 268, .inr 269, .inr 270, .inr 271, .inr 272, .inr 273, .inr 274, .inr 275, .inr 276, .inr 277, .inr 278, .inr 279, .inr 280, .inr 281, .inr 282, .inr 283, .inr 284, .inr 285, .inr 286, .inr 287, .inr 288, .inr 289, .inr 290, .inr 291, .inr 292, .inr 293, .inr 294, .inr 295, .inr 296, .inr 297, .inr 298, .inr 299, .inr 300, .inr 301, .inr 302, .inr 303, .inr 304, .inr 305, .inr 306, .inr 307, .inr 308, .inr 309, .inr 310, .inr 311, .inr 312, .inr 313, .inr 314, .inr 315, .inr 316, .inr 317, .inr 318, .inr 319, .inr 320, .inr 321, .inr 322, .inr 323, .inr 324, .inr 325, .inr 326, .inr 327, .inr 328, .inr 329, .inr 330, .inr 331, .inr 332, .inr 333, .inr 334, .inr 335, .inr 336, .inr 337, .inr 338, .inr 339, .inr 340, .inr 341, .inr 342, .inr 343, .inr 344, .inr 345, .inr 346, .inr 347, .inr 348, .inr 349, .inr 350, .inr 351, .inr 352, .inr 353, .inr 354, .inr 355, .inr 356, .inr 357, .inr 358, .inr 359, .inr 360, .inr 361, .inr 362, .inr 363, .inr 364, .inr 365, .inr 366, .inr 367, .inr 368, .inr 369, .inr 370, .inr 371, .inr 372, .inr 373, .inr 374, .inr 375, .inr 376, .inr 377, .inr 378, .inr 379, .inr 380, .inr 381, .inr 382, .inr 383, .inr 384, .inr 385, .inr 386, .inr 387, .inr 388, .inr 389, .inr 390, .inr 391, .inr 392, .inr 393, .inr 394, .inr 395, .inr 396, .inr 397, .inr 398, .inr 399, .inr 400, .inr 401, .inr 402, .inr 403, .inr 404, .inr 405, .inr 406, .inr 407, .inr 408, .inr 409, .inr 410, .inr 411, .inr 412, .inr 413, .inr 414, .inr 415, .inr 416, .inr 417, .inr 418, .inr 419, .inr 420, .inr 421, .inr 422, .inr 423, .inr 424, .inr 425, .inr 426, .inr 427, .inr 428, .inr 429, .inr 430, .inr 431, .inr 432, .inr 433, .inr 434, .inr 435, .inr 436, .inr 437, .inr 438, .inr 439, .inr 440, .inr 441, .inr 442, .inr 443, .inr 444, .inr 445, .inr 446, .inr 447, .inr 448, .inr 449, .inr 450, .inr 451, .inr 452, .inr 453, .inr 454, .inr 455, .inr 456, .inr 457, .inr 458, .inr 459, .inr 460, .inr 461, .inr 462, .inr 463, .inr 464, .inr 465, .inr 466, .inr 467, .inr 468, .inr 469, .inr 470, .inr 471, .inr 472, .inr 473, .inr 474, .inr 475, .inr 476, .inr 477, .inr 478, .inr 479, .inr 480, .inr 481, .inr 482, .inr 483, .inr 484, .inr 485, .inr 486, .inr 487, .inr 488, .inr 489, .inr 490, .inr 491, .inr 492, .inr 493, .inr 494, .inr 495, .inr 496, .inr 497, .inr 498, .inr 499, .inr 500, .inr 501, .inr 502, .inr 503, .inr 504, .inr 505, .inr 506, .inr 507, .inr 508, .inr 509, .inr 510, .inr 511, .inr 512, .inr 513, .inr 514, .inr 515, .inr 516, .inr 517, .inr 518, .inr 519, .inr 520, .inr 521, .inr 522, .inr 523, .inr 524, .inr 525, .inr 526, .inr 527, .inr 528, .inr 529, .inr 530, .inr 531, .inr 532, .inr 533, .inr 534, .inr 535, .inr 536, .inr 537, .inr 538, .inr 539, .inr 540, .inr 541, .inr 542, .inr 543, .inr 544, .inr 545, .inr 546, .inr 547, .inr 548, .inr 549, .inr 550, .inr 551, .inr 552, .inr 553, .inr 554, .inr 555, .inr 556, .inr 557, .inr 558, .inr 559, .inr 560, .inr 561, .inr 562, .inr 563, .inr 564, .inr 565, .inr 566, .inr 567, .inr 568] (fun wx => Below v34.heap.size v34 wx)) (MeetH.go _ (by rfl) ?_) ?_
  rotate_left
  · intro _ _ _ _
    as_aux_lemma =>
    clear HB HBs
    have HB : Below v34.heap.size v34 v34 := Below.refl _ _
    have HBs : v34.heap.size ≤ v34.heap.size := Nat.le_refl _
    rcases Bool.eq_false_or_eq_true (b9) with h | h
    · simp only [h]
      have hb := h.symm.trans hb9
      clear hb9
      simp only [Bool.true_eq, Bool.and_eq_true, decide_eq_true_eq] at hb
      go_wp2_with fail
      refine (impl_RecurrenceOf_all Am _ cm (goL gu gv gb gm gc) _ rfl (by omega) Om.rd).mono ?_
      rintro e v35 ⟨rfl, hb1⟩
      replace Om := Om.on hb1
      replace HB := below_go HB HBs hb1
      clear hb1
      rcases Bool.eq_false_or_eq_true (rcB (goL gu gv gb gm gc)) with hr | hr
      · obtain ⟨e1, e2⟩ := go_rule hb.1 hb.2 hr
        simp only [hr, e1, e2]
        clear e1 e2
        go_wp2_with fail
        refine Met.intro ?_
        go_step
        refine MeetH.of ?_ ?_
        · exact HB
        repeat (first | refine Agr.skip ?_ | refine Agr.keep ?_ | exact Agr.nil)
      · simp only [hr]
        go_wp2_with fail
        refine Met.intro ?_
        go_step
        refine MeetH.of ?_ ?_
        · exact HB
        repeat (first | refine Agr.skip ?_ | refine Agr.keep ?_ | exact Agr.nil)
    · simp only [h]
      go_wp2_with fail
      refine Met.intro ?_
      go_step
      refine MeetH.of ?_ ?_
      · exact HB
      repeat (first | refine Agr.skip ?_ | refine Agr.keep ?_ | exact Agr.nil)
  intro u36 v36 hb1
  replace Om := Om.on hb1
  replace HB := below_go HB HBs hb1
  clear hb1
  as_aux_lemma =>
  simp only [fillH]
  clear Om
  clear hb9 hgs
  go_upto_if 533 with fail
  refine wp_cut (MeetH [.inr 0, .inr 1, .inr 2, .inr 3, .inr 4, .inr 5, .inr 6, .inr 7, .inr 8, .inr 9, .inr 10, .inr 11, .inr 12, .inr 13, .inr 14, .inr 15, .inr 16, .inr 17, .inr 18, .inr 19, .inr 20, .inr 21, .inr 22, .inr 23, .inr 24, .inr 25, .inr 26, .inr 27, .inr 28, .inr 29, .inr 30, .inr 31, .inr 32, .inr 33, .inr 34, .inr 35, .inr 36, .inr 37, .inr 38, .inr 39, .inr 40, .inr 41, .inr 42, .inr 43, .inr 44, .inr 45, .inr 46, .inr 47, .inr 48, .inr 49, .inr 50, .inr 51, .inr 52, .inr 53, .inr 54, .inr 55, .inr 56, .inr 57, .inr 58, .inr 59, .inr 60, .inr 61, .inr 62, .inl (.int .i64 (odV od)), .inl (.int .i64 (odW od)), .inl (.bool (odB od)), .inr 66, .inr 67, .inr 68, .inr 69, .inr 70, .inr 71, .inr 72, .inr 73, .inr 74, .inr 75, .inr 76, .inr 77, .inr 78, .inr 79, .inr 80, .inr 81, .inr 82, .inr 83, .inr 84, .inr 85, .inr 86, .inr 87, .inr 88, .inr 89, .inr 90, .inr 91, .inr 92, .inr 93, .inr 94, .inr 95, .inr 96, .inr 97, .inr 98, .inr 99, .inr 100, .inr 101, .inr 102, .inr 103, .inr 104, .inr 105, .inr 106, .inr 107, .inr 108, .inr 109, .inr 110, .inr 111, .inr 112, .inr 113, .inr 114, .inr 115, .inr 116, .inr 117, .inr 118, .inr 119, .inr 120, .inr 121, .inr 122, .inr 123, .inr 124, .inr 125, .inr 126, .inr 127, .inr 128, .inr 129, .inr 130, .inr 131, .inr 132, .inr 133, .inr 134, .inr 135, .inr 136, .inr 137, .inr 138, .inr 139, .inr 140, .inr 141, .inr 142, .inr 143, .inr 144, .inr 145, .inr 146, .inr 147, .inr 148, .inr 149, .inr 150, .inr 151, .inr 152, .inr 153, .inr 154, .inr 155, .inr 156, .inr 157, .inr 158, .inr 159, .inr 160, .inr 161, .inr 162, .inr 163, .inr 164, .inr 165, .inr 166, .inr 167, .inr 168, .inr 169, .inr 170, .inr 171, .inr 172, .inr 173, .inr 174, .inr 175, .inr 176, .inr 177, .inr 178, .inr 179, .inr 180, .inr 181, .inr 182, .inr 183, .inr 184, .inr 185, .inr 186, .inr 187, .inr 188, .inr 189, .inr 190, .inr 191, .inr 192, .inr 193, .inr 194, .inr 195, .inr 196, .inr 197, .inr 198, .inr 199, .inr 200, .inr 201, .inr 202, .inr 203, .inr 204, .inr 205, .inr 206, .inr 207, .inr 208, .inr 209, .inr 210, .inr 211, .inr 212, .inr 213, .inr 214, .inr 215, .inr 216, .inr 217, .inr 218, .inr 219, .inr 220, .inr 221, .inr 222, .inr 223, .inr 224, .inr 225, .inr 226, .inr 227, .inr 228, .inr 229, .inr 230, .inr 231, .inr 232, .inr 233, .inr 234, .inr 235, .inr 236, .inr 237, .inr 238, .inr 239, .inr 240, .inr 241, .inr 242, .inr 243, .inr 244, .inr 245, .inr 246, .inr 247, .inr 248, .inr 249, .inr 250, .inr 251, .inr 252, .inr 253, .inr 254, .inr 255, .inr 256, .inr 257, .inr 258, .inr 259, .inr 260, .inr 261, .inr 262, .inr 263, .inr 264, .inr 265, .inr 266, .inr 267, .inr 268, .inr 269, .inr 270, .inr 271, .inr 272, .inr 273, .inr 274, .inr 275, .inr 276, .inr 277, .inr 278, .inr 279, .inr 280, .inr 281, .inr 282, .inr 283, .inr 284, .inr 285, .inr 286, .inr 287, .inr 288, .inr 289, .inr 290, .inr 291, .inr 292, .inr 293, .inr 294, .inr 295, .inr 296, .inr 297, .inr 298, .inr 299, .inr 300, .inr 301, .inr 302, .inr 303, .inr 304, .inr 305, .inr 306, .inr 307, .inr 308, .inr 309, .inr 310, .inr 311, .inr 312, .inr 313, .inr 314, .inr 315, .inr 316, .inr 317, .inr 318, .inr 319, .inr 320, .inr 321, .inr 322, .inr 323, .inr 324, .inr 325, .inr 326, .inr 327, .inr 328, .inr 329, .inr 330, .inr 331, .inr 332, .inr 333, .inr 334, .inr 335, .inr 336, .inr 337, .inr 338, .inr 339, .inr 340, .inr 341, .inr 342, .inr 343, .inr 344, .inr 345, .inr 346, .inr 347, .inr 348, .inr 349, .inr 350, .inr 351, .inr 352, .inr 353, .inr 354, .inr 355, .inr 356, .inr 357, .inr 358, .inr 359, .inr 360, .inr 361, .inr 362, .inr 363, .inr 364, .inr 365, .inr 366, .inr 367, .inr 368, .inr 369, .inr 370, .inr 371, .inr 372, .inr 373, .inr 374, .inr 375, .inr 376, .inr 377, .inr 378, .inr 379, .inr 380, .inr 381, .inr 382, .inr 383, .inr 384, .inr 385, .inr 386, .inr 387, .inr 388, .inr 389, .inr 390, .inr 391, .inr 392, .inr 393, .inr 394, .inr 395, .inr 396, .inr 397, .inr 398, .inr 399, .inr 400, .inr 401, .inr 402, .inr 403, .inr 404, .inr 405, .inr 406, .inr 407, .inr 408, .inr 409, .inr 410, .inr 411, .inr 412, .inr 413, .inr 414, .inr 415, .inr 416, .inr 417, .inr 418, .inr 419, .inr 420, .inr 421, .inr 422, .inr 423, .inr 424, .inr 425, .inr 426, .inr 427, .inr 428, .inr 429, .inr 430, .inr 431, .inr 432, .inr 433, .inr 434, .inr 435, .inr 436, .inr 437, .inr 438, .inr 439, .inr 440, .inr 441, .inr 442, .inr 443, .inr 444, .inr 445, .inr 446, .inr 447, .inr 448, .inr 449, .inr 450, .inr 451, .inr 452, .inr 453, .inr 454, .inr 455, .inr 456, .inr 457, .inr 458, .inr 459, .inr 460, .inr 461, .inr 462, .inr 463, .inr 464, .inr 465, .inr 466, .inr 467, .inr 468, .inr 469, .inr 470, .inr 471, .inr 472, .inr 473, .inr 474, .inr 475, .inr 476, .inr 477, .inr 478, .inr 479, .inr 480, .inr 481, .inr 482, .inr 483, .inr 484, .inr 485, .inr 486, .inr 487, .inr 488, .inr 489, .inr 490, .inr 491, .inr 492, .inr 493, .inr 494, .inr 495, .inr 496, .inr 497, .inr 498, .inr 499, .inr 500, .inr 501, .inr 502, .inr 503, .inr 504, .inr 505, .inr 506, .inr 507, .inr 508, .inr 509, .inr 510, .inr 511, .inr 512, .inr 513, .inr 514, .inr 515, .inr 516, .inr 517, .inr 518, .inr 519, .inr 520, .inr 521, .inr 522, .inr 523, .inr 524, .inr 525, .inr 526, .inr 527, .inr 528, .inr 529, .inr 530, .inr 531, .inr 532, .inr 533, .inr 534, .inr 535, .inr 536, .inr 537, .inr 538, .inr 539, .inr 540, .inr 541, .inr 542, .inr 543, .inr 544, .inr 545, .inr 546, .inr 547, .inr 548, .inr 549, .inr 550, .inr 551, .inr 552, .inr 553, .inr 554, .inr 555, .inr 556, .inr 557, .inr 558, .inr 559, .inr 560, .inr 561, .inr 562, .inr 563, .inr 564, .inr 565, .inr 566, .inr 567, .inr 568] (fun wx => Below v36.heap.size v36 wx)) (MeetH.go _ (by rfl) ?_) ?_
  rotate_left
  · intro _ _ _ _
    as_aux_lemma =>
    clear HB HBs
    have HB : Below v36.heap.size v36 v36 := Below.refl _ _
    have HBs : v36.heap.size ≤ v36.heap.size := Nat.le_refl _
    rcases Bool.eq_false_or_eq_true (hxB pl) with h | h
    · simp only [h]
      obtain ⟨e1, e2, e3, e4, e5, e6⟩ := hex_tri h
      clear e1 e2 e3
      go_wp2_with fail
      refine (impl_PolygonNumber_any _ _ _).mono ?_
      rintro e v37 ⟨rfl, hb1⟩
      replace HB := below_go HB HBs hb1
      clear hb1
      go_wp2_with fail
      refine (impl_PolygonNumber_any _ _ _).mono ?_
      rintro e v38 ⟨rfl, hb1⟩
      replace HB := below_go HB HBs hb1
      clear hb1
      go_wp2_with fail
      refine Met.intro ?_
      go_step
      refine MeetH.of ?_ ?_
      · exact HB
      repeat (first | refine Agr.skip ?_ | refine Agr.keep ?_ | exact Agr.nil)
    · simp only [h]
      go_wp2_with fail
      refine Met.intro ?_
      go_step
      refine MeetH.of ?_ ?_
      · exact HB
      repeat (first | refine Agr.skip ?_ | refine Agr.keep ?_ | exact Agr.nil)
  intro u39 v39 hb1
  replace HB := below_go HB HBs hb1
  clear hb1
  as_aux_lemma =>
  simp only [fillH]
  go_upto_if 555 with fail
  rcases Bool.eq_false_or_eq_true (odB od) with h | h
  · simp only [h]
    obtain ⟨e1, e2, e3, e4, e5, e6⟩ := odd_sq h
    have s1 : IntKind.i64.wrap (8 * pnV 3 (odW od)) = 8 * pnV 3 (odW od) := IntWalk.i64_in _ (by omega)
    have s2 : IntKind.i64.wrap (8 * pnV 3 (odW od) + 1) = odV od := by rw [← e5]; exact IntWalk.i64_in _ (by omega)
    clear e1 e2 e3 e5 e6
    go_wp2_with fail
    refine (impl_PolygonNumber_any _ _ _).mono ?_
    rintro e v40 ⟨rfl, hb1⟩
    replace HB := below_go HB HBs hb1
    clear hb1
    go_wp2_with fail
    go_ret
    exact ⟨rfl, HB⟩
  · simp only [h]
    go_wp2_with fail
    go_ret
    exact ⟨rfl, HB⟩
end Go.Proofs.Ytmpeembnjpgcgaa
