/- The law FnPicturesTurned, walked: whatever the arguments it answers true, where the library's variable of internal/bytealg holds some number. -/
import Derived.Test.YtmcdmacpgjkelaaDoorMa
import Derived.Test.YtmcdmacpgjkelaaDoorPtB
import Derived.Test.YtmcdmacpgjkelaaDoorMd
import Derived.Test.YtmcdmacpgjkelaaDoorAnW
import Derived.Test.YtmcdmacpgjkelaaDoorCut
import Derived.Lib.Hide
import Derived.Deep.Cut
import Derived.Deep.CutBlock
namespace Go.Proofs.YtmcdmacpgjkelaaDoor
open Go.ChangeShapes Go.WideShapes Go.ChangeAt Go.RowKit

def tuk (l : List UInt8) : Nat → List UInt8
  | 0 => l
  | k + 1 => tuL (tuk l k)
structure TukE (l : List UInt8) (k : Nat) : Prop where
  ok : isPic (tuk l k) = true
  le : leL (tuk l k) = leL l
  low : Op.bytesLess (bt (tuk l k)).toList (bt (leL l)).toList = false
  few : (tuk l k).length ≤ 600
theorem tukE_of {l : List UInt8} (h : isPic l = true) : ∀ k, TukE l k := by
  intro k
  have hk : isPic (tuk l k) = true ∧ leL (tuk l k) = leL l := by
    induction k with
    | zero => exact ⟨h, rfl⟩
    | succ k ih => exact ⟨(tuE_of ih.1).ok, (le_tu ih.1).trans ih.2⟩
  refine ⟨hk.1, hk.2, ?_, (pic_few hk.1).1⟩
  rw [bt_toList, bt_toList, ← hk.2]
  exact le_low hk.1
structure TukF (l : List UInt8) (F : Nat → List UInt8) : Prop where
  zero : F 0 = l
  four : F 4 = l
  ok : ∀ k, isPic (F k) = true
  le : ∀ k, leL (F k) = leL l
  low : ∀ k, Op.bytesLess (bt (F k)).toList (bt (leL l)).toList = false
  few : ∀ k, (F k).length ≤ 600
  step : ∀ k, tuL (F k) = F (k + 1)
theorem tukF_of {l : List UInt8} (h : isPic l = true) : ∃ F, TukF l F :=
  ⟨tuk l, rfl, tu4 h, fun k => (tukE_of h k).ok, fun k => (tukE_of h k).le, fun k => (tukE_of h k).low, fun k => (tukE_of h k).few, fun _ => rfl⟩
set_option maxRecDepth 4000 in
set_option maxHeartbeats 16000000 in
theorem walk_PicturesTurned (A' : Option Addr) (n' a' : Nat) (B' : Option Addr) (m' c' : Nat) (w : World) (hn' : n' ≤ 9223372036854775807) (hx' : Bys w A' n') (hm' : m' ≤ 9223372036854775807) (hy' : Bys w B' m') (hM : MaxL w) :
    Calls Tryd.prog 3 #[.slice A' n' a', .slice B' m' c'] w fun e w' => e = .returned (.bool true) ∧ Below w.heap.size w w' := by
  have HB : Below w.heap.size w w := Below.refl _ _
  have HBs : w.heap.size ≤ w.heap.size := Nat.le_refl _
  rcases Bool.eq_false_or_eq_true (bgB n' m') with hg | hg
  · go_enter Tryd.func3, Tryd.ntmps3
    go_wp2_with (go_at_call 5; refine (big_any _ _ _ _ _ _ _ hn' hm').mono ?_; rintro e w' ⟨rfl, rfl⟩)
    go_ret
    exact ⟨rfl, Below.refl _ _⟩
  obtain ⟨gg1, gg2⟩ := bg_no hg
  go_enter Tryd.func3, Tryd.ntmps3
  go_wp2_with (go_at_call 5; refine (big_any _ _ _ _ _ _ _ hn' hm').mono ?_; rintro e w' ⟨rfl, rfl⟩)
  refine (DrawTurnPicture_any A' n' a' _ hx' (by omega)).mono ?_
  rintro e v1 ⟨⟨p, rfl, hp⟩, hb1⟩
  replace hM := hM.on hb1
  replace hy' := hy'.on hb1
  replace HB := below_go HB HBs hb1
  clear hb1
  clear hx'
  obtain ⟨P, rfl⟩ : ∃ P, p = bt P := ⟨_, bt_of p⟩
  rw [bt_size] at hp
  replace hp : P.length ≤ 1048576 := by omega
  go_wp2_with fail
  refine (impl_TurnPicture_L P _ hp hM).mono ?_
  rintro e v2 ⟨rfl, hb1⟩
  replace hM := hM.on hb1
  replace hy' := hy'.on hb1
  replace HB := below_go HB HBs hb1
  clear hb1
  go_wp2_with fail
  refine (spec_TurnPicture_L P _ hp).mono ?_
  rintro e v3 ⟨rfl, hb1⟩
  replace hM := hM.on hb1
  replace hy' := hy'.on hb1
  replace HB := below_go HB HBs hb1
  clear hb1
  go_wp2_with fail
  refine (impl_MirrorPicture_L P _ hp hM).mono ?_
  rintro e v4 ⟨rfl, hb1⟩
  replace hM := hM.on hb1
  replace hy' := hy'.on hb1
  replace HB := below_go HB HBs hb1
  clear hb1
  go_wp2_with fail
  refine (spec_MirrorPicture_L P _ hp).mono ?_
  rintro e v5 ⟨rfl, hb1⟩
  replace hM := hM.on hb1
  replace hy' := hy'.on hb1
  replace HB := below_go HB HBs hb1
  clear hb1
  go_wp2_with fail
  refine (impl_OtherDots_L P _ hp hM).mono ?_
  rintro e v6 ⟨rfl, hb1⟩
  replace hM := hM.on hb1
  replace hy' := hy'.on hb1
  replace HB := below_go HB HBs hb1
  clear hb1
  go_wp2_with fail
  refine (spec_OtherDots_L P _ hp).mono ?_
  rintro e v7 ⟨rfl, hb1⟩
  replace hM := hM.on hb1
  replace hy' := hy'.on hb1
  replace HB := below_go HB HBs hb1
  clear hb1
  go_wp2_with fail
  refine (impl_LeastPicture_L P _ hp hM).mono ?_
  rintro e v8 ⟨rfl, hb1⟩
  replace hM := hM.on hb1
  replace hy' := hy'.on hb1
  replace HB := below_go HB HBs hb1
  clear hb1
  go_wp2_with fail
  refine (spec_LeastPicture_L P _ hp).mono ?_
  rintro e v9 ⟨rfl, hb1⟩
  replace hM := hM.on hb1
  replace hy' := hy'.on hb1
  replace HB := below_go HB HBs hb1
  clear hb1
  go_wp2_with fail
  refine (impl_SizeOfPicture_L P _ hp hM).mono ?_
  rintro e v10 ⟨rfl, hb1⟩
  replace hM := hM.on hb1
  replace hy' := hy'.on hb1
  replace HB := below_go HB HBs hb1
  clear hb1
  go_wp2_with fail
  refine (spec_SizeOfPicture_L P _ hp).mono ?_
  rintro e v11 ⟨rfl, hb1⟩
  replace hM := hM.on hb1
  replace hy' := hy'.on hb1
  replace HB := below_go HB HBs hb1
  clear hb1
  go_upto_region 14 with fail
  simp only [List.append]
  go_wp2_with fail
  refine (impl_IsPicture_L P _ hp hM).mono ?_
  rintro e v12 ⟨rfl, hb1⟩
  replace hM := hM.on hb1
  replace hy' := hy'.on hb1
  replace HB := below_go HB HBs hb1
  clear hb1
  go_upto_if 215 with fail
  refine wp_cut (MeetH [.inr 0, .inl (.slice B' m' c'), .inr 2, .inr 3, .inr 4, .inr 5, .inr 6, .inr 7, .inr 8, .inr 9, .inr 10, .inr 11, .inr 12, .inr 13, .inr 14, .inr 15, .inr 16, .inr 17, .inr 18, .inr 19, .inr 20, .inr 21, .inr 22, .inr 23, .inr 24, .inr 25, .inr 26, .inr 27, .inr 28, .inr 29, .inr 30, .inr 31, .inr 32, .inr 33, .inr 34, .inr 35, .inr 36, .inr 37, .inr 38, .inr 39, .inr 40, .inr 41, .inr 42, .inr 43, .inr 44, .inr 45, .inr 46, .inr 47, .inr 48, .inr 49, .inr 50, .inr 51, .inr 52, .inr 53, .inr 54, .inr 55, .inr 56, .inr 57, .inr 58, .inr 59, .inr 60, .inr 61, .inr 62, .inr 63, .inr 64, .inr 65, .inr 66, .inr 67, .inr 68, .inr 69, .inr 70, .inr 71, .inr 72, .inr 73, .inr 74, .inr 75, .inr 76, .inr 77, .inr 78, .inr 79, .inr 80, .inr 81, .inr 82, .inr 83, .inr 84, .inr 85, .inr 86, .inr 87, .inr 88, .inr 89, .inr 90, .inr 91, .inr 92, .inr 93, .inr 94, .inr 95, .inr 96, .inr 97, .inr 98, .inr 99, .inr 100, .inr 101, .inr 102, .inr 103, .inr 104, .inr 105, .inr 106, .inr 107, .inr 108, .inr 109, .inr 110, .inr 111, .inr 112, .inr 113, .inr 114, .inr 115, .inr 116, .inr 117, .inr 118, .inr 119, .inr 120, .inr 121, .inr 122, .inr 123, .inr 124, .inr 125, .inr 126, .inr 127, .inr 128, .inr 129, .inr 130, .inr 131, .inr 132, .inr 133, .inr 134, .inr 135, .inr 136, .inr 137, .inr 138, .inr 139, .inr 140, .inr 141, .inr 142, .inr 143, .inr 144, .inr 145, .inr 146, .inr 147, .inr 148, .inr 149, .inr 150, .inr 151, .inr 152, .inr 153, .inr 154, .inr 155, .inr 156, .inr 157, .inr 158, .inr 159, .inr 160, .inr 161, .inr 162, .inr 163, .inr 164, .inr 165, .inr 166, .inr 167, .inr 168, .inr 169, .inr 170, .inr 171, .inr 172, .inr 173, .inr 174, .inr 175, .inr 176, .inr 177, .inr 178, .inr 179, .inr 180, .inr 181, .inr 182, .inr 183, .inr 184, .inr 185, .inr 186, .inr 187, .inr 188, .inr 189, .inr 190, .inr 191, .inr 192, .inr 193, .inr 194, .inr 195, .inr 196, .inr 197, .inr 198, .inr 199, .inr 200, .inr 201, .inr 202, .inr 203, .inr 204, .inr 205, .inr 206, .inr 207, .inr 208, .inr 209, .inr 210, .inr 211, .inr 212, .inr 213, .inr 214, .inr 215, .inr 216, .inr 217, .inr 218, .inr 219, .inr 220, .inr 221, .inr 222, .inr 223, .inr 224, .inr 225, .inr 226, .inr 227, .inr 228, .inr 229, .inr 230, .inr 231, .inr 232, .inr 233, .inr 234, .inr 235, .inr 236, .inr 237, .inr 238, .inr 239, .inr 240, .inr 241, .inr 242, .inr 243, .inr 244, .inr 245, .inr 246, .inr 247, .inr 248, .inr 249, .inr 250, .inr 251, .inr 252, .inr 253, .inr 254, .inr 255, .inr 256, .inr 257, .inr 258, .inr 259, .inr 260, .inr 261, .inr 262, .inr 263, .inr 264, .inr 265, .inr 266, .inr 267, .inr 268, .inr 269, .inr 270, .inr 271, .inr 272, .inr 273, .inr 274, .inr 275, .inr 276, .inr 277, .inr 278, .inr 279, .inr 280, .inr 281, .inr 282, .inr 283, .inr 284, .inr 285, .inr 286, .inr 287, .inr 288, .inr 289, .inr 290, .inr 291, .inr 292, .inr 293, .inr 294, .inr 295, .inr 296, .inr 297, .inr 298, .inr 299, .inr 300, .inr 301, .inr 302, .inr 303, .inr 304, .inr 305, .inr 306, .inr 307, .inr 308, .inr 309, .inr 310, .inr 311, .inr 312, .inr 313, .inr 314, .inr 315, .inr 316, .inr 317, .inr 318, .inr 319, .inr 320, .inr 321, .inr 322, .inr 323, .inr 324, .inr 325, .inr 326, .inr 327, .inr 328, .inr 329, .inr 330, .inr 331, .inr 332, .inr 333, .inr 334, .inr 335, .inr 336, .inr 337, .inr 338, .inr 339, .inr 340, .inr 341, .inr 342, .inr 343, .inr 344, .inr 345, .inr 346, .inr 347, .inr 348, .inr 349, .inr 350, .inr 351, .inr 352, .inr 353, .inr 354, .inr 355, .inr 356, .inr 357, .inr 358, .inr 359, .inr 360, .inr 361, .inr 362, .inr 363, .inr 364, .inr 365, .inr 366, .inr 367, .inr 368, .inr 369, .inr 370, .inr 371, .inr 372, .inr 373, .inr 374, .inr 375, .inr 376, .inr 377, .inr 378, .inr 379, .inr 380, .inr 381, .inr 382, .inr 383, .inr 384, .inr 385, .inr 386, .inr 387, .inr 388, .inr 389, .inr 390, .inr 391, .inr 392, .inr 393, .inr 394, .inr 395, .inr 396, .inr 397, .inr 398, .inr 399, .inr 400, .inr 401, .inr 402, .inr 403, .inr 404, .inr 405, .inr 406, .inr 407, .inr 408, .inr 409, .inr 410, .inr 411, .inr 412, .inr 413, .inr 414, .inr 415, .inr 416, .inr 417, .inr 418, .inr 419, .inr 420, .inr 421, .inr 422, .inr 423, .inr 424, .inr 425, .inr 426, .inr 427, .inr 428, .inr 429, .inr 430, .inr 431, .inr 432, .inr 433, .inr 434, .inr 435, .inr 436, .inr 437, .inr 438, .inr 439, .inr 440, .inr 441, .inr 442, .inr 443, .inr 444, .inr 445, .inr 446, .inr 447, .inr 448, .inr 449, .inr 450, .inr 451, .inr 452, .inr 453, .inr 454, .inr 455, .inr 456, .inr 457, .inr 458, .inr 459, .inr 460, .inr 461, .inr 462, .inr 463, .inr 464, .inr 465, .inr 466, .inr 467, .inr 468, .inr 469, .inr 470, .inr 471, .inr 472, .inr 473, .inr 474, .inr 475, .inr 476, .inr 477, .inr 478, .inr 479, .inr 480, .inr 481, .inr 482, .inr 483, .inr 484, .inr 485, .inr 486, .inr 487, .inr 488, .inr 489, .inr 490, .inr 491, .inr 492, .inr 493, .inr 494, .inr 495, .inr 496, .inr 497, .inr 498, .inr 499, .inr 500, .inr 501, .inr 502, .inr 503, .inr 504, .inr 505, .inr 506, .inr 507, .inr 508, .inr 509, .inr 510, .inr 511, .inr 512, .inr 513] (fun wx => Below v12.heap.size v12 wx)) (MeetH.go _ (by rfl) ?_) ?_
  rotate_left
  · intro _ _ _ _
    as_aux_lemma =>
    clear HB HBs
    have HB : Below v12.heap.size v12 v12 := Below.refl _ _
    have HBs : v12.heap.size ≤ v12.heap.size := Nat.le_refl _
    rcases Bool.eq_false_or_eq_true (isPic P) with h | h
    · simp only [h]
      have eW : wiV P = (pW P : Int) := by rw [wiV, h, cond_true]
      have eH : hiV P = (pH P : Int) := by rw [hiV, h, cond_true]
      obtain ⟨F, hF⟩ := tukF_of h
      have HF := Lib.hid hF
      clear hF
      simp only [eW, eH]
      clear eW eH
      go_upto_block 0 with fail
      refine wp_cut (MeetH [.inr 0, .inl (.slice B' m' c'), .inr 2, .inr 3, .inr 4, .inl (.string (bt (P))), .inl (.string (bt (tuL P))), .inr 7, .inr 8, .inr 9, .inl (.string (bt (miL P))), .inr 11, .inr 12, .inr 13, .inl (.string (bt (otL P))), .inr 15, .inr 16, .inr 17, .inl (.string (bt (leL P))), .inr 19, .inr 20, .inr 21, .inl (.int .i64 ((pW P : Int))), .inl (.int .i64 ((pH P : Int))), .inr 24, .inr 25, .inr 26, .inr 27, .inl (.string (bt (P))), .inr 29, .inr 30, .inr 31, .inr 32, .inr 33, .inr 34, .inr 35, .inr 36, .inr 37, .inr 38, .inr 39, .inr 40, .inr 41, .inr 42, .inr 43, .inr 44, .inr 45, .inr 46, .inr 47, .inr 48, .inr 49, .inr 50, .inr 51, .inr 52, .inr 53, .inr 54, .inr 55, .inr 56, .inr 57, .inr 58, .inr 59, .inr 60, .inr 61, .inr 62, .inr 63, .inr 64, .inr 65, .inr 66, .inr 67, .inr 68, .inr 69, .inr 70, .inr 71, .inr 72, .inr 73, .inr 74, .inr 75, .inr 76, .inr 77, .inr 78, .inr 79, .inr 80, .inr 81, .inr 82, .inr 83, .inr 84, .inr 85, .inr 86, .inr 87, .inr 88, .inr 89, .inr 90, .inr 91, .inr 92, .inr 93, .inr 94, .inr 95, .inr 96, .inr 97, .inr 98, .inr 99, .inr 100, .inr 101, .inr 102, .inr 103, .inr 104, .inr 105, .inr 106, .inr 107, .inr 108, .inr 109, .inr 110, .inr 111, .inr 112, .inr 113, .inr 114, .inr 115, .inr 116, .inr 117, .inr 118, .inr 119, .inr 120, .inr 121, .inr 122, .inr 123, .inr 124, .inr 125, .inr 126, .inr 127, .inr 128, .inr 129, .inr 130, .inr 131, .inr 132, .inr 133, .inr 134, .inr 135, .inr 136, .inr 137, .inr 138, .inr 139, .inr 140, .inr 141, .inr 142, .inr 143, .inr 144, .inr 145, .inr 146, .inr 147, .inr 148, .inr 149, .inr 150, .inr 151, .inr 152, .inr 153, .inr 154, .inr 155, .inr 156, .inr 157, .inr 158, .inr 159, .inr 160, .inr 161, .inr 162, .inr 163, .inr 164, .inr 165, .inr 166, .inr 167, .inr 168, .inr 169, .inr 170, .inr 171, .inr 172, .inr 173, .inr 174, .inr 175, .inr 176, .inr 177, .inr 178, .inr 179, .inr 180, .inr 181, .inr 182, .inr 183, .inr 184, .inr 185, .inr 186, .inr 187, .inr 188, .inr 189, .inr 190, .inr 191, .inr 192, .inr 193, .inr 194, .inr 195, .inr 196, .inr 197, .inr 198, .inr 199, .inr 200, .inr 201, .inr 202, .inr 203, .inr 204, .inr 205, .inr 206, .inr 207, .inr 208, .inr 209, .inr 210, .inr 211, .inr 212, .inr 213, .inr 214, .inr 215, .inr 216, .inr 217, .inr 218, .inr 219, .inr 220, .inr 221, .inr 222, .inr 223, .inr 224, .inr 225, .inr 226, .inr 227, .inr 228, .inr 229, .inr 230, .inr 231, .inr 232, .inr 233, .inr 234, .inr 235, .inr 236, .inr 237, .inr 238, .inr 239, .inr 240, .inr 241, .inr 242, .inr 243, .inr 244, .inr 245, .inr 246, .inr 247, .inr 248, .inr 249, .inr 250, .inr 251, .inr 252, .inr 253, .inr 254, .inr 255, .inr 256, .inr 257, .inr 258, .inr 259, .inr 260, .inr 261, .inr 262, .inr 263, .inr 264, .inr 265, .inr 266, .inr 267, .inr 268, .inr 269, .inr 270, .inr 271, .inr 272, .inr 273, .inr 274, .inr 275, .inr 276, .inr 277, .inr 278, .inr 279, .inr 280, .inr 281, .inr 282, .inr 283, .inr 284, .inr 285, .inr 286, .inr 287, .inr 288, .inr 289, .inr 290, .inr 291, .inr 292, .inr 293, .inr 294, .inr 295, .inr 296, .inr 297, .inr 298, .inr 299, .inr 300, .inr 301, .inr 302, .inr 303, .inr 304, .inr 305, .inr 306, .inr 307, .inr 308, .inr 309, .inr 310, .inr 311, .inr 312, .inr 313, .inr 314, .inr 315, .inr 316, .inr 317, .inr 318, .inr 319, .inr 320, .inr 321, .inr 322, .inr 323, .inr 324, .inr 325, .inr 326, .inr 327, .inr 328, .inr 329, .inr 330, .inr 331, .inr 332, .inr 333, .inr 334, .inr 335, .inr 336, .inr 337, .inr 338, .inr 339, .inr 340, .inr 341, .inr 342, .inr 343, .inr 344, .inr 345, .inr 346, .inr 347, .inr 348, .inr 349, .inr 350, .inr 351, .inr 352, .inr 353, .inr 354, .inr 355, .inr 356, .inr 357, .inr 358, .inr 359, .inr 360, .inr 361, .inr 362, .inr 363, .inr 364, .inr 365, .inr 366, .inr 367, .inr 368, .inr 369, .inr 370, .inr 371, .inr 372, .inr 373, .inr 374, .inr 375, .inr 376, .inr 377, .inr 378, .inr 379, .inr 380, .inr 381, .inr 382, .inr 383, .inr 384, .inr 385, .inr 386, .inr 387, .inr 388, .inr 389, .inr 390, .inr 391, .inr 392, .inr 393, .inr 394, .inr 395, .inr 396, .inr 397, .inr 398, .inr 399, .inr 400, .inr 401, .inr 402, .inr 403, .inr 404, .inr 405, .inr 406, .inr 407, .inr 408, .inr 409, .inr 410, .inr 411, .inr 412, .inr 413, .inr 414, .inr 415, .inr 416, .inr 417, .inr 418, .inr 419, .inr 420, .inr 421, .inr 422, .inr 423, .inr 424, .inr 425, .inr 426, .inr 427, .inr 428, .inr 429, .inr 430, .inr 431, .inr 432, .inr 433, .inr 434, .inr 435, .inr 436, .inr 437, .inr 438, .inr 439, .inr 440, .inr 441, .inr 442, .inr 443, .inr 444, .inr 445, .inr 446, .inr 447, .inr 448, .inr 449, .inr 450, .inr 451, .inr 452, .inr 453, .inr 454, .inr 455, .inr 456, .inr 457, .inr 458, .inr 459, .inr 460, .inr 461, .inr 462, .inr 463, .inr 464, .inr 465, .inr 466, .inr 467, .inr 468, .inr 469, .inr 470, .inr 471, .inr 472, .inr 473, .inr 474, .inr 475, .inr 476, .inr 477, .inr 478, .inr 479, .inr 480, .inr 481, .inr 482, .inr 483, .inr 484, .inr 485, .inr 486, .inr 487, .inr 488, .inr 489, .inr 490, .inr 491, .inr 492, .inr 493, .inr 494, .inr 495, .inr 496, .inr 497, .inr 498, .inr 499, .inr 500, .inr 501, .inr 502, .inr 503, .inr 504, .inr 505, .inr 506, .inr 507, .inr 508, .inr 509, .inr 510, .inr 511, .inr 512, .inr 513] (fun wx => Below v12.heap.size v12 wx)) (MeetH.go _ (by rfl) ?_) ?_
      rotate_left
      · intro _ _ _ _
        as_aux_lemma =>
        clear HB HBs
        have HB : Below v12.heap.size v12 v12 := Below.refl _ _
        have HBs : v12.heap.size ≤ v12.heap.size := Nat.le_refl _
        have HM := Lib.hid hM
        clear hM h
        go_wp2_with fail
        go_loopw [29, 28] (fun kv nv wr => ∃ j : Nat, j ≤ 4 ∧ kv = .int .i64 j ∧ nv = .string (bt (F j)) ∧ Below v12.heap.size v12 wr) (fun kv _ _ => 4 - (intOf kv).toNat)
        case atStart => exact ⟨0, Nat.zero_le _, rfl, by rw [HF.out.zero], Below.refl _ _⟩
        case round =>
          obtain ⟨j, hj, rfl, rfl, HB⟩ := hrel
          by_cases hlt : j < 4
          · have hki : (j : Int) < 4 := by omega
            have hM := HM.out.on HB
            go_wp2_with fail
            refine (impl_TurnPicture_L (F j) _ (by have := HF.out.few j; omega) hM).mono ?_
            rintro e v13 ⟨rfl, hb1⟩
            simp only [HF.out.ok j, HF.out.step j]
            replace hM := hM.on hb1
            replace HB := below_go HB HBs hb1
            clear hb1
            go_wp2_with fail
            refine (impl_LeastPicture_L (F (j + 1)) _ (by have := HF.out.few (j + 1); omega) hM).mono ?_
            rintro e v14 ⟨rfl, hb1⟩
            simp only [HF.out.ok (j + 1), HF.out.le (j + 1)]
            replace hM := hM.on hb1
            replace HB := below_go HB HBs hb1
            clear hb1
            have n2 := HF.out.low (j + 1)
            go_wp2_with fail
            go_roundw
            case rel => exact ⟨j + 1, by omega, by go_num, rfl, HB⟩
            case measure => simp [intOf]; omega
          · obtain rfl : j = 4 := by omega
            rw [HF.out.four]
            go_wp2_with fail
            refine Met.intro ?_
            go_step
            refine MeetH.of ?_ ?_
            · exact HB
            repeat (first | refine Agr.skip ?_ | refine Agr.keep ?_ | exact Agr.nil)
      intro u15 v15 hb1
      replace hM := hM.on hb1
      replace hy' := hy'.on hb1
      replace HB := below_go HB HBs hb1
      clear hb1
      as_aux_lemma =>
      simp only [fillH]
      have M := miE_of h
      have O := otE_of h
      have U := tuE_of h
      have f0 := pic_few h
      have f1 := (pic_few M.ok).1
      have f2 := pic_few O.ok
      have f3 := (pic_few U.ok).1
      have d0 : doV P = (cntB P : Int) := by rw [doV, h, cond_true]
      have d1 : doV (otL P) = (cntB (otL P) : Int) := by rw [doV, O.ok, cond_true]
      have d2 : wiV (tuL P) = (pH P : Int) := by rw [wiV, U.ok, cond_true, U.w]
      have d3 : hiV (tuL P) = (pW P : Int) := by rw [hiV, U.ok, cond_true, U.h]
      have m2 := mi2 h
      have lm := le_mi h
      have o2 := O.two
      have lw : Op.bytesLess (bt (miL P)).toList (bt (leL P)).toList = false := by rw [bt_toList, bt_toList, ← lm]; exact le_low M.ok
      have sm : ((cntB P : Int) + (cntB (otL P) : Int)) = (pW P : Int) * (pH P : Int) := by have := O.sum; exact_mod_cast this
      have w1 : IntKind.i64.wrap ((cntB P : Int) + (cntB (otL P) : Int)) = (pW P : Int) * (pH P : Int) := by rw [IntWalk.i64_in _ (by omega)]; exact sm
      have w2 : IntKind.i64.wrap ((pW P : Int) * (pH P : Int)) = (pW P : Int) * (pH P : Int) := by rw [← sm]; exact IntWalk.i64_in _ (by omega)
      have HG := Lib.hid (And.intro M.ok (And.intro m2 (And.intro O.ok (And.intro o2 (And.intro U.ok lm)))))
      have HD := Lib.hid (And.intro d0 (And.intro d1 (And.intro d2 d3)))
      have HL := Lib.hid (And.intro f1 (And.intro f2.1 f3))
      have hh := Lib.hid h
      clear M O U f0 f1 f2 f3 d0 d1 d2 d3 m2 lm o2 sm h
      go_wp2_with fail
      refine (impl_MirrorPicture_L (miL P) _ (by have := HL.out.1; omega) hM).mono ?_
      rintro e v16 ⟨rfl, hb1⟩
      simp only [HG.out.1, HG.out.2.1]
      replace hM := hM.on hb1
      replace hy' := hy'.on hb1
      replace HB := below_go HB HBs hb1
      clear hb1
      go_wp2_with fail
      refine (impl_OtherDots_L (otL P) _ (by have := HL.out.2.1; omega) hM).mono ?_
      rintro e v17 ⟨rfl, hb1⟩
      simp only [HG.out.2.2.1, HG.out.2.2.2.1]
      replace hM := hM.on hb1
      replace hy' := hy'.on hb1
      replace HB := below_go HB HBs hb1
      clear hb1
      go_wp2_with fail
      refine (impl_CountDots_L P _ hp hM).mono ?_
      rintro e v18 ⟨rfl, hb1⟩
      simp only [hh.out, HD.out.1]
      replace hM := hM.on hb1
      replace hy' := hy'.on hb1
      replace HB := below_go HB HBs hb1
      clear hb1
      go_wp2_with fail
      refine (impl_CountDots_L (otL P) _ (by have := HL.out.2.1; omega) hM).mono ?_
      rintro e v19 ⟨rfl, hb1⟩
      simp only [HG.out.2.2.1, HD.out.2.1]
      replace hM := hM.on hb1
      replace hy' := hy'.on hb1
      replace HB := below_go HB HBs hb1
      clear hb1
      go_wp2_with fail
      refine (impl_SizeOfPicture_L (tuL P) _ (by have := HL.out.2.2; omega) hM).mono ?_
      rintro e v20 ⟨rfl, hb1⟩
      simp only [HG.out.2.2.2.2.1, HD.out.2.2.1, HD.out.2.2.2]
      replace hM := hM.on hb1
      replace hy' := hy'.on hb1
      replace HB := below_go HB HBs hb1
      clear hb1
      go_wp2_with fail
      refine (impl_LeastPicture_L (miL P) _ (by have := HL.out.1; omega) hM).mono ?_
      rintro e v21 ⟨rfl, hb1⟩
      simp only [HG.out.1, HG.out.2.2.2.2.2]
      replace hM := hM.on hb1
      replace hy' := hy'.on hb1
      replace HB := below_go HB HBs hb1
      clear hb1
      clear HG HD HL hh
      go_upto_region 32 with fail
      simp only [List.append]
      go_wp2_with fail
      refine Met.intro ?_
      go_step
      refine MeetH.of ?_ ?_
      · exact HB
      repeat (first | refine Agr.skip ?_ | refine Agr.keep ?_ | exact Agr.nil)
    · simp only [h]
      go_wp2_with fail
      refine Met.intro ?_
      go_step
      refine MeetH.of ?_ ?_
      · exact HB
      repeat (first | refine Agr.skip ?_ | refine Agr.keep ?_ | exact Agr.nil)
  intro u22 v22 hb1
  replace hM := hM.on hb1
  replace hy' := hy'.on hb1
  replace HB := below_go HB HBs hb1
  clear hb1
  as_aux_lemma =>
  simp only [fillH]
  clear hp
  go_wp2_with fail
  refine (DrawBesidePicture_any B' m' c' _ hy' (by omega)).mono ?_
  rintro e v23 ⟨⟨q, r, rfl, hq, hr⟩, hb1⟩
  replace hM := hM.on hb1
  replace hy' := hy'.on hb1
  replace HB := below_go HB HBs hb1
  clear hb1
  clear hy'
  obtain ⟨Q, rfl⟩ : ∃ Q, q = bt Q := ⟨_, bt_of q⟩
  obtain ⟨R, rfl⟩ : ∃ R, r = bt R := ⟨_, bt_of r⟩
  rw [bt_size] at hq hr
  replace hq : Q.length ≤ 1048576 := by omega
  replace hr : R.length ≤ 1048576 := by omega
  go_wp2_with fail
  refine (impl_BesidePicture_L Q R _ hq hr hM).mono ?_
  rintro e v24 ⟨rfl, hb1⟩
  replace hM := hM.on hb1
  replace HB := below_go HB HBs hb1
  clear hb1
  go_wp2_with fail
  refine (spec_BesidePicture_L Q R _ hq hr).mono ?_
  rintro e v25 ⟨rfl, hb1⟩
  replace hM := hM.on hb1
  replace HB := below_go HB HBs hb1
  clear hb1
  go_wp2_with fail
  refine (impl_BelowPicture_L Q R _ hq hr hM).mono ?_
  rintro e v26 ⟨rfl, hb1⟩
  replace hM := hM.on hb1
  replace HB := below_go HB HBs hb1
  clear hb1
  go_wp2_with fail
  refine (spec_BelowPicture_L Q R _ hq hr).mono ?_
  rintro e v27 ⟨rfl, hb1⟩
  replace hM := hM.on hb1
  replace HB := below_go HB HBs hb1
  clear hb1
  go_wp2_with fail
  refine (impl_CountDots_L Q _ hq hM).mono ?_
  rintro e v28 ⟨rfl, hb1⟩
  replace hM := hM.on hb1
  replace HB := below_go HB HBs hb1
  clear hb1
  go_wp2_with fail
  refine (impl_CountDots_L R _ hr hM).mono ?_
  rintro e v29 ⟨rfl, hb1⟩
  replace hM := hM.on hb1
  replace HB := below_go HB HBs hb1
  clear hb1
  go_upto_if 402 with fail
  generalize hb1 : isPic Q = b1
  generalize hb2 : isPic R = b2
  generalize hx1 : doV Q = x1
  generalize hx2 : doV R = x2
  have HE := Lib.hid (And.intro hb1 (And.intro hb2 (And.intro hx1 hx2)))
  clear hb1 hb2 hx1 hx2
  refine wp_cut (MeetH [.inr 0, .inr 1, .inr 2, .inr 3, .inr 4, .inr 5, .inr 6, .inr 7, .inr 8, .inr 9, .inr 10, .inr 11, .inr 12, .inr 13, .inr 14, .inr 15, .inr 16, .inr 17, .inr 18, .inr 19, .inr 20, .inr 21, .inr 22, .inr 23, .inr 24, .inr 25, .inr 26, .inr 27, .inr 28, .inr 29, .inr 30, .inr 31, .inr 32, .inr 33, .inr 34, .inr 35, .inr 36, .inr 37, .inr 38, .inr 39, .inr 40, .inr 41, .inr 42, .inr 43, .inr 44, .inr 45, .inr 46, .inl (.string (bt (Q))), .inl (.string (bt (R))), .inr 49, .inr 50, .inr 51, .inr 52, .inl (.string (bt (blL Q R))), .inl (.bool (blB Q R)), .inr 55, .inr 56, .inl (.int .i64 (x1)), .inl (.bool (b1)), .inl (.int .i64 (x2)), .inl (.bool (b2)), .inr 61, .inr 62, .inr 63, .inr 64, .inr 65, .inr 66, .inr 67, .inr 68, .inr 69, .inr 70, .inr 71, .inr 72, .inr 73, .inr 74, .inr 75, .inr 76, .inr 77, .inr 78, .inr 79, .inr 80, .inr 81, .inr 82, .inr 83, .inr 84, .inr 85, .inr 86, .inr 87, .inr 88, .inr 89, .inr 90, .inr 91, .inr 92, .inr 93, .inr 94, .inr 95, .inr 96, .inr 97, .inr 98, .inr 99, .inr 100, .inr 101, .inr 102, .inr 103, .inr 104, .inr 105, .inr 106, .inr 107, .inr 108, .inr 109, .inr 110, .inr 111, .inr 112, .inr 113, .inr 114, .inr 115, .inr 116, .inr 117, .inr 118, .inr 119, .inr 120, .inr 121, .inr 122, .inr 123, .inr 124, .inr 125, .inr 126, .inr 127, .inr 128, .inr 129, .inr 130, .inr 131, .inr 132, .inr 133, .inr 134, .inr 135, .inr 136, .inr 137, .inr 138, .inr 139, .inr 140, .inr 141, .inr 142, .inr 143, .inr 144, .inr 145, .inr 146, .inr 147, .inr 148, .inr 149, .inr 150, .inr 151, .inr 152, .inr 153, .inr 154, .inr 155, .inr 156, .inr 157, .inr 158, .inr 159, .inr 160, .inr 161, .inr 162, .inr 163, .inr 164, .inr 165, .inr 166, .inr 167, .inr 168, .inr 169, .inr 170, .inr 171, .inr 172, .inr 173, .inr 174, .inr 175, .inr 176, .inr 177, .inr 178, .inr 179, .inr 180, .inr 181, .inr 182, .inr 183, .inr 184, .inr 185, .inr 186, .inr 187, .inr 188, .inr 189, .inr 190, .inr 191, .inr 192, .inr 193, .inr 194, .inr 195, .inr 196, .inr 197, .inr 198, .inr 199, .inr 200, .inr 201, .inr 202, .inr 203, .inr 204, .inr 205, .inr 206, .inr 207, .inr 208, .inr 209, .inr 210, .inr 211, .inr 212, .inr 213, .inr 214, .inr 215, .inr 216, .inr 217, .inr 218, .inr 219, .inr 220, .inr 221, .inr 222, .inr 223, .inr 224, .inr 225, .inr 226, .inr 227, .inr 228, .inr 229, .inr 230, .inr 231, .inr 232, .inr 233, .inr 234, .inr 235, .inr 236, .inr 237, .inr 238, .inr 239, .inr 240, .inr 241, .inr 242, .inr 243, .inr 244, .inr 245, .inr 246, .inr 247, .inr 248, .inr 249, .inr 250, .inr 251, .inr 252, .inr 253, .inr 254, .inr 255, .inr 256, .inr 257, .inr 258, .inr 259, .inr 260, .inr 261, .inr 262, .inr 263, .inr 264, .inr 265, .inr 266, .inr 267, .inr 268, .inr 269, .inr 270, .inr 271, .inr 272, .inr 273, .inr 274, .inr 275, .inr 276, .inr 277, .inr 278, .inr 279, .inr 280, .inr 281, .inr 282, .inr 283, .inr 284, .inr 285, .inr 286, .inr 287, .inr 288, .inr 289, .inr 290, .inr 291, .inr 292, .inr 293, .inr 294, .inr 295, .inr 296, .inr 297, .inr 298, .inr 299, .inr 300, .inr 301, .inr 302, .inr 303, .inr 304, .inr 305, .inr 306, .inr 307, .inr 308, .inr 309, .inr 310, .inr 311, .inr 312, .inr 313, .inr 314, .inr 315, .inr 316, .inr 317, .inr 318, .inr 319, .inr 320, .inr 321, .inr 322, .inr 323, .inr 324, .inr 325, .inr 326, .inr 327, .inr 328, .inr 329, .inr 330, .inr 331, .inr 332, .inr 333, .inr 334, .inr 335, .inr 336, .inr 337, .inr 338, .inr 339, .inr 340, .inr 341, .inr 342, .inr 343, .inr 344, .inr 345, .inr 346, .inr 347, .inr 348, .inr 349, .inr 350, .inr 351, .inr 352, .inr 353, .inr 354, .inr 355, .inr 356, .inr 357, .inr 358, .inr 359, .inr 360, .inr 361, .inr 362, .inr 363, .inr 364, .inr 365, .inr 366, .inr 367, .inr 368, .inr 369, .inr 370, .inr 371, .inr 372, .inr 373, .inr 374, .inr 375, .inr 376, .inr 377, .inr 378, .inr 379, .inr 380, .inr 381, .inr 382, .inr 383, .inr 384, .inr 385, .inr 386, .inr 387, .inr 388, .inr 389, .inr 390, .inr 391, .inr 392, .inr 393, .inr 394, .inr 395, .inr 396, .inr 397, .inr 398, .inr 399, .inr 400, .inr 401, .inr 402, .inr 403, .inr 404, .inr 405, .inr 406, .inr 407, .inr 408, .inr 409, .inr 410, .inr 411, .inr 412, .inr 413, .inr 414, .inr 415, .inr 416, .inr 417, .inr 418, .inr 419, .inr 420, .inr 421, .inr 422, .inr 423, .inr 424, .inr 425, .inr 426, .inr 427, .inr 428, .inr 429, .inr 430, .inr 431, .inr 432, .inr 433, .inr 434, .inr 435, .inr 436, .inr 437, .inr 438, .inr 439, .inr 440, .inr 441, .inr 442, .inr 443, .inr 444, .inr 445, .inr 446, .inr 447, .inr 448, .inr 449, .inr 450, .inr 451, .inr 452, .inr 453, .inr 454, .inr 455, .inr 456, .inr 457, .inr 458, .inr 459, .inr 460, .inr 461, .inr 462, .inr 463, .inr 464, .inr 465, .inr 466, .inr 467, .inr 468, .inr 469, .inr 470, .inr 471, .inr 472, .inr 473, .inr 474, .inr 475, .inr 476, .inr 477, .inr 478, .inr 479, .inr 480, .inr 481, .inr 482, .inr 483, .inr 484, .inr 485, .inr 486, .inr 487, .inr 488, .inr 489, .inr 490, .inr 491, .inr 492, .inr 493, .inr 494, .inr 495, .inr 496, .inr 497, .inr 498, .inr 499, .inr 500, .inr 501, .inr 502, .inr 503, .inr 504, .inr 505, .inr 506, .inr 507, .inr 508, .inr 509, .inr 510, .inr 511, .inr 512, .inr 513] (fun wx => Below v29.heap.size v29 wx)) (MeetH.go _ (by rfl) ?_) ?_
  rotate_left
  · intro _ _ _ _
    as_aux_lemma =>
    clear HB HBs
    have HB : Below v29.heap.size v29 v29 := Below.refl _ _
    have HBs : v29.heap.size ≤ v29.heap.size := Nat.le_refl _
    rcases Bool.eq_false_or_eq_true (bsB Q R) with h | h
    · simp only [h]
      have E := bsE_of h
      have ea := E.a
      have eb := E.b
      have dQ : doV Q = (cntB Q : Int) := by rw [doV, ea, cond_true]
      have dR : doV R = (cntB R : Int) := by rw [doV, eb, cond_true]
      obtain ⟨hb1, hb2, hx1, hx2⟩ := HE.out
      rw [ea] at hb1
      rw [eb] at hb2
      rw [dQ] at hx1
      rw [dR] at hx2
      subst hb1
      subst hb2
      subst hx1
      subst hx2
      have fQ := pic_few ea
      have fR := pic_few eb
      have w1 : IntKind.i64.wrap ((cntB Q : Int) + (cntB R : Int)) = (cntB Q : Int) + (cntB R : Int) := IntWalk.i64_in _ (by omega)
      clear HE
      have k0 := (pic_few E.ok).1
      have d1 : doV (bsL Q R) = (cntB Q : Int) + (cntB R : Int) := by rw [doV, E.ok, cond_true, E.sum]; exact Int.natCast_add _ _
      have d2 : wiV (bsL Q R) = (pW Q : Int) + (pW R : Int) := by rw [wiV, E.ok, cond_true, E.w]; exact Int.natCast_add _ _
      have d3 : hiV (bsL Q R) = (pH Q : Int) := by rw [hiV, E.ok, cond_true, E.h]
      have d4 : wiV Q = (pW Q : Int) := by rw [wiV, ea, cond_true]
      have d5 : hiV Q = (pH Q : Int) := by rw [hiV, ea, cond_true]
      have w3 : ¬ (pW Q : Int) + (pW R : Int) ≤ (pW Q : Int) := by have := fR.2.1; omega
      have w4 : decide ((pW Q : Int) + (pW R : Int) ≤ (pW Q : Int)) = false := decide_eq_false w3
      have HD := Lib.hid (And.intro E.ok (And.intro d1 (And.intro d2 (And.intro d3 (And.intro ea (And.intro d4 d5))))))
      have hk := Lib.hid k0
      clear E ea eb dQ dR d1 d2 d3 d4 d5 k0 h fQ fR
      go_wp2_with fail
      refine (impl_CountDots_L (bsL Q R) _ (by have := hk.out; omega) hM).mono ?_
      rintro e v30 ⟨rfl, hb1⟩
      simp only [HD.out.1, HD.out.2.1]
      replace hM := hM.on hb1
      replace HB := below_go HB HBs hb1
      clear hb1
      go_wp2_with fail
      refine (impl_SizeOfPicture_L (bsL Q R) _ (by have := hk.out; omega) hM).mono ?_
      rintro e v31 ⟨rfl, hb1⟩
      simp only [HD.out.1, HD.out.2.2.1, HD.out.2.2.2.1]
      replace hM := hM.on hb1
      replace HB := below_go HB HBs hb1
      clear hb1
      go_wp2_with fail
      refine (impl_SizeOfPicture_L Q _ hq hM).mono ?_
      rintro e v32 ⟨rfl, hb1⟩
      simp only [HD.out.2.2.2.2.1, HD.out.2.2.2.2.2.1, HD.out.2.2.2.2.2.2]
      replace hM := hM.on hb1
      replace HB := below_go HB HBs hb1
      clear hb1
      clear HD hk
      go_wp2_with fail
      refine Met.intro ?_
      go_step
      refine MeetH.of ?_ ?_
      · exact HB
      repeat (first | refine Agr.skip ?_ | refine Agr.keep ?_ | exact Agr.nil)
    · simp only [h]
      go_wp2_with fail
      refine Met.intro ?_
      go_step
      refine MeetH.of ?_ ?_
      · exact HB
      repeat (first | refine Agr.skip ?_ | refine Agr.keep ?_ | exact Agr.nil)
  intro u33 v33 hb1
  replace hM := hM.on hb1
  replace HB := below_go HB HBs hb1
  clear hb1
  as_aux_lemma =>
  simp only [fillH]
  go_upto_if 455 with fail
  rcases Bool.eq_false_or_eq_true (blB Q R) with h | h
  · simp only [h]
    have E := blE_of h
    have ea := E.a
    have eb := E.b
    have dQ : doV Q = (cntB Q : Int) := by rw [doV, ea, cond_true]
    have dR : doV R = (cntB R : Int) := by rw [doV, eb, cond_true]
    obtain ⟨hb1, hb2, hx1, hx2⟩ := HE.out
    rw [ea] at hb1
    rw [eb] at hb2
    rw [dQ] at hx1
    rw [dR] at hx2
    subst hb1
    subst hb2
    subst hx1
    subst hx2
    have fQ := pic_few ea
    have fR := pic_few eb
    have w1 : IntKind.i64.wrap ((cntB Q : Int) + (cntB R : Int)) = (cntB Q : Int) + (cntB R : Int) := IntWalk.i64_in _ (by omega)
    clear HE
    have k0 := (pic_few E.ok).1
    have k1 := (pic_few (tuE_of ea).ok).1
    have k2 := (pic_few (tuE_of eb).ok).1
    have d1 : doV (blL Q R) = (cntB Q : Int) + (cntB R : Int) := by rw [doV, E.ok, cond_true, E.sum]; exact Int.natCast_add _ _
    have HD := Lib.hid (And.intro E.ok (And.intro d1 (And.intro E.turned (And.intro E.join (And.intro ea eb)))))
    have hk := Lib.hid (And.intro k0 (And.intro k1 k2))
    clear E ea eb dQ dR d1 k0 k1 k2 h fQ fR
    go_wp2_with fail
    refine (impl_CountDots_L (blL Q R) _ (by have := hk.out.1; omega) hM).mono ?_
    rintro e v34 ⟨rfl, hb1⟩
    simp only [HD.out.1, HD.out.2.1]
    replace hM := hM.on hb1
    replace HB := below_go HB HBs hb1
    clear hb1
    go_wp2_with fail
    refine (impl_TurnPicture_L Q _ hq hM).mono ?_
    rintro e v35 ⟨rfl, hb1⟩
    simp only [HD.out.2.2.2.2.1]
    replace hM := hM.on hb1
    replace HB := below_go HB HBs hb1
    clear hb1
    go_wp2_with fail
    refine (impl_TurnPicture_L R _ hr hM).mono ?_
    rintro e v36 ⟨rfl, hb1⟩
    simp only [HD.out.2.2.2.2.2]
    replace hM := hM.on hb1
    replace HB := below_go HB HBs hb1
    clear hb1
    go_wp2_with fail
    refine (impl_BesidePicture_L (tuL R) (tuL Q) _ (by have := hk.out.2.2; omega) (by have := hk.out.2.1; omega) hM).mono ?_
    rintro e v37 ⟨rfl, hb1⟩
    simp only [HD.out.2.2.1, HD.out.2.2.2.1]
    replace hM := hM.on hb1
    replace HB := below_go HB HBs hb1
    clear hb1
    go_wp2_with fail
    refine (impl_TurnPicture_L (blL Q R) _ (by have := hk.out.1; omega) hM).mono ?_
    rintro e v38 ⟨rfl, hb1⟩
    simp only [HD.out.1]
    replace hM := hM.on hb1
    replace HB := below_go HB HBs hb1
    clear hb1
    clear HD hk
    go_wp2_with fail
    go_ret
    first | exact ⟨rfl, HB⟩ | exact ⟨rfl, by assumption⟩
  · simp only [h]
    go_wp2_with fail
    go_ret
    first | exact ⟨rfl, HB⟩ | exact ⟨rfl, by assumption⟩
end Go.Proofs.YtmcdmacpgjkelaaDoor
