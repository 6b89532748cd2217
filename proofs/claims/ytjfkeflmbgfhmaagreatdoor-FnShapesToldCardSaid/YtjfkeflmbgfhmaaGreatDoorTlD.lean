/- The law FnShapesTold, walked: whatever the arguments it answers true, where the library's table and its two errors lie as the program's text lays them. -/
import Derived.Test.YtjfkeflmbgfhmaaGreatDoorBase
import Derived.Test.YtjfkeflmbgfhmaaGreatDoorTlB
import Derived.Test.YtjfkeflmbgfhmaaGreatDoorAnW2
import Derived.Test.YtjfkeflmbgfhmaaGreatDoorCut
import Derived.Test.YtjfkeflmbgfhmaaGreatDoorDrL
import Derived.Lib.Hide
import Derived.Deep.Cut
import Derived.Deep.CutBlock
namespace Go.Proofs.YtjfkeflmbgfhmaaGreatDoor
open Go.ChangeShapes Go.WideShapes Go.ChangeAt Go.RowKit

theorem pu_small (s m : Int) : (puL s m).length ≤ 1000 := by
  rcases Bool.eq_false_or_eq_true (puB s m) with h | h
  · exact (puE_of h).few
  · simp [puL, h]
/-- Pair k of a slice of pairs. -/
theorem own_pair {w : World} {lo hi g o : Nat} {xs : List (Int × Int)} (h : Own w lo hi (some ⟨g, o, none⟩) (prs xs)) {k : Nat} {a b : Int} (e : xs[k]? = some (a, b)) :
    g < hi ∧ w.cell? ⟨g, o + k * 2, none⟩ = some (.int .i64 a) ∧ w.cell? ⟨g, o + k * 2 + 1, none⟩ = some (.int .i64 b) := by
  obtain ⟨hk, e⟩ := List.getElem?_eq_some_iff.1 e
  obtain ⟨g1, o1, eq, _, hg, c0, c1⟩ := h.pair_ hk
  injection eq with eq
  injection eq with q1 q2 _
  subst q1
  subst q2
  rw [e] at c0 c1
  exact ⟨hg, c0, c1⟩
theorem own_some {w : World} {lo hi : Nat} {A : Option Addr} {cs : List Value} (h : Own w lo hi A cs) (hn : 0 < cs.length) : ∃ g o, A = some ⟨g, o, none⟩ := by
  obtain ⟨g, o, e, _⟩ := h hn
  exact ⟨g, o, e⟩
theorem own_one {w : World} {lo hi g o : Nat} {xs : List Int} (h : Own w lo hi (some ⟨g, o, none⟩) (i64s xs)) {k : Nat} {x : Int} (e : xs[k]? = some x) : w.cell? ⟨g, o + k, none⟩ = some (.int .i64 x) := by
  obtain ⟨hk, e⟩ := List.getElem?_eq_some_iff.1 e
  have c := own_get h hk
  rwa [List.getD_eq_getElem?_getD, List.getElem?_eq_getElem hk, e] at c
set_option maxRecDepth 4000 in
set_option maxHeartbeats 16000000 in
theorem walk_ShapesTold (A' : Option Addr) (n' a' : Nat) (B' : Option Addr) (m' c' : Nat) (w : World) (hn' : n' ≤ 9223372036854775807) (hx' : Bys w A' n') (hm' : m' ≤ 9223372036854775807) (hy' : Bys w B' m') (ht : Txs w) :
    Calls Tryz.prog 3 #[.slice A' n' a', .slice B' m' c'] w fun e w' => e = .returned (.bool true) ∧ Below w.heap.size w w' := by
  have HB : Below w.heap.size w w := Below.refl _ _
  have HBs : w.heap.size ≤ w.heap.size := Nat.le_refl _
  rcases Bool.eq_false_or_eq_true (bgB n' m') with hg | hg
  · go_enter Tryz.func3, Tryz.ntmps3
    go_wp2_with (go_at_call 4; refine (big_any _ _ _ _ _ _ _ hn' hm').mono ?_; rintro e w' ⟨rfl, rfl⟩)
    go_ret
    exact ⟨rfl, Below.refl _ _⟩
  obtain ⟨gg1, gg2⟩ := bg_no hg
  go_enter Tryz.func3, Tryz.ntmps3
  go_wp2_with (go_at_call 4; refine (big_any _ _ _ _ _ _ _ hn' hm').mono ?_; rintro e w' ⟨rfl, rfl⟩)
  refine (DrawShapesOf_any A' n' a' _ hx' (by omega)).mono ?_
  rintro e v1 ⟨⟨n, rfl⟩, hb1⟩
  replace ht := ht.on hb1
  replace hy' := hy'.on hb1
  replace HB := below_go HB HBs hb1
  clear hb1
  clear hx'
  go_wp2_with fail
  refine (impl_ShapesOf_any n _).mono ?_
  rintro e v2 ⟨Aa, ca, rfl, Oa, hb1⟩
  replace ht := ht.on hb1
  replace hy' := hy'.on hb1
  replace HB := below_go HB HBs hb1
  clear hb1
  go_wp2_with fail
  refine (spec_ShapesOf_any n _).mono ?_
  rintro e v3 ⟨Ab, cb, rfl, Ob, hb1⟩
  replace ht := ht.on hb1
  replace hy' := hy'.on hb1
  replace Oa := Oa.on hb1
  replace HB := below_go HB HBs hb1
  clear hb1
  go_wp2_with fail
  have hsl := sh_len n
  refine (oShapes_b Aa Ab _ ca cb _ _ _ _ (shL n) _ rfl (by omega) Oa Ob).mono ?_
  rintro e v4 ⟨rfl, hb1⟩
  replace ht := ht.on hb1
  replace hy' := hy'.on hb1
  replace Oa := Oa.on hb1
  replace Ob := Ob.on hb1
  replace HB := below_go HB HBs hb1
  clear hb1
  clear Ob
  go_upto_if 97 with fail
  refine wp_cut (MeetH [.inr 0, .inl (.slice B' m' c'), .inr 2, .inr 3, .inr 4, .inr 5, .inr 6, .inr 7, .inr 8, .inr 9, .inr 10, .inr 11, .inr 12, .inr 13, .inr 14, .inr 15, .inr 16, .inr 17, .inr 18, .inr 19, .inr 20, .inr 21, .inr 22, .inr 23, .inr 24, .inr 25, .inr 26, .inr 27, .inr 28, .inr 29, .inr 30, .inr 31, .inr 32, .inr 33, .inr 34, .inr 35, .inr 36, .inr 37, .inr 38, .inr 39, .inr 40, .inr 41, .inr 42, .inr 43, .inr 44, .inr 45, .inr 46, .inr 47, .inr 48, .inr 49, .inr 50, .inr 51, .inr 52, .inr 53, .inr 54, .inr 55, .inr 56, .inr 57, .inr 58, .inr 59, .inr 60, .inr 61, .inr 62, .inr 63, .inr 64, .inr 65, .inr 66, .inr 67, .inr 68, .inr 69, .inr 70, .inr 71, .inr 72, .inr 73, .inr 74, .inr 75, .inr 76, .inr 77, .inr 78, .inr 79, .inr 80, .inr 81, .inr 82, .inr 83, .inr 84, .inr 85, .inr 86, .inr 87, .inr 88, .inr 89, .inr 90, .inr 91, .inr 92, .inr 93, .inr 94, .inr 95, .inr 96, .inr 97, .inr 98, .inr 99, .inr 100, .inr 101, .inr 102, .inr 103, .inr 104, .inr 105, .inr 106, .inr 107, .inr 108, .inr 109, .inr 110, .inr 111, .inr 112, .inr 113, .inr 114, .inr 115, .inr 116, .inr 117, .inr 118, .inr 119, .inr 120, .inr 121, .inr 122, .inr 123, .inr 124, .inr 125, .inr 126, .inr 127, .inr 128, .inr 129, .inr 130, .inr 131, .inr 132, .inr 133, .inr 134, .inr 135, .inr 136, .inr 137, .inr 138, .inr 139, .inr 140, .inr 141, .inr 142, .inr 143, .inr 144, .inr 145, .inr 146, .inr 147, .inr 148, .inr 149, .inr 150, .inr 151, .inr 152, .inr 153, .inr 154, .inr 155, .inr 156, .inr 157, .inr 158, .inr 159, .inr 160, .inr 161, .inr 162, .inr 163, .inr 164, .inr 165, .inr 166, .inr 167, .inr 168, .inr 169, .inr 170, .inr 171, .inr 172, .inr 173, .inr 174, .inr 175, .inr 176, .inr 177, .inr 178, .inr 179, .inr 180, .inr 181, .inr 182, .inr 183, .inr 184, .inr 185, .inr 186, .inr 187, .inr 188, .inr 189, .inr 190, .inr 191, .inr 192, .inr 193, .inr 194, .inr 195, .inr 196, .inr 197, .inr 198, .inr 199, .inr 200, .inr 201, .inr 202, .inr 203, .inr 204, .inr 205, .inr 206, .inr 207, .inr 208, .inr 209, .inr 210, .inr 211, .inr 212, .inr 213, .inr 214, .inr 215, .inr 216, .inr 217, .inr 218, .inr 219, .inr 220, .inr 221, .inr 222, .inr 223, .inr 224, .inr 225, .inr 226, .inr 227, .inr 228, .inr 229, .inr 230, .inr 231, .inr 232, .inr 233, .inr 234, .inr 235, .inr 236, .inr 237, .inr 238, .inr 239, .inr 240, .inr 241, .inr 242, .inr 243, .inr 244, .inr 245, .inr 246, .inr 247, .inr 248, .inr 249, .inr 250, .inr 251, .inr 252, .inr 253, .inr 254, .inr 255, .inr 256, .inr 257, .inr 258, .inr 259, .inr 260, .inr 261, .inr 262, .inr 263, .inr 264, .inr 265, .inr 266, .inr 267, .inr 268, .inr 269, .inr 270, .inr 271, .inr 272, .inr 273, .inr 274, .inr 275, .inr 276, .inr 277, .inr 278, .inr 279, .inr 280, .inr 281, .inr 282, .inr 283, .inr 284, .inr 285, .inr 286, .inr 287, .inr 288, .inr 289, .inr 290, .inr 291, .inr 292, .inr 293, .inr 294, .inr 295, .inr 296, .inr 297, .inr 298, .inr 299, .inr 300, .inr 301, .inr 302, .inr 303, .inr 304, .inr 305, .inr 306, .inr 307, .inr 308, .inr 309, .inr 310, .inr 311, .inr 312, .inr 313, .inr 314, .inr 315, .inr 316, .inr 317, .inr 318, .inr 319, .inr 320, .inr 321, .inr 322, .inr 323, .inr 324, .inr 325, .inr 326, .inr 327, .inr 328, .inr 329, .inr 330, .inr 331, .inr 332, .inr 333, .inr 334, .inr 335, .inr 336, .inr 337, .inr 338, .inr 339, .inr 340, .inr 341, .inr 342, .inr 343, .inr 344, .inr 345, .inr 346, .inr 347, .inr 348, .inr 349, .inr 350, .inr 351, .inr 352, .inr 353, .inr 354, .inr 355, .inr 356, .inr 357, .inr 358, .inr 359, .inr 360, .inr 361, .inr 362, .inr 363, .inr 364, .inr 365, .inr 366, .inr 367, .inr 368, .inr 369, .inr 370, .inr 371, .inr 372, .inr 373, .inr 374, .inr 375, .inr 376, .inr 377, .inr 378, .inr 379, .inr 380, .inr 381, .inr 382, .inr 383, .inr 384, .inr 385, .inr 386, .inr 387, .inr 388, .inr 389, .inr 390, .inr 391, .inr 392, .inr 393, .inr 394, .inr 395, .inr 396, .inr 397, .inr 398, .inr 399, .inr 400, .inr 401, .inr 402, .inr 403, .inr 404, .inr 405, .inr 406, .inr 407, .inr 408, .inr 409, .inr 410, .inr 411, .inr 412, .inr 413, .inr 414, .inr 415, .inr 416, .inr 417, .inr 418, .inr 419, .inr 420, .inr 421, .inr 422, .inr 423, .inr 424, .inr 425, .inr 426, .inr 427, .inr 428, .inr 429, .inr 430, .inr 431, .inr 432, .inr 433, .inr 434, .inr 435, .inr 436, .inr 437, .inr 438, .inr 439, .inr 440, .inr 441, .inr 442, .inr 443, .inr 444, .inr 445, .inr 446, .inr 447, .inr 448, .inr 449, .inr 450, .inr 451, .inr 452, .inr 453, .inr 454, .inr 455, .inr 456, .inr 457, .inr 458, .inr 459, .inr 460, .inr 461, .inr 462, .inr 463, .inr 464, .inr 465, .inr 466, .inr 467, .inr 468, .inr 469, .inr 470, .inr 471, .inr 472, .inr 473, .inr 474, .inr 475, .inr 476, .inr 477, .inr 478, .inr 479, .inr 480, .inr 481, .inr 482] (fun wx => Below v4.heap.size v4 wx)) (MeetH.go _ (by rfl) ?_) ?_
  rotate_left
  · intro _ _ _ _
    as_aux_lemma =>
    clear HB HBs
    have HB : Below v4.heap.size v4 v4 := Below.refl _ _
    have HBs : v4.heap.size ≤ v4.heap.size := Nat.le_refl _
    rcases Bool.eq_false_or_eq_true (shB n) with h | h
    · simp only [h]
      have LE := Lib.hid fun i hi => shR_of h i hi
      generalize hL : (shL n).length = N at *
      have HL := Lib.hid hL
      clear hL
      go_upto_block 0 with fail
      refine wp_cut (MeetH [.inr 0, .inl (.slice B' m' c'), .inr 2, .inr 3, .inr 4, .inr 5, .inr 6, .inr 7, .inr 8, .inr 9, .inr 10, .inr 11, .inr 12, .inr 13, .inr 14, .inr 15, .inr 16, .inr 17, .inr 18, .inr 19, .inr 20, .inr 21, .inr 22, .inr 23, .inr 24, .inr 25, .inr 26, .inr 27, .inr 28, .inr 29, .inr 30, .inr 31, .inr 32, .inr 33, .inr 34, .inr 35, .inr 36, .inr 37, .inr 38, .inr 39, .inr 40, .inr 41, .inr 42, .inr 43, .inr 44, .inr 45, .inr 46, .inr 47, .inr 48, .inr 49, .inr 50, .inr 51, .inr 52, .inr 53, .inr 54, .inr 55, .inr 56, .inr 57, .inr 58, .inr 59, .inr 60, .inr 61, .inr 62, .inr 63, .inr 64, .inr 65, .inr 66, .inr 67, .inr 68, .inr 69, .inr 70, .inr 71, .inr 72, .inr 73, .inr 74, .inr 75, .inr 76, .inr 77, .inr 78, .inr 79, .inr 80, .inr 81, .inr 82, .inr 83, .inr 84, .inr 85, .inr 86, .inr 87, .inr 88, .inr 89, .inr 90, .inr 91, .inr 92, .inr 93, .inr 94, .inr 95, .inr 96, .inr 97, .inr 98, .inr 99, .inr 100, .inr 101, .inr 102, .inr 103, .inr 104, .inr 105, .inr 106, .inr 107, .inr 108, .inr 109, .inr 110, .inr 111, .inr 112, .inr 113, .inr 114, .inr 115, .inr 116, .inr 117, .inr 118, .inr 119, .inr 120, .inr 121, .inr 122, .inr 123, .inr 124, .inr 125, .inr 126, .inr 127, .inr 128, .inr 129, .inr 130, .inr 131, .inr 132, .inr 133, .inr 134, .inr 135, .inr 136, .inr 137, .inr 138, .inr 139, .inr 140, .inr 141, .inr 142, .inr 143, .inr 144, .inr 145, .inr 146, .inr 147, .inr 148, .inr 149, .inr 150, .inr 151, .inr 152, .inr 153, .inr 154, .inr 155, .inr 156, .inr 157, .inr 158, .inr 159, .inr 160, .inr 161, .inr 162, .inr 163, .inr 164, .inr 165, .inr 166, .inr 167, .inr 168, .inr 169, .inr 170, .inr 171, .inr 172, .inr 173, .inr 174, .inr 175, .inr 176, .inr 177, .inr 178, .inr 179, .inr 180, .inr 181, .inr 182, .inr 183, .inr 184, .inr 185, .inr 186, .inr 187, .inr 188, .inr 189, .inr 190, .inr 191, .inr 192, .inr 193, .inr 194, .inr 195, .inr 196, .inr 197, .inr 198, .inr 199, .inr 200, .inr 201, .inr 202, .inr 203, .inr 204, .inr 205, .inr 206, .inr 207, .inr 208, .inr 209, .inr 210, .inr 211, .inr 212, .inr 213, .inr 214, .inr 215, .inr 216, .inr 217, .inr 218, .inr 219, .inr 220, .inr 221, .inr 222, .inr 223, .inr 224, .inr 225, .inr 226, .inr 227, .inr 228, .inr 229, .inr 230, .inr 231, .inr 232, .inr 233, .inr 234, .inr 235, .inr 236, .inr 237, .inr 238, .inr 239, .inr 240, .inr 241, .inr 242, .inr 243, .inr 244, .inr 245, .inr 246, .inr 247, .inr 248, .inr 249, .inr 250, .inr 251, .inr 252, .inr 253, .inr 254, .inr 255, .inr 256, .inr 257, .inr 258, .inr 259, .inr 260, .inr 261, .inr 262, .inr 263, .inr 264, .inr 265, .inr 266, .inr 267, .inr 268, .inr 269, .inr 270, .inr 271, .inr 272, .inr 273, .inr 274, .inr 275, .inr 276, .inr 277, .inr 278, .inr 279, .inr 280, .inr 281, .inr 282, .inr 283, .inr 284, .inr 285, .inr 286, .inr 287, .inr 288, .inr 289, .inr 290, .inr 291, .inr 292, .inr 293, .inr 294, .inr 295, .inr 296, .inr 297, .inr 298, .inr 299, .inr 300, .inr 301, .inr 302, .inr 303, .inr 304, .inr 305, .inr 306, .inr 307, .inr 308, .inr 309, .inr 310, .inr 311, .inr 312, .inr 313, .inr 314, .inr 315, .inr 316, .inr 317, .inr 318, .inr 319, .inr 320, .inr 321, .inr 322, .inr 323, .inr 324, .inr 325, .inr 326, .inr 327, .inr 328, .inr 329, .inr 330, .inr 331, .inr 332, .inr 333, .inr 334, .inr 335, .inr 336, .inr 337, .inr 338, .inr 339, .inr 340, .inr 341, .inr 342, .inr 343, .inr 344, .inr 345, .inr 346, .inr 347, .inr 348, .inr 349, .inr 350, .inr 351, .inr 352, .inr 353, .inr 354, .inr 355, .inr 356, .inr 357, .inr 358, .inr 359, .inr 360, .inr 361, .inr 362, .inr 363, .inr 364, .inr 365, .inr 366, .inr 367, .inr 368, .inr 369, .inr 370, .inr 371, .inr 372, .inr 373, .inr 374, .inr 375, .inr 376, .inr 377, .inr 378, .inr 379, .inr 380, .inr 381, .inr 382, .inr 383, .inr 384, .inr 385, .inr 386, .inr 387, .inr 388, .inr 389, .inr 390, .inr 391, .inr 392, .inr 393, .inr 394, .inr 395, .inr 396, .inr 397, .inr 398, .inr 399, .inr 400, .inr 401, .inr 402, .inr 403, .inr 404, .inr 405, .inr 406, .inr 407, .inr 408, .inr 409, .inr 410, .inr 411, .inr 412, .inr 413, .inr 414, .inr 415, .inr 416, .inr 417, .inr 418, .inr 419, .inr 420, .inr 421, .inr 422, .inr 423, .inr 424, .inr 425, .inr 426, .inr 427, .inr 428, .inr 429, .inr 430, .inr 431, .inr 432, .inr 433, .inr 434, .inr 435, .inr 436, .inr 437, .inr 438, .inr 439, .inr 440, .inr 441, .inr 442, .inr 443, .inr 444, .inr 445, .inr 446, .inr 447, .inr 448, .inr 449, .inr 450, .inr 451, .inr 452, .inr 453, .inr 454, .inr 455, .inr 456, .inr 457, .inr 458, .inr 459, .inr 460, .inr 461, .inr 462, .inr 463, .inr 464, .inr 465, .inr 466, .inr 467, .inr 468, .inr 469, .inr 470, .inr 471, .inr 472, .inr 473, .inr 474, .inr 475, .inr 476, .inr 477, .inr 478, .inr 479, .inr 480, .inr 481, .inr 482] (fun wx => Below v4.heap.size v4 wx)) (MeetH.go _ (by rfl) ?_) ?_
      rotate_left
      · intro _ _ _ _
        as_aux_lemma =>
        clear HB HBs
        have HB : Below v4.heap.size v4 v4 := Below.refl _ _
        have HBs : v4.heap.size ≤ v4.heap.size := Nat.le_refl _
        have HA := Lib.hid Oa
        have HT := Lib.hid ht
        clear Oa
        go_wp2_with fail
        go_loopw [100] (fun i wr => ∃ k : Nat, k ≤ N ∧ i = .int .i64 k ∧ Below v4.heap.size v4 wr) (fun i _ => N - (intOf i).toNat)
        case atStart => exact ⟨0, Nat.zero_le _, rfl, Below.refl _ _⟩
        case round =>
          obtain ⟨k0, hk0, rfl, HB⟩ := hrel
          rcases k0 with _ | j
          · simp only [Int.natCast_zero]
            rcases Nat.lt_or_ge 0 N with hN9 | hN9
            rotate_left
            · have hN : ¬ (0 : Int) < (N : Int) := by omega
              go_wp2_with fail
              refine Met.intro ?_
              go_step
              refine MeetH.of ?_ ?_
              · exact HB
              repeat (first | refine Agr.skip ?_ | refine Agr.keep ?_ | exact Agr.nil)
            have hN : (0 : Int) < (N : Int) := by omega
            obtain ⟨f, q, R⟩ := LE.out 0 (by omega)
            obtain ⟨g, o, rfl⟩ := own_some HA.out (by rw [prs_len, HL.out]; omega)
            have Oa := HA.out.on HB
            have ht := HT.out.on HB
            have X := txE_of R.ok
            obtain ⟨_, e0, e1⟩ := own_pair Oa R.row
            simp only [Nat.zero_mul, Nat.add_zero] at e0 e1
            go_upto_region 12 with fail
            clear e0 e1
            have hb1 := below_on (w := wr) (.cells #[.int .i64 (f), .int .i64 (q)] 30)
            have E := box_at wr (f) (q) 30
            replace Oa := Oa.on hb1
            replace ht := ht.on hb1
            replace HB := below_go HB HBs hb1
            generalize hw1 : wr.alloc (.cells #[.int .i64 (f), .int .i64 (q)] 30) = v5 at Oa ht E HB ⊢
            generalize hR1 : wr.heap.size = RE at E ⊢
            clear hb1 hw1 hR1
            have E_0 := E.c0
            have E_1 := E.c1
            have E_z := E.z
            go_wp2_with fail
            refine (impl_PolygonNumber_any f q _).mono ?_
            rintro e v6 ⟨rfl, hb1⟩
            simp only [R.ok, R.num]
            clear E_0 E_1 E_z
            replace E := E.on hb1
            replace Oa := Oa.on hb1
            replace ht := ht.on hb1
            replace HB := below_go HB HBs hb1
            clear hb1
            have E_0 := E.c0
            have E_1 := E.c1
            have E_z := E.z
            go_wp2_with fail
            refine (impl_ShapeText_any f q _ ht).mono ?_
            rintro e v7 ⟨rfl, hb1⟩
            simp only [R.ok, X.t]
            clear E_0 E_1 E_z
            replace E := E.on hb1
            replace Oa := Oa.on hb1
            replace ht := ht.on hb1
            replace HB := below_go HB HBs hb1
            clear hb1
            go_wp2_with fail
            refine (impl_ParseShape_any (shTxt f q) _ (by have := X.len; omega) ht).mono ?_
            rintro e v8 ⟨rfl, hb1⟩
            simp only [X.ok, X.x, X.y]
            replace E := E.on hb1
            replace Oa := Oa.on hb1
            replace ht := ht.on hb1
            replace HB := below_go HB HBs hb1
            clear hb1
            clear X
            go_upto_region 15 with fail
            have hb1 := below_on (w := v8) (.cells #[.int .i64 (f), .int .i64 (q)] 30)
            have G := box_at v8 (f) (q) 30
            replace E := E.on hb1
            replace Oa := Oa.on hb1
            replace ht := ht.on hb1
            replace HB := below_go HB HBs hb1
            generalize hw1 : v8.alloc (.cells #[.int .i64 (f), .int .i64 (q)] 30) = v9 at E Oa ht G HB ⊢
            generalize hR1 : v8.heap.size = RG at G ⊢
            clear hb1 hw1 hR1
            have b1 : decide (q < 3) = false := decide_eq_false (by have := R.p3; omega)
            clear R
            have E_0 := E.c0
            have E_1 := E.c1
            have E_z := E.z
            have G_0 := G.c0
            have G_1 := G.c1
            have G_z := G.z
            go_big_quiet (fail)
            clear Oa ht
            have hb1 := below_drewN (Below.refl v9.heap.size v9) nq
            clear E_0 E_1 E_z G_0 G_1 G_z
            replace E := E.on hb1
            replace G := G.on hb1
            replace HB := below_go HB HBs hb1
            generalize v9.drewN nq = v10 at E G HB ⊢
            clear hb1
            go_wp2
            go_roundw
            case rel => exact ⟨0 + 1, by omega, by go_num, HB⟩
            case measure => simp [intOf]; omega
          · simp only [Int.natCast_add, Int.natCast_one]
            by_cases hlt : j + 1 < N
            · have hki : (j : Int) + 1 < (N : Int) := by omega
              have hz1 : (0 : Int) < (j : Int) + 1 := by omega
              have w9 : IntKind.i64.wrap ((j : Int) + 1 - 1) = (j : Int) := by rw [IntWalk.i64_in _ (by omega)]; omega
              have hj1 : (j : Int) < (N : Int) := by omega
              have hj2 : (0 : Int) ≤ (j : Int) := by omega
              obtain ⟨f, q, R⟩ := LE.out (j + 1) (by omega)
              obtain ⟨g, o, rfl⟩ := own_some HA.out (by rw [prs_len, HL.out]; omega)
              have Oa := HA.out.on HB
              have ht := HT.out.on HB
              have X := txE_of R.ok
              obtain ⟨_, e0, e1⟩ := own_pair Oa R.row
              go_upto_region 12 with fail
              clear e0 e1
              have hb1 := below_on (w := wr) (.cells #[.int .i64 (f), .int .i64 (q)] 30)
              have E := box_at wr (f) (q) 30
              replace Oa := Oa.on hb1
              replace ht := ht.on hb1
              replace HB := below_go HB HBs hb1
              generalize hw1 : wr.alloc (.cells #[.int .i64 (f), .int .i64 (q)] 30) = v11 at Oa ht E HB ⊢
              generalize hR1 : wr.heap.size = RE at E ⊢
              clear hb1 hw1 hR1
              have E_0 := E.c0
              have E_1 := E.c1
              have E_z := E.z
              go_wp2_with fail
              refine (impl_PolygonNumber_any f q _).mono ?_
              rintro e v12 ⟨rfl, hb1⟩
              simp only [R.ok, R.num]
              clear E_0 E_1 E_z
              replace E := E.on hb1
              replace Oa := Oa.on hb1
              replace ht := ht.on hb1
              replace HB := below_go HB HBs hb1
              clear hb1
              have E_0 := E.c0
              have E_1 := E.c1
              have E_z := E.z
              go_wp2_with fail
              refine (impl_ShapeText_any f q _ ht).mono ?_
              rintro e v13 ⟨rfl, hb1⟩
              simp only [R.ok, X.t]
              clear E_0 E_1 E_z
              replace E := E.on hb1
              replace Oa := Oa.on hb1
              replace ht := ht.on hb1
              replace HB := below_go HB HBs hb1
              clear hb1
              go_wp2_with fail
              refine (impl_ParseShape_any (shTxt f q) _ (by have := X.len; omega) ht).mono ?_
              rintro e v14 ⟨rfl, hb1⟩
              simp only [X.ok, X.x, X.y]
              replace E := E.on hb1
              replace Oa := Oa.on hb1
              replace ht := ht.on hb1
              replace HB := below_go HB HBs hb1
              clear hb1
              clear X
              go_upto_region 15 with fail
              have hb1 := below_on (w := v14) (.cells #[.int .i64 (f), .int .i64 (q)] 30)
              have G := box_at v14 (f) (q) 30
              replace E := E.on hb1
              replace Oa := Oa.on hb1
              replace ht := ht.on hb1
              replace HB := below_go HB HBs hb1
              generalize hw1 : v14.alloc (.cells #[.int .i64 (f), .int .i64 (q)] 30) = v15 at E Oa ht G HB ⊢
              generalize hR1 : v14.heap.size = RG at G ⊢
              clear hb1 hw1 hR1
              have b1 : decide (q < 3) = false := decide_eq_false (by have := R.p3; omega)
              obtain ⟨z, t, R2⟩ := LE.out j (by omega)
              have b0 := R.before j z t rfl R2.row
              have b2 : decide (f ≤ z) = false := decide_eq_false (by omega)
              have b3 : decide (t ≤ q) = false := decide_eq_false (by omega)
              clear b0
              obtain ⟨_, d0, d1⟩ := own_pair Oa R2.row
              clear R2
              clear R
              have E_0 := E.c0
              have E_1 := E.c1
              have E_z := E.z
              have G_0 := G.c0
              have G_1 := G.c1
              have G_z := G.z
              go_big_quiet (fail)
              clear d0 d1
              clear Oa ht
              have hb1 := below_drewN (Below.refl v15.heap.size v15) nq
              clear E_0 E_1 E_z G_0 G_1 G_z
              replace E := E.on hb1
              replace G := G.on hb1
              replace HB := below_go HB HBs hb1
              generalize v15.drewN nq = v16 at E G HB ⊢
              clear hb1
              go_wp2
              go_roundw
              case rel => exact ⟨(j + 1) + 1, by omega, by go_num, HB⟩
              case measure => simp [intOf]; omega
            · have hki : ¬ (j : Int) + 1 < (N : Int) := by omega
              go_wp2_with fail
              refine Met.intro ?_
              go_step
              refine MeetH.of ?_ ?_
              · exact HB
              repeat (first | refine Agr.skip ?_ | refine Agr.keep ?_ | exact Agr.nil)
      intro u17 v17 hb1
      replace ht := ht.on hb1
      replace hy' := hy'.on hb1
      replace Oa := Oa.on hb1
      replace HB := below_go HB HBs hb1
      clear hb1
      as_aux_lemma =>
      simp only [fillH]
      go_wp2_with fail
      refine Met.intro ?_
      go_step
      refine MeetH.of ?_ ?_
      · exact HB
      repeat (first | refine Agr.skip ?_ | refine Agr.keep ?_ | exact Agr.nil)
    · simp only [h]
      go_wp2_with fail
      refine Met.intro ?_
      go_step
      refine MeetH.of ?_ ?_
      · exact HB
      repeat (first | refine Agr.skip ?_ | refine Agr.keep ?_ | exact Agr.nil)
  intro u18 v18 hb1
  replace ht := ht.on hb1
  replace hy' := hy'.on hb1
  replace Oa := Oa.on hb1
  replace HB := below_go HB HBs hb1
  clear hb1
  as_aux_lemma =>
  simp only [fillH]
  clear Oa
  clear hsl
  have hps := pu_small
  go_wp2_with fail
  refine (DrawPolygonalUpTo_any B' m' c' _ hy' (by omega)).mono ?_
  rintro e v19 ⟨⟨sd, mo, rfl⟩, hb1⟩
  replace ht := ht.on hb1
  replace hy' := hy'.on hb1
  replace HB := below_go HB HBs hb1
  clear hb1
  go_wp2_with fail
  refine (impl_PolygonalUpTo_any sd mo _).mono ?_
  rintro e v20 ⟨Ap, cp, rfl, Op, hb1⟩
  replace ht := ht.on hb1
  replace hy' := hy'.on hb1
  replace HB := below_go HB HBs hb1
  clear hb1
  go_wp2_with fail
  refine (spec_PolygonalUpTo_any sd mo _).mono ?_
  rintro e v21 ⟨Aq, cq, rfl, Oq, hb1⟩
  replace ht := ht.on hb1
  replace hy' := hy'.on hb1
  replace Op := Op.on hb1
  replace HB := below_go HB HBs hb1
  clear hb1
  go_wp2_with fail
  refine (DrawWideNumber_any B' m' c' _ hy' (by omega)).mono ?_
  rintro e v22 ⟨⟨s, k, rfl⟩, hb1⟩
  replace ht := ht.on hb1
  replace hy' := hy'.on hb1
  replace Op := Op.on hb1
  replace Oq := Oq.on hb1
  replace HB := below_go HB HBs hb1
  clear hb1
  go_wp2_with fail
  refine (impl_WideNumber_any s k _).mono ?_
  rintro e v23 ⟨rfl, hb1⟩
  replace ht := ht.on hb1
  replace hy' := hy'.on hb1
  replace Op := Op.on hb1
  replace Oq := Oq.on hb1
  replace HB := below_go HB HBs hb1
  clear hb1
  go_wp2_with fail
  refine (spec_WideNumber_b s k _).mono ?_
  rintro e v24 ⟨rfl, hb1⟩
  replace ht := ht.on hb1
  replace hy' := hy'.on hb1
  replace Op := Op.on hb1
  replace Oq := Oq.on hb1
  replace HB := below_go HB HBs hb1
  clear hb1
  go_wp2_with fail
  refine (DrawCentredNumber_any B' m' c' _ hy' (by omega)).mono ?_
  rintro e v25 ⟨⟨t, p, rfl⟩, hb1⟩
  replace ht := ht.on hb1
  replace hy' := hy'.on hb1
  replace Op := Op.on hb1
  replace Oq := Oq.on hb1
  replace HB := below_go HB HBs hb1
  clear hb1
  go_wp2_with fail
  refine (impl_CentredNumber_any t p _).mono ?_
  rintro e v26 ⟨rfl, hb1⟩
  replace ht := ht.on hb1
  replace hy' := hy'.on hb1
  replace Op := Op.on hb1
  replace Oq := Oq.on hb1
  replace HB := below_go HB HBs hb1
  clear hb1
  go_wp2_with fail
  refine (spec_CentredNumber_b t p _).mono ?_
  rintro e v27 ⟨rfl, hb1⟩
  replace ht := ht.on hb1
  replace hy' := hy'.on hb1
  replace Op := Op.on hb1
  replace Oq := Oq.on hb1
  replace HB := below_go HB HBs hb1
  clear hb1
  go_wp2_with fail
  refine (DrawCentredPlace_any B' m' c' _ hy' (by omega)).mono ?_
  rintro e v28 ⟨⟨u, m, rfl⟩, hb1⟩
  replace ht := ht.on hb1
  replace hy' := hy'.on hb1
  replace Op := Op.on hb1
  replace Oq := Oq.on hb1
  replace HB := below_go HB HBs hb1
  clear hb1
  go_wp2_with fail
  refine (impl_CentredPlace_any u m _).mono ?_
  rintro e v29 ⟨rfl, hb1⟩
  replace ht := ht.on hb1
  replace hy' := hy'.on hb1
  replace Op := Op.on hb1
  replace Oq := Oq.on hb1
  replace HB := below_go HB HBs hb1
  clear hb1
  go_wp2_with fail
  refine (spec_CentredPlace_b u m _).mono ?_
  rintro e v30 ⟨rfl, hb1⟩
  replace ht := ht.on hb1
  replace hy' := hy'.on hb1
  replace Op := Op.on hb1
  replace Oq := Oq.on hb1
  replace HB := below_go HB HBs hb1
  clear hb1
  go_wp2_with fail
  refine (DrawShapeText_any B' m' c' _ hy' (by omega)).mono ?_
  rintro e v31 ⟨⟨a, b, rfl⟩, hb1⟩
  replace ht := ht.on hb1
  replace hy' := hy'.on hb1
  replace Op := Op.on hb1
  replace Oq := Oq.on hb1
  replace HB := below_go HB HBs hb1
  clear hb1
  go_wp2_with fail
  have hb1 := below_on (w := v31) (.cells #[.int .i64 (a), .int .i64 (b)] 30)
  have B1 := box_at v31 (a) (b) 30
  replace ht := ht.on hb1
  replace hy' := hy'.on hb1
  replace Op := Op.on hb1
  replace Oq := Oq.on hb1
  replace HB := below_go HB HBs hb1
  generalize hw1 : v31.alloc (.cells #[.int .i64 (a), .int .i64 (b)] 30) = v32 at ht hy' Op Oq B1 HB ⊢
  generalize hR1 : v31.heap.size = RB1 at B1 ⊢
  clear hb1 hw1 hR1
  refine (impl_ShapeText_any a b _ ht).mono ?_
  rintro e v33 ⟨rfl, hb1⟩
  replace B1 := B1.on hb1
  replace ht := ht.on hb1
  replace hy' := hy'.on hb1
  replace Op := Op.on hb1
  replace Oq := Oq.on hb1
  replace HB := below_go HB HBs hb1
  clear hb1
  have B1_0 := B1.c0
  have B1_1 := B1.c1
  have B1_z := B1.z
  go_wp2_with fail
  refine (spec_ShapeText_any a b _).mono ?_
  rintro e v34 ⟨rfl, hb1⟩
  clear B1_0 B1_1 B1_z
  replace B1 := B1.on hb1
  replace ht := ht.on hb1
  replace hy' := hy'.on hb1
  replace Op := Op.on hb1
  replace Oq := Oq.on hb1
  replace HB := below_go HB HBs hb1
  clear hb1
  go_wp2_with fail
  refine (DrawParseShape_any B' m' c' _ hy' (by omega)).mono ?_
  rintro e v35 ⟨⟨y, rfl, hy⟩, hb1⟩
  replace B1 := B1.on hb1
  replace ht := ht.on hb1
  replace hy' := hy'.on hb1
  replace Op := Op.on hb1
  replace Oq := Oq.on hb1
  replace HB := below_go HB HBs hb1
  clear hb1
  clear hy'
  go_wp2_with fail
  refine (impl_ParseShape_any y _ hy ht).mono ?_
  rintro e v36 ⟨rfl, hb1⟩
  replace B1 := B1.on hb1
  replace ht := ht.on hb1
  replace Op := Op.on hb1
  replace Oq := Oq.on hb1
  replace HB := below_go HB HBs hb1
  clear hb1
  go_wp2_with fail
  have hb1 := below_on (w := v36) (.cells #[.int .i64 (psX y), .int .i64 (psY y)] 30)
  have K1 := box_at v36 (psX y) (psY y) 30
  replace B1 := B1.on hb1
  replace ht := ht.on hb1
  replace Op := Op.on hb1
  replace Oq := Oq.on hb1
  replace HB := below_go HB HBs hb1
  generalize hw1 : v36.alloc (.cells #[.int .i64 (psX y), .int .i64 (psY y)] 30) = v37 at B1 ht Op Oq K1 HB ⊢
  generalize hR1 : v36.heap.size = RK1 at K1 ⊢
  clear hb1 hw1 hR1
  refine (spec_ParseShape_any y _ hy).mono ?_
  rintro e v38 ⟨rfl, hb1⟩
  replace B1 := B1.on hb1
  replace K1 := K1.on hb1
  replace ht := ht.on hb1
  replace Op := Op.on hb1
  replace Oq := Oq.on hb1
  replace HB := below_go HB HBs hb1
  clear hb1
  go_upto_region 36 with fail
  have hb1 := below_on (w := v38) (.cells #[.int .i64 (psX y), .int .i64 (psY y)] 30)
  have K2 := box_at v38 (psX y) (psY y) 30
  replace B1 := B1.on hb1
  replace K1 := K1.on hb1
  replace ht := ht.on hb1
  replace Op := Op.on hb1
  replace Oq := Oq.on hb1
  replace HB := below_go HB HBs hb1
  generalize hw1 : v38.alloc (.cells #[.int .i64 (psX y), .int .i64 (psY y)] 30) = v39 at B1 K1 ht Op Oq K2 HB ⊢
  generalize hR1 : v38.heap.size = RK2 at K2 ⊢
  clear hb1 hw1 hR1
  go_wp2_with fail
  refine (oSame_b Ap Aq _ cp cq _ _ _ _ (puL sd mo) _ rfl (by have := hps sd mo; omega) Op Oq).mono ?_
  rintro e v40 ⟨rfl, hb1⟩
  replace B1 := B1.on hb1
  replace K1 := K1.on hb1
  replace K2 := K2.on hb1
  replace ht := ht.on hb1
  replace Op := Op.on hb1
  replace Oq := Oq.on hb1
  replace HB := below_go HB HBs hb1
  clear hb1
  have K1_0 := K1.c0
  have K1_1 := K1.c1
  have K1_z := K1.z
  have K2_0 := K2.c0
  have K2_1 := K2.c1
  have K2_z := K2.z
  go_upto_if 326 with fail
  clear K1_0 K1_1 K1_z K2_0 K2_1 K2_z
  clear Oq K2
  refine wp_cut (MeetH [.inr 0, .inr 1, .inr 2, .inr 3, .inr 4, .inr 5, .inr 6, .inr 7, .inr 8, .inr 9, .inr 10, .inr 11, .inr 12, .inr 13, .inr 14, .inr 15, .inr 16, .inr 17, .inr 18, .inr 19, .inr 20, .inr 21, .inr 22, .inr 23, .inl (.int .i64 (s)), .inl (.int .i64 (k)), .inl (.int .i64 (wnV s k)), .inl (.bool (wnB s k)), .inr 28, .inr 29, .inl (.int .i64 (t)), .inl (.int .i64 (p)), .inl (.int .i64 (cnV t p)), .inl (.bool (gnB t p)), .inr 34, .inr 35, .inl (.int .i64 (u)), .inl (.int .i64 (m)), .inl (.int .i64 (cpV u m)), .inl (.bool (cpB u m)), .inr 40, .inr 41, .inl (.pointer (some ⟨RB1, 0, none⟩)), .inl (.string (stT a b)), .inl (.bool (pnB a b)), .inr 45, .inr 46, .inl (.string y), .inl (.pointer (some ⟨RK1, 0, none⟩)), .inl (.bool (psB y)), .inr 50, .inr 51, .inr 52, .inr 53, .inr 54, .inr 55, .inr 56, .inr 57, .inr 58, .inr 59, .inr 60, .inr 61, .inr 62, .inr 63, .inr 64, .inr 65, .inr 66, .inr 67, .inr 68, .inr 69, .inr 70, .inr 71, .inr 72, .inr 73, .inr 74, .inr 75, .inr 76, .inr 77, .inr 78, .inr 79, .inr 80, .inr 81, .inr 82, .inr 83, .inr 84, .inr 85, .inr 86, .inr 87, .inr 88, .inr 89, .inr 90, .inr 91, .inr 92, .inr 93, .inr 94, .inr 95, .inr 96, .inr 97, .inr 98, .inr 99, .inr 100, .inr 101, .inr 102, .inr 103, .inr 104, .inr 105, .inr 106, .inr 107, .inr 108, .inr 109, .inr 110, .inr 111, .inr 112, .inr 113, .inr 114, .inr 115, .inr 116, .inr 117, .inr 118, .inr 119, .inr 120, .inr 121, .inr 122, .inr 123, .inr 124, .inr 125, .inr 126, .inr 127, .inr 128, .inr 129, .inr 130, .inr 131, .inr 132, .inr 133, .inr 134, .inr 135, .inr 136, .inr 137, .inr 138, .inr 139, .inr 140, .inr 141, .inr 142, .inr 143, .inr 144, .inr 145, .inr 146, .inr 147, .inr 148, .inr 149, .inr 150, .inr 151, .inr 152, .inr 153, .inr 154, .inr 155, .inr 156, .inr 157, .inr 158, .inr 159, .inr 160, .inr 161, .inr 162, .inr 163, .inr 164, .inr 165, .inr 166, .inr 167, .inr 168, .inr 169, .inr 170, .inr 171, .inr 172, .inr 173, .inr 174, .inr 175, .inr 176, .inr 177, .inr 178, .inr 179, .inr 180, .inr 181, .inr 182, .inr 183, .inr 184, .inr 185, .inr 186, .inr 187, .inr 188, .inr 189, .inr 190, .inr 191, .inr 192, .inr 193, .inr 194, .inr 195, .inr 196, .inr 197, .inr 198, .inr 199, .inr 200, .inr 201, .inr 202, .inr 203, .inr 204, .inr 205, .inr 206, .inr 207, .inr 208, .inr 209, .inr 210, .inr 211, .inr 212, .inr 213, .inr 214, .inr 215, .inr 216, .inr 217, .inr 218, .inr 219, .inr 220, .inr 221, .inr 222, .inr 223, .inr 224, .inr 225, .inr 226, .inr 227, .inr 228, .inr 229, .inr 230, .inr 231, .inr 232, .inr 233, .inr 234, .inr 235, .inr 236, .inr 237, .inr 238, .inr 239, .inr 240, .inr 241, .inr 242, .inr 243, .inr 244, .inr 245, .inr 246, .inr 247, .inr 248, .inr 249, .inr 250, .inr 251, .inr 252, .inr 253, .inr 254, .inr 255, .inr 256, .inr 257, .inr 258, .inr 259, .inr 260, .inr 261, .inr 262, .inr 263, .inr 264, .inr 265, .inr 266, .inr 267, .inr 268, .inr 269, .inr 270, .inr 271, .inr 272, .inr 273, .inr 274, .inr 275, .inr 276, .inr 277, .inr 278, .inr 279, .inr 280, .inr 281, .inr 282, .inr 283, .inr 284, .inr 285, .inr 286, .inr 287, .inr 288, .inr 289, .inr 290, .inr 291, .inr 292, .inr 293, .inr 294, .inr 295, .inr 296, .inr 297, .inr 298, .inr 299, .inr 300, .inr 301, .inr 302, .inr 303, .inr 304, .inr 305, .inr 306, .inr 307, .inr 308, .inr 309, .inr 310, .inr 311, .inr 312, .inr 313, .inr 314, .inr 315, .inr 316, .inr 317, .inr 318, .inr 319, .inr 320, .inr 321, .inr 322, .inr 323, .inr 324, .inr 325, .inr 326, .inr 327, .inr 328, .inr 329, .inr 330, .inr 331, .inr 332, .inr 333, .inr 334, .inr 335, .inr 336, .inr 337, .inr 338, .inr 339, .inr 340, .inr 341, .inr 342, .inr 343, .inr 344, .inr 345, .inr 346, .inr 347, .inr 348, .inr 349, .inr 350, .inr 351, .inr 352, .inr 353, .inr 354, .inr 355, .inr 356, .inr 357, .inr 358, .inr 359, .inr 360, .inr 361, .inr 362, .inr 363, .inr 364, .inr 365, .inr 366, .inr 367, .inr 368, .inr 369, .inr 370, .inr 371, .inr 372, .inr 373, .inr 374, .inr 375, .inr 376, .inr 377, .inr 378, .inr 379, .inr 380, .inr 381, .inr 382, .inr 383, .inr 384, .inr 385, .inr 386, .inr 387, .inr 388, .inr 389, .inr 390, .inr 391, .inr 392, .inr 393, .inr 394, .inr 395, .inr 396, .inr 397, .inr 398, .inr 399, .inr 400, .inr 401, .inr 402, .inr 403, .inr 404, .inr 405, .inr 406, .inr 407, .inr 408, .inr 409, .inr 410, .inr 411, .inr 412, .inr 413, .inr 414, .inr 415, .inr 416, .inr 417, .inr 418, .inr 419, .inr 420, .inr 421, .inr 422, .inr 423, .inr 424, .inr 425, .inr 426, .inr 427, .inr 428, .inr 429, .inr 430, .inr 431, .inr 432, .inr 433, .inr 434, .inr 435, .inr 436, .inr 437, .inr 438, .inr 439, .inr 440, .inr 441, .inr 442, .inr 443, .inr 444, .inr 445, .inr 446, .inr 447, .inr 448, .inr 449, .inr 450, .inr 451, .inr 452, .inr 453, .inr 454, .inr 455, .inr 456, .inr 457, .inr 458, .inr 459, .inr 460, .inr 461, .inr 462, .inr 463, .inr 464, .inr 465, .inr 466, .inr 467, .inr 468, .inr 469, .inr 470, .inr 471, .inr 472, .inr 473, .inr 474, .inr 475, .inr 476, .inr 477, .inr 478, .inr 479, .inr 480, .inr 481, .inr 482] (fun wx => Below v40.heap.size v40 wx)) (MeetH.go _ (by rfl) ?_) ?_
  rotate_left
  · intro _ _ _ _
    as_aux_lemma =>
    clear HB HBs
    have HB : Below v40.heap.size v40 v40 := Below.refl _ _
    have HBs : v40.heap.size ≤ v40.heap.size := Nat.le_refl _
    rcases Bool.eq_false_or_eq_true (puB sd mo) with h | h
    · simp only [h]
      have q := puE_of h
      have LP := Lib.hid fun i hi => puR_of h i hi
      go_wp2_with fail
      refine (impl_CountUpTo_any sd mo _).mono ?_
      rintro e v41 ⟨rfl, hb1⟩
      simp only [q.t, q.cnt]
      replace B1 := B1.on hb1
      replace K1 := K1.on hb1
      replace ht := ht.on hb1
      replace Op := Op.on hb1
      replace HB := below_go HB HBs hb1
      clear hb1
      have hf := q.few
      clear q hps h
      generalize hL : (puL sd mo).length = N at *
      have HL := Lib.hid hL
      clear hL
      go_upto_block 2 with fail
      refine wp_cut (MeetH [.inr 0, .inr 1, .inr 2, .inr 3, .inr 4, .inr 5, .inr 6, .inr 7, .inr 8, .inr 9, .inr 10, .inr 11, .inr 12, .inr 13, .inr 14, .inr 15, .inr 16, .inr 17, .inr 18, .inr 19, .inr 20, .inr 21, .inr 22, .inr 23, .inl (.int .i64 (s)), .inl (.int .i64 (k)), .inl (.int .i64 (wnV s k)), .inl (.bool (wnB s k)), .inr 28, .inr 29, .inl (.int .i64 (t)), .inl (.int .i64 (p)), .inl (.int .i64 (cnV t p)), .inl (.bool (gnB t p)), .inr 34, .inr 35, .inl (.int .i64 (u)), .inl (.int .i64 (m)), .inl (.int .i64 (cpV u m)), .inl (.bool (cpB u m)), .inr 40, .inr 41, .inl (.pointer (some ⟨RB1, 0, none⟩)), .inl (.string (stT a b)), .inl (.bool (pnB a b)), .inr 45, .inr 46, .inl (.string y), .inl (.pointer (some ⟨RK1, 0, none⟩)), .inl (.bool (psB y)), .inr 50, .inr 51, .inr 52, .inr 53, .inr 54, .inr 55, .inr 56, .inr 57, .inr 58, .inr 59, .inr 60, .inr 61, .inr 62, .inr 63, .inr 64, .inr 65, .inr 66, .inr 67, .inr 68, .inr 69, .inr 70, .inr 71, .inr 72, .inr 73, .inr 74, .inr 75, .inr 76, .inr 77, .inr 78, .inr 79, .inr 80, .inr 81, .inr 82, .inr 83, .inr 84, .inr 85, .inr 86, .inr 87, .inr 88, .inr 89, .inr 90, .inr 91, .inr 92, .inr 93, .inr 94, .inr 95, .inr 96, .inr 97, .inr 98, .inr 99, .inr 100, .inr 101, .inr 102, .inr 103, .inr 104, .inr 105, .inr 106, .inr 107, .inr 108, .inr 109, .inr 110, .inr 111, .inr 112, .inr 113, .inr 114, .inr 115, .inr 116, .inr 117, .inr 118, .inr 119, .inr 120, .inr 121, .inr 122, .inr 123, .inr 124, .inr 125, .inr 126, .inr 127, .inr 128, .inr 129, .inr 130, .inr 131, .inr 132, .inr 133, .inr 134, .inr 135, .inr 136, .inr 137, .inr 138, .inr 139, .inr 140, .inr 141, .inr 142, .inr 143, .inr 144, .inr 145, .inr 146, .inr 147, .inr 148, .inr 149, .inr 150, .inr 151, .inr 152, .inr 153, .inr 154, .inr 155, .inr 156, .inr 157, .inr 158, .inr 159, .inr 160, .inr 161, .inr 162, .inr 163, .inr 164, .inr 165, .inr 166, .inr 167, .inr 168, .inr 169, .inr 170, .inr 171, .inr 172, .inr 173, .inr 174, .inr 175, .inr 176, .inr 177, .inr 178, .inr 179, .inr 180, .inr 181, .inr 182, .inr 183, .inr 184, .inr 185, .inr 186, .inr 187, .inr 188, .inr 189, .inr 190, .inr 191, .inr 192, .inr 193, .inr 194, .inr 195, .inr 196, .inr 197, .inr 198, .inr 199, .inr 200, .inr 201, .inr 202, .inr 203, .inr 204, .inr 205, .inr 206, .inr 207, .inr 208, .inr 209, .inr 210, .inr 211, .inr 212, .inr 213, .inr 214, .inr 215, .inr 216, .inr 217, .inr 218, .inr 219, .inr 220, .inr 221, .inr 222, .inr 223, .inr 224, .inr 225, .inr 226, .inr 227, .inr 228, .inr 229, .inr 230, .inr 231, .inr 232, .inr 233, .inr 234, .inr 235, .inr 236, .inr 237, .inr 238, .inr 239, .inr 240, .inr 241, .inr 242, .inr 243, .inr 244, .inr 245, .inr 246, .inr 247, .inr 248, .inr 249, .inr 250, .inr 251, .inr 252, .inr 253, .inr 254, .inr 255, .inr 256, .inr 257, .inr 258, .inr 259, .inr 260, .inr 261, .inr 262, .inr 263, .inr 264, .inr 265, .inr 266, .inr 267, .inr 268, .inr 269, .inr 270, .inr 271, .inr 272, .inr 273, .inr 274, .inr 275, .inr 276, .inr 277, .inr 278, .inr 279, .inr 280, .inr 281, .inr 282, .inr 283, .inr 284, .inr 285, .inr 286, .inr 287, .inr 288, .inr 289, .inr 290, .inr 291, .inr 292, .inr 293, .inr 294, .inr 295, .inr 296, .inr 297, .inr 298, .inr 299, .inr 300, .inr 301, .inr 302, .inr 303, .inr 304, .inr 305, .inr 306, .inr 307, .inr 308, .inr 309, .inr 310, .inr 311, .inr 312, .inr 313, .inr 314, .inr 315, .inr 316, .inr 317, .inr 318, .inr 319, .inr 320, .inr 321, .inr 322, .inr 323, .inr 324, .inr 325, .inr 326, .inr 327, .inr 328, .inr 329, .inr 330, .inr 331, .inr 332, .inr 333, .inr 334, .inr 335, .inr 336, .inr 337, .inr 338, .inr 339, .inr 340, .inr 341, .inr 342, .inr 343, .inr 344, .inr 345, .inr 346, .inr 347, .inr 348, .inr 349, .inr 350, .inr 351, .inr 352, .inr 353, .inr 354, .inr 355, .inr 356, .inr 357, .inr 358, .inr 359, .inr 360, .inr 361, .inr 362, .inr 363, .inr 364, .inr 365, .inr 366, .inr 367, .inr 368, .inr 369, .inr 370, .inr 371, .inr 372, .inr 373, .inr 374, .inr 375, .inr 376, .inr 377, .inr 378, .inr 379, .inr 380, .inr 381, .inr 382, .inr 383, .inr 384, .inr 385, .inr 386, .inr 387, .inr 388, .inr 389, .inr 390, .inr 391, .inr 392, .inr 393, .inr 394, .inr 395, .inr 396, .inr 397, .inr 398, .inr 399, .inr 400, .inr 401, .inr 402, .inr 403, .inr 404, .inr 405, .inr 406, .inr 407, .inr 408, .inr 409, .inr 410, .inr 411, .inr 412, .inr 413, .inr 414, .inr 415, .inr 416, .inr 417, .inr 418, .inr 419, .inr 420, .inr 421, .inr 422, .inr 423, .inr 424, .inr 425, .inr 426, .inr 427, .inr 428, .inr 429, .inr 430, .inr 431, .inr 432, .inr 433, .inr 434, .inr 435, .inr 436, .inr 437, .inr 438, .inr 439, .inr 440, .inr 441, .inr 442, .inr 443, .inr 444, .inr 445, .inr 446, .inr 447, .inr 448, .inr 449, .inr 450, .inr 451, .inr 452, .inr 453, .inr 454, .inr 455, .inr 456, .inr 457, .inr 458, .inr 459, .inr 460, .inr 461, .inr 462, .inr 463, .inr 464, .inr 465, .inr 466, .inr 467, .inr 468, .inr 469, .inr 470, .inr 471, .inr 472, .inr 473, .inr 474, .inr 475, .inr 476, .inr 477, .inr 478, .inr 479, .inr 480, .inr 481, .inr 482] (fun wx => Below v41.heap.size v41 wx)) (MeetH.go _ (by rfl) ?_) ?_
      rotate_left
      · intro _ _ _ _
        as_aux_lemma =>
        clear HB HBs
        have HB : Below v41.heap.size v41 v41 := Below.refl _ _
        have HBs : v41.heap.size ≤ v41.heap.size := Nat.le_refl _
        have HA := Lib.hid Op
        clear Op
        go_wp2_with fail
        go_loopw [343] (fun i wr => ∃ k : Nat, k ≤ N ∧ i = .int .i64 k ∧ Below v41.heap.size v41 wr) (fun i _ => N - (intOf i).toNat)
        case atStart => exact ⟨0, Nat.zero_le _, rfl, Below.refl _ _⟩
        case round =>
          obtain ⟨k0, hk0, rfl, HB⟩ := hrel
          rcases k0 with _ | j
          · simp only [Int.natCast_zero]
            rcases Nat.lt_or_ge 0 N with hN9 | hN9
            rotate_left
            · have hN : ¬ (0 : Int) < (N : Int) := by omega
              go_wp2_with fail
              refine Met.intro ?_
              go_step
              refine MeetH.of ?_ ?_
              · exact HB
              repeat (first | refine Agr.skip ?_ | refine Agr.keep ?_ | exact Agr.nil)
            have hN : (0 : Int) < (N : Int) := by omega
            obtain ⟨z, R⟩ := LP.out 0 (by omega)
            obtain ⟨g, o, rfl⟩ := own_some HA.out (by simp only [i64s, List.length_map]; rw [HL.out]; omega)
            have e0 := own_one (HA.out.on HB) R.row
            have z0 := R.z0
            have z1 := R.z1
            have m1 := R.m1
            have b1 : ¬ mo < z := by omega
            have b2 : decide (mo < z) = false := decide_eq_false b1
            simp only [Nat.add_zero] at e0
            have r1 : gnB sd 1 = true := by simpa using R.ok
            have r2 : gnV sd 1 = z := by simpa using R.first rfl
            have w7 : IntKind.i64.wrap z = z := IntWalk.i64_in _ (by omega)
            have w8 : IntKind.i64.wrap (z - 0) = z := by rw [Int.sub_zero]; exact w7
            have HR := Lib.hid (And.intro r1 r2)
            clear r1 r2
            go_wp2_with fail
            refine (impl_GnomonOf_any sd 1 _).mono ?_
            rintro e v42 ⟨rfl, hb1⟩
            simp only [HR.out.1, HR.out.2]
            replace HB := below_go HB HBs hb1
            clear hb1
            clear e0 HR R
            clear z0 z1 m1
            go_wp2
            go_roundw
            case rel => exact ⟨0 + 1, by omega, by go_num, HB⟩
            case measure => simp [intOf]; omega
          · simp only [Int.natCast_add, Int.natCast_one]
            by_cases hlt : j + 1 < N
            · have hki : (j : Int) + 1 < (N : Int) := by omega
              have hz1 : (0 : Int) < (j : Int) + 1 := by omega
              have w9 : IntKind.i64.wrap ((j : Int) + 1 - 1) = (j : Int) := by rw [IntWalk.i64_in _ (by omega)]; omega
              have hj1 : (j : Int) < (N : Int) := by omega
              have hj2 : (0 : Int) ≤ (j : Int) := by omega
              obtain ⟨z, R⟩ := LP.out (j + 1) (by omega)
              obtain ⟨g, o, rfl⟩ := own_some HA.out (by simp only [i64s, List.length_map]; rw [HL.out]; omega)
              have e0 := own_one (HA.out.on HB) R.row
              have z0 := R.z0
              have z1 := R.z1
              have m1 := R.m1
              have b1 : ¬ mo < z := by omega
              have b2 : decide (mo < z) = false := decide_eq_false b1
              obtain ⟨t', R2⟩ := LP.out j (by omega)
              have r1 : gnB sd ((j : Int) + 1 + 1) = true := by have := R.ok; rwa [Int.natCast_add, Int.natCast_one] at this
              obtain ⟨r2, t0, t1⟩ := R.before j t' rfl R2.row
              rw [Int.natCast_add, Int.natCast_one] at r2
              have w7 : IntKind.i64.wrap ((j : Int) + 1 + 1) = (j : Int) + 1 + 1 := IntWalk.i64_in _ (by omega)
              have w8 : IntKind.i64.wrap (z - t') = z - t' := IntWalk.i64_in _ (by omega)
              have HR := Lib.hid (And.intro r1 r2)
              clear r1 r2
              go_wp2_with fail
              refine (impl_GnomonOf_any sd ((j : Int) + 1 + 1) _).mono ?_
              rintro e v43 ⟨rfl, hb1⟩
              simp only [HR.out.1, HR.out.2]
              replace HB := below_go HB HBs hb1
              clear hb1
              clear e0 HR R
              have e1 := own_one (HA.out.on HB) R2.row
              clear R2 t0 t1
              clear z0 z1 m1
              go_wp2
              go_roundw
              case rel => exact ⟨(j + 1) + 1, by omega, by go_num, HB⟩
              case measure => simp [intOf]; omega
            · have hki : ¬ (j : Int) + 1 < (N : Int) := by omega
              go_wp2_with fail
              refine Met.intro ?_
              go_step
              refine MeetH.of ?_ ?_
              · exact HB
              repeat (first | refine Agr.skip ?_ | refine Agr.keep ?_ | exact Agr.nil)
      intro u44 v44 hb1
      replace B1 := B1.on hb1
      replace K1 := K1.on hb1
      replace ht := ht.on hb1
      replace Op := Op.on hb1
      replace HB := below_go HB HBs hb1
      clear hb1
      as_aux_lemma =>
      simp only [fillH]
      go_wp2_with fail
      refine Met.intro ?_
      go_step
      refine MeetH.of ?_ ?_
      · exact HB
      repeat (first | refine Agr.skip ?_ | refine Agr.keep ?_ | exact Agr.nil)
    · simp only [h]
      go_wp2_with fail
      refine Met.intro ?_
      go_step
      refine MeetH.of ?_ ?_
      · exact HB
      repeat (first | refine Agr.skip ?_ | refine Agr.keep ?_ | exact Agr.nil)
  intro u45 v45 hb1
  replace B1 := B1.on hb1
  replace K1 := K1.on hb1
  replace ht := ht.on hb1
  replace Op := Op.on hb1
  replace HB := below_go HB HBs hb1
  clear hb1
  as_aux_lemma =>
  simp only [fillH]
  clear Op
  clear hps
  go_upto_if 377 with fail
  refine wp_cut (MeetH [.inr 0, .inr 1, .inr 2, .inr 3, .inr 4, .inr 5, .inr 6, .inr 7, .inr 8, .inr 9, .inr 10, .inr 11, .inr 12, .inr 13, .inr 14, .inr 15, .inr 16, .inr 17, .inr 18, .inr 19, .inr 20, .inr 21, .inr 22, .inr 23, .inr 24, .inr 25, .inr 26, .inr 27, .inr 28, .inr 29, .inl (.int .i64 (t)), .inl (.int .i64 (p)), .inl (.int .i64 (cnV t p)), .inl (.bool (gnB t p)), .inr 34, .inr 35, .inl (.int .i64 (u)), .inl (.int .i64 (m)), .inl (.int .i64 (cpV u m)), .inl (.bool (cpB u m)), .inr 40, .inr 41, .inl (.pointer (some ⟨RB1, 0, none⟩)), .inl (.string (stT a b)), .inl (.bool (pnB a b)), .inr 45, .inr 46, .inl (.string y), .inl (.pointer (some ⟨RK1, 0, none⟩)), .inl (.bool (psB y)), .inr 50, .inr 51, .inr 52, .inr 53, .inr 54, .inr 55, .inr 56, .inr 57, .inr 58, .inr 59, .inr 60, .inr 61, .inr 62, .inr 63, .inr 64, .inr 65, .inr 66, .inr 67, .inr 68, .inr 69, .inr 70, .inr 71, .inr 72, .inr 73, .inr 74, .inr 75, .inr 76, .inr 77, .inr 78, .inr 79, .inr 80, .inr 81, .inr 82, .inr 83, .inr 84, .inr 85, .inr 86, .inr 87, .inr 88, .inr 89, .inr 90, .inr 91, .inr 92, .inr 93, .inr 94, .inr 95, .inr 96, .inr 97, .inr 98, .inr 99, .inr 100, .inr 101, .inr 102, .inr 103, .inr 104, .inr 105, .inr 106, .inr 107, .inr 108, .inr 109, .inr 110, .inr 111, .inr 112, .inr 113, .inr 114, .inr 115, .inr 116, .inr 117, .inr 118, .inr 119, .inr 120, .inr 121, .inr 122, .inr 123, .inr 124, .inr 125, .inr 126, .inr 127, .inr 128, .inr 129, .inr 130, .inr 131, .inr 132, .inr 133, .inr 134, .inr 135, .inr 136, .inr 137, .inr 138, .inr 139, .inr 140, .inr 141, .inr 142, .inr 143, .inr 144, .inr 145, .inr 146, .inr 147, .inr 148, .inr 149, .inr 150, .inr 151, .inr 152, .inr 153, .inr 154, .inr 155, .inr 156, .inr 157, .inr 158, .inr 159, .inr 160, .inr 161, .inr 162, .inr 163, .inr 164, .inr 165, .inr 166, .inr 167, .inr 168, .inr 169, .inr 170, .inr 171, .inr 172, .inr 173, .inr 174, .inr 175, .inr 176, .inr 177, .inr 178, .inr 179, .inr 180, .inr 181, .inr 182, .inr 183, .inr 184, .inr 185, .inr 186, .inr 187, .inr 188, .inr 189, .inr 190, .inr 191, .inr 192, .inr 193, .inr 194, .inr 195, .inr 196, .inr 197, .inr 198, .inr 199, .inr 200, .inr 201, .inr 202, .inr 203, .inr 204, .inr 205, .inr 206, .inr 207, .inr 208, .inr 209, .inr 210, .inr 211, .inr 212, .inr 213, .inr 214, .inr 215, .inr 216, .inr 217, .inr 218, .inr 219, .inr 220, .inr 221, .inr 222, .inr 223, .inr 224, .inr 225, .inr 226, .inr 227, .inr 228, .inr 229, .inr 230, .inr 231, .inr 232, .inr 233, .inr 234, .inr 235, .inr 236, .inr 237, .inr 238, .inr 239, .inr 240, .inr 241, .inr 242, .inr 243, .inr 244, .inr 245, .inr 246, .inr 247, .inr 248, .inr 249, .inr 250, .inr 251, .inr 252, .inr 253, .inr 254, .inr 255, .inr 256, .inr 257, .inr 258, .inr 259, .inr 260, .inr 261, .inr 262, .inr 263, .inr 264, .inr 265, .inr 266, .inr 267, .inr 268, .inr 269, .inr 270, .inr 271, .inr 272, .inr 273, .inr 274, .inr 275, .inr 276, .inr 277, .inr 278, .inr 279, .inr 280, .inr 281, .inr 282, .inr 283, .inr 284, .inr 285, .inr 286, .inr 287, .inr 288, .inr 289, .inr 290, .inr 291, .inr 292, .inr 293, .inr 294, .inr 295, .inr 296, .inr 297, .inr 298, .inr 299, .inr 300, .inr 301, .inr 302, .inr 303, .inr 304, .inr 305, .inr 306, .inr 307, .inr 308, .inr 309, .inr 310, .inr 311, .inr 312, .inr 313, .inr 314, .inr 315, .inr 316, .inr 317, .inr 318, .inr 319, .inr 320, .inr 321, .inr 322, .inr 323, .inr 324, .inr 325, .inr 326, .inr 327, .inr 328, .inr 329, .inr 330, .inr 331, .inr 332, .inr 333, .inr 334, .inr 335, .inr 336, .inr 337, .inr 338, .inr 339, .inr 340, .inr 341, .inr 342, .inr 343, .inr 344, .inr 345, .inr 346, .inr 347, .inr 348, .inr 349, .inr 350, .inr 351, .inr 352, .inr 353, .inr 354, .inr 355, .inr 356, .inr 357, .inr 358, .inr 359, .inr 360, .inr 361, .inr 362, .inr 363, .inr 364, .inr 365, .inr 366, .inr 367, .inr 368, .inr 369, .inr 370, .inr 371, .inr 372, .inr 373, .inr 374, .inr 375, .inr 376, .inr 377, .inr 378, .inr 379, .inr 380, .inr 381, .inr 382, .inr 383, .inr 384, .inr 385, .inr 386, .inr 387, .inr 388, .inr 389, .inr 390, .inr 391, .inr 392, .inr 393, .inr 394, .inr 395, .inr 396, .inr 397, .inr 398, .inr 399, .inr 400, .inr 401, .inr 402, .inr 403, .inr 404, .inr 405, .inr 406, .inr 407, .inr 408, .inr 409, .inr 410, .inr 411, .inr 412, .inr 413, .inr 414, .inr 415, .inr 416, .inr 417, .inr 418, .inr 419, .inr 420, .inr 421, .inr 422, .inr 423, .inr 424, .inr 425, .inr 426, .inr 427, .inr 428, .inr 429, .inr 430, .inr 431, .inr 432, .inr 433, .inr 434, .inr 435, .inr 436, .inr 437, .inr 438, .inr 439, .inr 440, .inr 441, .inr 442, .inr 443, .inr 444, .inr 445, .inr 446, .inr 447, .inr 448, .inr 449, .inr 450, .inr 451, .inr 452, .inr 453, .inr 454, .inr 455, .inr 456, .inr 457, .inr 458, .inr 459, .inr 460, .inr 461, .inr 462, .inr 463, .inr 464, .inr 465, .inr 466, .inr 467, .inr 468, .inr 469, .inr 470, .inr 471, .inr 472, .inr 473, .inr 474, .inr 475, .inr 476, .inr 477, .inr 478, .inr 479, .inr 480, .inr 481, .inr 482] (fun wx => Below v45.heap.size v45 wx)) (MeetH.go _ (by rfl) ?_) ?_
  rotate_left
  · intro _ _ _ _
    as_aux_lemma =>
    clear HB HBs
    have HB : Below v45.heap.size v45 v45 := Below.refl _ _
    have HBs : v45.heap.size ≤ v45.heap.size := Nat.le_refl _
    rcases Bool.eq_false_or_eq_true (wnB s k) with h | h
    · simp only [h]
      have q := wiE_of h
      have b1 := q.ab
      have k0 := q.k0
      have k1 := q.k1
      have k2 := q.b0
      have k3 := q.b1
      go_wp2_with fail
      refine (impl_WidePlace_any s (wnV s k) _).mono ?_
      rintro e v46 ⟨rfl, hb1⟩
      simp only [q.ok]
      replace B1 := B1.on hb1
      replace K1 := K1.on hb1
      replace ht := ht.on hb1
      replace HB := below_go HB HBs hb1
      clear hb1
      clear q
      go_wp2_with fail
      refine (oAbs_v (wdV s (wnV s k)) _ (by omega) (by omega)).mono ?_
      rintro e v47 ⟨rfl, hb1⟩
      replace B1 := B1.on hb1
      replace K1 := K1.on hb1
      replace ht := ht.on hb1
      replace HB := below_go HB HBs hb1
      clear hb1
      go_wp2_with fail
      refine (oAbs_v k _ (by omega) (by omega)).mono ?_
      rintro e v48 ⟨rfl, hb1⟩
      replace B1 := B1.on hb1
      replace K1 := K1.on hb1
      replace ht := ht.on hb1
      replace HB := below_go HB HBs hb1
      clear hb1
      by_cases hk : 0 ≤ k
      · have hk' := wiP_of h hk
        clear k0 k1 k2 k3
        go_wp2_with fail
        refine (impl_PolygonNumber_any s k _).mono ?_
        rintro e v49 ⟨rfl, hb1⟩
        simp only [hk'.1, hk'.2]
        replace B1 := B1.on hb1
        replace K1 := K1.on hb1
        replace ht := ht.on hb1
        replace HB := below_go HB HBs hb1
        clear hb1
        clear hk'
        go_wp2_with fail
        refine Met.intro ?_
        go_step
        refine MeetH.of ?_ ?_
        · exact HB
        repeat (first | refine Agr.skip ?_ | refine Agr.keep ?_ | exact Agr.nil)
      · clear k0 k1 k2 k3
        go_wp2_with fail
        refine Met.intro ?_
        go_step
        refine MeetH.of ?_ ?_
        · exact HB
        repeat (first | refine Agr.skip ?_ | refine Agr.keep ?_ | exact Agr.nil)
    · simp only [h]
      go_wp2_with fail
      refine Met.intro ?_
      go_step
      refine MeetH.of ?_ ?_
      · exact HB
      repeat (first | refine Agr.skip ?_ | refine Agr.keep ?_ | exact Agr.nil)
  intro u50 v50 hb1
  replace B1 := B1.on hb1
  replace K1 := K1.on hb1
  replace ht := ht.on hb1
  replace HB := below_go HB HBs hb1
  clear hb1
  as_aux_lemma =>
  simp only [fillH]
  go_upto_if 408 with fail
  refine wp_cut (MeetH [.inr 0, .inr 1, .inr 2, .inr 3, .inr 4, .inr 5, .inr 6, .inr 7, .inr 8, .inr 9, .inr 10, .inr 11, .inr 12, .inr 13, .inr 14, .inr 15, .inr 16, .inr 17, .inr 18, .inr 19, .inr 20, .inr 21, .inr 22, .inr 23, .inr 24, .inr 25, .inr 26, .inr 27, .inr 28, .inr 29, .inr 30, .inr 31, .inr 32, .inr 33, .inr 34, .inr 35, .inl (.int .i64 (u)), .inl (.int .i64 (m)), .inl (.int .i64 (cpV u m)), .inl (.bool (cpB u m)), .inr 40, .inr 41, .inl (.pointer (some ⟨RB1, 0, none⟩)), .inl (.string (stT a b)), .inl (.bool (pnB a b)), .inr 45, .inr 46, .inl (.string y), .inl (.pointer (some ⟨RK1, 0, none⟩)), .inl (.bool (psB y)), .inr 50, .inr 51, .inr 52, .inr 53, .inr 54, .inr 55, .inr 56, .inr 57, .inr 58, .inr 59, .inr 60, .inr 61, .inr 62, .inr 63, .inr 64, .inr 65, .inr 66, .inr 67, .inr 68, .inr 69, .inr 70, .inr 71, .inr 72, .inr 73, .inr 74, .inr 75, .inr 76, .inr 77, .inr 78, .inr 79, .inr 80, .inr 81, .inr 82, .inr 83, .inr 84, .inr 85, .inr 86, .inr 87, .inr 88, .inr 89, .inr 90, .inr 91, .inr 92, .inr 93, .inr 94, .inr 95, .inr 96, .inr 97, .inr 98, .inr 99, .inr 100, .inr 101, .inr 102, .inr 103, .inr 104, .inr 105, .inr 106, .inr 107, .inr 108, .inr 109, .inr 110, .inr 111, .inr 112, .inr 113, .inr 114, .inr 115, .inr 116, .inr 117, .inr 118, .inr 119, .inr 120, .inr 121, .inr 122, .inr 123, .inr 124, .inr 125, .inr 126, .inr 127, .inr 128, .inr 129, .inr 130, .inr 131, .inr 132, .inr 133, .inr 134, .inr 135, .inr 136, .inr 137, .inr 138, .inr 139, .inr 140, .inr 141, .inr 142, .inr 143, .inr 144, .inr 145, .inr 146, .inr 147, .inr 148, .inr 149, .inr 150, .inr 151, .inr 152, .inr 153, .inr 154, .inr 155, .inr 156, .inr 157, .inr 158, .inr 159, .inr 160, .inr 161, .inr 162, .inr 163, .inr 164, .inr 165, .inr 166, .inr 167, .inr 168, .inr 169, .inr 170, .inr 171, .inr 172, .inr 173, .inr 174, .inr 175, .inr 176, .inr 177, .inr 178, .inr 179, .inr 180, .inr 181, .inr 182, .inr 183, .inr 184, .inr 185, .inr 186, .inr 187, .inr 188, .inr 189, .inr 190, .inr 191, .inr 192, .inr 193, .inr 194, .inr 195, .inr 196, .inr 197, .inr 198, .inr 199, .inr 200, .inr 201, .inr 202, .inr 203, .inr 204, .inr 205, .inr 206, .inr 207, .inr 208, .inr 209, .inr 210, .inr 211, .inr 212, .inr 213, .inr 214, .inr 215, .inr 216, .inr 217, .inr 218, .inr 219, .inr 220, .inr 221, .inr 222, .inr 223, .inr 224, .inr 225, .inr 226, .inr 227, .inr 228, .inr 229, .inr 230, .inr 231, .inr 232, .inr 233, .inr 234, .inr 235, .inr 236, .inr 237, .inr 238, .inr 239, .inr 240, .inr 241, .inr 242, .inr 243, .inr 244, .inr 245, .inr 246, .inr 247, .inr 248, .inr 249, .inr 250, .inr 251, .inr 252, .inr 253, .inr 254, .inr 255, .inr 256, .inr 257, .inr 258, .inr 259, .inr 260, .inr 261, .inr 262, .inr 263, .inr 264, .inr 265, .inr 266, .inr 267, .inr 268, .inr 269, .inr 270, .inr 271, .inr 272, .inr 273, .inr 274, .inr 275, .inr 276, .inr 277, .inr 278, .inr 279, .inr 280, .inr 281, .inr 282, .inr 283, .inr 284, .inr 285, .inr 286, .inr 287, .inr 288, .inr 289, .inr 290, .inr 291, .inr 292, .inr 293, .inr 294, .inr 295, .inr 296, .inr 297, .inr 298, .inr 299, .inr 300, .inr 301, .inr 302, .inr 303, .inr 304, .inr 305, .inr 306, .inr 307, .inr 308, .inr 309, .inr 310, .inr 311, .inr 312, .inr 313, .inr 314, .inr 315, .inr 316, .inr 317, .inr 318, .inr 319, .inr 320, .inr 321, .inr 322, .inr 323, .inr 324, .inr 325, .inr 326, .inr 327, .inr 328, .inr 329, .inr 330, .inr 331, .inr 332, .inr 333, .inr 334, .inr 335, .inr 336, .inr 337, .inr 338, .inr 339, .inr 340, .inr 341, .inr 342, .inr 343, .inr 344, .inr 345, .inr 346, .inr 347, .inr 348, .inr 349, .inr 350, .inr 351, .inr 352, .inr 353, .inr 354, .inr 355, .inr 356, .inr 357, .inr 358, .inr 359, .inr 360, .inr 361, .inr 362, .inr 363, .inr 364, .inr 365, .inr 366, .inr 367, .inr 368, .inr 369, .inr 370, .inr 371, .inr 372, .inr 373, .inr 374, .inr 375, .inr 376, .inr 377, .inr 378, .inr 379, .inr 380, .inr 381, .inr 382, .inr 383, .inr 384, .inr 385, .inr 386, .inr 387, .inr 388, .inr 389, .inr 390, .inr 391, .inr 392, .inr 393, .inr 394, .inr 395, .inr 396, .inr 397, .inr 398, .inr 399, .inr 400, .inr 401, .inr 402, .inr 403, .inr 404, .inr 405, .inr 406, .inr 407, .inr 408, .inr 409, .inr 410, .inr 411, .inr 412, .inr 413, .inr 414, .inr 415, .inr 416, .inr 417, .inr 418, .inr 419, .inr 420, .inr 421, .inr 422, .inr 423, .inr 424, .inr 425, .inr 426, .inr 427, .inr 428, .inr 429, .inr 430, .inr 431, .inr 432, .inr 433, .inr 434, .inr 435, .inr 436, .inr 437, .inr 438, .inr 439, .inr 440, .inr 441, .inr 442, .inr 443, .inr 444, .inr 445, .inr 446, .inr 447, .inr 448, .inr 449, .inr 450, .inr 451, .inr 452, .inr 453, .inr 454, .inr 455, .inr 456, .inr 457, .inr 458, .inr 459, .inr 460, .inr 461, .inr 462, .inr 463, .inr 464, .inr 465, .inr 466, .inr 467, .inr 468, .inr 469, .inr 470, .inr 471, .inr 472, .inr 473, .inr 474, .inr 475, .inr 476, .inr 477, .inr 478, .inr 479, .inr 480, .inr 481, .inr 482] (fun wx => Below v50.heap.size v50 wx)) (MeetH.go _ (by rfl) ?_) ?_
  rotate_left
  · intro _ _ _ _
    as_aux_lemma =>
    clear HB HBs
    have HB : Below v50.heap.size v50 v50 := Below.refl _ _
    have HBs : v50.heap.size ≤ v50.heap.size := Nat.le_refl _
    rcases Bool.eq_false_or_eq_true (gnB t p) with h | h
    · simp only [h]
      have q := ceE_of h
      have p1 := q.p1
      have p2 := q.p2
      have v0 := q.v0
      have v1 := q.v1
      have m0 := q.m0
      have m1 := q.m1
      have eq := q.eq
      have w1 : IntKind.i64.wrap (p - 1) = p - 1 := IntWalk.i64_in _ (by omega)
      have w2 : IntKind.i64.wrap (t * pnV 3 (p - 1)) = t * pnV 3 (p - 1) := IntWalk.i64_in _ (by omega)
      have w3 : IntKind.i64.wrap (t * pnV 3 (p - 1) + 1) = cnV t p := by rw [IntWalk.i64_in _ (by omega)]; exact eq
      clear p1 p2 v0 v1 m0 m1 eq
      go_wp2_with fail
      refine (impl_CentredPlace_any t (cnV t p) _).mono ?_
      rintro e v51 ⟨rfl, hb1⟩
      simp only [q.ok, q.back]
      replace B1 := B1.on hb1
      replace K1 := K1.on hb1
      replace ht := ht.on hb1
      replace HB := below_go HB HBs hb1
      clear hb1
      go_wp2_with fail
      refine (impl_PolygonNumber_any 3 (p - 1) _).mono ?_
      rintro e v52 ⟨rfl, hb1⟩
      simp only [q.tri]
      replace B1 := B1.on hb1
      replace K1 := K1.on hb1
      replace ht := ht.on hb1
      replace HB := below_go HB HBs hb1
      clear hb1
      clear q
      go_wp2_with fail
      refine Met.intro ?_
      go_step
      refine MeetH.of ?_ ?_
      · exact HB
      repeat (first | refine Agr.skip ?_ | refine Agr.keep ?_ | exact Agr.nil)
    · simp only [h]
      go_wp2_with fail
      refine Met.intro ?_
      go_step
      refine MeetH.of ?_ ?_
      · exact HB
      repeat (first | refine Agr.skip ?_ | refine Agr.keep ?_ | exact Agr.nil)
  intro u53 v53 hb1
  replace B1 := B1.on hb1
  replace K1 := K1.on hb1
  replace ht := ht.on hb1
  replace HB := below_go HB HBs hb1
  clear hb1
  as_aux_lemma =>
  simp only [fillH]
  go_upto_region 65 with fail
  obtain ⟨tb, htb⟩ : ∃ tb, tb = (cpB u m && decide (cpV u m ≤ 100000)) := ⟨_, rfl⟩
  have HTB := Lib.hid htb
  clear htb
  refine wp_cut (MeetH [.inr 0, .inr 1, .inr 2, .inr 3, .inr 4, .inr 5, .inr 6, .inr 7, .inr 8, .inr 9, .inr 10, .inr 11, .inr 12, .inr 13, .inr 14, .inr 15, .inr 16, .inr 17, .inr 18, .inr 19, .inr 20, .inr 21, .inr 22, .inr 23, .inr 24, .inr 25, .inr 26, .inr 27, .inr 28, .inr 29, .inr 30, .inr 31, .inr 32, .inr 33, .inr 34, .inr 35, .inl (.int .i64 (u)), .inl (.int .i64 (m)), .inl (.int .i64 (cpV u m)), .inr 39, .inr 40, .inr 41, .inl (.pointer (some ⟨RB1, 0, none⟩)), .inl (.string (stT a b)), .inl (.bool (pnB a b)), .inr 45, .inr 46, .inl (.string y), .inl (.pointer (some ⟨RK1, 0, none⟩)), .inl (.bool (psB y)), .inr 50, .inr 51, .inr 52, .inr 53, .inr 54, .inr 55, .inr 56, .inr 57, .inr 58, .inr 59, .inr 60, .inr 61, .inr 62, .inr 63, .inr 64, .inr 65, .inr 66, .inr 67, .inr 68, .inr 69, .inr 70, .inr 71, .inr 72, .inr 73, .inr 74, .inr 75, .inr 76, .inr 77, .inr 78, .inr 79, .inr 80, .inr 81, .inr 82, .inr 83, .inr 84, .inr 85, .inr 86, .inr 87, .inr 88, .inr 89, .inr 90, .inr 91, .inr 92, .inr 93, .inr 94, .inr 95, .inr 96, .inr 97, .inr 98, .inr 99, .inr 100, .inr 101, .inr 102, .inr 103, .inr 104, .inr 105, .inr 106, .inr 107, .inr 108, .inr 109, .inr 110, .inr 111, .inr 112, .inr 113, .inr 114, .inr 115, .inr 116, .inr 117, .inr 118, .inr 119, .inr 120, .inr 121, .inr 122, .inr 123, .inr 124, .inr 125, .inr 126, .inr 127, .inr 128, .inr 129, .inr 130, .inr 131, .inr 132, .inr 133, .inr 134, .inr 135, .inr 136, .inr 137, .inr 138, .inr 139, .inr 140, .inr 141, .inr 142, .inr 143, .inr 144, .inr 145, .inr 146, .inr 147, .inr 148, .inr 149, .inr 150, .inr 151, .inr 152, .inr 153, .inr 154, .inr 155, .inr 156, .inr 157, .inr 158, .inr 159, .inr 160, .inr 161, .inr 162, .inr 163, .inr 164, .inr 165, .inr 166, .inr 167, .inr 168, .inr 169, .inr 170, .inr 171, .inr 172, .inr 173, .inr 174, .inr 175, .inr 176, .inr 177, .inr 178, .inr 179, .inr 180, .inr 181, .inr 182, .inr 183, .inr 184, .inr 185, .inr 186, .inr 187, .inr 188, .inr 189, .inr 190, .inr 191, .inr 192, .inr 193, .inr 194, .inr 195, .inr 196, .inr 197, .inr 198, .inr 199, .inr 200, .inr 201, .inr 202, .inr 203, .inr 204, .inr 205, .inr 206, .inr 207, .inr 208, .inr 209, .inr 210, .inr 211, .inr 212, .inr 213, .inr 214, .inr 215, .inr 216, .inr 217, .inr 218, .inr 219, .inr 220, .inr 221, .inr 222, .inr 223, .inr 224, .inr 225, .inr 226, .inr 227, .inr 228, .inr 229, .inr 230, .inr 231, .inr 232, .inr 233, .inr 234, .inr 235, .inr 236, .inr 237, .inr 238, .inr 239, .inr 240, .inr 241, .inr 242, .inr 243, .inr 244, .inr 245, .inr 246, .inr 247, .inr 248, .inr 249, .inr 250, .inr 251, .inr 252, .inr 253, .inr 254, .inr 255, .inr 256, .inr 257, .inr 258, .inr 259, .inr 260, .inr 261, .inr 262, .inr 263, .inr 264, .inr 265, .inr 266, .inr 267, .inr 268, .inr 269, .inr 270, .inr 271, .inr 272, .inr 273, .inr 274, .inr 275, .inr 276, .inr 277, .inr 278, .inr 279, .inr 280, .inr 281, .inr 282, .inr 283, .inr 284, .inr 285, .inr 286, .inr 287, .inr 288, .inr 289, .inr 290, .inr 291, .inr 292, .inr 293, .inr 294, .inr 295, .inr 296, .inr 297, .inr 298, .inr 299, .inr 300, .inr 301, .inr 302, .inr 303, .inr 304, .inr 305, .inr 306, .inr 307, .inr 308, .inr 309, .inr 310, .inr 311, .inr 312, .inr 313, .inr 314, .inr 315, .inr 316, .inr 317, .inr 318, .inr 319, .inr 320, .inr 321, .inr 322, .inr 323, .inr 324, .inr 325, .inr 326, .inr 327, .inr 328, .inr 329, .inr 330, .inr 331, .inr 332, .inr 333, .inr 334, .inr 335, .inr 336, .inr 337, .inr 338, .inr 339, .inr 340, .inr 341, .inr 342, .inr 343, .inr 344, .inr 345, .inr 346, .inr 347, .inr 348, .inr 349, .inr 350, .inr 351, .inr 352, .inr 353, .inr 354, .inr 355, .inr 356, .inr 357, .inr 358, .inr 359, .inr 360, .inr 361, .inr 362, .inr 363, .inr 364, .inr 365, .inr 366, .inr 367, .inr 368, .inr 369, .inr 370, .inr 371, .inr 372, .inr 373, .inr 374, .inr 375, .inr 376, .inr 377, .inr 378, .inr 379, .inr 380, .inr 381, .inr 382, .inr 383, .inr 384, .inr 385, .inr 386, .inr 387, .inr 388, .inr 389, .inr 390, .inr 391, .inr 392, .inr 393, .inr 394, .inr 395, .inr 396, .inr 397, .inr 398, .inr 399, .inr 400, .inr 401, .inr 402, .inr 403, .inr 404, .inr 405, .inr 406, .inr 407, .inr 408, .inr 409, .inr 410, .inr 411, .inr 412, .inr 413, .inr 414, .inr 415, .inr 416, .inr 417, .inr 418, .inr 419, .inr 420, .inr 421, .inr 422, .inr 423, .inr 424, .inr 425, .inr 426, .inr 427, .inr 428, .inr 429, .inr 430, .inr 431, .inr 432, .inr 433, .inr 434, .inr 435, .inr 436, .inr 437, .inr 438, .inr 439, .inr 440, .inr 441, .inr 442, .inr 443, .inl (.bool (tb)), .inr 445, .inr 446, .inr 447, .inr 448, .inr 449, .inr 450, .inr 451, .inr 452, .inr 453, .inr 454, .inr 455, .inr 456, .inr 457, .inr 458, .inr 459, .inr 460, .inr 461, .inr 462, .inr 463, .inr 464, .inr 465, .inr 466, .inr 467, .inr 468, .inr 469, .inr 470, .inr 471, .inr 472, .inr 473, .inr 474, .inr 475, .inr 476, .inr 477, .inr 478, .inr 479, .inr 480, .inr 481, .inr 482] (fun wx => Below v53.heap.size v53 wx)) (MeetH.go _ (by rfl) ?_) ?_
  rotate_left
  · intro _ _ _ _
    as_aux_lemma =>
    clear HB HBs
    have HB : Below v53.heap.size v53 v53 := Below.refl _ _
    have HBs : v53.heap.size ≤ v53.heap.size := Nat.le_refl _
    rcases Bool.eq_false_or_eq_true (cpB u m) with h | h
    · obtain rfl : tb = decide (cpV u m ≤ 100000) := by rw [HTB.out, h, Bool.true_and]
      simp only [h]
      go_wp2_with fail
      refine Met.intro ?_
      go_step
      refine MeetH.of ?_ ?_
      · exact HB
      repeat (first | refine Agr.skip ?_ | refine Agr.keep ?_ | exact Agr.nil)
    · obtain rfl : tb = false := by rw [HTB.out, h, Bool.false_and]
      simp only [h]
      go_wp2_with fail
      refine Met.intro ?_
      go_step
      refine MeetH.of ?_ ?_
      · exact HB
      repeat (first | refine Agr.skip ?_ | refine Agr.keep ?_ | exact Agr.nil)
  intro u54 v54 hb1
  replace B1 := B1.on hb1
  replace K1 := K1.on hb1
  replace ht := ht.on hb1
  replace HB := below_go HB HBs hb1
  clear hb1
  as_aux_lemma =>
  simp only [fillH]
  go_upto_if 444 with fail
  refine wp_cut (MeetH [.inr 0, .inr 1, .inr 2, .inr 3, .inr 4, .inr 5, .inr 6, .inr 7, .inr 8, .inr 9, .inr 10, .inr 11, .inr 12, .inr 13, .inr 14, .inr 15, .inr 16, .inr 17, .inr 18, .inr 19, .inr 20, .inr 21, .inr 22, .inr 23, .inr 24, .inr 25, .inr 26, .inr 27, .inr 28, .inr 29, .inr 30, .inr 31, .inr 32, .inr 33, .inr 34, .inr 35, .inr 36, .inr 37, .inr 38, .inr 39, .inr 40, .inr 41, .inl (.pointer (some ⟨RB1, 0, none⟩)), .inl (.string (stT a b)), .inl (.bool (pnB a b)), .inr 45, .inr 46, .inl (.string y), .inl (.pointer (some ⟨RK1, 0, none⟩)), .inl (.bool (psB y)), .inr 50, .inr 51, .inr 52, .inr 53, .inr 54, .inr 55, .inr 56, .inr 57, .inr 58, .inr 59, .inr 60, .inr 61, .inr 62, .inr 63, .inr 64, .inr 65, .inr 66, .inr 67, .inr 68, .inr 69, .inr 70, .inr 71, .inr 72, .inr 73, .inr 74, .inr 75, .inr 76, .inr 77, .inr 78, .inr 79, .inr 80, .inr 81, .inr 82, .inr 83, .inr 84, .inr 85, .inr 86, .inr 87, .inr 88, .inr 89, .inr 90, .inr 91, .inr 92, .inr 93, .inr 94, .inr 95, .inr 96, .inr 97, .inr 98, .inr 99, .inr 100, .inr 101, .inr 102, .inr 103, .inr 104, .inr 105, .inr 106, .inr 107, .inr 108, .inr 109, .inr 110, .inr 111, .inr 112, .inr 113, .inr 114, .inr 115, .inr 116, .inr 117, .inr 118, .inr 119, .inr 120, .inr 121, .inr 122, .inr 123, .inr 124, .inr 125, .inr 126, .inr 127, .inr 128, .inr 129, .inr 130, .inr 131, .inr 132, .inr 133, .inr 134, .inr 135, .inr 136, .inr 137, .inr 138, .inr 139, .inr 140, .inr 141, .inr 142, .inr 143, .inr 144, .inr 145, .inr 146, .inr 147, .inr 148, .inr 149, .inr 150, .inr 151, .inr 152, .inr 153, .inr 154, .inr 155, .inr 156, .inr 157, .inr 158, .inr 159, .inr 160, .inr 161, .inr 162, .inr 163, .inr 164, .inr 165, .inr 166, .inr 167, .inr 168, .inr 169, .inr 170, .inr 171, .inr 172, .inr 173, .inr 174, .inr 175, .inr 176, .inr 177, .inr 178, .inr 179, .inr 180, .inr 181, .inr 182, .inr 183, .inr 184, .inr 185, .inr 186, .inr 187, .inr 188, .inr 189, .inr 190, .inr 191, .inr 192, .inr 193, .inr 194, .inr 195, .inr 196, .inr 197, .inr 198, .inr 199, .inr 200, .inr 201, .inr 202, .inr 203, .inr 204, .inr 205, .inr 206, .inr 207, .inr 208, .inr 209, .inr 210, .inr 211, .inr 212, .inr 213, .inr 214, .inr 215, .inr 216, .inr 217, .inr 218, .inr 219, .inr 220, .inr 221, .inr 222, .inr 223, .inr 224, .inr 225, .inr 226, .inr 227, .inr 228, .inr 229, .inr 230, .inr 231, .inr 232, .inr 233, .inr 234, .inr 235, .inr 236, .inr 237, .inr 238, .inr 239, .inr 240, .inr 241, .inr 242, .inr 243, .inr 244, .inr 245, .inr 246, .inr 247, .inr 248, .inr 249, .inr 250, .inr 251, .inr 252, .inr 253, .inr 254, .inr 255, .inr 256, .inr 257, .inr 258, .inr 259, .inr 260, .inr 261, .inr 262, .inr 263, .inr 264, .inr 265, .inr 266, .inr 267, .inr 268, .inr 269, .inr 270, .inr 271, .inr 272, .inr 273, .inr 274, .inr 275, .inr 276, .inr 277, .inr 278, .inr 279, .inr 280, .inr 281, .inr 282, .inr 283, .inr 284, .inr 285, .inr 286, .inr 287, .inr 288, .inr 289, .inr 290, .inr 291, .inr 292, .inr 293, .inr 294, .inr 295, .inr 296, .inr 297, .inr 298, .inr 299, .inr 300, .inr 301, .inr 302, .inr 303, .inr 304, .inr 305, .inr 306, .inr 307, .inr 308, .inr 309, .inr 310, .inr 311, .inr 312, .inr 313, .inr 314, .inr 315, .inr 316, .inr 317, .inr 318, .inr 319, .inr 320, .inr 321, .inr 322, .inr 323, .inr 324, .inr 325, .inr 326, .inr 327, .inr 328, .inr 329, .inr 330, .inr 331, .inr 332, .inr 333, .inr 334, .inr 335, .inr 336, .inr 337, .inr 338, .inr 339, .inr 340, .inr 341, .inr 342, .inr 343, .inr 344, .inr 345, .inr 346, .inr 347, .inr 348, .inr 349, .inr 350, .inr 351, .inr 352, .inr 353, .inr 354, .inr 355, .inr 356, .inr 357, .inr 358, .inr 359, .inr 360, .inr 361, .inr 362, .inr 363, .inr 364, .inr 365, .inr 366, .inr 367, .inr 368, .inr 369, .inr 370, .inr 371, .inr 372, .inr 373, .inr 374, .inr 375, .inr 376, .inr 377, .inr 378, .inr 379, .inr 380, .inr 381, .inr 382, .inr 383, .inr 384, .inr 385, .inr 386, .inr 387, .inr 388, .inr 389, .inr 390, .inr 391, .inr 392, .inr 393, .inr 394, .inr 395, .inr 396, .inr 397, .inr 398, .inr 399, .inr 400, .inr 401, .inr 402, .inr 403, .inr 404, .inr 405, .inr 406, .inr 407, .inr 408, .inr 409, .inr 410, .inr 411, .inr 412, .inr 413, .inr 414, .inr 415, .inr 416, .inr 417, .inr 418, .inr 419, .inr 420, .inr 421, .inr 422, .inr 423, .inr 424, .inr 425, .inr 426, .inr 427, .inr 428, .inr 429, .inr 430, .inr 431, .inr 432, .inr 433, .inr 434, .inr 435, .inr 436, .inr 437, .inr 438, .inr 439, .inr 440, .inr 441, .inr 442, .inr 443, .inr 444, .inr 445, .inr 446, .inr 447, .inr 448, .inr 449, .inr 450, .inr 451, .inr 452, .inr 453, .inr 454, .inr 455, .inr 456, .inr 457, .inr 458, .inr 459, .inr 460, .inr 461, .inr 462, .inr 463, .inr 464, .inr 465, .inr 466, .inr 467, .inr 468, .inr 469, .inr 470, .inr 471, .inr 472, .inr 473, .inr 474, .inr 475, .inr 476, .inr 477, .inr 478, .inr 479, .inr 480, .inr 481, .inr 482] (fun wx => Below v54.heap.size v54 wx)) (MeetH.go _ (by rfl) ?_) ?_
  rotate_left
  · intro _ _ _ _
    as_aux_lemma =>
    clear HB HBs
    have HB : Below v54.heap.size v54 v54 := Below.refl _ _
    have HBs : v54.heap.size ≤ v54.heap.size := Nat.le_refl _
    by_cases hc : (cpB u m && decide (cpV u m ≤ 100000)) = true
    · obtain rfl : tb = true := HTB.out.trans hc
      obtain ⟨hc1, hc2⟩ := (Bool.and_eq_true _ _).mp hc
      have q := cpE_of hc1 (of_decide_eq_true hc2)
      clear hc hc1 hc2
      go_wp2_with fail
      refine (impl_CentredNumber_any u (cpV u m) _).mono ?_
      rintro e v55 ⟨rfl, hb1⟩
      simp only [q.ok, q.back]
      replace B1 := B1.on hb1
      replace K1 := K1.on hb1
      replace ht := ht.on hb1
      replace HB := below_go HB HBs hb1
      clear hb1
      clear q
      go_wp2_with fail
      refine Met.intro ?_
      go_step
      refine MeetH.of ?_ ?_
      · exact HB
      repeat (first | refine Agr.skip ?_ | refine Agr.keep ?_ | exact Agr.nil)
    · obtain rfl : tb = false := HTB.out.trans (by simpa using hc)
      go_wp2_with fail
      refine Met.intro ?_
      go_step
      refine MeetH.of ?_ ?_
      · exact HB
      repeat (first | refine Agr.skip ?_ | refine Agr.keep ?_ | exact Agr.nil)
  intro u56 v56 hb1
  replace B1 := B1.on hb1
  replace K1 := K1.on hb1
  replace ht := ht.on hb1
  replace HB := below_go HB HBs hb1
  clear hb1
  as_aux_lemma =>
  simp only [fillH]
  clear HTB
  go_upto_if 458 with fail
  refine wp_cut (MeetH [.inr 0, .inr 1, .inr 2, .inr 3, .inr 4, .inr 5, .inr 6, .inr 7, .inr 8, .inr 9, .inr 10, .inr 11, .inr 12, .inr 13, .inr 14, .inr 15, .inr 16, .inr 17, .inr 18, .inr 19, .inr 20, .inr 21, .inr 22, .inr 23, .inr 24, .inr 25, .inr 26, .inr 27, .inr 28, .inr 29, .inr 30, .inr 31, .inr 32, .inr 33, .inr 34, .inr 35, .inr 36, .inr 37, .inr 38, .inr 39, .inr 40, .inr 41, .inr 42, .inr 43, .inr 44, .inr 45, .inr 46, .inl (.string y), .inl (.pointer (some ⟨RK1, 0, none⟩)), .inl (.bool (psB y)), .inr 50, .inr 51, .inr 52, .inr 53, .inr 54, .inr 55, .inr 56, .inr 57, .inr 58, .inr 59, .inr 60, .inr 61, .inr 62, .inr 63, .inr 64, .inr 65, .inr 66, .inr 67, .inr 68, .inr 69, .inr 70, .inr 71, .inr 72, .inr 73, .inr 74, .inr 75, .inr 76, .inr 77, .inr 78, .inr 79, .inr 80, .inr 81, .inr 82, .inr 83, .inr 84, .inr 85, .inr 86, .inr 87, .inr 88, .inr 89, .inr 90, .inr 91, .inr 92, .inr 93, .inr 94, .inr 95, .inr 96, .inr 97, .inr 98, .inr 99, .inr 100, .inr 101, .inr 102, .inr 103, .inr 104, .inr 105, .inr 106, .inr 107, .inr 108, .inr 109, .inr 110, .inr 111, .inr 112, .inr 113, .inr 114, .inr 115, .inr 116, .inr 117, .inr 118, .inr 119, .inr 120, .inr 121, .inr 122, .inr 123, .inr 124, .inr 125, .inr 126, .inr 127, .inr 128, .inr 129, .inr 130, .inr 131, .inr 132, .inr 133, .inr 134, .inr 135, .inr 136, .inr 137, .inr 138, .inr 139, .inr 140, .inr 141, .inr 142, .inr 143, .inr 144, .inr 145, .inr 146, .inr 147, .inr 148, .inr 149, .inr 150, .inr 151, .inr 152, .inr 153, .inr 154, .inr 155, .inr 156, .inr 157, .inr 158, .inr 159, .inr 160, .inr 161, .inr 162, .inr 163, .inr 164, .inr 165, .inr 166, .inr 167, .inr 168, .inr 169, .inr 170, .inr 171, .inr 172, .inr 173, .inr 174, .inr 175, .inr 176, .inr 177, .inr 178, .inr 179, .inr 180, .inr 181, .inr 182, .inr 183, .inr 184, .inr 185, .inr 186, .inr 187, .inr 188, .inr 189, .inr 190, .inr 191, .inr 192, .inr 193, .inr 194, .inr 195, .inr 196, .inr 197, .inr 198, .inr 199, .inr 200, .inr 201, .inr 202, .inr 203, .inr 204, .inr 205, .inr 206, .inr 207, .inr 208, .inr 209, .inr 210, .inr 211, .inr 212, .inr 213, .inr 214, .inr 215, .inr 216, .inr 217, .inr 218, .inr 219, .inr 220, .inr 221, .inr 222, .inr 223, .inr 224, .inr 225, .inr 226, .inr 227, .inr 228, .inr 229, .inr 230, .inr 231, .inr 232, .inr 233, .inr 234, .inr 235, .inr 236, .inr 237, .inr 238, .inr 239, .inr 240, .inr 241, .inr 242, .inr 243, .inr 244, .inr 245, .inr 246, .inr 247, .inr 248, .inr 249, .inr 250, .inr 251, .inr 252, .inr 253, .inr 254, .inr 255, .inr 256, .inr 257, .inr 258, .inr 259, .inr 260, .inr 261, .inr 262, .inr 263, .inr 264, .inr 265, .inr 266, .inr 267, .inr 268, .inr 269, .inr 270, .inr 271, .inr 272, .inr 273, .inr 274, .inr 275, .inr 276, .inr 277, .inr 278, .inr 279, .inr 280, .inr 281, .inr 282, .inr 283, .inr 284, .inr 285, .inr 286, .inr 287, .inr 288, .inr 289, .inr 290, .inr 291, .inr 292, .inr 293, .inr 294, .inr 295, .inr 296, .inr 297, .inr 298, .inr 299, .inr 300, .inr 301, .inr 302, .inr 303, .inr 304, .inr 305, .inr 306, .inr 307, .inr 308, .inr 309, .inr 310, .inr 311, .inr 312, .inr 313, .inr 314, .inr 315, .inr 316, .inr 317, .inr 318, .inr 319, .inr 320, .inr 321, .inr 322, .inr 323, .inr 324, .inr 325, .inr 326, .inr 327, .inr 328, .inr 329, .inr 330, .inr 331, .inr 332, .inr 333, .inr 334, .inr 335, .inr 336, .inr 337, .inr 338, .inr 339, .inr 340, .inr 341, .inr 342, .inr 343, .inr 344, .inr 345, .inr 346, .inr 347, .inr 348, .inr 349, .inr 350, .inr 351, .inr 352, .inr 353, .inr 354, .inr 355, .inr 356, .inr 357, .inr 358, .inr 359, .inr 360, .inr 361, .inr 362, .inr 363, .inr 364, .inr 365, .inr 366, .inr 367, .inr 368, .inr 369, .inr 370, .inr 371, .inr 372, .inr 373, .inr 374, .inr 375, .inr 376, .inr 377, .inr 378, .inr 379, .inr 380, .inr 381, .inr 382, .inr 383, .inr 384, .inr 385, .inr 386, .inr 387, .inr 388, .inr 389, .inr 390, .inr 391, .inr 392, .inr 393, .inr 394, .inr 395, .inr 396, .inr 397, .inr 398, .inr 399, .inr 400, .inr 401, .inr 402, .inr 403, .inr 404, .inr 405, .inr 406, .inr 407, .inr 408, .inr 409, .inr 410, .inr 411, .inr 412, .inr 413, .inr 414, .inr 415, .inr 416, .inr 417, .inr 418, .inr 419, .inr 420, .inr 421, .inr 422, .inr 423, .inr 424, .inr 425, .inr 426, .inr 427, .inr 428, .inr 429, .inr 430, .inr 431, .inr 432, .inr 433, .inr 434, .inr 435, .inr 436, .inr 437, .inr 438, .inr 439, .inr 440, .inr 441, .inr 442, .inr 443, .inr 444, .inr 445, .inr 446, .inr 447, .inr 448, .inr 449, .inr 450, .inr 451, .inr 452, .inr 453, .inr 454, .inr 455, .inr 456, .inr 457, .inr 458, .inr 459, .inr 460, .inr 461, .inr 462, .inr 463, .inr 464, .inr 465, .inr 466, .inr 467, .inr 468, .inr 469, .inr 470, .inr 471, .inr 472, .inr 473, .inr 474, .inr 475, .inr 476, .inr 477, .inr 478, .inr 479, .inr 480, .inr 481, .inr 482] (fun wx => Below v56.heap.size v56 wx)) (MeetH.go _ (by rfl) ?_) ?_
  rotate_left
  · intro _ _ _ _
    as_aux_lemma =>
    clear HB HBs
    have HB : Below v56.heap.size v56 v56 := Below.refl _ _
    have HBs : v56.heap.size ≤ v56.heap.size := Nat.le_refl _
    rcases Bool.eq_false_or_eq_true (pnB a b) with h | h
    · simp only [h]
      have q := txE_of h
      go_wp2_with fail
      refine (impl_ParseShape_any (stT a b) _ (by rw [q.t]; have := q.len; omega) ht).mono ?_
      rintro e v57 ⟨rfl, hb1⟩
      simp only [q.t, q.ok, q.x, q.y]
      replace B1 := B1.on hb1
      replace K1 := K1.on hb1
      replace ht := ht.on hb1
      replace HB := below_go HB HBs hb1
      clear hb1
      clear q
      go_upto_region 71 with fail
      have hb1 := below_on (w := v57) (.cells #[.int .i64 (a), .int .i64 (b)] 30)
      have G := box_at v57 (a) (b) 30
      replace B1 := B1.on hb1
      replace K1 := K1.on hb1
      replace ht := ht.on hb1
      replace HB := below_go HB HBs hb1
      generalize hw1 : v57.alloc (.cells #[.int .i64 (a), .int .i64 (b)] 30) = v58 at B1 K1 ht G HB ⊢
      generalize hR1 : v57.heap.size = RG at G ⊢
      clear hb1 hw1 hR1
      have B1_0 := B1.c0
      have B1_1 := B1.c1
      have B1_z := B1.z
      have G_0 := G.c0
      have G_1 := G.c1
      have G_z := G.z
      go_wp2_with fail
      refine Met.intro ?_
      go_step
      refine MeetH.of ?_ ?_
      · exact HB
      repeat (first | refine Agr.skip ?_ | refine Agr.keep ?_ | exact Agr.nil)
    · simp only [h]
      go_wp2_with fail
      refine Met.intro ?_
      go_step
      refine MeetH.of ?_ ?_
      · exact HB
      repeat (first | refine Agr.skip ?_ | refine Agr.keep ?_ | exact Agr.nil)
  intro u59 v59 hb1
  replace B1 := B1.on hb1
  replace K1 := K1.on hb1
  replace ht := ht.on hb1
  replace HB := below_go HB HBs hb1
  clear hb1
  as_aux_lemma =>
  simp only [fillH]
  clear B1
  go_upto_if 471 with fail
  rcases Bool.eq_false_or_eq_true (psB y) with h | h
  · simp only [h]
    have q := psE_of h
    have K1_0 := K1.c0
    have K1_1 := K1.c1
    have K1_z := K1.z
    go_wp2_with fail
    refine (impl_ShapeText_any (psX y) (psY y) _ ht).mono ?_
    rintro e v60 ⟨rfl, hb1⟩
    simp only [q.ok, q.t]
    clear K1_0 K1_1 K1_z
    replace K1 := K1.on hb1
    replace ht := ht.on hb1
    replace HB := below_go HB HBs hb1
    clear hb1
    clear q
    go_wp2_with fail
    go_ret
    first | exact ⟨rfl, HB⟩ | exact ⟨rfl, hR0 ▸ HB⟩ | exact ⟨rfl, by assumption⟩
  · simp only [h]
    go_wp2_with fail
    go_ret
    first | exact ⟨rfl, HB⟩ | exact ⟨rfl, hR0 ▸ HB⟩ | exact ⟨rfl, by assumption⟩
end Go.Proofs.YtjfkeflmbgfhmaaGreatDoor
