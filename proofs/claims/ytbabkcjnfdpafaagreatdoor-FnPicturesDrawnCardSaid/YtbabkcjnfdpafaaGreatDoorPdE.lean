/- The law FnPicturesDrawn, walked: whatever the arguments it answers true, where the library's variable of internal/bytealg holds some number. -/
import Derived.Test.YtbabkcjnfdpafaaGreatDoorMa
import Derived.Test.YtbabkcjnfdpafaaGreatDoorPdC
import Derived.Test.YtbabkcjnfdpafaaGreatDoorMf
import Derived.Test.YtbabkcjnfdpafaaGreatDoorAnW
import Derived.Test.YtbabkcjnfdpafaaGreatDoorCut
import Derived.Lib.Hide
import Derived.Deep.Cut
import Derived.Deep.CutBlock
namespace Go.Proofs.YtbabkcjnfdpafaaGreatDoor
open Go.ChangeShapes Go.WideShapes Go.ChangeAt Go.RowKit

theorem ly_small (l : List UInt8) : (lyL l).length ≤ 600 := by
  rcases Bool.eq_false_or_eq_true (isPic l) with h | h
  · exact (lyE_of h).few
  · rw [lyL, h, cond_false]; simp
theorem pe_small (l : List UInt8) : (peL l).length ≤ 576 := by
  rcases Bool.eq_false_or_eq_true (isPic l) with h | h
  · exact pe_few h
  · rw [peL, h, cond_false]; simp
theorem own_some {w : World} {lo hi : Nat} {A : Option Addr} {cs : List Value} (h : Own w lo hi A cs) (hn : 0 < cs.length) : ∃ g o, A = some ⟨g, o, none⟩ := by
  obtain ⟨g, o, e, _⟩ := h hn
  exact ⟨g, o, e⟩
theorem own_text {w : World} {lo hi g o : Nat} {xs : List (List UInt8)} (h : Own w lo hi (some ⟨g, o, none⟩) (strs xs)) {k : Nat} (hk : k < xs.length) : w.cell? ⟨g, o + k, none⟩ = some (.string (bt xs[k])) := by
  obtain ⟨g', o', e, _, _, hc, _⟩ := h.at_ (k := k) (by simp [strs]; exact hk)
  injection e with e
  injection e with e1 e2 _
  subst e1
  subst e2
  simpa [strs] using hc
/-- The dots of the first pieces. -/
def pN (xs : List (List UInt8)) (k : Nat) : Nat := ((xs.take k).map cntB).sum
theorem pN_zero (xs : List (List UInt8)) : pN xs 0 = 0 := by simp [pN]
theorem pN_succ {xs : List (List UInt8)} {k : Nat} (hk : k < xs.length) : pN xs (k + 1) = pN xs k + cntB xs[k] := by
  rw [pN, pN, List.take_succ_eq_append_getElem hk, List.map_append, List.sum_append]
  simp
theorem pN_le (xs : List (List UInt8)) (k : Nat) : pN xs k ≤ (xs.map cntB).sum := by
  rcases Nat.lt_or_ge k xs.length with h | h
  · have e : (xs.map cntB).sum = pN xs k + ((xs.drop k).map cntB).sum := by
      rw [pN, ← List.sum_append, ← List.map_append, List.take_append_drop]
    omega
  · rw [pN, List.take_of_length_le h]
    exact Nat.le_refl _
theorem txP_byte {W : Nat} {d : Nat → Bool} (k : Nat) : ∀ c ∈ txP W d k, c < 128 := by
  induction k with
  | zero => intro c hc; simp [txP] at hc
  | succ k ih =>
    intro c hc
    rw [txP, List.mem_append, List.mem_append] at hc
    rcases hc with (hc | hc) | hc
    · exact ih c hc
    · split at hc
      · rw [List.mem_singleton] at hc; subst hc; decide
      · simp at hc
    · rw [List.mem_singleton] at hc
      subst hc
      cases d k <;> decide
theorem pic_byte {l : List UInt8} (h : isPic l = true) : ∀ c ∈ l, c < 128 := by
  have e := txP_all (pW l) (pH l) (pD l) (pic_b h).w0
  rw [pic_text h] at e
  intro c hc
  rw [← e] at hc
  exact txP_byte _ c hc
theorem pN_all (xs : List (List UInt8)) : pN xs xs.length = (xs.map cntB).sum := by rw [pN, List.take_length]
set_option maxRecDepth 4000 in
set_option maxHeartbeats 16000000 in
theorem walk_PicturesDrawn (A' : Option Addr) (n' a' : Nat) (B' : Option Addr) (m' c' : Nat) (w : World) (hn' : n' ≤ 9223372036854775807) (hx' : Bys w A' n') (hm' : m' ≤ 9223372036854775807) (hy' : Bys w B' m') (hM : MaxL w) :
    Calls Tryz.prog 3 #[.slice A' n' a', .slice B' m' c'] w fun e w' => e = .returned (.bool true) ∧ Below w.heap.size w w' := by
  have HB : Below w.heap.size w w := Below.refl _ _
  have HBs : w.heap.size ≤ w.heap.size := Nat.le_refl _
  rcases Bool.eq_false_or_eq_true (bgB n' m') with hg | hg
  · go_enter Tryz.func3, Tryz.ntmps3
    go_wp2_with (go_at_call 5; refine (big_any _ _ _ _ _ _ _ hn' hm').mono ?_; rintro e w' ⟨rfl, rfl⟩)
    go_ret
    exact ⟨rfl, Below.refl _ _⟩
  obtain ⟨gg1, gg2⟩ := bg_no hg
  go_enter Tryz.func3, Tryz.ntmps3
  go_wp2_with (go_at_call 5; refine (big_any _ _ _ _ _ _ _ hn' hm').mono ?_; rintro e w' ⟨rfl, rfl⟩)
  refine (DrawTrianglePicture_any A' n' a' _ hx' (by omega)).mono ?_
  rintro e v1 ⟨⟨k, rfl⟩, hb1⟩
  replace hM := hM.on hb1
  replace hy' := hy'.on hb1
  replace HB := below_go HB HBs hb1
  clear hb1
  clear hx'
  go_wp2_with fail
  refine (impl_TrianglePicture_L k _).mono ?_
  rintro e v2 ⟨rfl, hb1⟩
  replace hM := hM.on hb1
  replace hy' := hy'.on hb1
  replace HB := below_go HB HBs hb1
  clear hb1
  go_wp2_with fail
  refine (spec_TrianglePicture_L k _).mono ?_
  rintro e v3 ⟨rfl, hb1⟩
  replace hM := hM.on hb1
  replace hy' := hy'.on hb1
  replace HB := below_go HB HBs hb1
  clear hb1
  go_wp2_with fail
  refine (impl_SquarePicture_L k _).mono ?_
  rintro e v4 ⟨rfl, hb1⟩
  replace hM := hM.on hb1
  replace hy' := hy'.on hb1
  replace HB := below_go HB HBs hb1
  clear hb1
  go_wp2_with fail
  refine (spec_SquarePicture_L k _).mono ?_
  rintro e v5 ⟨rfl, hb1⟩
  replace hM := hM.on hb1
  replace hy' := hy'.on hb1
  replace HB := below_go HB HBs hb1
  clear hb1
  go_wp2_with fail
  refine (impl_DiamondPicture_L k _).mono ?_
  rintro e v6 ⟨rfl, hb1⟩
  replace hM := hM.on hb1
  replace hy' := hy'.on hb1
  replace HB := below_go HB HBs hb1
  clear hb1
  go_wp2_with fail
  refine (spec_DiamondPicture_L k _).mono ?_
  rintro e v7 ⟨rfl, hb1⟩
  replace hM := hM.on hb1
  replace hy' := hy'.on hb1
  replace HB := below_go HB HBs hb1
  clear hb1
  go_wp2_with fail
  refine (impl_HexagonPicture_L k _).mono ?_
  rintro e v8 ⟨rfl, hb1⟩
  replace hM := hM.on hb1
  replace hy' := hy'.on hb1
  replace HB := below_go HB HBs hb1
  clear hb1
  go_wp2_with fail
  refine (spec_HexagonPicture_L k _).mono ?_
  rintro e v9 ⟨rfl, hb1⟩
  replace hM := hM.on hb1
  replace hy' := hy'.on hb1
  replace HB := below_go HB HBs hb1
  clear hb1
  go_wp2_with fail
  refine (impl_GnomonPicture_L k _).mono ?_
  rintro e v10 ⟨rfl, hb1⟩
  replace hM := hM.on hb1
  replace hy' := hy'.on hb1
  replace HB := below_go HB HBs hb1
  clear hb1
  go_wp2_with fail
  refine (spec_GnomonPicture_L k _).mono ?_
  rintro e v11 ⟨rfl, hb1⟩
  replace hM := hM.on hb1
  replace hy' := hy'.on hb1
  replace HB := below_go HB HBs hb1
  clear hb1
  go_upto_region 14 with fail
  generalize hb1 : trB k = b1
  generalize hb2 : dmB k = b2
  have HE := Lib.hid (And.intro hb1 hb2)
  clear hb1 hb2
  refine wp_cut (MeetH [.inr 0, .inl (.slice B' m' c'), .inr 2, .inr 3, .inr 4, .inl (.int .i64 (k)), .inl (.string (bt (shL 116 k))), .inl (.bool (b1)), .inr 8, .inr 9, .inl (.string (bt (shL 115 k))), .inr 11, .inr 12, .inr 13, .inl (.string (bt (dhL 100 k))), .inl (.bool (b2)), .inr 16, .inr 17, .inl (.string (bt (dhL 104 k))), .inr 19, .inr 20, .inr 21, .inl (.string (bt (shL 103 k))), .inr 23, .inr 24, .inr 25, .inr 26, .inr 27, .inr 28, .inr 29, .inr 30, .inr 31, .inr 32, .inr 33, .inr 34, .inr 35, .inr 36, .inr 37, .inr 38, .inr 39, .inr 40, .inr 41, .inr 42, .inr 43, .inr 44, .inr 45, .inr 46, .inr 47, .inr 48, .inr 49, .inr 50, .inr 51, .inr 52, .inr 53, .inr 54, .inr 55, .inr 56, .inr 57, .inr 58, .inr 59, .inr 60, .inr 61, .inr 62, .inr 63, .inr 64, .inr 65, .inr 66, .inr 67, .inr 68, .inr 69, .inr 70, .inr 71, .inr 72, .inr 73, .inr 74, .inr 75, .inr 76, .inr 77, .inr 78, .inr 79, .inr 80, .inr 81, .inr 82, .inr 83, .inr 84, .inr 85, .inr 86, .inr 87, .inr 88, .inr 89, .inr 90, .inr 91, .inr 92, .inr 93, .inr 94, .inr 95, .inr 96, .inr 97, .inr 98, .inr 99, .inr 100, .inr 101, .inr 102, .inr 103, .inr 104, .inr 105, .inr 106, .inr 107, .inr 108, .inr 109, .inr 110, .inr 111, .inr 112, .inr 113, .inr 114, .inr 115, .inr 116, .inr 117, .inr 118, .inr 119, .inr 120, .inr 121, .inr 122, .inr 123, .inr 124, .inr 125, .inr 126, .inr 127, .inr 128, .inr 129, .inr 130, .inr 131, .inr 132, .inr 133, .inr 134, .inr 135, .inr 136, .inr 137, .inr 138, .inr 139, .inr 140, .inr 141, .inr 142, .inr 143, .inr 144, .inr 145, .inr 146, .inr 147, .inr 148, .inr 149, .inr 150, .inr 151, .inr 152, .inr 153, .inr 154, .inr 155, .inr 156, .inr 157, .inr 158, .inr 159, .inr 160, .inr 161, .inr 162, .inr 163, .inr 164, .inr 165, .inr 166, .inr 167, .inr 168, .inr 169, .inr 170, .inr 171, .inr 172, .inr 173, .inr 174, .inr 175, .inr 176, .inr 177, .inr 178, .inr 179, .inr 180, .inr 181, .inr 182, .inr 183, .inr 184, .inr 185, .inr 186, .inr 187, .inr 188, .inr 189, .inr 190, .inr 191, .inr 192, .inr 193, .inr 194, .inr 195, .inr 196, .inr 197, .inr 198, .inr 199, .inr 200, .inr 201, .inr 202, .inr 203, .inr 204, .inr 205, .inr 206, .inr 207, .inr 208, .inr 209, .inr 210, .inr 211, .inr 212, .inl (.bool false), .inr 214, .inr 215, .inr 216, .inr 217, .inr 218, .inr 219, .inr 220, .inr 221, .inr 222, .inr 223, .inr 224, .inr 225, .inr 226, .inr 227, .inr 228, .inr 229, .inr 230, .inr 231, .inr 232, .inr 233, .inr 234, .inr 235, .inr 236, .inr 237, .inr 238, .inr 239, .inr 240, .inr 241, .inr 242, .inr 243, .inr 244, .inr 245, .inr 246, .inr 247, .inr 248, .inr 249, .inr 250, .inr 251, .inr 252, .inr 253, .inr 254, .inr 255, .inr 256, .inr 257, .inr 258, .inr 259, .inr 260, .inr 261, .inr 262, .inr 263, .inr 264, .inr 265, .inr 266, .inr 267, .inr 268, .inr 269, .inr 270, .inr 271, .inr 272, .inr 273, .inr 274, .inr 275, .inr 276, .inr 277, .inr 278, .inr 279, .inr 280, .inr 281, .inr 282, .inr 283, .inr 284, .inr 285, .inr 286, .inr 287, .inr 288, .inr 289, .inr 290, .inr 291, .inr 292, .inr 293, .inr 294, .inr 295, .inr 296, .inr 297, .inr 298, .inr 299, .inr 300, .inr 301, .inr 302, .inr 303, .inr 304, .inr 305, .inr 306, .inr 307, .inr 308, .inr 309, .inr 310, .inr 311, .inr 312, .inr 313, .inr 314, .inr 315, .inr 316, .inr 317, .inr 318, .inr 319, .inr 320, .inr 321, .inr 322, .inr 323, .inr 324, .inr 325, .inr 326, .inr 327, .inr 328, .inr 329, .inr 330, .inr 331, .inr 332, .inr 333, .inr 334, .inr 335, .inr 336, .inr 337, .inr 338, .inr 339, .inr 340, .inr 341, .inr 342, .inr 343, .inr 344, .inr 345, .inr 346, .inr 347, .inr 348, .inr 349, .inr 350, .inr 351, .inr 352, .inr 353, .inr 354, .inr 355, .inr 356, .inr 357, .inr 358, .inr 359, .inr 360, .inr 361, .inr 362, .inr 363, .inr 364, .inr 365, .inr 366, .inr 367, .inr 368, .inr 369, .inr 370, .inr 371, .inr 372, .inr 373, .inr 374, .inr 375, .inr 376, .inr 377, .inr 378, .inr 379, .inr 380, .inr 381, .inr 382, .inr 383, .inr 384, .inr 385, .inr 386, .inr 387, .inr 388, .inr 389, .inr 390, .inr 391, .inr 392, .inr 393, .inr 394, .inr 395, .inr 396, .inr 397, .inr 398, .inr 399, .inr 400, .inr 401, .inr 402, .inr 403, .inr 404, .inr 405, .inr 406, .inr 407, .inr 408, .inr 409, .inr 410, .inr 411, .inr 412, .inr 413, .inr 414, .inr 415, .inr 416, .inr 417, .inr 418, .inr 419, .inr 420, .inr 421, .inr 422, .inr 423, .inr 424, .inr 425, .inr 426, .inr 427, .inr 428, .inr 429, .inr 430, .inr 431, .inr 432, .inr 433, .inr 434, .inr 435, .inr 436, .inr 437, .inr 438, .inr 439, .inr 440, .inr 441, .inr 442, .inr 443, .inr 444, .inr 445, .inr 446, .inr 447, .inr 448, .inr 449, .inr 450, .inr 451, .inr 452, .inr 453, .inr 454, .inr 455, .inr 456, .inr 457, .inr 458, .inr 459, .inr 460, .inr 461, .inr 462, .inr 463, .inr 464, .inr 465, .inr 466, .inr 467, .inr 468, .inr 469, .inr 470, .inr 471, .inr 472, .inr 473, .inr 474, .inr 475, .inr 476, .inr 477, .inr 478, .inr 479, .inr 480, .inr 481, .inr 482, .inr 483, .inr 484, .inr 485, .inr 486, .inr 487, .inr 488, .inr 489, .inr 490, .inr 491, .inr 492, .inr 493, .inr 494, .inr 495, .inr 496, .inr 497, .inr 498, .inr 499, .inr 500, .inr 501, .inr 502, .inr 503, .inr 504, .inr 505, .inr 506, .inr 507, .inr 508, .inr 509, .inr 510, .inr 511, .inr 512, .inr 513, .inr 514, .inr 515, .inr 516, .inr 517, .inr 518, .inr 519, .inr 520, .inr 521, .inr 522, .inr 523, .inr 524, .inr 525, .inr 526, .inr 527, .inr 528, .inr 529, .inr 530, .inr 531, .inr 532, .inr 533, .inr 534, .inr 535, .inr 536, .inr 537, .inr 538, .inr 539, .inr 540, .inr 541, .inr 542, .inr 543, .inr 544, .inr 545, .inr 546, .inr 547, .inr 548, .inr 549, .inr 550, .inr 551, .inr 552, .inr 553, .inr 554, .inr 555, .inr 556, .inr 557, .inr 558, .inr 559, .inr 560, .inr 561, .inr 562, .inr 563, .inr 564, .inr 565, .inr 566, .inr 567, .inr 568, .inr 569, .inr 570, .inr 571, .inr 572, .inr 573, .inr 574, .inr 575, .inr 576, .inr 577, .inr 578, .inr 579, .inr 580, .inr 581, .inr 582, .inr 583, .inr 584, .inr 585, .inr 586, .inr 587, .inr 588, .inr 589, .inr 590, .inr 591, .inr 592, .inr 593, .inr 594, .inr 595, .inr 596, .inr 597, .inr 598, .inr 599, .inr 600, .inr 601, .inr 602, .inr 603, .inr 604, .inr 605, .inr 606, .inr 607, .inr 608, .inr 609, .inr 610, .inr 611, .inr 612, .inr 613, .inr 614, .inr 615, .inr 616, .inr 617, .inr 618, .inr 619, .inr 620, .inr 621, .inr 622, .inr 623, .inr 624, .inr 625, .inr 626, .inr 627, .inr 628, .inr 629, .inr 630, .inr 631, .inr 632, .inr 633, .inr 634, .inr 635] (fun wx => Below v11.heap.size v11 wx)) (MeetH.go _ (by rfl) ?_) ?_
  rotate_left
  · intro _ _ _ _
    as_aux_lemma =>
    clear HB HBs
    have HB : Below v11.heap.size v11 v11 := Below.refl _ _
    have HBs : v11.heap.size ≤ v11.heap.size := Nat.le_refl _
    cases b2
    · simp only [List.append]
      go_wp2_with fail
      refine Met.intro ?_
      go_step
      refine MeetH.of ?_ ?_
      · exact HB
      repeat (first | refine Agr.skip ?_ | refine Agr.keep ?_ | exact Agr.nil)
    · obtain rfl : b1 = true := HE.out.1.symm.trans (dhE_of HE.out.2).tr
      simp only [List.append]
      go_wp2_with fail
      refine Met.intro ?_
      go_step
      refine MeetH.of ?_ ?_
      · exact HB
      repeat (first | refine Agr.skip ?_ | refine Agr.keep ?_ | exact Agr.nil)
  intro u12 v12 hb1
  replace hM := hM.on hb1
  replace hy' := hy'.on hb1
  replace HB := below_go HB HBs hb1
  clear hb1
  as_aux_lemma =>
  simp only [fillH]
  go_upto_if 214 with fail
  refine wp_cut (MeetH [.inr 0, .inl (.slice B' m' c'), .inr 2, .inr 3, .inr 4, .inl (.int .i64 (k)), .inr 6, .inr 7, .inr 8, .inr 9, .inr 10, .inr 11, .inr 12, .inr 13, .inl (.string (bt (dhL 100 k))), .inl (.bool (b2)), .inr 16, .inr 17, .inl (.string (bt (dhL 104 k))), .inr 19, .inr 20, .inr 21, .inr 22, .inr 23, .inr 24, .inr 25, .inr 26, .inr 27, .inr 28, .inr 29, .inr 30, .inr 31, .inr 32, .inr 33, .inr 34, .inr 35, .inr 36, .inr 37, .inr 38, .inr 39, .inr 40, .inr 41, .inr 42, .inr 43, .inr 44, .inr 45, .inr 46, .inr 47, .inr 48, .inr 49, .inr 50, .inr 51, .inr 52, .inr 53, .inr 54, .inr 55, .inr 56, .inr 57, .inr 58, .inr 59, .inr 60, .inr 61, .inr 62, .inr 63, .inr 64, .inr 65, .inr 66, .inr 67, .inr 68, .inr 69, .inr 70, .inr 71, .inr 72, .inr 73, .inr 74, .inr 75, .inr 76, .inr 77, .inr 78, .inr 79, .inr 80, .inr 81, .inr 82, .inr 83, .inr 84, .inr 85, .inr 86, .inr 87, .inr 88, .inr 89, .inr 90, .inr 91, .inr 92, .inr 93, .inr 94, .inr 95, .inr 96, .inr 97, .inr 98, .inr 99, .inr 100, .inr 101, .inr 102, .inr 103, .inr 104, .inr 105, .inr 106, .inr 107, .inr 108, .inr 109, .inr 110, .inr 111, .inr 112, .inr 113, .inr 114, .inr 115, .inr 116, .inr 117, .inr 118, .inr 119, .inr 120, .inr 121, .inr 122, .inr 123, .inr 124, .inr 125, .inr 126, .inr 127, .inr 128, .inr 129, .inr 130, .inr 131, .inr 132, .inr 133, .inr 134, .inr 135, .inr 136, .inr 137, .inr 138, .inr 139, .inr 140, .inr 141, .inr 142, .inr 143, .inr 144, .inr 145, .inr 146, .inr 147, .inr 148, .inr 149, .inr 150, .inr 151, .inr 152, .inr 153, .inr 154, .inr 155, .inr 156, .inr 157, .inr 158, .inr 159, .inr 160, .inr 161, .inr 162, .inr 163, .inr 164, .inr 165, .inr 166, .inr 167, .inr 168, .inr 169, .inr 170, .inr 171, .inr 172, .inr 173, .inr 174, .inr 175, .inr 176, .inr 177, .inr 178, .inr 179, .inr 180, .inr 181, .inr 182, .inr 183, .inr 184, .inr 185, .inr 186, .inr 187, .inr 188, .inr 189, .inr 190, .inr 191, .inr 192, .inr 193, .inr 194, .inr 195, .inr 196, .inr 197, .inr 198, .inr 199, .inr 200, .inr 201, .inr 202, .inr 203, .inr 204, .inr 205, .inr 206, .inr 207, .inr 208, .inr 209, .inr 210, .inr 211, .inr 212, .inr 213, .inr 214, .inr 215, .inr 216, .inr 217, .inr 218, .inr 219, .inr 220, .inr 221, .inr 222, .inr 223, .inr 224, .inr 225, .inr 226, .inr 227, .inr 228, .inr 229, .inr 230, .inr 231, .inr 232, .inr 233, .inr 234, .inr 235, .inr 236, .inr 237, .inr 238, .inr 239, .inr 240, .inr 241, .inr 242, .inr 243, .inr 244, .inr 245, .inr 246, .inr 247, .inr 248, .inr 249, .inr 250, .inr 251, .inr 252, .inr 253, .inr 254, .inr 255, .inr 256, .inr 257, .inr 258, .inr 259, .inr 260, .inr 261, .inr 262, .inr 263, .inr 264, .inr 265, .inr 266, .inr 267, .inr 268, .inr 269, .inr 270, .inr 271, .inr 272, .inr 273, .inr 274, .inr 275, .inr 276, .inr 277, .inr 278, .inr 279, .inr 280, .inr 281, .inr 282, .inr 283, .inr 284, .inr 285, .inr 286, .inr 287, .inr 288, .inr 289, .inr 290, .inr 291, .inr 292, .inr 293, .inr 294, .inr 295, .inr 296, .inr 297, .inr 298, .inr 299, .inr 300, .inr 301, .inr 302, .inr 303, .inr 304, .inr 305, .inr 306, .inr 307, .inr 308, .inr 309, .inr 310, .inr 311, .inr 312, .inr 313, .inr 314, .inr 315, .inr 316, .inr 317, .inr 318, .inr 319, .inr 320, .inr 321, .inr 322, .inr 323, .inr 324, .inr 325, .inr 326, .inr 327, .inr 328, .inr 329, .inr 330, .inr 331, .inr 332, .inr 333, .inr 334, .inr 335, .inr 336, .inr 337, .inr 338, .inr 339, .inr 340, .inr 341, .inr 342, .inr 343, .inr 344, .inr 345, .inr 346, .inr 347, .inr 348, .inr 349, .inr 350, .inr 351, .inr 352, .inr 353, .inr 354, .inr 355, .inr 356, .inr 357, .inr 358, .inr 359, .inr 360, .inr 361, .inr 362, .inr 363, .inr 364, .inr 365, .inr 366, .inr 367, .inr 368, .inr 369, .inr 370, .inr 371, .inr 372, .inr 373, .inr 374, .inr 375, .inr 376, .inr 377, .inr 378, .inr 379, .inr 380, .inr 381, .inr 382, .inr 383, .inr 384, .inr 385, .inr 386, .inr 387, .inr 388, .inr 389, .inr 390, .inr 391, .inr 392, .inr 393, .inr 394, .inr 395, .inr 396, .inr 397, .inr 398, .inr 399, .inr 400, .inr 401, .inr 402, .inr 403, .inr 404, .inr 405, .inr 406, .inr 407, .inr 408, .inr 409, .inr 410, .inr 411, .inr 412, .inr 413, .inr 414, .inr 415, .inr 416, .inr 417, .inr 418, .inr 419, .inr 420, .inr 421, .inr 422, .inr 423, .inr 424, .inr 425, .inr 426, .inr 427, .inr 428, .inr 429, .inr 430, .inr 431, .inr 432, .inr 433, .inr 434, .inr 435, .inr 436, .inr 437, .inr 438, .inr 439, .inr 440, .inr 441, .inr 442, .inr 443, .inr 444, .inr 445, .inr 446, .inr 447, .inr 448, .inr 449, .inr 450, .inr 451, .inr 452, .inr 453, .inr 454, .inr 455, .inr 456, .inr 457, .inr 458, .inr 459, .inr 460, .inr 461, .inr 462, .inr 463, .inr 464, .inr 465, .inr 466, .inr 467, .inr 468, .inr 469, .inr 470, .inr 471, .inr 472, .inr 473, .inr 474, .inr 475, .inr 476, .inr 477, .inr 478, .inr 479, .inr 480, .inr 481, .inr 482, .inr 483, .inr 484, .inr 485, .inr 486, .inr 487, .inr 488, .inr 489, .inr 490, .inr 491, .inr 492, .inr 493, .inr 494, .inr 495, .inr 496, .inr 497, .inr 498, .inr 499, .inr 500, .inr 501, .inr 502, .inr 503, .inr 504, .inr 505, .inr 506, .inr 507, .inr 508, .inr 509, .inr 510, .inr 511, .inr 512, .inr 513, .inr 514, .inr 515, .inr 516, .inr 517, .inr 518, .inr 519, .inr 520, .inr 521, .inr 522, .inr 523, .inr 524, .inr 525, .inr 526, .inr 527, .inr 528, .inr 529, .inr 530, .inr 531, .inr 532, .inr 533, .inr 534, .inr 535, .inr 536, .inr 537, .inr 538, .inr 539, .inr 540, .inr 541, .inr 542, .inr 543, .inr 544, .inr 545, .inr 546, .inr 547, .inr 548, .inr 549, .inr 550, .inr 551, .inr 552, .inr 553, .inr 554, .inr 555, .inr 556, .inr 557, .inr 558, .inr 559, .inr 560, .inr 561, .inr 562, .inr 563, .inr 564, .inr 565, .inr 566, .inr 567, .inr 568, .inr 569, .inr 570, .inr 571, .inr 572, .inr 573, .inr 574, .inr 575, .inr 576, .inr 577, .inr 578, .inr 579, .inr 580, .inr 581, .inr 582, .inr 583, .inr 584, .inr 585, .inr 586, .inr 587, .inr 588, .inr 589, .inr 590, .inr 591, .inr 592, .inr 593, .inr 594, .inr 595, .inr 596, .inr 597, .inr 598, .inr 599, .inr 600, .inr 601, .inr 602, .inr 603, .inr 604, .inr 605, .inr 606, .inr 607, .inr 608, .inr 609, .inr 610, .inr 611, .inr 612, .inr 613, .inr 614, .inr 615, .inr 616, .inr 617, .inr 618, .inr 619, .inr 620, .inr 621, .inr 622, .inr 623, .inr 624, .inr 625, .inr 626, .inr 627, .inr 628, .inr 629, .inr 630, .inr 631, .inr 632, .inr 633, .inr 634, .inr 635] (fun wx => Below v12.heap.size v12 wx)) (MeetH.go _ (by rfl) ?_) ?_
  rotate_left
  · intro _ _ _ _
    as_aux_lemma =>
    clear HB HBs
    have HB : Below v12.heap.size v12 v12 := Below.refl _ _
    have HBs : v12.heap.size ≤ v12.heap.size := Nat.le_refl _
    rcases Bool.eq_false_or_eq_true (b1) with h | h
    · simp only [h]
      have E := shE_of (HE.out.1.trans h)
      have k0 := E.k0
      have k1 := E.k1
      have f1 := (pic_few E.t).1
      have f2 := (pic_few E.s).1
      have f3 := (pic_few E.g).1
      have f4 := (pic_few E.u).1
      have f5 := (pic_few E.v).1
      have HL := Lib.hid (And.intro f1 (And.intro f2 (And.intro f3 (And.intro f4 f5))))
      have HD := Lib.hid E
      clear E f1 f2 f3 f4 f5 h HE
      go_wp2_with fail
      refine (impl_CountDots_L (shL 116 k) _ (by have := HL.out.1; omega) hM).mono ?_
      rintro e v13 ⟨rfl, hb1⟩
      simp only [HD.out.t, HD.out.tv]
      replace hM := hM.on hb1
      replace hy' := hy'.on hb1
      replace HB := below_go HB HBs hb1
      clear hb1
      go_wp2_with fail
      refine (impl_CountDots_L (shL 115 k) _ (by have := HL.out.2.1; omega) hM).mono ?_
      rintro e v14 ⟨rfl, hb1⟩
      simp only [HD.out.s, HD.out.sv]
      replace hM := hM.on hb1
      replace hy' := hy'.on hb1
      replace HB := below_go HB HBs hb1
      clear hb1
      go_wp2_with fail
      refine (impl_CountDots_L (shL 103 k) _ (by have := HL.out.2.2.1; omega) hM).mono ?_
      rintro e v15 ⟨rfl, hb1⟩
      simp only [HD.out.g, HD.out.gv]
      replace hM := hM.on hb1
      replace hy' := hy'.on hb1
      replace HB := below_go HB HBs hb1
      clear hb1
      go_wp2_with fail
      refine (impl_PolygonNumber_any 3 k _).mono ?_
      rintro e v16 ⟨rfl, hb1⟩
      simp only [HD.out.p3]
      replace hM := hM.on hb1
      replace hy' := hy'.on hb1
      replace HB := below_go HB HBs hb1
      clear hb1
      go_wp2_with fail
      refine (impl_PolygonNumber_any 4 k _).mono ?_
      rintro e v17 ⟨rfl, hb1⟩
      simp only [HD.out.p4]
      replace hM := hM.on hb1
      replace hy' := hy'.on hb1
      replace HB := below_go HB HBs hb1
      clear hb1
      go_wp2_with fail
      refine (impl_GnomonOf_any 4 k _).mono ?_
      rintro e v18 ⟨rfl, hb1⟩
      simp only [HD.out.g4]
      replace hM := hM.on hb1
      replace hy' := hy'.on hb1
      replace HB := below_go HB HBs hb1
      clear hb1
      by_cases hk : k < 24
      · go_wp2_with fail
        refine (impl_TurnPicture_L (shL 116 k) _ (by have := HL.out.1; omega) hM).mono ?_
        rintro e v19 ⟨rfl, hb1⟩
        simp only [HD.out.t]
        replace hM := hM.on hb1
        replace hy' := hy'.on hb1
        replace HB := below_go HB HBs hb1
        clear hb1
        go_wp2_with fail
        refine (impl_TurnPicture_L (tuL (shL 116 k)) _ (by have := HL.out.2.2.2.1; omega) hM).mono ?_
        rintro e v20 ⟨rfl, hb1⟩
        simp only [HD.out.u]
        replace hM := hM.on hb1
        replace hy' := hy'.on hb1
        replace HB := below_go HB HBs hb1
        clear hb1
        go_wp2_with fail
        refine (impl_BelowPicture_L (shL 116 k) (tuL (tuL (shL 116 k))) _ (by have := HL.out.1; omega) (by have := HL.out.2.2.2.2; omega) hM).mono ?_
        rintro e v21 ⟨rfl, hb1⟩
        simp only [HD.out.both]
        replace hM := hM.on hb1
        replace hy' := hy'.on hb1
        replace HB := below_go HB HBs hb1
        clear hb1
        have w2 : IntKind.i64.wrap (2 * k) = 2 * k := IntWalk.i64_in _ (by omega)
        by_cases h2 : 2 * k ≤ 24
        · have h3 : decide (2 * k ≤ 24) = true := decide_eq_true h2
          have w3 : IntKind.i64.wrap (k + 1) = k + 1 := IntWalk.i64_in _ (by omega)
          have m1 : 0 ≤ k * (k + 1) := Int.mul_nonneg (by omega) (by omega)
          have m2 : k * (k + 1) ≤ 24 * 25 := Int.mul_le_mul (by omega) (by omega) (by omega) (by omega)
          have w4 : IntKind.i64.wrap (k * (k + 1)) = k * (k + 1) := IntWalk.i64_in _ (by omega)
          have f6 := Lib.hid (pic_few (HD.out.ok h2)).1
          clear m1 m2
          simp only [h3]
          go_wp2_with fail
          refine (impl_CountDots_L (blL (shL 116 k) (tuL (tuL (shL 116 k)))) _ (by have := f6.out; omega) hM).mono ?_
          rintro e v22 ⟨rfl, hb1⟩
          simp only [HD.out.ok h2, HD.out.dots h2]
          replace hM := hM.on hb1
          replace hy' := hy'.on hb1
          replace HB := below_go HB HBs hb1
          clear hb1
          go_wp2_with fail
          refine Met.intro ?_
          go_step
          refine MeetH.of ?_ ?_
          · exact HB
          repeat (first | refine Agr.skip ?_ | refine Agr.keep ?_ | exact Agr.nil)
        · have h3 : decide (2 * k ≤ 24) = false := decide_eq_false h2
          simp only [h3]
          go_wp2_with fail
          refine Met.intro ?_
          go_step
          refine MeetH.of ?_ ?_
          · exact HB
          repeat (first | refine Agr.skip ?_ | refine Agr.keep ?_ | exact Agr.nil)
      · go_wp2_with fail
        refine Met.intro ?_
        go_step
        refine MeetH.of ?_ ?_
        · exact HB
        repeat (first | refine Agr.skip ?_ | refine Agr.keep ?_ | exact Agr.nil)
    · simp only [h]
      go_wp2_with fail
      refine Met.intro ?_
      go_step
      refine MeetH.of ?_ ?_
      · exact HB
      repeat (first | refine Agr.skip ?_ | refine Agr.keep ?_ | exact Agr.nil)
  intro u23 v23 hb1
  replace hM := hM.on hb1
  replace hy' := hy'.on hb1
  replace HB := below_go HB HBs hb1
  clear hb1
  as_aux_lemma =>
  simp only [fillH]
  go_upto_if 331 with fail
  refine wp_cut (MeetH [.inr 0, .inl (.slice B' m' c'), .inr 2, .inr 3, .inr 4, .inr 5, .inr 6, .inr 7, .inr 8, .inr 9, .inr 10, .inr 11, .inr 12, .inr 13, .inr 14, .inr 15, .inr 16, .inr 17, .inr 18, .inr 19, .inr 20, .inr 21, .inr 22, .inr 23, .inr 24, .inr 25, .inr 26, .inr 27, .inr 28, .inr 29, .inr 30, .inr 31, .inr 32, .inr 33, .inr 34, .inr 35, .inr 36, .inr 37, .inr 38, .inr 39, .inr 40, .inr 41, .inr 42, .inr 43, .inr 44, .inr 45, .inr 46, .inr 47, .inr 48, .inr 49, .inr 50, .inr 51, .inr 52, .inr 53, .inr 54, .inr 55, .inr 56, .inr 57, .inr 58, .inr 59, .inr 60, .inr 61, .inr 62, .inr 63, .inr 64, .inr 65, .inr 66, .inr 67, .inr 68, .inr 69, .inr 70, .inr 71, .inr 72, .inr 73, .inr 74, .inr 75, .inr 76, .inr 77, .inr 78, .inr 79, .inr 80, .inr 81, .inr 82, .inr 83, .inr 84, .inr 85, .inr 86, .inr 87, .inr 88, .inr 89, .inr 90, .inr 91, .inr 92, .inr 93, .inr 94, .inr 95, .inr 96, .inr 97, .inr 98, .inr 99, .inr 100, .inr 101, .inr 102, .inr 103, .inr 104, .inr 105, .inr 106, .inr 107, .inr 108, .inr 109, .inr 110, .inr 111, .inr 112, .inr 113, .inr 114, .inr 115, .inr 116, .inr 117, .inr 118, .inr 119, .inr 120, .inr 121, .inr 122, .inr 123, .inr 124, .inr 125, .inr 126, .inr 127, .inr 128, .inr 129, .inr 130, .inr 131, .inr 132, .inr 133, .inr 134, .inr 135, .inr 136, .inr 137, .inr 138, .inr 139, .inr 140, .inr 141, .inr 142, .inr 143, .inr 144, .inr 145, .inr 146, .inr 147, .inr 148, .inr 149, .inr 150, .inr 151, .inr 152, .inr 153, .inr 154, .inr 155, .inr 156, .inr 157, .inr 158, .inr 159, .inr 160, .inr 161, .inr 162, .inr 163, .inr 164, .inr 165, .inr 166, .inr 167, .inr 168, .inr 169, .inr 170, .inr 171, .inr 172, .inr 173, .inr 174, .inr 175, .inr 176, .inr 177, .inr 178, .inr 179, .inr 180, .inr 181, .inr 182, .inr 183, .inr 184, .inr 185, .inr 186, .inr 187, .inr 188, .inr 189, .inr 190, .inr 191, .inr 192, .inr 193, .inr 194, .inr 195, .inr 196, .inr 197, .inr 198, .inr 199, .inr 200, .inr 201, .inr 202, .inr 203, .inr 204, .inr 205, .inr 206, .inr 207, .inr 208, .inr 209, .inr 210, .inr 211, .inr 212, .inr 213, .inr 214, .inr 215, .inr 216, .inr 217, .inr 218, .inr 219, .inr 220, .inr 221, .inr 222, .inr 223, .inr 224, .inr 225, .inr 226, .inr 227, .inr 228, .inr 229, .inr 230, .inr 231, .inr 232, .inr 233, .inr 234, .inr 235, .inr 236, .inr 237, .inr 238, .inr 239, .inr 240, .inr 241, .inr 242, .inr 243, .inr 244, .inr 245, .inr 246, .inr 247, .inr 248, .inr 249, .inr 250, .inr 251, .inr 252, .inr 253, .inr 254, .inr 255, .inr 256, .inr 257, .inr 258, .inr 259, .inr 260, .inr 261, .inr 262, .inr 263, .inr 264, .inr 265, .inr 266, .inr 267, .inr 268, .inr 269, .inr 270, .inr 271, .inr 272, .inr 273, .inr 274, .inr 275, .inr 276, .inr 277, .inr 278, .inr 279, .inr 280, .inr 281, .inr 282, .inr 283, .inr 284, .inr 285, .inr 286, .inr 287, .inr 288, .inr 289, .inr 290, .inr 291, .inr 292, .inr 293, .inr 294, .inr 295, .inr 296, .inr 297, .inr 298, .inr 299, .inr 300, .inr 301, .inr 302, .inr 303, .inr 304, .inr 305, .inr 306, .inr 307, .inr 308, .inr 309, .inr 310, .inr 311, .inr 312, .inr 313, .inr 314, .inr 315, .inr 316, .inr 317, .inr 318, .inr 319, .inr 320, .inr 321, .inr 322, .inr 323, .inr 324, .inr 325, .inr 326, .inr 327, .inr 328, .inr 329, .inr 330, .inr 331, .inr 332, .inr 333, .inr 334, .inr 335, .inr 336, .inr 337, .inr 338, .inr 339, .inr 340, .inr 341, .inr 342, .inr 343, .inr 344, .inr 345, .inr 346, .inr 347, .inr 348, .inr 349, .inr 350, .inr 351, .inr 352, .inr 353, .inr 354, .inr 355, .inr 356, .inr 357, .inr 358, .inr 359, .inr 360, .inr 361, .inr 362, .inr 363, .inr 364, .inr 365, .inr 366, .inr 367, .inr 368, .inr 369, .inr 370, .inr 371, .inr 372, .inr 373, .inr 374, .inr 375, .inr 376, .inr 377, .inr 378, .inr 379, .inr 380, .inr 381, .inr 382, .inr 383, .inr 384, .inr 385, .inr 386, .inr 387, .inr 388, .inr 389, .inr 390, .inr 391, .inr 392, .inr 393, .inr 394, .inr 395, .inr 396, .inr 397, .inr 398, .inr 399, .inr 400, .inr 401, .inr 402, .inr 403, .inr 404, .inr 405, .inr 406, .inr 407, .inr 408, .inr 409, .inr 410, .inr 411, .inr 412, .inr 413, .inr 414, .inr 415, .inr 416, .inr 417, .inr 418, .inr 419, .inr 420, .inr 421, .inr 422, .inr 423, .inr 424, .inr 425, .inr 426, .inr 427, .inr 428, .inr 429, .inr 430, .inr 431, .inr 432, .inr 433, .inr 434, .inr 435, .inr 436, .inr 437, .inr 438, .inr 439, .inr 440, .inr 441, .inr 442, .inr 443, .inr 444, .inr 445, .inr 446, .inr 447, .inr 448, .inr 449, .inr 450, .inr 451, .inr 452, .inr 453, .inr 454, .inr 455, .inr 456, .inr 457, .inr 458, .inr 459, .inr 460, .inr 461, .inr 462, .inr 463, .inr 464, .inr 465, .inr 466, .inr 467, .inr 468, .inr 469, .inr 470, .inr 471, .inr 472, .inr 473, .inr 474, .inr 475, .inr 476, .inr 477, .inr 478, .inr 479, .inr 480, .inr 481, .inr 482, .inr 483, .inr 484, .inr 485, .inr 486, .inr 487, .inr 488, .inr 489, .inr 490, .inr 491, .inr 492, .inr 493, .inr 494, .inr 495, .inr 496, .inr 497, .inr 498, .inr 499, .inr 500, .inr 501, .inr 502, .inr 503, .inr 504, .inr 505, .inr 506, .inr 507, .inr 508, .inr 509, .inr 510, .inr 511, .inr 512, .inr 513, .inr 514, .inr 515, .inr 516, .inr 517, .inr 518, .inr 519, .inr 520, .inr 521, .inr 522, .inr 523, .inr 524, .inr 525, .inr 526, .inr 527, .inr 528, .inr 529, .inr 530, .inr 531, .inr 532, .inr 533, .inr 534, .inr 535, .inr 536, .inr 537, .inr 538, .inr 539, .inr 540, .inr 541, .inr 542, .inr 543, .inr 544, .inr 545, .inr 546, .inr 547, .inr 548, .inr 549, .inr 550, .inr 551, .inr 552, .inr 553, .inr 554, .inr 555, .inr 556, .inr 557, .inr 558, .inr 559, .inr 560, .inr 561, .inr 562, .inr 563, .inr 564, .inr 565, .inr 566, .inr 567, .inr 568, .inr 569, .inr 570, .inr 571, .inr 572, .inr 573, .inr 574, .inr 575, .inr 576, .inr 577, .inr 578, .inr 579, .inr 580, .inr 581, .inr 582, .inr 583, .inr 584, .inr 585, .inr 586, .inr 587, .inr 588, .inr 589, .inr 590, .inr 591, .inr 592, .inr 593, .inr 594, .inr 595, .inr 596, .inr 597, .inr 598, .inr 599, .inr 600, .inr 601, .inr 602, .inr 603, .inr 604, .inr 605, .inr 606, .inr 607, .inr 608, .inr 609, .inr 610, .inr 611, .inr 612, .inr 613, .inr 614, .inr 615, .inr 616, .inr 617, .inr 618, .inr 619, .inr 620, .inr 621, .inr 622, .inr 623, .inr 624, .inr 625, .inr 626, .inr 627, .inr 628, .inr 629, .inr 630, .inr 631, .inr 632, .inr 633, .inr 634, .inr 635] (fun wx => Below v23.heap.size v23 wx)) (MeetH.go _ (by rfl) ?_) ?_
  rotate_left
  · intro _ _ _ _
    as_aux_lemma =>
    clear HB HBs
    have HB : Below v23.heap.size v23 v23 := Below.refl _ _
    have HBs : v23.heap.size ≤ v23.heap.size := Nat.le_refl _
    rcases Bool.eq_false_or_eq_true (b2) with h | h
    · simp only [h]
      have E := dhE_of (HE.out.2.trans h)
      have f1 := (pic_few E.d).1
      have f2 := (pic_few E.h).1
      have HL := Lib.hid (And.intro f1 f2)
      have HD := Lib.hid E
      clear E f1 f2 h HE
      go_wp2_with fail
      refine (impl_CountDots_L (dhL 100 k) _ (by have := HL.out.1; omega) hM).mono ?_
      rintro e v24 ⟨rfl, hb1⟩
      simp only [HD.out.d, HD.out.dv]
      replace hM := hM.on hb1
      replace hy' := hy'.on hb1
      replace HB := below_go HB HBs hb1
      clear hb1
      go_wp2_with fail
      refine (impl_CountDots_L (dhL 104 k) _ (by have := HL.out.2; omega) hM).mono ?_
      rintro e v25 ⟨rfl, hb1⟩
      simp only [HD.out.h, HD.out.hv]
      replace hM := hM.on hb1
      replace hy' := hy'.on hb1
      replace HB := below_go HB HBs hb1
      clear hb1
      go_wp2_with fail
      refine (impl_CentredNumber_any 4 k _).mono ?_
      rintro e v26 ⟨rfl, hb1⟩
      simp only [HD.out.g4]
      replace hM := hM.on hb1
      replace hy' := hy'.on hb1
      replace HB := below_go HB HBs hb1
      clear hb1
      go_wp2_with fail
      refine (impl_CentredNumber_any 6 k _).mono ?_
      rintro e v27 ⟨rfl, hb1⟩
      simp only [HD.out.g6]
      replace hM := hM.on hb1
      replace hy' := hy'.on hb1
      replace HB := below_go HB HBs hb1
      clear hb1
      go_wp2_with fail
      refine Met.intro ?_
      go_step
      refine MeetH.of ?_ ?_
      · exact HB
      repeat (first | refine Agr.skip ?_ | refine Agr.keep ?_ | exact Agr.nil)
    · simp only [h]
      go_wp2_with fail
      refine Met.intro ?_
      go_step
      refine MeetH.of ?_ ?_
      · exact HB
      repeat (first | refine Agr.skip ?_ | refine Agr.keep ?_ | exact Agr.nil)
  intro u28 v28 hb1
  replace hM := hM.on hb1
  replace hy' := hy'.on hb1
  replace HB := below_go HB HBs hb1
  clear hb1
  as_aux_lemma =>
  simp only [fillH]
  clear HE
  go_wp2_with fail
  refine (DrawLayersOfPicture_any B' m' c' _ hy' (by omega)).mono ?_
  rintro e v29 ⟨⟨p, rfl, hp⟩, hb1⟩
  replace hM := hM.on hb1
  replace hy' := hy'.on hb1
  replace HB := below_go HB HBs hb1
  clear hb1
  clear hy'
  obtain ⟨P, rfl⟩ : ∃ P, p = bt P := ⟨_, bt_of p⟩
  rw [bt_size] at hp
  replace hp : P.length ≤ 1048576 := by omega
  go_wp2_with fail
  refine (impl_LayersOfPicture_C P _ hp hM).mono ?_
  rintro e v30 ⟨Aa, ca, hca, rfl, Oa, hb1⟩
  replace hM := hM.on hb1
  replace HB := below_go HB HBs hb1
  clear hb1
  go_wp2_with fail
  refine (spec_LayersOfPicture_L P _ hp).mono ?_
  rintro e v31 ⟨Ab, cb, rfl, Ob, hb1⟩
  replace hM := hM.on hb1
  replace Oa := Oa.on hb1
  replace HB := below_go HB HBs hb1
  clear hb1
  go_wp2_with fail
  refine (impl_BorderDots_L P _ hp hM).mono ?_
  rintro e v32 ⟨rfl, hb1⟩
  replace hM := hM.on hb1
  replace Oa := Oa.on hb1
  replace Ob := Ob.on hb1
  replace HB := below_go HB HBs hb1
  clear hb1
  go_wp2_with fail
  refine (spec_BorderDots_L P _ hp).mono ?_
  rintro e v33 ⟨rfl, hb1⟩
  replace hM := hM.on hb1
  replace Oa := Oa.on hb1
  replace Ob := Ob.on hb1
  replace HB := below_go HB HBs hb1
  clear hb1
  go_wp2_with fail
  refine (impl_TakeBorder_L P _ hp hM).mono ?_
  rintro e v34 ⟨rfl, hb1⟩
  replace hM := hM.on hb1
  replace Oa := Oa.on hb1
  replace Ob := Ob.on hb1
  replace HB := below_go HB HBs hb1
  clear hb1
  go_wp2_with fail
  refine (spec_TakeBorder_L P _ hp).mono ?_
  rintro e v35 ⟨rfl, hb1⟩
  replace hM := hM.on hb1
  replace Oa := Oa.on hb1
  replace Ob := Ob.on hb1
  replace HB := below_go HB HBs hb1
  clear hb1
  go_wp2_with fail
  refine (impl_PiecesOfPicture_L P _ hp hM).mono ?_
  rintro e v36 ⟨Ae, ce, rfl, Oe, hb1⟩
  replace hM := hM.on hb1
  replace Oa := Oa.on hb1
  replace Ob := Ob.on hb1
  replace HB := below_go HB HBs hb1
  clear hb1
  go_wp2_with fail
  refine (spec_PiecesOfPicture_L P _ hp).mono ?_
  rintro e v37 ⟨Af, cf, rfl, Of, hb1⟩
  replace hM := hM.on hb1
  replace Oa := Oa.on hb1
  replace Ob := Ob.on hb1
  replace Oe := Oe.on hb1
  replace HB := below_go HB HBs hb1
  clear hb1
  go_wp2_with fail
  refine (impl_CountDots_L P _ hp hM).mono ?_
  rintro e v38 ⟨rfl, hb1⟩
  replace hM := hM.on hb1
  replace Oa := Oa.on hb1
  replace Ob := Ob.on hb1
  replace Oe := Oe.on hb1
  replace Of := Of.on hb1
  replace HB := below_go HB HBs hb1
  clear hb1
  go_wp2_with fail
  refine (spec_CountDots_L P _ hp).mono ?_
  rintro e v39 ⟨rfl, hb1⟩
  replace hM := hM.on hb1
  replace Oa := Oa.on hb1
  replace Ob := Ob.on hb1
  replace Oe := Oe.on hb1
  replace Of := Of.on hb1
  replace HB := below_go HB HBs hb1
  clear hb1
  go_upto_region 53 with fail
  simp only [List.append]
  have hly := ly_small P
  have hpe := pe_small P
  go_wp2_with fail
  refine (hSame_b Aa Ab _ ca cb _ _ _ _ (lyL P) _ rfl (by omega) Oa Ob).mono ?_
  rintro e v40 ⟨rfl, hb1⟩
  replace hM := hM.on hb1
  replace Oa := Oa.on hb1
  replace Ob := Ob.on hb1
  replace Oe := Oe.on hb1
  replace Of := Of.on hb1
  replace HB := below_go HB HBs hb1
  clear hb1
  go_wp2_with fail
  refine (hTexts_b Ae Af _ ce cf _ _ _ _ (peL P) _ rfl (by omega) Oe Of).mono ?_
  rintro e v41 ⟨rfl, hb1⟩
  replace hM := hM.on hb1
  replace Oa := Oa.on hb1
  replace Ob := Ob.on hb1
  replace Oe := Oe.on hb1
  replace Of := Of.on hb1
  replace HB := below_go HB HBs hb1
  clear hb1
  clear Ob Of
  go_wp2_with fail
  refine (impl_IsPicture_L P _ hp hM).mono ?_
  rintro e v42 ⟨rfl, hb1⟩
  replace hM := hM.on hb1
  replace Oa := Oa.on hb1
  replace Oe := Oe.on hb1
  replace HB := below_go HB HBs hb1
  clear hb1
  go_wp2_with fail
  refine (impl_IsPicture_L P _ hp hM).mono ?_
  rintro e v43 ⟨rfl, hb1⟩
  replace hM := hM.on hb1
  replace Oa := Oa.on hb1
  replace Oe := Oe.on hb1
  replace HB := below_go HB HBs hb1
  clear hb1
  go_wp2_with fail
  refine (spec_IsPicture_L P _ hp).mono ?_
  rintro e v44 ⟨rfl, hb1⟩
  replace hM := hM.on hb1
  replace Oa := Oa.on hb1
  replace Oe := Oe.on hb1
  replace HB := below_go HB HBs hb1
  clear hb1
  go_upto_if 511 with fail
  rcases Bool.eq_false_or_eq_true (isPic P) with h | h
  rotate_left
  · simp only [h]
    go_wp2_with fail
    go_ret
    first | exact ⟨rfl, HB⟩ | exact ⟨rfl, by assumption⟩
  have d0 : doV P = (cntB P : Int) := by rw [doV, h, cond_true]
  simp only [h, d0]
  clear d0
  have E := lyE_of h
  have dB : doV (boL P) = (cntB (boL P) : Int) := by rw [doV, E.bo, cond_true]
  have dT : doV (taL P) = (cntB (taL P) : Int) := by rw [doV, E.ta, cond_true]
  have f0 := pic_few h
  have f1 := pic_few E.bo
  have f2 := pic_few E.ta
  have sm : (cntB (boL P) : Int) + (cntB (taL P) : Int) = (cntB P : Int) := by have := E.sum; omega
  have w1 : IntKind.i64.wrap ((cntB (boL P) : Int) + (cntB (taL P) : Int)) = (cntB P : Int) := by rw [IntWalk.i64_in _ (by omega)]; exact sm
  have HL := Lib.hid (And.intro f1.1 f2.1)
  have HD := Lib.hid (And.intro E.bo (And.intro dB (And.intro E.ta dT)))
  have HE := Lib.hid E
  have hP := Lib.hid h
  have f600 : cntB P ≤ 600 := f0.2.2.2.2.2
  clear E dB dT f1 f2 sm f0 h
  go_wp2_with fail
  refine (impl_CountDots_L (boL P) _ (by have := HL.out.1; omega) hM).mono ?_
  rintro e v45 ⟨rfl, hb1⟩
  simp only [HD.out.1, HD.out.2.1]
  replace hM := hM.on hb1
  replace Oa := Oa.on hb1
  replace Oe := Oe.on hb1
  replace HB := below_go HB HBs hb1
  clear hb1
  go_wp2_with fail
  refine (impl_CountDots_L (taL P) _ (by have := HL.out.2; omega) hM).mono ?_
  rintro e v46 ⟨rfl, hb1⟩
  simp only [HD.out.2.2.1, HD.out.2.2.2]
  replace hM := hM.on hb1
  replace Oa := Oa.on hb1
  replace Oe := Oe.on hb1
  replace HB := below_go HB HBs hb1
  clear hb1
  go_wp2_with fail
  refine (impl_LayersOfPicture_L (taL P) _ (by have := HL.out.2; omega) hM).mono ?_
  rintro e v47 ⟨Ai, ci, rfl, Oi, hb1⟩
  replace hM := hM.on hb1
  replace Oa := Oa.on hb1
  replace Oe := Oe.on hb1
  replace HB := below_go HB HBs hb1
  clear hb1
  simp only [HD.out.2.2.1]
  have hli := ly_small (taL P)
  go_upto_region 59 with fail
  refine wp_cut (MeetH [.inr 0, .inr 1, .inr 2, .inr 3, .inr 4, .inr 5, .inr 6, .inr 7, .inr 8, .inr 9, .inr 10, .inr 11, .inr 12, .inr 13, .inr 14, .inr 15, .inr 16, .inr 17, .inr 18, .inr 19, .inr 20, .inr 21, .inr 22, .inr 23, .inr 24, .inr 25, .inr 26, .inr 27, .inr 28, .inr 29, .inr 30, .inr 31, .inr 32, .inr 33, .inr 34, .inr 35, .inr 36, .inr 37, .inr 38, .inr 39, .inr 40, .inr 41, .inr 42, .inr 43, .inr 44, .inr 45, .inr 46, .inr 47, .inr 48, .inr 49, .inr 50, .inr 51, .inr 52, .inr 53, .inl (.string (bt (P))), .inr 55, .inr 56, .inr 57, .inr 58, .inr 59, .inr 60, .inr 61, .inr 62, .inr 63, .inr 64, .inr 65, .inr 66, .inl (.slice Ae (peL P).length ce), .inr 68, .inr 69, .inr 70, .inl (.int .i64 ((cntB P : Int))), .inr 72, .inr 73, .inr 74, .inr 75, .inr 76, .inr 77, .inr 78, .inr 79, .inr 80, .inr 81, .inr 82, .inr 83, .inr 84, .inr 85, .inr 86, .inr 87, .inr 88, .inr 89, .inr 90, .inr 91, .inr 92, .inr 93, .inr 94, .inr 95, .inr 96, .inr 97, .inr 98, .inr 99, .inr 100, .inr 101, .inr 102, .inr 103, .inr 104, .inr 105, .inr 106, .inr 107, .inr 108, .inr 109, .inr 110, .inr 111, .inr 112, .inr 113, .inr 114, .inr 115, .inr 116, .inr 117, .inr 118, .inr 119, .inr 120, .inr 121, .inr 122, .inr 123, .inr 124, .inr 125, .inr 126, .inr 127, .inr 128, .inr 129, .inr 130, .inr 131, .inr 132, .inr 133, .inr 134, .inr 135, .inr 136, .inr 137, .inr 138, .inr 139, .inr 140, .inr 141, .inr 142, .inr 143, .inr 144, .inr 145, .inr 146, .inr 147, .inr 148, .inr 149, .inr 150, .inr 151, .inr 152, .inr 153, .inr 154, .inr 155, .inr 156, .inr 157, .inr 158, .inr 159, .inr 160, .inr 161, .inr 162, .inr 163, .inr 164, .inr 165, .inr 166, .inr 167, .inr 168, .inr 169, .inr 170, .inr 171, .inr 172, .inr 173, .inr 174, .inr 175, .inr 176, .inr 177, .inr 178, .inr 179, .inr 180, .inr 181, .inr 182, .inr 183, .inr 184, .inr 185, .inr 186, .inr 187, .inr 188, .inr 189, .inr 190, .inr 191, .inr 192, .inr 193, .inr 194, .inr 195, .inr 196, .inr 197, .inr 198, .inr 199, .inr 200, .inr 201, .inr 202, .inr 203, .inr 204, .inr 205, .inr 206, .inr 207, .inr 208, .inr 209, .inr 210, .inr 211, .inr 212, .inr 213, .inr 214, .inr 215, .inr 216, .inr 217, .inr 218, .inr 219, .inr 220, .inr 221, .inr 222, .inr 223, .inr 224, .inr 225, .inr 226, .inr 227, .inr 228, .inr 229, .inr 230, .inr 231, .inr 232, .inr 233, .inr 234, .inr 235, .inr 236, .inr 237, .inr 238, .inr 239, .inr 240, .inr 241, .inr 242, .inr 243, .inr 244, .inr 245, .inr 246, .inr 247, .inr 248, .inr 249, .inr 250, .inr 251, .inr 252, .inr 253, .inr 254, .inr 255, .inr 256, .inr 257, .inr 258, .inr 259, .inr 260, .inr 261, .inr 262, .inr 263, .inr 264, .inr 265, .inr 266, .inr 267, .inr 268, .inr 269, .inr 270, .inr 271, .inr 272, .inr 273, .inr 274, .inr 275, .inr 276, .inr 277, .inr 278, .inr 279, .inr 280, .inr 281, .inr 282, .inr 283, .inr 284, .inr 285, .inr 286, .inr 287, .inr 288, .inr 289, .inr 290, .inr 291, .inr 292, .inr 293, .inr 294, .inr 295, .inr 296, .inr 297, .inr 298, .inr 299, .inr 300, .inr 301, .inr 302, .inr 303, .inr 304, .inr 305, .inr 306, .inr 307, .inr 308, .inr 309, .inr 310, .inr 311, .inr 312, .inr 313, .inr 314, .inr 315, .inr 316, .inr 317, .inr 318, .inr 319, .inr 320, .inr 321, .inr 322, .inr 323, .inr 324, .inr 325, .inr 326, .inr 327, .inr 328, .inr 329, .inr 330, .inr 331, .inr 332, .inr 333, .inr 334, .inr 335, .inr 336, .inr 337, .inr 338, .inr 339, .inr 340, .inr 341, .inr 342, .inr 343, .inr 344, .inr 345, .inr 346, .inr 347, .inr 348, .inr 349, .inr 350, .inr 351, .inr 352, .inr 353, .inr 354, .inr 355, .inr 356, .inr 357, .inr 358, .inr 359, .inr 360, .inr 361, .inr 362, .inr 363, .inr 364, .inr 365, .inr 366, .inr 367, .inr 368, .inr 369, .inr 370, .inr 371, .inr 372, .inr 373, .inr 374, .inr 375, .inr 376, .inr 377, .inr 378, .inr 379, .inr 380, .inr 381, .inr 382, .inr 383, .inr 384, .inr 385, .inr 386, .inr 387, .inr 388, .inr 389, .inr 390, .inr 391, .inr 392, .inr 393, .inr 394, .inr 395, .inr 396, .inr 397, .inr 398, .inr 399, .inr 400, .inr 401, .inr 402, .inr 403, .inr 404, .inr 405, .inr 406, .inr 407, .inr 408, .inr 409, .inr 410, .inr 411, .inr 412, .inr 413, .inr 414, .inr 415, .inr 416, .inr 417, .inr 418, .inr 419, .inr 420, .inr 421, .inr 422, .inr 423, .inr 424, .inr 425, .inr 426, .inr 427, .inr 428, .inr 429, .inr 430, .inr 431, .inr 432, .inr 433, .inr 434, .inr 435, .inr 436, .inr 437, .inr 438, .inr 439, .inr 440, .inr 441, .inr 442, .inr 443, .inr 444, .inr 445, .inr 446, .inr 447, .inr 448, .inr 449, .inr 450, .inr 451, .inr 452, .inr 453, .inr 454, .inr 455, .inr 456, .inr 457, .inr 458, .inr 459, .inr 460, .inr 461, .inr 462, .inr 463, .inr 464, .inr 465, .inr 466, .inr 467, .inr 468, .inr 469, .inr 470, .inr 471, .inr 472, .inr 473, .inr 474, .inr 475, .inr 476, .inr 477, .inr 478, .inr 479, .inr 480, .inr 481, .inr 482, .inr 483, .inr 484, .inr 485, .inr 486, .inr 487, .inr 488, .inr 489, .inr 490, .inr 491, .inr 492, .inr 493, .inr 494, .inr 495, .inr 496, .inr 497, .inr 498, .inr 499, .inr 500, .inr 501, .inr 502, .inr 503, .inr 504, .inr 505, .inr 506, .inr 507, .inr 508, .inr 509, .inr 510, .inr 511, .inr 512, .inr 513, .inr 514, .inr 515, .inr 516, .inr 517, .inr 518, .inr 519, .inr 520, .inr 521, .inr 522, .inr 523, .inr 524, .inr 525, .inr 526, .inr 527, .inr 528, .inr 529, .inr 530, .inr 531, .inr 532, .inr 533, .inr 534, .inr 535, .inr 536, .inr 537, .inr 538, .inr 539, .inr 540, .inr 541, .inr 542, .inr 543, .inr 544, .inr 545, .inr 546, .inr 547, .inr 548, .inr 549, .inr 550, .inr 551, .inr 552, .inr 553, .inr 554, .inr 555, .inr 556, .inr 557, .inr 558, .inr 559, .inr 560, .inr 561, .inr 562, .inr 563, .inr 564, .inr 565, .inr 566, .inr 567, .inr 568, .inr 569, .inr 570, .inr 571, .inr 572, .inr 573, .inr 574, .inl (.bool false), .inr 576, .inr 577, .inr 578, .inr 579, .inr 580, .inr 581, .inr 582, .inr 583, .inr 584, .inr 585, .inr 586, .inr 587, .inr 588, .inr 589, .inr 590, .inr 591, .inr 592, .inr 593, .inr 594, .inr 595, .inr 596, .inr 597, .inr 598, .inr 599, .inr 600, .inr 601, .inr 602, .inr 603, .inr 604, .inr 605, .inr 606, .inr 607, .inr 608, .inr 609, .inr 610, .inr 611, .inr 612, .inr 613, .inr 614, .inr 615, .inr 616, .inr 617, .inr 618, .inr 619, .inr 620, .inr 621, .inr 622, .inr 623, .inr 624, .inr 625, .inr 626, .inr 627, .inr 628, .inr 629, .inr 630, .inr 631, .inr 632, .inr 633, .inr 634, .inr 635] (fun wx => Below v47.heap.size v47 wx)) (MeetH.go _ (by rfl) ?_) ?_
  rotate_left
  · intro _ _ _ _
    as_aux_lemma =>
    clear HB HBs
    have HB : Below v47.heap.size v47 v47 := Below.refl _ _
    have HBs : v47.heap.size ≤ v47.heap.size := Nat.le_refl _
    clear Oe hpe HL HD
    go_wp2_with fail
    refine (hSum_any Aa _ ca _ _ (lyL P) _ rfl (by omega) Oa (fun q hq => by have := sumF_pos (ly_pos (l := P)) q; omega)).mono ?_
    rintro e w' ⟨rfl, rfl⟩
    simp only [sumF_all, HE.out.total]
    rcases Nat.lt_or_ge 0 (cntB P) with hd | hd
    rotate_left
    · have hd0 : ¬ (0 : Int) < (cntB P : Int) := by omega
      have hd1 : decide ((0 : Int) < (cntB P : Int)) = false := decide_eq_false hd0
      clear Oa Oi hd
      go_wp2_with fail
      refine Met.intro ?_
      go_step
      refine MeetH.of ?_ ?_
      · exact HB
      repeat (first | refine Agr.skip ?_ | refine Agr.keep ?_ | exact Agr.nil)
    · have hd0 : (0 : Int) < (cntB P : Int) := by omega
      have hd1 : decide ((0 : Int) < (cntB P : Int)) = true := decide_eq_true hd0
      obtain ⟨ey, eb⟩ := HE.out.some hd
      have hn : (lyL P).length = (lyL (taL P)).length + 1 := by rw [ey, List.length_cons]
      obtain ⟨g, o, rfl⟩ := own_some Oa (by simp only [i64s, List.length_map]; omega)
      have hg : g < v47.heap.size := by
        obtain ⟨g', o', e, _, h2, _⟩ := Oa (by simp only [i64s, List.length_map]; omega)
        injection e with e
        injection e with e1 _ _
        omega
      rw [ey] at Oa
      have c0 : v47.cell? ⟨g, o, none⟩ = some (.int .i64 (cntB (boL P) : Int)) := by
        have := own_get Oa (k := 0) (by simp)
        simpa using this
      have Ot := own_tail Oa
      rw [hn] at hca
      simp only [hn]
      generalize hN : (lyL (taL P)).length = N at *
      have b1 : ¬ (cntB (boL P) : Int) < 1 := by omega
      have b2 : decide ((cntB (boL P) : Int) < 1) = false := decide_eq_false b1
      have i1 : (0 : Int) < ((N + 1 : Nat) : Int) := by omega
      have i2 : (1 : Int) ≤ ((N + 1 : Nat) : Int) := by omega
      have i3 : N + 1 ≤ ca := hca
      clear HE ey eb hn Oa
      rcases Nat.lt_or_ge 1 ca with hc | hc
      · have hc1 : ¬ ca = 1 := by omega
        clear hc
        go_wp2_with fail
        refine (hSame_b Ai _ _ _ _ _ _ _ _ (lyL (taL P)) _ hN (by omega) Oi Ot).mono ?_
        rintro e v48 ⟨rfl, hb1⟩
        replace hM := hM.on hb1
        replace Oi := Oi.on hb1
        replace HB := below_go HB HBs hb1
        clear hb1
        clear Ot hN c0
        go_wp2_with fail
        refine Met.intro ?_
        go_step
        refine MeetH.of ?_ ?_
        · exact HB
        repeat (first | refine Agr.skip ?_ | refine Agr.keep ?_ | exact Agr.nil)
      · obtain rfl : ca = 1 := by omega
        obtain rfl : N = 0 := by omega
        clear hc Ot
        have O0 : Own v47 0 0 (some ⟨g, o, none⟩) (i64s (lyL (taL P))) := by rw [List.length_eq_zero_iff.1 hN]; exact Own.nil_
        go_wp2_with fail
        refine (hSame_b Ai _ _ _ _ _ _ _ _ (lyL (taL P)) _ hN (by omega) Oi O0).mono ?_
        rintro e v49 ⟨rfl, hb1⟩
        replace hM := hM.on hb1
        replace Oi := Oi.on hb1
        replace HB := below_go HB HBs hb1
        clear hb1
        clear O0 hN c0
        go_wp2_with fail
        refine Met.intro ?_
        go_step
        refine MeetH.of ?_ ?_
        · exact HB
        repeat (first | refine Agr.skip ?_ | refine Agr.keep ?_ | exact Agr.nil)
  intro u50 v50 hb1
  replace hM := hM.on hb1
  replace Oa := Oa.on hb1
  replace Oe := Oe.on hb1
  replace Oi := Oi.on hb1
  replace HB := below_go HB HBs hb1
  clear hb1
  as_aux_lemma =>
  simp only [fillH]
  clear Oa Oi
  have HX := Lib.hid fun x (hx : x ∈ peL P) => pcE_of hP.out hx
  have HY := Lib.hid (pic_byte hP.out)
  have HT := Lib.hid ((pN_all (peL P)).trans (pe_sum hP.out))
  have HLE := Lib.hid fun q => Nat.le_trans (pN_le (peL P) q) (Nat.le_of_eq (pe_sum hP.out))
  have HZ := Lib.hid (pN_zero (peL P))
  have HO := Lib.hid Oe
  have HM := Lib.hid hM
  clear HL HD HE hP Oe hM hly hli
  generalize hL : (peL P).length = N at *
  have HN := Lib.hid hL
  clear hL
  go_wp2_with fail
  go_loopw [578, 81] (fun i sv wr => ∃ j : Nat, j ≤ N ∧ i = .int .i64 (j : Int) ∧ sv = .int .i64 (pN (peL P) j : Int) ∧ Below v50.heap.size v50 wr) (fun i _ _ => N - (intOf i).toNat)
  case atStart => exact ⟨0, Nat.zero_le _, rfl, by rw [HZ.out]; rfl, Below.refl _ _⟩
  case round =>
    obtain ⟨j, hj, rfl, rfl, hb⟩ := hrel
    by_cases hlt : j < N
    · have hki : (j : Int) < (N : Int) := by omega
      have hM := HM.out.on hb
      obtain ⟨g, o, rfl⟩ := own_some HO.out (by rw [strs_len, HN.out]; omega)
      have hjl : j < (peL P).length := by rw [HN.out]; exact hlt
      have e0 := own_text (HO.out.on hb) hjl
      have X := HX.out _ (List.getElem_mem hjl)
      have hs := pN_succ hjl
      have hle := HLE.out (j + 1)
      generalize (peL P)[j]'hjl = x at e0 X hs
      rw [hs] at hle
      have HS2 := Lib.hid hs
      have fx := pic_few X.ok
      have dx : doV x = (cntB x : Int) := by rw [doV, X.ok, cond_true]
      have b1 : ¬ (cntB x : Int) < 1 := by have := X.dots; omega
      have b2 : decide ((cntB x : Int) < 1) = false := decide_eq_false b1
      have hsz : (bt x).size = (bt P).size := by rw [bt_size, bt_size, X.len]
      have wn : IntKind.i64.wrap ((pN (peL P) j : Int) + (cntB x : Int)) = ((pN (peL P) j + cntB x : Nat) : Int) := by rw [IntWalk.i64_in _ (by omega)]; omega
      have HF := Lib.hid (And.intro X.ok (And.intro dx (And.intro X.one fx.1)))
      have HSU := Lib.hid X.sub
      clear hs hle dx fx X hjl
      have HB := hb
      have HBs : v50.heap.size ≤ v50.heap.size := Nat.le_refl _
      clear hb
      go_wp2_with fail
      refine (impl_CountDots_L x _ (by have := HF.out.2.2.2; omega) hM).mono ?_
      rintro e v51 ⟨rfl, hb1⟩
      simp only [HF.out.1, HF.out.2.1]
      replace hM := hM.on hb1
      replace HB := below_go HB HBs hb1
      clear hb1
      clear e0
      go_wp2_with fail
      refine (impl_PiecesOfPicture_L x _ (by have := HF.out.2.2.2; omega) hM).mono ?_
      rintro e v52 ⟨Ax, cx, rfl, Ox, hb1⟩
      replace hM := hM.on hb1
      replace HB := below_go HB HBs hb1
      clear hb1
      simp only [HF.out.1, HF.out.2.2.1]
      clear Ox hM HF
      go_wp2_with fail
      go_loopw [88] (fun _ wr => ∃ pos : Nat, pos ≤ P.length ∧ wr = v52.iter (bt P) pos) (fun _ wr => (bt P).size - wr.iterPos v52.heap.size)
      case atStart => exact ⟨0, Nat.zero_le _, rfl⟩
      case round =>
        obtain ⟨pos, hpos, rfl⟩ := hrel
        by_cases hps : pos < P.length
        · have hp1 : pos < (bt P).size := by rw [bt_size]; exact hps
          have hp2 : pos < (bt x).size := by rw [hsz]; exact hp1
          have hp3 : pos < x.length := by rw [← bt_size]; exact hp2
          have hat : (bt P)[pos]'hp1 = P[pos] := bt_get P pos hp1
          have hax : (bt x)[pos]'hp2 = x[pos] := bt_get x pos hp2
          have h128 : (bt P)[pos]'hp1 < 128 := by rw [hat]; exact HY.out _ (List.getElem_mem hps)
          have hnx : ∀ ty, (Instr.next (.pointer (some ⟨v52.heap.size, 0, none⟩)) true ty).run Tryz.prog (v52.iter (bt P) pos) = _ := fun ty => run_next_ascii v52 (bt P) pos ty hp1 h128
          have hi1 : (pos : Int) < ((bt x).size : Int) := by omega
          have hi2 : (pos : Int) < ((bt P).size : Int) := by omega
          have hi3 : (0 : Int) ≤ (pos : Int) := by omega
          by_cases hx : x[pos] = 111
          · have hq := HSU.out pos hp3 (by rw [List.getElem?_eq_getElem hp3, hx])
            rw [List.getElem?_eq_getElem hps] at hq
            injection hq with hq
            have v1 : (((bt x)[pos]'hp2).toNat : Int) = 111 := by rw [hax.trans hx]; rfl
            have v2 : (((bt P)[pos]'hp1).toNat : Int) = 111 := by rw [hat.trans hq]; rfl
            clear hq hx hax hat h128
            go_wp2_with fail
            go_roundw
            case rel => exact ⟨pos + 1, by omega, rfl⟩
            case measure => simp; omega
          · have v1 : ¬ (((bt x)[pos]'hp2).toNat : Int) = 111 := by
              rw [hax]
              intro e
              apply hx
              apply UInt8.toNat_inj.1
              have : x[pos].toNat = 111 := by omega
              rw [this]
              rfl
            have v3 : decide ((((bt x)[pos]'hp2).toNat : Int) = 111) = false := decide_eq_false v1
            clear hx hax hat h128
            go_wp2_with fail
            go_roundw
            case rel => exact ⟨pos + 1, by omega, rfl⟩
            case measure => simp; omega
        · have hnx : ∀ ty, (Instr.next (.pointer (some ⟨v52.heap.size, 0, none⟩)) true ty).run Tryz.prog (v52.iter (bt P) pos) = _ := fun ty => run_next_end v52 (bt P) pos ty (by rw [bt_size]; omega)
          go_wp2_with fail
          go_roundw
          case rel => exact ⟨j + 1, by omega, by go_num, by rw [HS2.out, Int.natCast_add], HB.trans ((Below.refl _ _).alloc (Nat.le_refl _) _ |>.mono HB.size)⟩
          case measure => simp [intOf]; omega
    · obtain rfl : j = N := by omega
      have hki : ¬ (j : Int) < (j : Int) := by omega
      rw [HT.out]
      go_wp2_with fail
      go_ret
      exact ⟨rfl, HB.trans (hb.mono HB.size)⟩
end Go.Proofs.YtbabkcjnfdpafaaGreatDoor
