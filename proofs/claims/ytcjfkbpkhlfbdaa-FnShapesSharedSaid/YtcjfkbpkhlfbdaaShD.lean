/- The law FnShapesShared, walked: whatever the arguments it answers true. No condition. -/
import Derived.Test.YtcjfkbpkhlfbdaaBase
import Derived.Test.YtcjfkbpkhlfbdaaShC
import Derived.Test.YtcjfkbpkhlfbdaaDrT
import Derived.Test.YtcjfkbpkhlfbdaaAnW
import Derived.Test.YtcjfkbpkhlfbdaaCut
import Derived.Lib.Hide
import Derived.Deep.Cut
import Derived.Deep.CutBlock
namespace Go.Proofs.Ytcjfkbpkhlfbdaa
open Go.ChangeShapes Go.WideShapes Go.ChangeAt Go.RowKit

set_option maxRecDepth 4000 in
set_option maxHeartbeats 16000000 in
theorem walk_ShapesShared (A' : Option Addr) (n' a' : Nat) (B' : Option Addr) (m' c' : Nat) (w : World) (hn' : n' ≤ 9223372036854775807) (hx' : Bys w A' n') (hm' : m' ≤ 9223372036854775807) (hy' : Bys w B' m') :
    Calls Try.prog 3 #[.slice A' n' a', .slice B' m' c'] w fun e w' => e = .returned (.bool true) ∧ Below w.heap.size w w' := by
  have HB : Below w.heap.size w w := Below.refl _ _
  have HBs : w.heap.size ≤ w.heap.size := Nat.le_refl _
  rcases Bool.eq_false_or_eq_true (bgB n' m') with hg | hg
  · go_enter Try.func3, Try.ntmps3
    go_wp2_with (go_at_call 4; refine (big_any _ _ _ _ _ _ _ hn' hm').mono ?_; rintro e w' ⟨rfl, rfl⟩)
    go_ret
    exact ⟨rfl, Below.refl _ _⟩
  obtain ⟨gg1, gg2⟩ := bg_no hg
  go_enter Try.func3, Try.ntmps3
  go_wp2_with (go_at_call 4; refine (big_any _ _ _ _ _ _ _ hn' hm').mono ?_; rintro e w' ⟨rfl, rfl⟩)
  refine (DrawSharedUpTo_any A' n' a' _ hx' (by omega)).mono ?_
  rintro e v1 ⟨⟨ga, gb, gm, rfl⟩, hb1⟩
  replace hy' := hy'.on hb1
  replace HB := below_go HB HBs hb1
  clear hb1
  go_wp2_with fail
  refine (impl_SharedUpTo_any ga gb gm _).mono ?_
  rintro e v2 ⟨Al, cl, rfl, Ol, hb1⟩
  replace hy' := hy'.on hb1
  replace HB := below_go HB HBs hb1
  clear hb1
  go_wp2_with fail
  refine (spec_SharedUpTo_any ga gb gm _).mono ?_
  rintro e v3 ⟨Ar, cr, rfl, Or, hb1⟩
  replace hy' := hy'.on hb1
  replace Ol := Ol.on hb1
  replace HB := below_go HB HBs hb1
  clear hb1
  go_wp2_with fail
  have hl9 := su_len2 ga gb gm
  refine (hSame_b Al Ar _ cl cr _ _ _ _ (suL ga gb gm) _ rfl (by omega) Ol Or).mono ?_
  rintro e v4 ⟨rfl, hb1⟩
  replace hy' := hy'.on hb1
  replace Ol := Ol.on hb1
  replace Or := Or.on hb1
  replace HB := below_go HB HBs hb1
  clear hb1
  clear Or
  go_upto_if 96 with fail
  refine wp_cut (MeetH [.inr 0, .inl (.slice B' m' c'), .inr 2, .inr 3, .inr 4, .inr 5, .inr 6, .inr 7, .inr 8, .inr 9, .inr 10, .inr 11, .inr 12, .inr 13, .inr 14, .inr 15, .inr 16, .inr 17, .inr 18, .inr 19, .inr 20, .inr 21, .inr 22, .inr 23, .inr 24, .inr 25, .inr 26, .inr 27, .inr 28, .inr 29, .inr 30, .inr 31, .inr 32, .inr 33, .inr 34, .inr 35, .inr 36, .inr 37, .inr 38, .inr 39, .inr 40, .inr 41, .inr 42, .inr 43, .inr 44, .inr 45, .inr 46, .inr 47, .inr 48, .inr 49, .inr 50, .inr 51, .inr 52, .inr 53, .inr 54, .inr 55, .inr 56, .inr 57, .inr 58, .inr 59, .inr 60, .inr 61, .inr 62, .inr 63, .inr 64, .inr 65, .inr 66, .inr 67, .inr 68, .inr 69, .inr 70, .inr 71, .inr 72, .inr 73, .inr 74, .inr 75, .inr 76, .inr 77, .inr 78, .inr 79, .inr 80, .inr 81, .inr 82, .inr 83, .inr 84, .inr 85, .inr 86, .inr 87, .inr 88, .inr 89, .inr 90, .inr 91, .inr 92, .inr 93, .inr 94, .inr 95, .inr 96, .inr 97, .inr 98, .inr 99, .inr 100, .inr 101, .inr 102, .inr 103, .inr 104, .inr 105, .inr 106, .inr 107, .inr 108, .inr 109, .inr 110, .inr 111, .inr 112, .inr 113, .inr 114, .inr 115, .inr 116, .inr 117, .inr 118, .inr 119, .inr 120, .inr 121, .inr 122, .inr 123, .inr 124, .inr 125, .inr 126, .inr 127, .inr 128, .inr 129, .inr 130, .inr 131, .inr 132, .inr 133, .inr 134, .inr 135, .inr 136, .inr 137, .inr 138, .inr 139, .inr 140, .inr 141, .inr 142, .inr 143, .inr 144, .inr 145, .inr 146, .inr 147, .inr 148, .inr 149, .inr 150, .inr 151, .inr 152, .inr 153, .inr 154, .inr 155, .inr 156, .inr 157, .inr 158, .inr 159, .inr 160, .inr 161, .inr 162, .inr 163, .inr 164, .inr 165, .inr 166, .inr 167, .inr 168, .inr 169, .inr 170, .inr 171, .inr 172, .inr 173, .inr 174, .inr 175, .inr 176, .inr 177, .inr 178, .inr 179, .inr 180, .inr 181, .inr 182, .inr 183, .inr 184, .inr 185, .inr 186, .inr 187, .inr 188, .inr 189, .inr 190, .inr 191, .inr 192, .inr 193, .inr 194, .inr 195, .inr 196, .inr 197, .inr 198, .inr 199, .inr 200, .inr 201, .inr 202, .inr 203, .inr 204, .inr 205, .inr 206, .inr 207, .inr 208, .inr 209, .inr 210, .inr 211, .inr 212, .inr 213, .inr 214, .inr 215, .inr 216, .inr 217, .inr 218, .inr 219, .inr 220, .inr 221, .inr 222, .inr 223, .inr 224, .inr 225, .inr 226, .inr 227, .inr 228, .inr 229, .inr 230, .inr 231, .inr 232, .inr 233, .inr 234, .inr 235, .inr 236, .inr 237, .inr 238, .inr 239, .inr 240, .inr 241, .inr 242, .inr 243, .inr 244, .inr 245, .inr 246, .inr 247, .inr 248, .inr 249, .inr 250, .inr 251, .inr 252, .inr 253, .inr 254, .inr 255, .inr 256, .inr 257, .inr 258, .inr 259, .inr 260, .inr 261, .inr 262, .inr 263, .inr 264, .inr 265, .inr 266, .inr 267, .inr 268, .inr 269, .inr 270, .inr 271, .inr 272, .inr 273, .inr 274, .inr 275, .inr 276, .inr 277, .inr 278, .inr 279, .inr 280, .inr 281, .inr 282, .inr 283, .inr 284, .inr 285, .inr 286, .inr 287, .inr 288, .inr 289, .inr 290, .inr 291, .inr 292, .inr 293, .inr 294, .inr 295, .inr 296, .inr 297, .inr 298, .inr 299, .inr 300, .inr 301, .inr 302, .inr 303, .inr 304, .inr 305, .inr 306, .inr 307, .inr 308, .inr 309, .inr 310, .inr 311, .inr 312, .inr 313, .inr 314, .inr 315, .inr 316, .inr 317, .inr 318, .inr 319, .inr 320, .inr 321, .inr 322, .inr 323, .inr 324, .inr 325, .inr 326, .inr 327, .inr 328, .inr 329, .inr 330, .inr 331, .inr 332, .inr 333, .inr 334, .inr 335, .inr 336, .inr 337, .inr 338, .inr 339, .inr 340, .inr 341, .inr 342, .inr 343, .inr 344, .inr 345, .inr 346, .inr 347, .inr 348, .inr 349, .inr 350, .inr 351, .inr 352, .inr 353, .inr 354, .inr 355, .inr 356, .inr 357, .inr 358, .inr 359, .inr 360, .inr 361, .inr 362, .inr 363, .inr 364, .inr 365, .inr 366, .inr 367, .inr 368, .inr 369, .inr 370, .inr 371, .inr 372, .inr 373, .inr 374, .inr 375, .inr 376, .inr 377, .inr 378, .inr 379, .inr 380, .inr 381, .inr 382, .inr 383, .inr 384, .inr 385, .inr 386, .inr 387, .inr 388, .inr 389, .inr 390, .inr 391, .inr 392, .inr 393, .inr 394, .inr 395, .inr 396, .inr 397, .inr 398, .inr 399, .inr 400, .inr 401, .inr 402, .inr 403, .inr 404, .inr 405] (fun wx => Below v4.heap.size v4 wx)) (MeetH.go _ (by rfl) ?_) ?_
  rotate_left
  · intro _ _ _ _
    as_aux_lemma =>
    clear HB HBs
    have HB : Below v4.heap.size v4 v4 := Below.refl _ _
    have HBs : v4.heap.size ≤ v4.heap.size := Nat.le_refl _
    rcases Bool.eq_false_or_eq_true (suB ga gb gm) with h | h
    · simp only [h]
      obtain ⟨hf0, hf1⟩ := su_first h
      obtain ⟨N, hN⟩ : ∃ N, (suL ga gb gm).length = N := ⟨_, rfl⟩
      obtain ⟨g, o, rfl, _, _, _⟩ := Ol (by simp; omega)
      have hri := Lib.hid (fun k (hk : k + 1 < (suL ga gb gm).length) => rise_get (su_rise ga gb gm) (Nat.lt_succ_self k) hk)
      rw [hN] at hf0 hl9 hri
      have hN0 : (0 : Int) < (N : Int) := by omega
      have hNc : N ≤ 1000001 := hl9
      clear hl9
      simp only [hN]
      go_wp2_with fail
      refine (impl_SharedUpTo_any gb ga gm _).mono ?_
      rintro e v5 ⟨Ao, co, rfl, Oo, hb1⟩
      replace hy' := hy'.on hb1
      replace Ol := Ol.on hb1
      replace HB := below_go HB HBs hb1
      clear hb1
      simp only [su_swap ga gb gm, su_sym ga gb gm, h, hN]
      rw [su_swap ga gb gm] at Oo
      go_upto_region 10 with fail
      refine wp_cut (MeetH [.inr 0, .inl (.slice B' m' c'), .inr 2, .inr 3, .inr 4, .inl (.int .i64 (ga)), .inl (.int .i64 (gb)), .inl (.int .i64 (gm)), .inl (.slice (some ⟨g, o, none⟩) N cl), .inr 9, .inr 10, .inr 11, .inr 12, .inr 13, .inr 14, .inr 15, .inr 16, .inr 17, .inr 18, .inr 19, .inr 20, .inr 21, .inr 22, .inr 23, .inr 24, .inr 25, .inr 26, .inr 27, .inr 28, .inr 29, .inr 30, .inr 31, .inr 32, .inr 33, .inr 34, .inr 35, .inr 36, .inr 37, .inr 38, .inr 39, .inr 40, .inr 41, .inr 42, .inr 43, .inr 44, .inr 45, .inr 46, .inr 47, .inr 48, .inr 49, .inr 50, .inr 51, .inr 52, .inr 53, .inr 54, .inr 55, .inr 56, .inr 57, .inr 58, .inr 59, .inr 60, .inr 61, .inr 62, .inr 63, .inr 64, .inr 65, .inr 66, .inr 67, .inr 68, .inr 69, .inr 70, .inr 71, .inr 72, .inr 73, .inr 74, .inr 75, .inr 76, .inr 77, .inr 78, .inr 79, .inr 80, .inr 81, .inr 82, .inr 83, .inr 84, .inr 85, .inr 86, .inr 87, .inr 88, .inr 89, .inr 90, .inr 91, .inr 92, .inr 93, .inr 94, .inr 95, .inr 96, .inr 97, .inr 98, .inr 99, .inr 100, .inr 101, .inr 102, .inr 103, .inr 104, .inr 105, .inr 106, .inr 107, .inr 108, .inr 109, .inr 110, .inr 111, .inr 112, .inr 113, .inr 114, .inr 115, .inr 116, .inr 117, .inr 118, .inr 119, .inr 120, .inr 121, .inr 122, .inr 123, .inr 124, .inr 125, .inr 126, .inr 127, .inr 128, .inr 129, .inr 130, .inr 131, .inl (.bool false), .inr 133, .inr 134, .inr 135, .inr 136, .inr 137, .inr 138, .inr 139, .inr 140, .inr 141, .inr 142, .inr 143, .inr 144, .inr 145, .inr 146, .inr 147, .inr 148, .inr 149, .inr 150, .inr 151, .inr 152, .inr 153, .inr 154, .inr 155, .inr 156, .inr 157, .inr 158, .inr 159, .inr 160, .inr 161, .inr 162, .inr 163, .inr 164, .inr 165, .inr 166, .inr 167, .inr 168, .inr 169, .inr 170, .inr 171, .inr 172, .inr 173, .inr 174, .inr 175, .inr 176, .inr 177, .inr 178, .inr 179, .inr 180, .inr 181, .inr 182, .inr 183, .inr 184, .inr 185, .inr 186, .inr 187, .inr 188, .inr 189, .inr 190, .inr 191, .inr 192, .inr 193, .inr 194, .inr 195, .inr 196, .inr 197, .inr 198, .inr 199, .inr 200, .inr 201, .inr 202, .inr 203, .inr 204, .inr 205, .inr 206, .inr 207, .inr 208, .inr 209, .inr 210, .inr 211, .inr 212, .inr 213, .inr 214, .inr 215, .inr 216, .inr 217, .inr 218, .inr 219, .inr 220, .inr 221, .inr 222, .inr 223, .inr 224, .inr 225, .inr 226, .inr 227, .inr 228, .inr 229, .inr 230, .inr 231, .inr 232, .inr 233, .inr 234, .inr 235, .inr 236, .inr 237, .inr 238, .inr 239, .inr 240, .inr 241, .inr 242, .inr 243, .inr 244, .inr 245, .inr 246, .inr 247, .inr 248, .inr 249, .inr 250, .inr 251, .inr 252, .inr 253, .inr 254, .inr 255, .inr 256, .inr 257, .inr 258, .inr 259, .inr 260, .inr 261, .inr 262, .inr 263, .inr 264, .inr 265, .inr 266, .inr 267, .inr 268, .inr 269, .inr 270, .inr 271, .inr 272, .inr 273, .inr 274, .inr 275, .inr 276, .inr 277, .inr 278, .inr 279, .inr 280, .inr 281, .inr 282, .inr 283, .inr 284, .inr 285, .inr 286, .inr 287, .inr 288, .inr 289, .inr 290, .inr 291, .inr 292, .inr 293, .inr 294, .inr 295, .inr 296, .inr 297, .inr 298, .inr 299, .inr 300, .inr 301, .inr 302, .inr 303, .inr 304, .inr 305, .inr 306, .inr 307, .inr 308, .inr 309, .inr 310, .inr 311, .inr 312, .inr 313, .inr 314, .inr 315, .inr 316, .inr 317, .inr 318, .inr 319, .inr 320, .inr 321, .inr 322, .inr 323, .inr 324, .inr 325, .inr 326, .inr 327, .inr 328, .inr 329, .inr 330, .inr 331, .inr 332, .inr 333, .inr 334, .inr 335, .inr 336, .inr 337, .inr 338, .inr 339, .inr 340, .inr 341, .inr 342, .inr 343, .inr 344, .inr 345, .inr 346, .inr 347, .inr 348, .inr 349, .inr 350, .inr 351, .inr 352, .inr 353, .inr 354, .inr 355, .inr 356, .inr 357, .inr 358, .inr 359, .inr 360, .inr 361, .inr 362, .inr 363, .inr 364, .inr 365, .inr 366, .inr 367, .inr 368, .inr 369, .inr 370, .inr 371, .inr 372, .inr 373, .inr 374, .inr 375, .inr 376, .inr 377, .inr 378, .inr 379, .inr 380, .inr 381, .inr 382, .inr 383, .inr 384, .inr 385, .inr 386, .inr 387, .inr 388, .inr 389, .inr 390, .inr 391, .inr 392, .inr 393, .inr 394, .inr 395, .inr 396, .inr 397, .inr 398, .inr 399, .inr 400, .inr 401, .inr 402, .inr 403, .inr 404, .inr 405] (fun wx => Below v5.heap.size v5 wx)) (MeetH.go _ (by rfl) ?_) ?_
      rotate_left
      · intro _ _ _ _
        as_aux_lemma =>
        clear HB HBs
        have HB : Below v5.heap.size v5 v5 := Below.refl _ _
        have HBs : v5.heap.size ≤ v5.heap.size := Nat.le_refl _
        go_wp2_with fail
        refine (hSame_b Ao (some ⟨g, o, none⟩) N co cl _ _ _ _ (suL ga gb gm) _ hN (by omega) Oo Ol).mono ?_
        rintro e v6 ⟨rfl, hb1⟩
        replace hy' := hy'.on hb1
        replace Ol := Ol.on hb1
        replace Oo := Oo.on hb1
        replace HB := below_go HB HBs hb1
        clear hb1
        go_wp2_with fail
        refine (hRises_b _ N cl _ _ (suL ga gb gm) _ hN (by omega) Ol hri.out).mono ?_
        rintro e v7 ⟨rfl, hb1⟩
        replace hy' := hy'.on hb1
        replace Ol := Ol.on hb1
        replace Oo := Oo.on hb1
        replace HB := below_go HB HBs hb1
        clear hb1
        have c0 := own_get Ol (k := 0) (by omega)
        rw [hf1, Nat.add_zero] at c0
        rcases Int.lt_or_le 0 gm with hp | hp
        · obtain ⟨hs0, hs1⟩ := su_second h hp
          have c1 := own_get Ol (k := 1) hs0
          rw [hs1] at c1
          rw [hN] at hs0
          have hN1 : (1 : Int) < (N : Int) := by omega
          clear hs0 hs1 h
          go_wp2_with fail
          refine Met.intro ?_
          go_step
          refine MeetH.of ?_ ?_
          · exact HB
          repeat (first | refine Agr.skip ?_ | refine Agr.keep ?_ | exact Agr.nil)
        · have hp2 : ¬ 0 < gm := by omega
          clear h
          go_wp2_with fail
          refine Met.intro ?_
          go_step
          refine MeetH.of ?_ ?_
          · exact HB
          repeat (first | refine Agr.skip ?_ | refine Agr.keep ?_ | exact Agr.nil)
      intro u8 v8 hb1
      replace hy' := hy'.on hb1
      replace Ol := Ol.on hb1
      replace Oo := Oo.on hb1
      replace HB := below_go HB HBs hb1
      clear hb1
      as_aux_lemma =>
      simp only [fillH]
      clear Oo
      clear hf1 hri
      go_upto_block 0 with fail
      refine wp_cut (MeetH [.inr 0, .inl (.slice B' m' c'), .inr 2, .inr 3, .inr 4, .inl (.int .i64 (ga)), .inl (.int .i64 (gb)), .inl (.int .i64 (gm)), .inl (.slice (some ⟨g, o, none⟩) N cl), .inr 9, .inr 10, .inr 11, .inr 12, .inr 13, .inr 14, .inr 15, .inr 16, .inr 17, .inr 18, .inr 19, .inr 20, .inr 21, .inr 22, .inr 23, .inr 24, .inr 25, .inr 26, .inr 27, .inr 28, .inr 29, .inr 30, .inr 31, .inr 32, .inr 33, .inr 34, .inr 35, .inr 36, .inr 37, .inr 38, .inr 39, .inr 40, .inr 41, .inr 42, .inr 43, .inr 44, .inr 45, .inr 46, .inr 47, .inr 48, .inr 49, .inr 50, .inr 51, .inr 52, .inr 53, .inr 54, .inr 55, .inr 56, .inr 57, .inr 58, .inr 59, .inr 60, .inr 61, .inr 62, .inr 63, .inr 64, .inr 65, .inr 66, .inr 67, .inr 68, .inr 69, .inr 70, .inr 71, .inr 72, .inr 73, .inr 74, .inr 75, .inr 76, .inr 77, .inr 78, .inr 79, .inr 80, .inr 81, .inr 82, .inr 83, .inr 84, .inr 85, .inr 86, .inr 87, .inr 88, .inr 89, .inr 90, .inr 91, .inr 92, .inr 93, .inr 94, .inr 95, .inr 96, .inr 97, .inr 98, .inr 99, .inr 100, .inr 101, .inr 102, .inr 103, .inr 104, .inr 105, .inr 106, .inr 107, .inr 108, .inr 109, .inr 110, .inr 111, .inr 112, .inr 113, .inr 114, .inr 115, .inr 116, .inr 117, .inr 118, .inr 119, .inr 120, .inr 121, .inr 122, .inr 123, .inr 124, .inr 125, .inr 126, .inr 127, .inr 128, .inr 129, .inr 130, .inr 131, .inr 132, .inr 133, .inr 134, .inr 135, .inr 136, .inr 137, .inr 138, .inr 139, .inr 140, .inr 141, .inr 142, .inr 143, .inr 144, .inr 145, .inr 146, .inr 147, .inr 148, .inr 149, .inr 150, .inr 151, .inr 152, .inr 153, .inr 154, .inr 155, .inr 156, .inr 157, .inr 158, .inr 159, .inr 160, .inr 161, .inr 162, .inr 163, .inr 164, .inr 165, .inr 166, .inr 167, .inr 168, .inr 169, .inr 170, .inr 171, .inr 172, .inr 173, .inr 174, .inr 175, .inr 176, .inr 177, .inr 178, .inr 179, .inr 180, .inr 181, .inr 182, .inr 183, .inr 184, .inr 185, .inr 186, .inr 187, .inr 188, .inr 189, .inr 190, .inr 191, .inr 192, .inr 193, .inr 194, .inr 195, .inr 196, .inr 197, .inr 198, .inr 199, .inr 200, .inr 201, .inr 202, .inr 203, .inr 204, .inr 205, .inr 206, .inr 207, .inr 208, .inr 209, .inr 210, .inr 211, .inr 212, .inr 213, .inr 214, .inr 215, .inr 216, .inr 217, .inr 218, .inr 219, .inr 220, .inr 221, .inr 222, .inr 223, .inr 224, .inr 225, .inr 226, .inr 227, .inr 228, .inr 229, .inr 230, .inr 231, .inr 232, .inr 233, .inr 234, .inr 235, .inr 236, .inr 237, .inr 238, .inr 239, .inr 240, .inr 241, .inr 242, .inr 243, .inr 244, .inr 245, .inr 246, .inr 247, .inr 248, .inr 249, .inr 250, .inr 251, .inr 252, .inr 253, .inr 254, .inr 255, .inr 256, .inr 257, .inr 258, .inr 259, .inr 260, .inr 261, .inr 262, .inr 263, .inr 264, .inr 265, .inr 266, .inr 267, .inr 268, .inr 269, .inr 270, .inr 271, .inr 272, .inr 273, .inr 274, .inr 275, .inr 276, .inr 277, .inr 278, .inr 279, .inr 280, .inr 281, .inr 282, .inr 283, .inr 284, .inr 285, .inr 286, .inr 287, .inr 288, .inr 289, .inr 290, .inr 291, .inr 292, .inr 293, .inr 294, .inr 295, .inr 296, .inr 297, .inr 298, .inr 299, .inr 300, .inr 301, .inr 302, .inr 303, .inr 304, .inr 305, .inr 306, .inr 307, .inr 308, .inr 309, .inr 310, .inr 311, .inr 312, .inr 313, .inr 314, .inr 315, .inr 316, .inr 317, .inr 318, .inr 319, .inr 320, .inr 321, .inr 322, .inr 323, .inr 324, .inr 325, .inr 326, .inr 327, .inr 328, .inr 329, .inr 330, .inr 331, .inr 332, .inr 333, .inr 334, .inr 335, .inr 336, .inr 337, .inr 338, .inr 339, .inr 340, .inr 341, .inr 342, .inr 343, .inr 344, .inr 345, .inr 346, .inr 347, .inr 348, .inr 349, .inr 350, .inr 351, .inr 352, .inr 353, .inr 354, .inr 355, .inr 356, .inr 357, .inr 358, .inr 359, .inr 360, .inr 361, .inr 362, .inr 363, .inr 364, .inr 365, .inr 366, .inr 367, .inr 368, .inr 369, .inr 370, .inr 371, .inr 372, .inr 373, .inr 374, .inr 375, .inr 376, .inr 377, .inr 378, .inr 379, .inr 380, .inr 381, .inr 382, .inr 383, .inr 384, .inr 385, .inr 386, .inr 387, .inr 388, .inr 389, .inr 390, .inr 391, .inr 392, .inr 393, .inr 394, .inr 395, .inr 396, .inr 397, .inr 398, .inr 399, .inr 400, .inr 401, .inr 402, .inr 403, .inr 404, .inr 405] (fun wx => Below v8.heap.size v8 wx)) (MeetH.go _ (by rfl) ?_) ?_
      rotate_left
      · intro _ _ _ _
        as_aux_lemma =>
        clear HB HBs
        have HB : Below v8.heap.size v8 v8 := Below.refl _ _
        have HBs : v8.heap.size ≤ v8.heap.size := Nat.le_refl _
        have HO := Lib.hid Ol
        have HH := Lib.hid h
        have HN := Lib.hid hN
        clear Ol h hN
        go_wp2_with fail
        go_loopw [135] (fun i wr => ∃ k : Nat, k ≤ N ∧ i = .int .i64 k ∧ Below v8.heap.size v8 wr) (fun i _ => N - (intOf i).toNat)
        case atStart => exact ⟨0, by omega, rfl, Below.refl _ _⟩
        case round =>
          obtain ⟨k, hk, rfl, hb⟩ := hrel
          by_cases hlt : k < N
          · have hlk : k < (suL ga gb gm).length := by rw [HN.out]; exact hlt
            have Ow := HO.out.on hb
            have hki : (k : Int) < (N : Int) := by omega
            have hkw : IntKind.i64.wrap ((k : Int) + 1) = (k : Int) + 1 := IntWalk.i64_in _ (by omega)
            have ck := own_get Ow (k := k) hlk
            obtain ⟨qo, qv, q0, q1, _, qb1, qe1, qb2, qe2⟩ := shf_of HH.out hlk
            have HX := Lib.hid (fun hk1 : k + 1 < N => su_next HH.out (k := k) (by rw [HN.out]; exact hk1))
            generalize (suL ga gb gm).getD k 0 = x at ck qo qv q0 q1 qb1 qe1 qb2 qe2 HX
            have hxm : ¬ gm < x := by omega
            clear HB HBs
            have HB := hb
            have HBs : v8.heap.size ≤ v8.heap.size := Nat.le_refl _
            clear hb q0 q1
            go_wp2_with fail
            refine (impl_IsShared_any ga gb x _).mono ?_
            rintro e v9 ⟨rfl, hb1⟩
            replace Ow := Ow.on hb1
            replace HB := below_go HB HBs hb1
            clear hb1
            clear ck
            go_wp2_with fail
            refine (impl_PlacesShared_any ga gb x _).mono ?_
            rintro e v10 ⟨rfl, hb1⟩
            replace Ow := Ow.on hb1
            replace HB := below_go HB HBs hb1
            clear hb1
            go_wp2_with fail
            refine (impl_PolygonNumber_any _ _ _).mono ?_
            rintro e v11 ⟨rfl, hb1⟩
            replace Ow := Ow.on hb1
            replace HB := below_go HB HBs hb1
            clear hb1
            go_wp2_with fail
            refine (impl_PolygonNumber_any _ _ _).mono ?_
            rintro e v12 ⟨rfl, hb1⟩
            replace Ow := Ow.on hb1
            replace HB := below_go HB HBs hb1
            clear hb1
            rcases Nat.lt_or_ge (k + 1) N with hk1 | hk1
            · obtain ⟨e1, e2⟩ := HX.out hk1
              have hki1 : (k : Int) + 1 < (N : Int) := by omega
              go_wp2_with fail
              refine (impl_NextShared_any ga gb x _).mono ?_
              rintro e v13 ⟨rfl, hb1⟩
              replace Ow := Ow.on hb1
              replace HB := below_go HB HBs hb1
              clear hb1
              have c1 := own_get Ow (k := k + 1) (by rw [HN.out]; exact hk1)
              generalize (suL ga gb gm).getD (k + 1) 0 = x1 at *
              have i5 : ((k : Int) + 1).toNat = k + 1 := by omega
              have i6 : (0 : Int) ≤ (k : Int) + 1 := by omega
              go_wp2_with fail
              go_roundw
              case rel => exact ⟨k + 1, by omega, by go_num, HB⟩
              case measure => simp [intOf]; omega
            · have hki1 : ¬ (k : Int) + 1 < (N : Int) := by omega
              go_wp2_with fail
              go_roundw
              case rel => exact ⟨k + 1, by omega, by go_num, HB⟩
              case measure => simp [intOf]; omega
          · have hki : ¬ (k : Int) < (N : Int) := by omega
            go_wp2
            refine Met.intro ?_
            go_step
            refine MeetH.of ?_ ?_
            · exact hb
            repeat (first | refine Agr.skip ?_ | refine Agr.keep ?_ | exact Agr.nil)
      intro u14 v14 hb1
      replace hy' := hy'.on hb1
      replace Ol := Ol.on hb1
      replace HB := below_go HB HBs hb1
      clear hb1
      as_aux_lemma =>
      simp only [fillH]
      have hM : IntKind.i64.wrap ((N : Int) - 1) = (N : Int) - 1 := IntWalk.i64_in _ (by omega)
      have hM0 : (0 : Int) ≤ (N : Int) - 1 := by omega
      have hM1 : (N : Int) - 1 < (N : Int) := by omega
      have hM2 : ((N : Int) - 1).toNat = N - 1 := by omega
      have cl1 := own_get Ol (k := N - 1) (by omega)
      have HL := Lib.hid (su_last h (k := N - 1) (by omega))
      generalize (suL ga gb gm).getD (N - 1) 0 = x at cl1 HL
      go_wp2_with fail
      refine (impl_NextShared_any ga gb x _).mono ?_
      rintro e v15 ⟨rfl, hb1⟩
      replace hy' := hy'.on hb1
      replace Ol := Ol.on hb1
      replace HB := below_go HB HBs hb1
      clear hb1
      clear cl1 hM hM0 hM1 hM2
      rcases Bool.eq_false_or_eq_true (nxB ga gb x) with hb | hb
      · have hle := HL.out hb
        clear HL
        simp only [hb]
        go_wp2_with fail
        refine Met.intro ?_
        go_step
        refine MeetH.of ?_ ?_
        · exact HB
        repeat (first | refine Agr.skip ?_ | refine Agr.keep ?_ | exact Agr.nil)
      · simp only [hb]
        clear HL
        go_wp2_with fail
        refine Met.intro ?_
        go_step
        refine MeetH.of ?_ ?_
        · exact HB
        repeat (first | refine Agr.skip ?_ | refine Agr.keep ?_ | exact Agr.nil)
    · simp only [h]
      go_wp2_with fail
      refine Met.intro ?_
      go_step
      refine MeetH.of ?_ ?_
      · exact HB
      repeat (first | refine Agr.skip ?_ | refine Agr.keep ?_ | exact Agr.nil)
  intro u16 v16 hb1
  replace hy' := hy'.on hb1
  replace Ol := Ol.on hb1
  replace HB := below_go HB HBs hb1
  clear hb1
  as_aux_lemma =>
  simp only [fillH]
  clear Ol
  clear hl9
  go_wp2_with fail
  refine (DrawNextShared_any B' m' c' _ hy' (by omega)).mono ?_
  rintro e v17 ⟨⟨c1, d1, n1, rfl⟩, hb1⟩
  replace hy' := hy'.on hb1
  replace HB := below_go HB HBs hb1
  clear hb1
  go_wp2_with fail
  refine (impl_NextShared_any c1 d1 n1 _).mono ?_
  rintro e v18 ⟨rfl, hb1⟩
  replace hy' := hy'.on hb1
  replace HB := below_go HB HBs hb1
  clear hb1
  go_wp2_with fail
  refine (spec_NextShared_all c1 d1 n1 _).mono ?_
  rintro e v19 ⟨rfl, hb1⟩
  replace hy' := hy'.on hb1
  replace HB := below_go HB HBs hb1
  clear hb1
  go_wp2_with fail
  refine (DrawIsShared_any B' m' c' _ hy' (by omega)).mono ?_
  rintro e v20 ⟨⟨e1, f1, m1, rfl⟩, hb1⟩
  replace hy' := hy'.on hb1
  replace HB := below_go HB HBs hb1
  clear hb1
  go_wp2_with fail
  refine (impl_IsShared_any e1 f1 m1 _).mono ?_
  rintro e v21 ⟨rfl, hb1⟩
  replace hy' := hy'.on hb1
  replace HB := below_go HB HBs hb1
  clear hb1
  go_wp2_with fail
  refine (spec_IsShared_all e1 f1 m1 _).mono ?_
  rintro e v22 ⟨rfl, hb1⟩
  replace hy' := hy'.on hb1
  replace HB := below_go HB HBs hb1
  clear hb1
  go_wp2_with fail
  refine (impl_PlacesShared_any e1 f1 m1 _).mono ?_
  rintro e v23 ⟨rfl, hb1⟩
  replace hy' := hy'.on hb1
  replace HB := below_go HB HBs hb1
  clear hb1
  go_wp2_with fail
  refine (spec_PlacesShared_all e1 f1 m1 _).mono ?_
  rintro e v24 ⟨rfl, hb1⟩
  replace hy' := hy'.on hb1
  replace HB := below_go HB HBs hb1
  clear hb1
  go_wp2_with fail
  refine (DrawSharedByThree_any B' m' c' _ hy' (by omega)).mono ?_
  rintro e v25 ⟨⟨p1, q1, r1, u1, rfl⟩, hb1⟩
  replace hy' := hy'.on hb1
  replace HB := below_go HB HBs hb1
  clear hb1
  go_wp2_with fail
  clear hy'
  refine (impl_SharedByThree_any p1 q1 r1 u1 _).mono ?_
  rintro e v26 ⟨At, ct, rfl, Ot, hb1⟩
  replace HB := below_go HB HBs hb1
  clear hb1
  go_wp2_with fail
  refine (spec_SharedByThree_any p1 q1 r1 u1 _).mono ?_
  rintro e v27 ⟨Ad, cd, rfl, Od, hb1⟩
  replace Ot := Ot.on hb1
  replace HB := below_go HB HBs hb1
  clear hb1
  go_upto_region 41 with fail
  have ht9 := tu_len p1 q1 r1 u1
  refine wp_cut (MeetH [.inr 0, .inr 1, .inr 2, .inr 3, .inr 4, .inr 5, .inr 6, .inr 7, .inr 8, .inr 9, .inr 10, .inr 11, .inr 12, .inr 13, .inr 14, .inr 15, .inr 16, .inr 17, .inr 18, .inr 19, .inr 20, .inr 21, .inr 22, .inr 23, .inr 24, .inr 25, .inr 26, .inr 27, .inr 28, .inr 29, .inr 30, .inr 31, .inr 32, .inr 33, .inr 34, .inr 35, .inr 36, .inr 37, .inr 38, .inr 39, .inr 40, .inr 41, .inr 42, .inr 43, .inr 44, .inr 45, .inr 46, .inr 47, .inr 48, .inr 49, .inl (.int .i64 (p1)), .inl (.int .i64 (q1)), .inl (.int .i64 (r1)), .inl (.int .i64 (u1)), .inl (.slice At (tuL p1 q1 r1 u1).length ct), .inl (.bool (tuB p1 q1 r1 u1)), .inr 56, .inr 57, .inr 58, .inr 59, .inr 60, .inr 61, .inr 62, .inr 63, .inr 64, .inr 65, .inr 66, .inr 67, .inr 68, .inr 69, .inr 70, .inr 71, .inr 72, .inr 73, .inr 74, .inr 75, .inr 76, .inr 77, .inr 78, .inr 79, .inr 80, .inr 81, .inr 82, .inr 83, .inr 84, .inr 85, .inr 86, .inr 87, .inr 88, .inr 89, .inr 90, .inr 91, .inr 92, .inr 93, .inr 94, .inr 95, .inr 96, .inr 97, .inr 98, .inr 99, .inr 100, .inr 101, .inr 102, .inr 103, .inr 104, .inr 105, .inr 106, .inr 107, .inr 108, .inr 109, .inr 110, .inr 111, .inr 112, .inr 113, .inr 114, .inr 115, .inr 116, .inr 117, .inr 118, .inr 119, .inr 120, .inr 121, .inr 122, .inr 123, .inr 124, .inr 125, .inr 126, .inr 127, .inr 128, .inr 129, .inr 130, .inr 131, .inr 132, .inr 133, .inr 134, .inr 135, .inr 136, .inr 137, .inr 138, .inr 139, .inr 140, .inr 141, .inr 142, .inr 143, .inr 144, .inr 145, .inr 146, .inr 147, .inr 148, .inr 149, .inr 150, .inr 151, .inr 152, .inr 153, .inr 154, .inr 155, .inr 156, .inr 157, .inr 158, .inr 159, .inr 160, .inr 161, .inr 162, .inr 163, .inr 164, .inr 165, .inr 166, .inr 167, .inr 168, .inr 169, .inr 170, .inr 171, .inr 172, .inr 173, .inr 174, .inr 175, .inr 176, .inr 177, .inr 178, .inr 179, .inr 180, .inr 181, .inr 182, .inr 183, .inr 184, .inr 185, .inr 186, .inr 187, .inr 188, .inr 189, .inr 190, .inr 191, .inr 192, .inr 193, .inr 194, .inr 195, .inr 196, .inr 197, .inr 198, .inr 199, .inr 200, .inr 201, .inr 202, .inr 203, .inr 204, .inr 205, .inr 206, .inr 207, .inr 208, .inr 209, .inr 210, .inr 211, .inr 212, .inr 213, .inr 214, .inr 215, .inr 216, .inr 217, .inr 218, .inr 219, .inr 220, .inr 221, .inr 222, .inr 223, .inr 224, .inr 225, .inr 226, .inr 227, .inr 228, .inr 229, .inr 230, .inr 231, .inr 232, .inr 233, .inr 234, .inr 235, .inr 236, .inr 237, .inr 238, .inr 239, .inr 240, .inr 241, .inr 242, .inr 243, .inr 244, .inr 245, .inr 246, .inr 247, .inr 248, .inr 249, .inr 250, .inr 251, .inr 252, .inr 253, .inr 254, .inr 255, .inr 256, .inr 257, .inr 258, .inr 259, .inr 260, .inr 261, .inr 262, .inr 263, .inr 264, .inr 265, .inr 266, .inr 267, .inr 268, .inr 269, .inr 270, .inr 271, .inr 272, .inr 273, .inr 274, .inr 275, .inr 276, .inr 277, .inr 278, .inr 279, .inr 280, .inr 281, .inr 282, .inr 283, .inr 284, .inr 285, .inr 286, .inr 287, .inr 288, .inr 289, .inr 290, .inr 291, .inr 292, .inr 293, .inr 294, .inr 295, .inr 296, .inr 297, .inr 298, .inr 299, .inr 300, .inr 301, .inr 302, .inr 303, .inr 304, .inr 305, .inr 306, .inr 307, .inr 308, .inr 309, .inr 310, .inr 311, .inr 312, .inr 313, .inr 314, .inr 315, .inr 316, .inr 317, .inr 318, .inr 319, .inr 320, .inr 321, .inr 322, .inr 323, .inr 324, .inr 325, .inr 326, .inr 327, .inr 328, .inr 329, .inr 330, .inr 331, .inr 332, .inr 333, .inr 334, .inr 335, .inr 336, .inr 337, .inr 338, .inr 339, .inr 340, .inr 341, .inr 342, .inr 343, .inr 344, .inr 345, .inr 346, .inr 347, .inr 348, .inr 349, .inr 350, .inr 351, .inr 352, .inr 353, .inr 354, .inr 355, .inr 356, .inr 357, .inr 358, .inr 359, .inr 360, .inr 361, .inr 362, .inr 363, .inr 364, .inr 365, .inr 366, .inr 367, .inr 368, .inr 369, .inr 370, .inr 371, .inr 372, .inl (.bool false), .inr 374, .inr 375, .inr 376, .inr 377, .inr 378, .inr 379, .inr 380, .inr 381, .inr 382, .inr 383, .inr 384, .inr 385, .inr 386, .inr 387, .inr 388, .inr 389, .inr 390, .inr 391, .inr 392, .inr 393, .inr 394, .inr 395, .inr 396, .inr 397, .inr 398, .inr 399, .inr 400, .inr 401, .inr 402, .inr 403, .inr 404, .inr 405] (fun wx => Below v27.heap.size v27 wx)) (MeetH.go _ (by rfl) ?_) ?_
  rotate_left
  · intro _ _ _ _
    as_aux_lemma =>
    clear HB HBs
    have HB : Below v27.heap.size v27 v27 := Below.refl _ _
    have HBs : v27.heap.size ≤ v27.heap.size := Nat.le_refl _
    rcases Bool.eq_false_or_eq_true (isO e1 f1 m1) with h | h
    · simp only [h]
      go_wp2_with fail
      refine (hSame_b At Ad _ ct cd _ _ _ _ (tuL p1 q1 r1 u1) _ rfl (by omega) Ot Od).mono ?_
      rintro e v28 ⟨rfl, hb1⟩
      replace Ot := Ot.on hb1
      replace Od := Od.on hb1
      replace HB := below_go HB HBs hb1
      clear hb1
      go_wp2_with fail
      refine Met.intro ?_
      go_step
      refine MeetH.of ?_ ?_
      · exact HB
      repeat (first | refine Agr.skip ?_ | refine Agr.keep ?_ | exact Agr.nil)
    · have h2 := isV_f h
      simp only [h, h2]
      go_wp2_with fail
      refine (hSame_b At Ad _ ct cd _ _ _ _ (tuL p1 q1 r1 u1) _ rfl (by omega) Ot Od).mono ?_
      rintro e v29 ⟨rfl, hb1⟩
      replace Ot := Ot.on hb1
      replace Od := Od.on hb1
      replace HB := below_go HB HBs hb1
      clear hb1
      go_wp2_with fail
      refine Met.intro ?_
      go_step
      refine MeetH.of ?_ ?_
      · exact HB
      repeat (first | refine Agr.skip ?_ | refine Agr.keep ?_ | exact Agr.nil)
  intro u30 v30 hb1
  replace Ot := Ot.on hb1
  replace Od := Od.on hb1
  replace HB := below_go HB HBs hb1
  clear hb1
  as_aux_lemma =>
  simp only [fillH]
  clear Od
  go_upto_if 374 with fail
  rcases Bool.eq_false_or_eq_true (tuB p1 q1 r1 u1) with h | h
  · simp only [h]
    obtain ⟨hs, hm9⟩ := tu_of h
    have HM := Lib.hid fun k => @hm9 k
    clear hm9 h
    go_wp2_with fail
    refine (impl_SharedUpTo_any p1 q1 u1 _).mono ?_
    rintro e v31 ⟨Af, cf, rfl, Of, hb1⟩
    replace Ot := Ot.on hb1
    replace HB := below_go HB HBs hb1
    clear hb1
    have hf9 := su_len2 p1 q1 u1
    obtain ⟨N, hN⟩ : ∃ N, (suL p1 q1 u1).length = N := ⟨_, rfl⟩
    obtain ⟨T, hT⟩ : ∃ T, (tuL p1 q1 r1 u1).length = T := ⟨_, rfl⟩
    obtain ⟨hf0, _⟩ := su_first hs
    obtain ⟨g, o, rfl, _, _, _⟩ := Of (by simp; omega)
    rw [hN] at hf9
    rw [hT] at ht9
    simp only [hN, hT, hs]
    clear hf0 hs
    have HO := Lib.hid Of
    have HT := Lib.hid Ot
    have HN := Lib.hid hN
    have HTl := Lib.hid hT
    clear Of Ot hN hT
    go_wp2_with fail
    go_loopw [386] (fun i wr => ∃ k : Nat, k ≤ N ∧ i = .int .i64 k ∧ Below v31.heap.size v31 wr) (fun i _ => N - (intOf i).toNat)
    case atStart => exact ⟨0, by omega, rfl, Below.refl _ _⟩
    case round =>
      obtain ⟨k, hk, rfl, hb⟩ := hrel
      by_cases hlt : k < N
      · have hlk : k < (suL p1 q1 u1).length := by rw [HN.out]; exact hlt
        have Ow := HO.out.on hb
        have Ox := HT.out.on hb
        have hki : (k : Int) < (N : Int) := by omega
        have ck := own_get Ow (k := k) hlk
        obtain ⟨e1, e2⟩ := HM.out k hlk
        generalize (suL p1 q1 u1).getD k 0 = x at ck e1 e2
        clear HB HBs
        have HB := hb
        have HBs : v31.heap.size ≤ v31.heap.size := Nat.le_refl _
        have E2 := Lib.hid e2
        clear hb e2
        clear Ow
        go_wp2_with fail
        refine (impl_IsPolygonal_any r1 x _).mono ?_
        rintro e v32 ⟨rfl, hb1⟩
        replace Ox := Ox.on hb1
        replace HB := below_go HB HBs hb1
        clear hb1
        clear ck
        go_wp2_with fail
        refine (hHas_any At T ct _ _ (tuL p1 q1 r1 u1) x _ HTl.out (by omega) Ox).mono ?_
        rintro e vh ⟨rfl, rfl⟩
        rw [E2.out]
        go_wp2_with fail
        go_roundw
        case rel => exact ⟨k + 1, by omega, by go_num, HB⟩
        case measure => simp [intOf]; omega
      · have hki : ¬ (k : Int) < (N : Int) := by omega
        go_wp2_with fail
        go_ret
        exact ⟨rfl, below_go HB HBs hb⟩
  · simp only [h]
    go_wp2_with fail
    go_ret
    exact ⟨rfl, HB⟩
end Go.Proofs.Ytcjfkbpkhlfbdaa
