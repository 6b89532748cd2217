/- The law FnSumsFewest, walked: whatever the arguments it answers true. The library's table lies where the program laid it. -/
import Derived.Test.YtiloljldefodkaaDoorSfH
import Derived.Test.YtiloljldefodkaaDoorCut
import Derived.Test.YtiloljldefodkaaDoorMd
import Derived.Lib.Hide
import Derived.Deep.Cut
import Derived.Deep.CutBlock
namespace Go.Proofs.YtiloljldefodkaaDoor
open Go.ChangeShapes Go.WideShapes Go.ChangeAt Go.RowKit Go.Maps

set_option maxRecDepth 4000 in
set_option maxHeartbeats 16000000 in
theorem walk_SumsFewest (A' : Option Addr) (n' a' : Nat) (B' : Option Addr) (m' c' : Nat) (w : World) (hn' : n' ≤ 9223372036854775807) (hx' : Bys w A' n') (hm' : m' ≤ 9223372036854775807) (hy' : Bys w B' m') (ht : Tabd w) :
    Calls Tryd.prog 3 #[.slice A' n' a', .slice B' m' c'] w fun e w' => e = .returned (.bool true) ∧ Below w.heap.size w w' := by
  have HB : Below w.heap.size w w := Below.refl _ _
  have HBs : w.heap.size ≤ w.heap.size := Nat.le_refl _
  rcases Bool.eq_false_or_eq_true (bgB n' m') with hg | hg
  · go_enter Tryd.func3, Tryd.ntmps3
    go_wp2_with (go_at_call 5; refine (big_any _ _ _ _ _ _ _ hn' hm').mono ?_; rintro e w' ⟨rfl, rfl⟩)
    go_ret
    exact ⟨rfl, Below.refl _ _⟩
  obtain ⟨gg1, gg2⟩ := bg_no hg
  go_enter Tryd.func3, Tryd.ntmps3
  go_wp2_with (go_at_call 5; refine (big_any _ _ _ _ _ _ _ hn' hm').mono ?_; rintro e w' ⟨rfl, rfl⟩)
  refine (DrawFirstFewest_any A' n' a' _ hx' (by omega)).mono ?_
  rintro e v1 ⟨⟨gs, gn, rfl⟩, hb1⟩
  replace ht := ht.on hb1
  replace hy' := hy'.on hb1
  replace HB := below_go HB HBs hb1
  clear hb1
  go_wp2_with fail
  refine (impl_FirstFewest_any gs gn _ ht).mono ?_
  rintro e v2 ⟨Af, cf, rfl, Of, hb1⟩
  replace ht := ht.on hb1
  replace hy' := hy'.on hb1
  replace HB := below_go HB HBs hb1
  clear hb1
  go_wp2_with fail
  refine (spec_FirstFewest_any gs gn _).mono ?_
  rintro e v3 ⟨Ar, cr, rfl, Or, hb1⟩
  replace ht := ht.on hb1
  replace hy' := hy'.on hb1
  replace Of := Of.on hb1
  replace HB := below_go HB HBs hb1
  clear hb1
  go_wp2_with fail
  refine (impl_FewestParts_any gs gn _ ht).mono ?_
  rintro e v4 ⟨rfl, hb1⟩
  replace ht := ht.on hb1
  replace hy' := hy'.on hb1
  replace Of := Of.on hb1
  replace Or := Or.on hb1
  replace HB := below_go HB HBs hb1
  clear hb1
  go_wp2_with fail
  refine (spec_FewestParts_any gs gn _).mono ?_
  rintro e v5 ⟨rfl, hb1⟩
  replace ht := ht.on hb1
  replace hy' := hy'.on hb1
  replace Of := Of.on hb1
  replace Or := Or.on hb1
  replace HB := below_go HB HBs hb1
  clear hb1
  go_wp2_with fail
  refine (impl_GreedyParts_any gs gn _).mono ?_
  rintro e v6 ⟨Ag, cg, rfl, Og, hb1⟩
  replace ht := ht.on hb1
  replace hy' := hy'.on hb1
  replace Of := Of.on hb1
  replace Or := Or.on hb1
  replace HB := below_go HB HBs hb1
  clear hb1
  go_wp2_with fail
  refine (spec_GreedyParts_any gs gn _).mono ?_
  rintro e v7 ⟨Ah, ch, rfl, Oh, hb1⟩
  replace ht := ht.on hb1
  replace hy' := hy'.on hb1
  replace Of := Of.on hb1
  replace Or := Or.on hb1
  replace Og := Og.on hb1
  replace HB := below_go HB HBs hb1
  clear hb1
  go_wp2_with fail
  refine (impl_AsManyAsSides_any gs gn _ ht).mono ?_
  rintro e v8 ⟨Am, cm, rfl, Om, hb1⟩
  replace ht := ht.on hb1
  replace hy' := hy'.on hb1
  replace Of := Of.on hb1
  replace Or := Or.on hb1
  replace Og := Og.on hb1
  replace Oh := Oh.on hb1
  replace HB := below_go HB HBs hb1
  clear hb1
  go_wp2_with fail
  refine (spec_AsManyAsSides_any gs gn _).mono ?_
  rintro e v9 ⟨Av, cv, rfl, Ov, hb1⟩
  replace ht := ht.on hb1
  replace hy' := hy'.on hb1
  replace Of := Of.on hb1
  replace Or := Or.on hb1
  replace Og := Og.on hb1
  replace Oh := Oh.on hb1
  replace Om := Om.on hb1
  replace HB := below_go HB HBs hb1
  clear hb1
  have hf9 := ff_len gs gn
  have hg9 := gr_len gs gn
  have hm9 := am_len gs gn
  go_upto_region 12 with fail
  go_wp2_with fail
  refine (oSame_b Af Ar _ cf cr _ _ _ _ (ffL gs gn) _ rfl (by omega) Of Or).mono ?_
  rintro e v10 ⟨rfl, hb1⟩
  replace ht := ht.on hb1
  replace hy' := hy'.on hb1
  replace Of := Of.on hb1
  replace Or := Or.on hb1
  replace Og := Og.on hb1
  replace Oh := Oh.on hb1
  replace Om := Om.on hb1
  replace Ov := Ov.on hb1
  replace HB := below_go HB HBs hb1
  clear hb1
  go_wp2_with fail
  refine (oSame_b Ag Ah _ cg ch _ _ _ _ (grL gs gn) _ rfl (by omega) Og Oh).mono ?_
  rintro e v11 ⟨rfl, hb1⟩
  replace ht := ht.on hb1
  replace hy' := hy'.on hb1
  replace Of := Of.on hb1
  replace Or := Or.on hb1
  replace Og := Og.on hb1
  replace Oh := Oh.on hb1
  replace Om := Om.on hb1
  replace Ov := Ov.on hb1
  replace HB := below_go HB HBs hb1
  clear hb1
  go_wp2_with fail
  refine (oSame_b Am Av _ cm cv _ _ _ _ (amL gs gn) _ rfl (by omega) Om Ov).mono ?_
  rintro e v12 ⟨rfl, hb1⟩
  replace ht := ht.on hb1
  replace hy' := hy'.on hb1
  replace Of := Of.on hb1
  replace Or := Or.on hb1
  replace Og := Og.on hb1
  replace Oh := Oh.on hb1
  replace Om := Om.on hb1
  replace Ov := Ov.on hb1
  replace HB := below_go HB HBs hb1
  clear hb1
  clear Or Oh Ov
  go_upto_if 163 with fail
  refine wp_cut (MeetH [.inr 0, .inl (.slice B' m' c'), .inr 2, .inr 3, .inr 4, .inr 5, .inr 6, .inr 7, .inr 8, .inr 9, .inr 10, .inr 11, .inr 12, .inr 13, .inr 14, .inr 15, .inr 16, .inr 17, .inr 18, .inr 19, .inr 20, .inr 21, .inr 22, .inr 23, .inr 24, .inr 25, .inr 26, .inr 27, .inr 28, .inr 29, .inr 30, .inr 31, .inr 32, .inr 33, .inr 34, .inr 35, .inr 36, .inr 37, .inr 38, .inr 39, .inr 40, .inr 41, .inr 42, .inr 43, .inr 44, .inr 45, .inr 46, .inr 47, .inr 48, .inr 49, .inr 50, .inr 51, .inr 52, .inr 53, .inr 54, .inr 55, .inr 56, .inr 57, .inr 58, .inr 59, .inr 60, .inr 61, .inr 62, .inr 63, .inr 64, .inr 65, .inr 66, .inr 67, .inr 68, .inr 69, .inr 70, .inr 71, .inr 72, .inr 73, .inr 74, .inr 75, .inr 76, .inr 77, .inr 78, .inr 79, .inr 80, .inr 81, .inr 82, .inr 83, .inr 84, .inr 85, .inr 86, .inr 87, .inr 88, .inr 89, .inr 90, .inr 91, .inr 92, .inr 93, .inr 94, .inr 95, .inr 96, .inr 97, .inr 98, .inr 99, .inr 100, .inr 101, .inr 102, .inr 103, .inr 104, .inr 105, .inr 106, .inr 107, .inr 108, .inr 109, .inr 110, .inr 111, .inr 112, .inr 113, .inr 114, .inr 115, .inr 116, .inr 117, .inr 118, .inr 119, .inr 120, .inr 121, .inr 122, .inr 123, .inr 124, .inr 125, .inr 126, .inr 127, .inr 128, .inr 129, .inr 130, .inr 131, .inr 132, .inr 133, .inr 134, .inr 135, .inr 136, .inr 137, .inr 138, .inr 139, .inr 140, .inr 141, .inr 142, .inr 143, .inr 144, .inr 145, .inr 146, .inr 147, .inr 148, .inr 149, .inr 150, .inr 151, .inr 152, .inr 153, .inr 154, .inr 155, .inr 156, .inr 157, .inr 158, .inr 159, .inr 160, .inr 161, .inr 162, .inr 163, .inr 164, .inr 165, .inr 166, .inr 167, .inr 168, .inr 169, .inr 170, .inr 171, .inr 172, .inr 173, .inr 174, .inr 175, .inr 176, .inr 177, .inr 178, .inr 179, .inr 180, .inr 181, .inr 182, .inr 183, .inr 184, .inr 185, .inr 186, .inr 187, .inr 188, .inr 189, .inr 190, .inr 191, .inr 192, .inr 193, .inr 194, .inr 195, .inr 196, .inr 197, .inr 198, .inr 199, .inr 200, .inr 201, .inr 202, .inr 203, .inr 204, .inr 205, .inr 206, .inr 207, .inr 208, .inr 209, .inr 210, .inr 211, .inr 212, .inr 213, .inr 214, .inr 215, .inr 216, .inr 217, .inr 218, .inr 219, .inr 220, .inr 221, .inr 222, .inr 223, .inr 224, .inr 225, .inr 226, .inr 227, .inr 228, .inr 229, .inr 230, .inr 231, .inr 232, .inr 233, .inr 234, .inr 235, .inr 236, .inr 237, .inr 238, .inr 239, .inr 240, .inr 241, .inr 242, .inr 243, .inr 244, .inr 245, .inr 246, .inr 247, .inr 248, .inr 249, .inr 250, .inr 251, .inr 252, .inr 253, .inr 254, .inr 255, .inr 256, .inr 257, .inr 258, .inr 259, .inr 260, .inr 261, .inr 262, .inr 263, .inr 264, .inr 265, .inr 266, .inr 267, .inr 268, .inr 269, .inr 270, .inr 271, .inr 272, .inr 273, .inr 274, .inr 275, .inr 276, .inr 277, .inr 278, .inr 279, .inr 280, .inr 281, .inr 282, .inr 283, .inr 284, .inr 285, .inr 286, .inr 287, .inr 288, .inr 289, .inr 290, .inr 291, .inr 292, .inr 293, .inr 294, .inr 295, .inr 296, .inr 297, .inr 298, .inr 299, .inr 300, .inr 301, .inr 302, .inr 303, .inr 304, .inr 305, .inr 306, .inr 307, .inr 308, .inr 309, .inr 310, .inr 311, .inr 312, .inr 313, .inr 314, .inr 315, .inr 316, .inr 317, .inr 318, .inr 319, .inr 320, .inr 321, .inr 322, .inr 323, .inr 324, .inr 325, .inr 326, .inr 327, .inr 328, .inr 329, .inr 330, .inr 331, .inr 332, .inr 333, .inr 334, .inr 335, .inr 336, .inr 337, .inr 338, .inr 339, .inr 340, .inr 341, .inr 342, .inr 343, .inr 344, .inr 345, .inr 346, .inr 347, .inr 348, .inr 349, .inr 350, .inr 351, .inr 352, .inr 353, .inr 354, .inr 355, .inr 356, .inr 357, .inr 358, .inr 359, .inr 360, .inr 361, .inr 362, .inr 363, .inr 364, .inr 365, .inr 366, .inr 367, .inr 368, .inr 369, .inr 370, .inr 371, .inr 372, .inr 373, .inr 374, .inr 375, .inr 376, .inr 377, .inr 378, .inr 379, .inr 380, .inr 381, .inr 382, .inr 383, .inr 384, .inr 385, .inr 386, .inr 387, .inr 388, .inr 389, .inr 390, .inr 391, .inr 392, .inr 393, .inr 394, .inr 395, .inr 396, .inr 397, .inr 398, .inr 399, .inr 400, .inr 401, .inr 402, .inr 403, .inr 404, .inr 405] (fun wx => Below v12.heap.size v12 wx)) (MeetH.go _ (by rfl) ?_) ?_
  rotate_left
  · intro _ _ _ _
    as_aux_lemma =>
    clear HB HBs
    have HB : Below v12.heap.size v12 v12 := Below.refl _ _
    have HBs : v12.heap.size ≤ v12.heap.size := Nat.le_refl _
    rcases Bool.eq_false_or_eq_true (sfB gs gn) with h | h
    · simp only [h]
      have q := ffq_of h
      generalize need gs gn = D at q
      obtain ⟨s1, s2, n0, n1, few, D1, qf, ⟨ap1, ap2⟩, gl, ge, gf, gs', ml, me, mf, ms, less, sm1, sm2⟩ := q
      obtain ⟨G, hG⟩ : ∃ G, (grL gs gn).length = G := ⟨_, rfl⟩
      obtain ⟨S, hS⟩ : ∃ S, gs.toNat = S := ⟨_, rfl⟩
      rw [hG] at gl ge gf gs' hg9
      rw [hS] at ml me mf ms
      have hSe : (S : Int) = gs := by omega
      have fl := qf.len
      simp only [fl, few, hG, ml]
      have hfs : ¬ gs < (D : Int) := by omega
      have hfg : decide ((G : Int) < (D : Int)) = false := decide_eq_false (by omega)
      have hfg2 : decide (G < D) = false := decide_eq_false (by omega)
      have fs := qf.sum
      have fe := Lib.hid qf.el
      have GE := Lib.hid ge
      have GF := Lib.hid gf
      have ME := Lib.hid me
      have MF := Lib.hid mf
      have LS := Lib.hid less
      have h24 : D ≤ 24 := by omega
      clear ge gf me mf less gl D1 hf9 hm9 qf few hS
      go_wp2_with fail
      refine (impl_AreParts_any gs Af D cf (ffL gs gn) _ _ fl (by omega) Of.rd).mono ?_
      rintro e v13 ⟨rfl, hb1⟩
      replace ht := ht.on hb1
      replace hy' := hy'.on hb1
      replace Of := Of.on hb1
      replace Og := Og.on hb1
      replace Om := Om.on hb1
      replace HB := below_go HB HBs hb1
      clear hb1
      go_wp2_with fail
      refine (oTotal_any gs Af D cf _ (ffL gs gn) _ s1 s2 fl (by omega) Of (fun k hk => ⟨by have := fe.out k hk; omega, by have := fe.out k hk; omega⟩) (by rw [fs]; omega) gn fs).mono ?_
      rintro e v14 ⟨rfl, hb1⟩
      replace ht := ht.on hb1
      replace hy' := hy'.on hb1
      replace Of := Of.on hb1
      replace Og := Og.on hb1
      replace Om := Om.on hb1
      replace HB := below_go HB HBs hb1
      clear hb1
      go_wp2_with fail
      refine (oTotal_any gs Ag G cg _ (grL gs gn) _ s1 s2 hG (by omega) Og (fun k hk => ⟨by have := GE.out k hk; omega, by have := GE.out k hk; omega⟩) (by rw [gs']; omega) gn gs').mono ?_
      rintro e v15 ⟨rfl, hb1⟩
      replace ht := ht.on hb1
      replace hy' := hy'.on hb1
      replace Of := Of.on hb1
      replace Og := Og.on hb1
      replace Om := Om.on hb1
      replace HB := below_go HB HBs hb1
      clear hb1
      go_wp2_with fail
      refine (oFalls_any Ag G cg _ _ (grL gs gn) 1 _ hG (by omega) Og (fun k hk => (GE.out k hk).1) GF.out).mono ?_
      rintro e vh ⟨rfl, rfl⟩
      go_wp2_with fail
      refine (oTotal_any gs Am S cm _ (amL gs gn) _ s1 s2 ml (by omega) Om ME.out (by rw [ms]; omega) gn ms).mono ?_
      rintro e v16 ⟨rfl, hb1⟩
      replace ht := ht.on hb1
      replace hy' := hy'.on hb1
      replace Of := Of.on hb1
      replace Og := Og.on hb1
      replace Om := Om.on hb1
      replace HB := below_go HB HBs hb1
      clear hb1
      go_wp2_with fail
      refine (oFalls_any Am S cm _ _ (amL gs gn) 0 _ ml (by omega) Om (fun k hk => (ME.out k hk).1) MF.out).mono ?_
      rintro e vh ⟨rfl, rfl⟩
      clear Of Og
      clear fs fe GE GF ME MF ap1 ap2 gs' ms hG fl hg9
      go_upto_block 0 with fail
      refine wp_cut (MeetH [.inr 0, .inl (.slice B' m' c'), .inr 2, .inr 3, .inr 4, .inl (.int .i64 (gs)), .inl (.int .i64 (gn)), .inr 7, .inr 8, .inr 9, .inr 10, .inl (.int .i64 ((D : Int))), .inr 12, .inr 13, .inr 14, .inr 15, .inr 16, .inr 17, .inr 18, .inl (.slice Am S cm), .inr 20, .inr 21, .inr 22, .inr 23, .inr 24, .inr 25, .inr 26, .inr 27, .inr 28, .inr 29, .inr 30, .inr 31, .inr 32, .inr 33, .inr 34, .inr 35, .inr 36, .inr 37, .inr 38, .inr 39, .inr 40, .inr 41, .inr 42, .inr 43, .inr 44, .inr 45, .inr 46, .inr 47, .inr 48, .inr 49, .inr 50, .inr 51, .inr 52, .inr 53, .inr 54, .inr 55, .inr 56, .inr 57, .inr 58, .inr 59, .inr 60, .inr 61, .inr 62, .inr 63, .inr 64, .inr 65, .inr 66, .inr 67, .inr 68, .inr 69, .inr 70, .inr 71, .inr 72, .inr 73, .inr 74, .inr 75, .inr 76, .inr 77, .inr 78, .inr 79, .inr 80, .inr 81, .inr 82, .inr 83, .inr 84, .inr 85, .inr 86, .inr 87, .inr 88, .inr 89, .inr 90, .inr 91, .inr 92, .inr 93, .inr 94, .inr 95, .inr 96, .inr 97, .inr 98, .inr 99, .inr 100, .inr 101, .inr 102, .inr 103, .inr 104, .inr 105, .inr 106, .inr 107, .inr 108, .inr 109, .inr 110, .inr 111, .inr 112, .inr 113, .inr 114, .inr 115, .inr 116, .inr 117, .inr 118, .inr 119, .inr 120, .inr 121, .inr 122, .inr 123, .inr 124, .inr 125, .inr 126, .inr 127, .inr 128, .inr 129, .inr 130, .inr 131, .inr 132, .inr 133, .inr 134, .inr 135, .inr 136, .inr 137, .inr 138, .inr 139, .inr 140, .inr 141, .inr 142, .inr 143, .inr 144, .inr 145, .inr 146, .inr 147, .inr 148, .inr 149, .inr 150, .inr 151, .inr 152, .inr 153, .inr 154, .inr 155, .inr 156, .inr 157, .inr 158, .inr 159, .inr 160, .inr 161, .inr 162, .inr 163, .inr 164, .inr 165, .inr 166, .inr 167, .inr 168, .inr 169, .inr 170, .inr 171, .inr 172, .inr 173, .inr 174, .inr 175, .inr 176, .inr 177, .inr 178, .inr 179, .inr 180, .inr 181, .inr 182, .inr 183, .inr 184, .inr 185, .inr 186, .inr 187, .inr 188, .inr 189, .inr 190, .inr 191, .inr 192, .inr 193, .inr 194, .inr 195, .inr 196, .inr 197, .inr 198, .inr 199, .inr 200, .inr 201, .inr 202, .inr 203, .inr 204, .inr 205, .inr 206, .inr 207, .inr 208, .inr 209, .inr 210, .inr 211, .inr 212, .inr 213, .inr 214, .inr 215, .inr 216, .inr 217, .inr 218, .inr 219, .inr 220, .inr 221, .inr 222, .inr 223, .inr 224, .inr 225, .inr 226, .inr 227, .inr 228, .inr 229, .inr 230, .inr 231, .inr 232, .inr 233, .inr 234, .inr 235, .inr 236, .inr 237, .inr 238, .inr 239, .inr 240, .inr 241, .inr 242, .inr 243, .inr 244, .inr 245, .inr 246, .inr 247, .inr 248, .inr 249, .inr 250, .inr 251, .inr 252, .inr 253, .inr 254, .inr 255, .inr 256, .inr 257, .inr 258, .inr 259, .inr 260, .inr 261, .inr 262, .inr 263, .inr 264, .inr 265, .inr 266, .inr 267, .inr 268, .inr 269, .inr 270, .inr 271, .inr 272, .inr 273, .inr 274, .inr 275, .inr 276, .inr 277, .inr 278, .inr 279, .inr 280, .inr 281, .inr 282, .inr 283, .inr 284, .inr 285, .inr 286, .inr 287, .inr 288, .inr 289, .inr 290, .inr 291, .inr 292, .inr 293, .inr 294, .inr 295, .inr 296, .inr 297, .inr 298, .inr 299, .inr 300, .inr 301, .inr 302, .inr 303, .inr 304, .inr 305, .inr 306, .inr 307, .inr 308, .inr 309, .inr 310, .inr 311, .inr 312, .inr 313, .inr 314, .inr 315, .inr 316, .inr 317, .inr 318, .inr 319, .inr 320, .inr 321, .inr 322, .inr 323, .inr 324, .inr 325, .inr 326, .inr 327, .inr 328, .inr 329, .inr 330, .inr 331, .inr 332, .inr 333, .inr 334, .inr 335, .inr 336, .inr 337, .inr 338, .inr 339, .inr 340, .inr 341, .inr 342, .inr 343, .inr 344, .inr 345, .inr 346, .inr 347, .inr 348, .inr 349, .inr 350, .inr 351, .inr 352, .inr 353, .inr 354, .inr 355, .inr 356, .inr 357, .inr 358, .inr 359, .inr 360, .inr 361, .inr 362, .inr 363, .inr 364, .inr 365, .inr 366, .inr 367, .inr 368, .inr 369, .inr 370, .inr 371, .inr 372, .inr 373, .inr 374, .inr 375, .inr 376, .inr 377, .inr 378, .inr 379, .inr 380, .inr 381, .inr 382, .inr 383, .inr 384, .inr 385, .inr 386, .inr 387, .inr 388, .inr 389, .inr 390, .inr 391, .inr 392, .inr 393, .inr 394, .inr 395, .inr 396, .inr 397, .inr 398, .inr 399, .inr 400, .inr 401, .inr 402, .inr 403, .inr 404, .inr 405] (fun wx => Below v16.heap.size v16 wx)) (MeetH.go _ (by rfl) ?_) ?_
      rotate_left
      · intro _ _ _ _
        as_aux_lemma =>
        clear HB HBs
        have HB : Below v16.heap.size v16 v16 := Below.refl _ _
        have HBs : v16.heap.size ≤ v16.heap.size := Nat.le_refl _
        clear h hSe ml hfs hfg hfg2
        go_wp2_with fail
        go_loopw [25] (fun i wr => ∃ k : Nat, k ≤ D ∧ i = .int .i64 k ∧ Below v16.heap.size v16 wr) (fun i _ => D - (intOf i).toNat)
        case atStart => exact ⟨0, by omega, rfl, Below.refl _ _⟩
        case round =>
          obtain ⟨k, hk, rfl, hb⟩ := hrel
          by_cases hlt : k < D
          · have hki : (k : Int) < (D : Int) := by omega
            obtain ⟨e1, e2⟩ := LS.out k hlt
            clear HB HBs
            have HB := hb
            have HBs : v16.heap.size ≤ v16.heap.size := Nat.le_refl _
            clear hb
            go_wp2_with fail
            refine (impl_CountSums_any gs gn (k : Int) _).mono ?_
            rintro e v17 ⟨rfl, hb1⟩
            replace HB := below_go HB HBs hb1
            clear hb1
            simp only [e1, e2]
            clear e1 e2
            go_wp2_with fail
            go_roundw
            case rel => exact ⟨k + 1, by omega, by go_num, HB⟩
            case measure => simp [intOf] <;> omega
          · have hki : ¬ (k : Int) < (D : Int) := by omega
            go_wp2
            refine Met.intro ?_
            go_step
            refine MeetH.of ?_ ?_
            · exact hb
            repeat (first | refine Agr.skip ?_ | refine Agr.keep ?_ | exact Agr.nil)
      intro u18 v18 hb1
      replace ht := ht.on hb1
      replace hy' := hy'.on hb1
      replace Om := Om.on hb1
      replace HB := below_go HB HBs hb1
      clear hb1
      as_aux_lemma =>
      simp only [fillH]
      clear LS hfs hfg hfg2
      go_wp2_with fail
      refine (impl_CountSums_any gs gn (D : Int) _).mono ?_
      rintro e v19 ⟨rfl, hb1⟩
      replace ht := ht.on hb1
      replace hy' := hy'.on hb1
      replace Om := Om.on hb1
      replace HB := below_go HB HBs hb1
      clear hb1
      by_cases h3 : gs = 3
      · obtain rfl : gs = 3 := h3
        obtain ⟨t1, t2⟩ := tt_am h
        clear h
        go_wp2_with fail
        refine (impl_ThreeTriangles_any gn _ ht).mono ?_
        rintro e v20 ⟨Ax, cx, rfl, Ox, hb1⟩
        replace ht := ht.on hb1
        replace hy' := hy'.on hb1
        replace Om := Om.on hb1
        replace HB := below_go HB HBs hb1
        clear hb1
        simp only [t1, t2, ml]
        rw [t2] at Ox
        go_wp2_with fail
        refine (oSame_b Ax Am S cx cm _ _ _ _ (amL 3 gn) _ ml (by omega) Ox Om).mono ?_
        rintro e v21 ⟨rfl, hb1⟩
        replace ht := ht.on hb1
        replace hy' := hy'.on hb1
        replace Om := Om.on hb1
        replace Ox := Ox.on hb1
        replace HB := below_go HB HBs hb1
        clear hb1
        go_wp2_with fail
        refine Met.intro ?_
        go_step
        refine MeetH.of ?_ ?_
        · exact HB
        repeat (first | refine Agr.skip ?_ | refine Agr.keep ?_ | exact Agr.nil)
      · have h3' : (gs == 3) = false := by simpa using h3
        clear h3
        go_wp2_with fail
        refine Met.intro ?_
        go_step
        refine MeetH.of ?_ ?_
        · exact HB
        repeat (first | refine Agr.skip ?_ | refine Agr.keep ?_ | exact Agr.nil)
    · simp only [h]
      go_wp2_with fail
      refine Met.intro ?_
      go_step
      refine MeetH.of ?_ ?_
      · exact HB
      repeat (first | refine Agr.skip ?_ | refine Agr.keep ?_ | exact Agr.nil)
  intro u22 v22 hb1
  replace ht := ht.on hb1
  replace hy' := hy'.on hb1
  replace Of := Of.on hb1
  replace Og := Og.on hb1
  replace Om := Om.on hb1
  replace HB := below_go HB HBs hb1
  clear hb1
  as_aux_lemma =>
  simp only [fillH]
  clear Of Og Om ht
  clear hf9 hg9 hm9
  go_wp2_with fail
  refine (DrawAllSums_any B' m' c' _ hy' (by omega)).mono ?_
  rintro e v23 ⟨⟨gt, gm, gp, rfl⟩, hb1⟩
  replace hy' := hy'.on hb1
  replace HB := below_go HB HBs hb1
  clear hb1
  go_wp2_with fail
  refine (impl_AllSums_any gt gm gp _).mono ?_
  rintro e v24 ⟨Aa, ca, Afa, cfa, rfl, Oa, hb1⟩
  replace hy' := hy'.on hb1
  replace HB := below_go HB HBs hb1
  clear hb1
  go_wp2_with fail
  refine (spec_AllSums_any gt gm gp _).mono ?_
  rintro e v25 ⟨Ad, cd, Afd, cfd, rfl, Od, hb1⟩
  replace hy' := hy'.on hb1
  replace Oa := Oa.on hb1
  replace HB := below_go HB HBs hb1
  clear hb1
  go_wp2_with fail
  refine (impl_CountSums_any gt gm gp _).mono ?_
  rintro e v26 ⟨rfl, hb1⟩
  replace hy' := hy'.on hb1
  replace Oa := Oa.on hb1
  replace Od := Od.on hb1
  replace HB := below_go HB HBs hb1
  clear hb1
  go_wp2_with fail
  refine (spec_CountSums_any gt gm gp _).mono ?_
  rintro e v27 ⟨rfl, hb1⟩
  replace hy' := hy'.on hb1
  replace Oa := Oa.on hb1
  replace Od := Od.on hb1
  replace HB := below_go HB HBs hb1
  clear hb1
  have hl9 := al_len gt gm gp
  have hp9 := al_pre gt gm gp
  obtain ⟨b7, hb7⟩ : ∃ b : Bool, alB gt gm gp = b := ⟨_, rfl⟩
  simp only [hb7]
  have HB7 := Lib.hid hb7
  clear hb7
  go_upto_region 36 with fail
  refine wp_cut (MeetH [.inr 0, .inl (.slice B' m' c'), .inr 2, .inr 3, .inr 4, .inr 5, .inr 6, .inr 7, .inr 8, .inr 9, .inr 10, .inr 11, .inr 12, .inr 13, .inr 14, .inr 15, .inr 16, .inr 17, .inr 18, .inr 19, .inr 20, .inr 21, .inr 22, .inr 23, .inr 24, .inr 25, .inr 26, .inr 27, .inr 28, .inr 29, .inr 30, .inr 31, .inl (.int .i64 (gt)), .inl (.int .i64 (gm)), .inl (.int .i64 (gp)), .inl (.slice Aa (alL gt gm gp).length ca), .inl (.bool (b7)), .inr 37, .inr 38, .inl (.int .i64 (csV gt gm gp)), .inr 40, .inr 41, .inr 42, .inr 43, .inr 44, .inr 45, .inr 46, .inr 47, .inr 48, .inr 49, .inr 50, .inr 51, .inr 52, .inr 53, .inr 54, .inr 55, .inr 56, .inr 57, .inr 58, .inr 59, .inr 60, .inr 61, .inr 62, .inr 63, .inr 64, .inr 65, .inr 66, .inr 67, .inr 68, .inr 69, .inr 70, .inr 71, .inr 72, .inr 73, .inr 74, .inr 75, .inr 76, .inr 77, .inr 78, .inr 79, .inr 80, .inr 81, .inr 82, .inr 83, .inr 84, .inr 85, .inr 86, .inr 87, .inr 88, .inr 89, .inr 90, .inr 91, .inr 92, .inr 93, .inr 94, .inr 95, .inr 96, .inr 97, .inr 98, .inr 99, .inr 100, .inr 101, .inr 102, .inr 103, .inr 104, .inr 105, .inr 106, .inr 107, .inr 108, .inr 109, .inr 110, .inr 111, .inr 112, .inr 113, .inr 114, .inr 115, .inr 116, .inr 117, .inr 118, .inr 119, .inr 120, .inr 121, .inr 122, .inr 123, .inr 124, .inr 125, .inr 126, .inr 127, .inr 128, .inr 129, .inr 130, .inr 131, .inr 132, .inr 133, .inr 134, .inr 135, .inr 136, .inr 137, .inr 138, .inr 139, .inr 140, .inr 141, .inr 142, .inr 143, .inr 144, .inr 145, .inr 146, .inr 147, .inr 148, .inr 149, .inr 150, .inr 151, .inr 152, .inr 153, .inr 154, .inr 155, .inr 156, .inr 157, .inr 158, .inr 159, .inr 160, .inr 161, .inr 162, .inr 163, .inr 164, .inr 165, .inr 166, .inr 167, .inr 168, .inr 169, .inr 170, .inr 171, .inr 172, .inr 173, .inr 174, .inr 175, .inr 176, .inr 177, .inr 178, .inr 179, .inr 180, .inr 181, .inr 182, .inr 183, .inr 184, .inr 185, .inr 186, .inr 187, .inr 188, .inr 189, .inr 190, .inr 191, .inr 192, .inr 193, .inr 194, .inr 195, .inr 196, .inr 197, .inr 198, .inr 199, .inr 200, .inr 201, .inr 202, .inr 203, .inr 204, .inr 205, .inr 206, .inr 207, .inr 208, .inr 209, .inr 210, .inr 211, .inr 212, .inr 213, .inr 214, .inr 215, .inr 216, .inr 217, .inr 218, .inr 219, .inr 220, .inr 221, .inr 222, .inr 223, .inr 224, .inr 225, .inr 226, .inr 227, .inr 228, .inr 229, .inr 230, .inr 231, .inr 232, .inr 233, .inr 234, .inr 235, .inr 236, .inr 237, .inr 238, .inr 239, .inr 240, .inr 241, .inr 242, .inr 243, .inr 244, .inr 245, .inr 246, .inr 247, .inr 248, .inr 249, .inr 250, .inr 251, .inr 252, .inr 253, .inr 254, .inr 255, .inr 256, .inr 257, .inr 258, .inr 259, .inr 260, .inr 261, .inr 262, .inr 263, .inr 264, .inr 265, .inr 266, .inr 267, .inr 268, .inr 269, .inr 270, .inr 271, .inr 272, .inr 273, .inr 274, .inr 275, .inr 276, .inr 277, .inr 278, .inr 279, .inr 280, .inr 281, .inr 282, .inr 283, .inr 284, .inr 285, .inr 286, .inr 287, .inr 288, .inr 289, .inr 290, .inr 291, .inr 292, .inr 293, .inr 294, .inr 295, .inr 296, .inr 297, .inr 298, .inr 299, .inr 300, .inr 301, .inr 302, .inr 303, .inr 304, .inr 305, .inr 306, .inr 307, .inr 308, .inr 309, .inr 310, .inr 311, .inr 312, .inr 313, .inr 314, .inr 315, .inr 316, .inr 317, .inr 318, .inr 319, .inr 320, .inr 321, .inr 322, .inr 323, .inr 324, .inr 325, .inr 326, .inr 327, .inr 328, .inr 329, .inr 330, .inr 331, .inr 332, .inr 333, .inr 334, .inr 335, .inr 336, .inl (.bool false), .inr 338, .inr 339, .inr 340, .inr 341, .inr 342, .inr 343, .inr 344, .inr 345, .inr 346, .inr 347, .inr 348, .inr 349, .inr 350, .inr 351, .inr 352, .inr 353, .inr 354, .inr 355, .inr 356, .inr 357, .inr 358, .inr 359, .inr 360, .inr 361, .inr 362, .inr 363, .inr 364, .inr 365, .inr 366, .inr 367, .inr 368, .inr 369, .inr 370, .inr 371, .inr 372, .inr 373, .inr 374, .inr 375, .inr 376, .inr 377, .inr 378, .inr 379, .inr 380, .inr 381, .inr 382, .inr 383, .inr 384, .inr 385, .inr 386, .inr 387, .inr 388, .inr 389, .inr 390, .inr 391, .inr 392, .inr 393, .inr 394, .inr 395, .inr 396, .inr 397, .inr 398, .inr 399, .inr 400, .inr 401, .inr 402, .inr 403, .inr 404, .inr 405] (fun wx => Below v27.heap.size v27 wx)) (MeetH.go _ (by rfl) ?_) ?_
  rotate_left
  · intro _ _ _ _
    as_aux_lemma =>
    clear HB HBs
    have HB : Below v27.heap.size v27 v27 := Below.refl _ _
    have HBs : v27.heap.size ≤ v27.heap.size := Nat.le_refl _
    cases b7
    · rcases al_f HB7.out with h | ⟨h, h2⟩
      · simp only [h]
        clear h HB7
        go_wp2_with fail
        refine (oRows_b Aa Ad _ ca cd _ _ _ _ (rowsOf (alL gt gm gp)) Afa Afd cfa cfd _ (by omega) hp9 Oa Od).mono ?_
        rintro e v28 ⟨rfl, hb1⟩
        replace hy' := hy'.on hb1
        replace Oa := Oa.on hb1
        replace Od := Od.on hb1
        replace HB := below_go HB HBs hb1
        clear hb1
        go_wp2_with fail
        refine Met.intro ?_
        go_step
        refine MeetH.of ?_ ?_
        · exact HB
        repeat (first | refine Agr.skip ?_ | refine Agr.keep ?_ | exact Agr.nil)
      · have h3 : decide (csV gt gm gp ≤ 300) = false := decide_eq_false (by omega)
        simp only [h]
        clear h h2 HB7
        go_wp2_with fail
        refine (oRows_b Aa Ad _ ca cd _ _ _ _ (rowsOf (alL gt gm gp)) Afa Afd cfa cfd _ (by omega) hp9 Oa Od).mono ?_
        rintro e v29 ⟨rfl, hb1⟩
        replace hy' := hy'.on hb1
        replace Oa := Oa.on hb1
        replace Od := Od.on hb1
        replace HB := below_go HB HBs hb1
        clear hb1
        go_wp2_with fail
        refine Met.intro ?_
        go_step
        refine MeetH.of ?_ ?_
        · exact HB
        repeat (first | refine Agr.skip ?_ | refine Agr.keep ?_ | exact Agr.nil)
    · obtain ⟨h, h2⟩ := al_t HB7.out
      simp only [h]
      clear h HB7
      go_wp2_with fail
      refine (oRows_b Aa Ad _ ca cd _ _ _ _ (rowsOf (alL gt gm gp)) Afa Afd cfa cfd _ (by omega) hp9 Oa Od).mono ?_
      rintro e v30 ⟨rfl, hb1⟩
      replace hy' := hy'.on hb1
      replace Oa := Oa.on hb1
      replace Od := Od.on hb1
      replace HB := below_go HB HBs hb1
      clear hb1
      go_wp2_with fail
      refine Met.intro ?_
      go_step
      refine MeetH.of ?_ ?_
      · exact HB
      repeat (first | refine Agr.skip ?_ | refine Agr.keep ?_ | exact Agr.nil)
  intro u31 v31 hb1
  replace hy' := hy'.on hb1
  replace Oa := Oa.on hb1
  replace Od := Od.on hb1
  replace HB := below_go HB HBs hb1
  clear hb1
  as_aux_lemma =>
  simp only [fillH]
  clear Od
  clear hp9
  go_upto_if 338 with fail
  refine wp_cut (MeetH [.inr 0, .inl (.slice B' m' c'), .inr 2, .inr 3, .inr 4, .inr 5, .inr 6, .inr 7, .inr 8, .inr 9, .inr 10, .inr 11, .inr 12, .inr 13, .inr 14, .inr 15, .inr 16, .inr 17, .inr 18, .inr 19, .inr 20, .inr 21, .inr 22, .inr 23, .inr 24, .inr 25, .inr 26, .inr 27, .inr 28, .inr 29, .inr 30, .inr 31, .inr 32, .inr 33, .inr 34, .inr 35, .inr 36, .inr 37, .inr 38, .inr 39, .inr 40, .inr 41, .inr 42, .inr 43, .inr 44, .inr 45, .inr 46, .inr 47, .inr 48, .inr 49, .inr 50, .inr 51, .inr 52, .inr 53, .inr 54, .inr 55, .inr 56, .inr 57, .inr 58, .inr 59, .inr 60, .inr 61, .inr 62, .inr 63, .inr 64, .inr 65, .inr 66, .inr 67, .inr 68, .inr 69, .inr 70, .inr 71, .inr 72, .inr 73, .inr 74, .inr 75, .inr 76, .inr 77, .inr 78, .inr 79, .inr 80, .inr 81, .inr 82, .inr 83, .inr 84, .inr 85, .inr 86, .inr 87, .inr 88, .inr 89, .inr 90, .inr 91, .inr 92, .inr 93, .inr 94, .inr 95, .inr 96, .inr 97, .inr 98, .inr 99, .inr 100, .inr 101, .inr 102, .inr 103, .inr 104, .inr 105, .inr 106, .inr 107, .inr 108, .inr 109, .inr 110, .inr 111, .inr 112, .inr 113, .inr 114, .inr 115, .inr 116, .inr 117, .inr 118, .inr 119, .inr 120, .inr 121, .inr 122, .inr 123, .inr 124, .inr 125, .inr 126, .inr 127, .inr 128, .inr 129, .inr 130, .inr 131, .inr 132, .inr 133, .inr 134, .inr 135, .inr 136, .inr 137, .inr 138, .inr 139, .inr 140, .inr 141, .inr 142, .inr 143, .inr 144, .inr 145, .inr 146, .inr 147, .inr 148, .inr 149, .inr 150, .inr 151, .inr 152, .inr 153, .inr 154, .inr 155, .inr 156, .inr 157, .inr 158, .inr 159, .inr 160, .inr 161, .inr 162, .inr 163, .inr 164, .inr 165, .inr 166, .inr 167, .inr 168, .inr 169, .inr 170, .inr 171, .inr 172, .inr 173, .inr 174, .inr 175, .inr 176, .inr 177, .inr 178, .inr 179, .inr 180, .inr 181, .inr 182, .inr 183, .inr 184, .inr 185, .inr 186, .inr 187, .inr 188, .inr 189, .inr 190, .inr 191, .inr 192, .inr 193, .inr 194, .inr 195, .inr 196, .inr 197, .inr 198, .inr 199, .inr 200, .inr 201, .inr 202, .inr 203, .inr 204, .inr 205, .inr 206, .inr 207, .inr 208, .inr 209, .inr 210, .inr 211, .inr 212, .inr 213, .inr 214, .inr 215, .inr 216, .inr 217, .inr 218, .inr 219, .inr 220, .inr 221, .inr 222, .inr 223, .inr 224, .inr 225, .inr 226, .inr 227, .inr 228, .inr 229, .inr 230, .inr 231, .inr 232, .inr 233, .inr 234, .inr 235, .inr 236, .inr 237, .inr 238, .inr 239, .inr 240, .inr 241, .inr 242, .inr 243, .inr 244, .inr 245, .inr 246, .inr 247, .inr 248, .inr 249, .inr 250, .inr 251, .inr 252, .inr 253, .inr 254, .inr 255, .inr 256, .inr 257, .inr 258, .inr 259, .inr 260, .inr 261, .inr 262, .inr 263, .inr 264, .inr 265, .inr 266, .inr 267, .inr 268, .inr 269, .inr 270, .inr 271, .inr 272, .inr 273, .inr 274, .inr 275, .inr 276, .inr 277, .inr 278, .inr 279, .inr 280, .inr 281, .inr 282, .inr 283, .inr 284, .inr 285, .inr 286, .inr 287, .inr 288, .inr 289, .inr 290, .inr 291, .inr 292, .inr 293, .inr 294, .inr 295, .inr 296, .inr 297, .inr 298, .inr 299, .inr 300, .inr 301, .inr 302, .inr 303, .inr 304, .inr 305, .inr 306, .inr 307, .inr 308, .inr 309, .inr 310, .inr 311, .inr 312, .inr 313, .inr 314, .inr 315, .inr 316, .inr 317, .inr 318, .inr 319, .inr 320, .inr 321, .inr 322, .inr 323, .inr 324, .inr 325, .inr 326, .inr 327, .inr 328, .inr 329, .inr 330, .inr 331, .inr 332, .inr 333, .inr 334, .inr 335, .inr 336, .inr 337, .inr 338, .inr 339, .inr 340, .inr 341, .inr 342, .inr 343, .inr 344, .inr 345, .inr 346, .inr 347, .inr 348, .inr 349, .inr 350, .inr 351, .inr 352, .inr 353, .inr 354, .inr 355, .inr 356, .inr 357, .inr 358, .inr 359, .inr 360, .inr 361, .inr 362, .inr 363, .inr 364, .inr 365, .inr 366, .inr 367, .inr 368, .inr 369, .inr 370, .inr 371, .inr 372, .inr 373, .inr 374, .inr 375, .inr 376, .inr 377, .inr 378, .inr 379, .inr 380, .inr 381, .inr 382, .inr 383, .inr 384, .inr 385, .inr 386, .inr 387, .inr 388, .inr 389, .inr 390, .inr 391, .inr 392, .inr 393, .inr 394, .inr 395, .inr 396, .inr 397, .inr 398, .inr 399, .inr 400, .inr 401, .inr 402, .inr 403, .inr 404, .inr 405] (fun wx => Below v31.heap.size v31 wx)) (MeetH.go _ (by rfl) ?_) ?_
  rotate_left
  · intro _ _ _ _
    as_aux_lemma =>
    clear HB HBs
    have HB : Below v31.heap.size v31 v31 := Below.refl _ _
    have HBs : v31.heap.size ≤ v31.heap.size := Nat.le_refl _
    rcases Bool.eq_false_or_eq_true (b7) with h | h
    · simp only [h]
      obtain ⟨P, q⟩ := alf_of (HB7.out.trans h)
      clear h HB7
      obtain ⟨s1, s2, m0, m1, pe, P1, len, rows, ahd⟩ := q
      obtain ⟨N, hN⟩ : ∃ N, (alL gt gm gp).length = N := ⟨_, rfl⟩
      rw [hN] at hl9 len rows ahd
      rw [hN] at Oa
      simp only [hN]
      have hPe : (P : Int) = gp := pe.symm
      have HO := Lib.hid Oa
      have HR := Lib.hid rows
      have HH := Lib.hid ahd
      clear Oa rows ahd hN pe
      generalize rowsOf (alL gt gm gp) = F at *
      go_wp2_with fail
      go_loopw [341] (fun i wr => ∃ k : Nat, k ≤ N ∧ i = .int .i64 k ∧ Below v31.heap.size v31 wr) (fun i _ => N - (intOf i).toNat)
      case atStart => exact ⟨0, by omega, rfl, Below.refl _ _⟩
      case round =>
        obtain ⟨k, hk, rfl, hb⟩ := hrel
        by_cases hlt : k < N
        · have Ow := HO.out.on hb
          obtain ⟨g, o, rfl, hca, hoa⟩ := Ow.at_ hlt
          have qr := HR.out k hlt
          have hki : (k : Int) < (N : Int) := by omega
          rw [qr.len] at hca
          have qe := Lib.hid qr.el
          clear HB HBs
          have HB := hb
          have HBs : v31.heap.size ≤ v31.heap.size := Nat.le_refl _
          clear hb
          go_wp2_with fail
          have qs := qr.sum
          refine (oTotal_any gt (Afa k) P (cfa k) _ (F k) _ s1 s2 qr.len (by omega) hoa (fun k hk => ⟨by have := qe.out k hk; omega, by have := qe.out k hk; omega⟩) (by rw [qs]; omega) gm qs).mono ?_
          rintro e v32 ⟨rfl, hb1⟩
          replace Ow := Ow.on hb1
          replace hoa := hoa.on hb1
          replace HB := below_go HB HBs hb1
          clear hb1
          clear hca qs
          go_wp2_with fail
          refine (oFalls_any (Afa k) P (cfa k) _ _ (F k) 1 _ qr.len (by omega) hoa (fun k hk => (qe.out k hk).1) qr.fall).mono ?_
          rintro e vh ⟨rfl, rfl⟩
          rcases Nat.eq_zero_or_pos k with hk0 | hk0
          · have hk0i : ¬ (0 : Int) < (k : Int) := by omega
            clear hk0
            go_wp2_with fail
            go_roundw
            case rel => exact ⟨k + 1, by omega, by go_num, HB⟩
            case measure => simp [intOf]; omega
          · have hk0i : (0 : Int) < (k : Int) := by omega
            obtain ⟨g2, o2, e2, hcb, hob⟩ := Ow.at_ (k := k - 1) (by omega)
            injection e2 with e2
            injection e2 with e3 e4 _
            subst e3
            subst e4
            rw [(HR.out (k - 1) (by omega)).len] at hcb
            have hah := HH.out (k - 1) (by omega)
            rw [Nat.sub_add_cancel hk0] at hah
            have i1 : IntKind.i64.wrap ((k : Int) - 1) = (k : Int) - 1 := IntWalk.i64_in _ (by omega)
            have i2 : (0 : Int) ≤ (k : Int) - 1 := by omega
            have i3 : (k : Int) - 1 < (N : Int) := by omega
            have i4 : ((k : Int) - 1).toNat = k - 1 := by omega
            have HAH := Lib.hid hah
            have HQ1 := Lib.hid (HR.out (k - 1) (by omega)).len
            have HQ2 := Lib.hid qr.len
            clear hk0 hah qr
            go_wp2_with fail
            refine (oGreater_any (Afa (k - 1)) (Afa k) P (cfa (k - 1)) (cfa k) _ _ _ _ (F (k - 1)) (F k) _ HQ1.out HQ2.out (by omega) hob hoa HAH.out).mono ?_
            rintro e v33 ⟨rfl, hb1⟩
            replace Ow := Ow.on hb1
            replace hoa := hoa.on hb1
            replace HB := below_go HB HBs hb1
            clear hb1
            clear hcb hob i1 i2 i3 i4
            go_wp2_with fail
            go_roundw
            case rel => exact ⟨k + 1, by omega, by go_num, HB⟩
            case measure => simp [intOf]; omega
        · have hki : ¬ (k : Int) < (N : Int) := by omega
          go_wp2_with fail
          refine Met.intro ?_
          go_step
          refine MeetH.of ?_ ?_
          · exact (below_go HB HBs hb)
          repeat (first | refine Agr.skip ?_ | refine Agr.keep ?_ | exact Agr.nil)
    · simp only [h]
      go_wp2_with fail
      refine Met.intro ?_
      go_step
      refine MeetH.of ?_ ?_
      · exact HB
      repeat (first | refine Agr.skip ?_ | refine Agr.keep ?_ | exact Agr.nil)
  intro u34 v34 hb1
  replace hy' := hy'.on hb1
  replace Oa := Oa.on hb1
  replace HB := below_go HB HBs hb1
  clear hb1
  as_aux_lemma =>
  simp only [fillH]
  clear Oa
  clear hl9 HB7
  go_wp2_with fail
  refine (DrawAreParts_any B' m' c' _ hy' (by omega)).mono ?_
  rintro e v35 ⟨gu, A, n, c, Z, rfl, hZ, hn, hO, hb1⟩
  have hR := hO.rd
  clear hO
  clear hy'
  replace HB := below_go HB HBs hb1
  clear hb1
  go_wp2_with fail
  refine (impl_AreParts_any gu A n c Z _ _ hZ (by omega) hR).mono ?_
  rintro e v36 ⟨rfl, hb1⟩
  replace hR := hR.on hb1
  replace HB := below_go HB HBs hb1
  clear hb1
  go_wp2_with fail
  refine (spec_AreParts_any gu A n c Z _ _ hZ (by omega) hR).mono ?_
  rintro e v37 ⟨rfl, hb1⟩
  replace hR := hR.on hb1
  replace HB := below_go HB HBs hb1
  clear hb1
  go_wp2_with fail
  go_ret
  exact ⟨rfl, HB⟩
end Go.Proofs.YtiloljldefodkaaDoor
