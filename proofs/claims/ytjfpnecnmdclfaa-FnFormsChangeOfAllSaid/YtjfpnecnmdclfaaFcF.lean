/- The law FnFormsChangeOfAll, walked: whatever the arguments it answers true. No condition. -/
import Derived.Test.YtjfpnecnmdclfaaBase
import Derived.Test.YtjfpnecnmdclfaaFcB
import Derived.Test.YtjfpnecnmdclfaaFcE
import Derived.Test.YtjfpnecnmdclfaaLwA
import Derived.Test.YtjfpnecnmdclfaaAnW
import Derived.Test.YtjfpnecnmdclfaaCut
import Derived.Lib.Hide
import Derived.Deep.Cut
import Derived.Deep.CutBlock
namespace Go.Proofs.Ytjfpnecnmdclfaa
open Go.ChangeShapes Go.WideShapes Go.ChangeAt Go.RowKit

set_option maxRecDepth 4000 in
set_option maxHeartbeats 16000000 in
theorem walk_FormsChangeOfAll (Lf : Option Addr) (nf cf : Nat) (F : List Int) (Ll : Option Addr) (nl cl : Nat) (Z : List Int) (gs : Int) (Lz : Option Addr) (nz cz : Nat) (S : List Int) (gn gk : Int) (wk : (Lit.int .i64 gk).wf = true) (w : World)
    (hf : F.length = nf) (mf : nf ≤ 9223372036854775807) (hcf : nf ≤ cf) (Of : Own w 0 w.heap.size Lf (i64s F)) (hl : Z.length = nl) (ml : nl ≤ 9223372036854775807) (hcl : nl ≤ cl) (Ol : Own w 0 w.heap.size Ll (i64s Z)) (hz : S.length = nz) (mz : nz ≤ 9223372036854775807) (hcz : nz ≤ cz) (Oz : Own w 0 w.heap.size Lz (i64s S)) :
    Calls Try.prog 4 #[.slice Lf nf cf, .slice Ll nl cl, .int .i64 gs, .slice Lz nz cz, .int .i64 gn, .int .i64 gk] w fun e w' => e = .returned (.bool true) ∧ Below w.heap.size w w' := by
  have HB : Below w.heap.size w w := Below.refl _ _
  have HBs : w.heap.size ≤ w.heap.size := Nat.le_refl _
  have hgk9 : gk ≤ 9223372036854775807 := by
    simp [Lit.wf, IntKind.min, IntKind.max, IntKind.bits, IntKind.signed] at wk
    omega
  clear wk
  rcases Nat.lt_or_ge 10000 nf with hn | hnf
  · have h1 : (10000 : Int) < (nf : Int) := by omega
    go_enter Try.func4, Try.ntmps4
    go_wp2
    go_ret
    exact ⟨rfl, Below.refl _ _⟩
  have g1 : decide ((10000 : Int) < (nf : Int)) = false := decide_eq_false (by omega)
  rcases Nat.lt_or_ge 10000 nl with hn | hnl
  · have h1 : (10000 : Int) < (nl : Int) := by omega
    go_enter Try.func4, Try.ntmps4
    go_wp2
    go_ret
    exact ⟨rfl, Below.refl _ _⟩
  have g2 : decide ((10000 : Int) < (nl : Int)) = false := decide_eq_false (by omega)
  rcases Nat.lt_or_ge 10000 nz with hn | hnz
  · have h1 : (10000 : Int) < (nz : Int) := by omega
    go_enter Try.func4, Try.ntmps4
    go_wp2
    go_ret
    exact ⟨rfl, Below.refl _ _⟩
  have g3 : ¬ (10000 : Int) < (nz : Int) := by omega
  have g4 : ¬ (10000 : Int) < (nf : Int) := by omega
  have g5 : ¬ (10000 : Int) < (nl : Int) := by omega
  go_enter Try.func4, Try.ntmps4
  go_upto_region 3 with fail
  clear g1 g2 g3 g4 g5
  obtain ⟨b1, hb1⟩ : ∃ b : Bool, fsB F = b := ⟨_, rfl⟩
  have Hb1 := Lib.hid hb1
  clear hb1
  obtain ⟨b2, hb2⟩ : ∃ b : Bool, fbB F = b := ⟨_, rfl⟩
  have Hb2 := Lib.hid hb2
  clear hb2
  obtain ⟨b3, hb3⟩ : ∃ b : Bool, tpB F = b := ⟨_, rfl⟩
  have Hb3 := Lib.hid hb3
  clear hb3
  go_wp2_with fail
  refine (impl_FormOfSums_own Lf nf cf _ F _ hf (by omega) Of).mono ?_
  rintro e v1 ⟨As, cs, rfl, Os, hb1⟩
  replace Of := Of.on hb1
  replace Ol := Ol.on hb1
  replace Oz := Oz.on hb1
  replace HB := below_go HB HBs hb1
  clear hb1
  simp only [Hb1.out]
  go_wp2_with fail
  refine (spec_FormOfSums_own Lf nf cf _ F _ hf (by omega) Of).mono ?_
  rintro e v2 ⟨Ar, cr, rfl, Or, hb1⟩
  replace Of := Of.on hb1
  replace Ol := Ol.on hb1
  replace Oz := Oz.on hb1
  replace Os := Os.on hb1
  replace HB := below_go HB HBs hb1
  clear hb1
  simp only [Hb1.out]
  go_wp2_with fail
  refine (impl_FormBehind_own Lf nf cf _ F _ hf (by omega) Of).mono ?_
  rintro e v3 ⟨Ab, cb, rfl, Ob, hb1⟩
  replace Of := Of.on hb1
  replace Ol := Ol.on hb1
  replace Oz := Oz.on hb1
  replace Os := Os.on hb1
  replace Or := Or.on hb1
  replace HB := below_go HB HBs hb1
  clear hb1
  simp only [Hb2.out]
  go_wp2_with fail
  refine (spec_FormBehind_own Lf nf cf _ F _ hf (by omega) Of).mono ?_
  rintro e v4 ⟨Ad, cd, rfl, Od, hb1⟩
  replace Of := Of.on hb1
  replace Ol := Ol.on hb1
  replace Oz := Oz.on hb1
  replace Os := Os.on hb1
  replace Or := Or.on hb1
  replace Ob := Ob.on hb1
  replace HB := below_go HB HBs hb1
  clear hb1
  simp only [Hb2.out]
  go_wp2_with fail
  refine (impl_TimesPlace_own Lf nf cf _ F _ hf (by omega) Of).mono ?_
  rintro e v5 ⟨At, ct, rfl, Ot, hb1⟩
  replace Of := Of.on hb1
  replace Ol := Ol.on hb1
  replace Oz := Oz.on hb1
  replace Os := Os.on hb1
  replace Or := Or.on hb1
  replace Ob := Ob.on hb1
  replace Od := Od.on hb1
  replace HB := below_go HB HBs hb1
  clear hb1
  simp only [Hb3.out]
  go_wp2_with fail
  refine (spec_TimesPlace_own Lf nf cf _ F _ hf (by omega) Of).mono ?_
  rintro e v6 ⟨Am, cm, rfl, Om, hb1⟩
  replace Of := Of.on hb1
  replace Ol := Ol.on hb1
  replace Oz := Oz.on hb1
  replace Os := Os.on hb1
  replace Or := Or.on hb1
  replace Ob := Ob.on hb1
  replace Od := Od.on hb1
  replace Ot := Ot.on hb1
  replace HB := below_go HB HBs hb1
  clear hb1
  simp only [Hb3.out]
  have hs9 := fs_len F
  have hb9 := fb_len F
  have ht9 := tp_len F
  go_wp2_with fail
  refine (oSame_b As Ar _ cs cr _ _ _ _ (fsL F) _ rfl (by omega) Os Or).mono ?_
  rintro e v7 ⟨rfl, hb1⟩
  replace Of := Of.on hb1
  replace Ol := Ol.on hb1
  replace Oz := Oz.on hb1
  replace Os := Os.on hb1
  replace Or := Or.on hb1
  replace Ob := Ob.on hb1
  replace Od := Od.on hb1
  replace Ot := Ot.on hb1
  replace Om := Om.on hb1
  replace HB := below_go HB HBs hb1
  clear hb1
  go_wp2_with fail
  refine (oSame_b Ab Ad _ cb cd _ _ _ _ (fbL F) _ rfl (by omega) Ob Od).mono ?_
  rintro e v8 ⟨rfl, hb1⟩
  replace Of := Of.on hb1
  replace Ol := Ol.on hb1
  replace Oz := Oz.on hb1
  replace Os := Os.on hb1
  replace Or := Or.on hb1
  replace Ob := Ob.on hb1
  replace Od := Od.on hb1
  replace Ot := Ot.on hb1
  replace Om := Om.on hb1
  replace HB := below_go HB HBs hb1
  clear hb1
  go_wp2_with fail
  refine (oSame_b At Am _ ct cm _ _ _ _ (tpL F) _ rfl (by omega) Ot Om).mono ?_
  rintro e v9 ⟨rfl, hb1⟩
  replace Of := Of.on hb1
  replace Ol := Ol.on hb1
  replace Oz := Oz.on hb1
  replace Os := Os.on hb1
  replace Or := Or.on hb1
  replace Ob := Ob.on hb1
  replace Od := Od.on hb1
  replace Ot := Ot.on hb1
  replace Om := Om.on hb1
  replace HB := below_go HB HBs hb1
  clear hb1
  clear Or Od Om
  go_upto_block 0 with fail
  refine wp_cut (MeetH [.inr 0, .inl (.slice Ll nl cl), .inl (.int .i64 (gs)), .inl (.slice Lz nz cz), .inl (.int .i64 (gn)), .inl (.int .i64 (gk)), .inr 6, .inr 7, .inr 8, .inr 9, .inr 10, .inr 11, .inr 12, .inr 13, .inr 14, .inr 15, .inr 16, .inr 17, .inr 18, .inr 19, .inr 20, .inr 21, .inr 22, .inr 23, .inr 24, .inr 25, .inr 26, .inr 27, .inr 28, .inr 29, .inr 30, .inr 31, .inr 32, .inr 33, .inr 34, .inr 35, .inr 36, .inr 37, .inr 38, .inr 39, .inr 40, .inr 41, .inr 42, .inr 43, .inr 44, .inr 45, .inr 46, .inr 47, .inr 48, .inr 49, .inr 50, .inr 51, .inr 52, .inr 53, .inr 54, .inr 55, .inr 56, .inr 57, .inr 58, .inr 59, .inr 60, .inr 61, .inr 62, .inr 63, .inr 64, .inr 65, .inr 66, .inr 67, .inr 68, .inr 69, .inr 70, .inr 71, .inr 72, .inr 73, .inr 74, .inr 75, .inr 76, .inr 77, .inr 78, .inr 79, .inr 80, .inr 81, .inr 82, .inr 83, .inr 84, .inr 85, .inr 86, .inr 87, .inr 88, .inr 89, .inr 90, .inr 91, .inr 92, .inr 93, .inr 94, .inr 95, .inr 96, .inr 97, .inr 98, .inr 99, .inr 100, .inr 101, .inr 102, .inr 103, .inr 104, .inr 105, .inr 106, .inr 107, .inr 108, .inr 109, .inr 110, .inr 111, .inr 112, .inr 113, .inr 114, .inr 115, .inr 116, .inr 117, .inr 118, .inr 119, .inr 120, .inr 121, .inr 122, .inr 123, .inr 124, .inr 125, .inr 126, .inr 127, .inr 128, .inr 129, .inr 130, .inr 131, .inr 132, .inr 133, .inr 134, .inr 135, .inr 136, .inr 137, .inr 138, .inr 139, .inr 140, .inr 141, .inr 142, .inr 143, .inr 144, .inr 145, .inr 146, .inr 147, .inr 148, .inr 149, .inr 150, .inr 151, .inr 152, .inr 153, .inr 154, .inr 155, .inr 156, .inr 157, .inr 158, .inr 159, .inr 160, .inr 161, .inr 162, .inr 163, .inr 164, .inr 165, .inr 166, .inr 167, .inr 168, .inr 169, .inr 170, .inr 171, .inr 172, .inr 173, .inr 174, .inr 175, .inr 176, .inr 177, .inr 178, .inr 179, .inr 180, .inr 181, .inr 182, .inr 183, .inr 184, .inr 185, .inr 186, .inr 187, .inr 188, .inr 189, .inr 190, .inr 191, .inr 192, .inr 193, .inr 194, .inr 195, .inr 196, .inr 197, .inr 198, .inr 199, .inr 200, .inr 201, .inr 202, .inr 203, .inr 204, .inr 205, .inr 206, .inr 207, .inr 208, .inr 209, .inr 210, .inr 211, .inr 212, .inr 213, .inr 214, .inr 215, .inr 216, .inr 217, .inr 218, .inr 219, .inr 220, .inr 221, .inr 222, .inr 223, .inr 224, .inr 225, .inr 226, .inr 227, .inr 228, .inr 229, .inr 230, .inr 231, .inr 232, .inr 233, .inr 234, .inr 235, .inr 236, .inr 237, .inr 238, .inr 239, .inr 240, .inr 241, .inr 242, .inr 243, .inr 244, .inr 245, .inr 246, .inr 247, .inr 248, .inr 249, .inr 250, .inr 251, .inr 252, .inr 253, .inr 254, .inr 255, .inr 256, .inr 257, .inr 258, .inr 259, .inr 260, .inr 261, .inr 262, .inr 263, .inr 264, .inr 265, .inr 266, .inr 267, .inr 268, .inr 269, .inr 270, .inr 271, .inr 272, .inr 273, .inr 274, .inr 275, .inr 276, .inr 277, .inr 278, .inr 279, .inr 280, .inr 281, .inr 282, .inr 283, .inr 284, .inr 285, .inr 286, .inr 287, .inr 288, .inr 289, .inr 290, .inr 291, .inr 292, .inr 293, .inr 294, .inr 295, .inr 296, .inr 297, .inr 298, .inr 299, .inr 300, .inr 301, .inr 302, .inr 303, .inr 304, .inr 305, .inr 306, .inr 307, .inr 308, .inr 309, .inr 310, .inr 311, .inr 312, .inr 313, .inr 314, .inr 315, .inr 316, .inr 317, .inr 318, .inr 319, .inr 320, .inr 321, .inr 322, .inr 323, .inr 324, .inr 325, .inr 326, .inr 327, .inr 328, .inr 329, .inr 330, .inr 331, .inr 332, .inr 333, .inr 334, .inr 335, .inr 336, .inr 337, .inr 338, .inr 339, .inr 340, .inr 341, .inr 342, .inr 343, .inr 344, .inr 345, .inr 346, .inr 347, .inr 348, .inr 349, .inr 350, .inr 351, .inr 352, .inr 353, .inr 354, .inr 355, .inr 356, .inr 357, .inr 358, .inr 359, .inr 360, .inr 361, .inr 362, .inr 363, .inr 364, .inr 365, .inr 366, .inr 367, .inr 368, .inr 369, .inr 370, .inr 371, .inr 372, .inr 373, .inr 374, .inr 375, .inr 376, .inr 377, .inr 378, .inr 379, .inr 380, .inr 381, .inr 382, .inr 383, .inr 384, .inr 385, .inr 386, .inr 387, .inr 388, .inr 389, .inr 390, .inr 391, .inr 392, .inr 393, .inr 394, .inr 395, .inr 396, .inr 397, .inr 398, .inr 399, .inr 400, .inr 401, .inr 402, .inr 403, .inr 404, .inr 405, .inr 406, .inr 407, .inr 408, .inr 409, .inr 410, .inr 411, .inr 412, .inr 413, .inr 414, .inr 415, .inr 416, .inr 417, .inr 418, .inr 419, .inr 420, .inr 421, .inr 422, .inr 423, .inr 424, .inr 425, .inr 426, .inr 427, .inr 428, .inr 429, .inr 430, .inr 431, .inr 432, .inr 433, .inr 434, .inr 435, .inr 436, .inr 437, .inr 438, .inr 439, .inr 440, .inr 441, .inr 442, .inr 443, .inr 444, .inr 445, .inr 446, .inr 447, .inr 448, .inr 449, .inr 450, .inr 451, .inr 452, .inr 453, .inr 454, .inr 455, .inr 456, .inr 457, .inr 458, .inr 459] (fun wx => Below v9.heap.size v9 wx)) (MeetH.go _ (by rfl) ?_) ?_
  rotate_left
  · intro _ _ _ _
    as_aux_lemma =>
    clear HB HBs
    have HB : Below v9.heap.size v9 v9 := Below.refl _ _
    have HBs : v9.heap.size ≤ v9.heap.size := Nat.le_refl _
    rcases Bool.eq_false_or_eq_true (fm8 F) with hfm | hfm
    rotate_left
    · go_wp2_with fail
      go_loopw [25, 26] (fun t i wr => i = .int .i64 0 ∧ Below v9.heap.size v9 wr) (fun _ _ _ => 0)
      case atStart => exact ⟨rfl, Below.refl _ _⟩
      case round =>
        obtain ⟨rfl, hb⟩ := hrel
        have Ow := Of.on hb
        go_wp2_with fail
        refine (impl_ValueOf_none F 0 Lf nf cf _ _ hf (by omega) Ow hfm).mono ?_
        rintro e w2 ⟨rfl, hb2⟩
        replace hb := hb.trans (hb2.mono hb.size)
        go_wp2_with fail
        refine Met.intro ?_
        go_step
        refine MeetH.of ?_ ?_
        · exact hb
        repeat (first | refine Agr.skip ?_ | refine Agr.keep ?_ | exact Agr.nil)
    have HS := Lib.hid Os
    have HBh := Lib.hid Ob
    have HT := Lib.hid Ot
    have HF := Lib.hid Of
    obtain ⟨ns, hns⟩ : ∃ k, (fsL F).length = k := ⟨_, rfl⟩
    obtain ⟨nb, hnb⟩ : ∃ k, (fbL F).length = k := ⟨_, rfl⟩
    obtain ⟨nt, hnt⟩ : ∃ k, (tpL F).length = k := ⟨_, rfl⟩
    rw [hns] at hs9
    rw [hnb] at hb9
    rw [hnt] at ht9
    simp only [hns, hnb, hnt]
    have HNS := Lib.hid hns
    have HNB := Lib.hid hnb
    have HNT := Lib.hid hnt
    clear Os Ob Ot Of hns hnb hnt
    go_wp2_with fail
    go_loopw [25, 26] (fun t i wr => ∃ k : Nat, k ≤ 7 ∧ i = .int .i64 k ∧ t = .int .i64 (tot8 F k) ∧ Below v9.heap.size v9 wr) (fun _ i _ => 7 - (intOf i).toNat)
    case atStart => exact ⟨0, by omega, rfl, rfl, Below.refl _ _⟩
    case round =>
      obtain ⟨k, hk, rfl, rfl, hb⟩ := hrel
      by_cases hlt : k ≤ 6
      · have hki : (k : Int) ≤ 6 := by omega
        have OF := HF.out.on hb
        have OS := HS.out.on hb
        have OB := HBh.out.on hb
        have OT := HT.out.on hb
        have tb := tot8_bd hfm k (by omega)
        have xb := val8_small (fm8_bd hfm) (n := k) (by omega)
        have HE := Lib.hid (tot8_succ F k)
        obtain ⟨x, hx⟩ : ∃ x, val8 F k = x := ⟨_, rfl⟩
        rw [hx] at xb HE
        have HX := Lib.hid hx
        have HR : Hid (∀ v : Value, v = .int .i64 (tot8 F k + x) → v = .int .i64 (tot8 F (k + 1))) := Lib.hid fun v h => by rw [HE.out]; exact h
        obtain ⟨p, hp⟩ : ∃ p, tot8 F k = p := ⟨_, rfl⟩
        rw [hp] at HR tb
        simp only [hp]
        have HPt := Lib.hid hp
        have hw : IntKind.i64.wrap (p + x) = p + x := IntWalk.i64_in _ (by omega)
        clear HB HBs hx hp tb xb
        have HB := hb
        have HBs : v9.heap.size ≤ v9.heap.size := Nat.le_refl _
        clear hb
        go_wp2_with fail
        refine (impl_ValueOf_at F k Lf nf cf _ _ hf OF hfm (by omega) x HX.out).mono ?_
        rintro e v10 ⟨rfl, hb1⟩
        replace OF := OF.on hb1
        replace OS := OS.on hb1
        replace OB := OB.on hb1
        replace OT := OT.on hb1
        replace HB := below_go HB HBs hb1
        clear hb1
        cases b1
        · skip
          cases b3
          · skip
            cases b2
            · skip
              go_wp2_with fail
              go_roundw
              case rel => exact ⟨k + 1, by omega, by go_num, HR.out _ rfl, HB⟩
              case measure => simp [intOf] <;> omega
            · rcases Nat.eq_zero_or_pos k with hk0 | hk0
              · have hk1 : ¬ (0 : Int) < (k : Int) := by omega
                clear hk0
                go_wp2_with fail
                go_roundw
                case rel => exact ⟨k + 1, by omega, by go_num, HR.out _ rfl, HB⟩
                case measure => simp [intOf] <;> omega
              · have hk1 : (0 : Int) < (k : Int) := by omega
                obtain ⟨f1, f2⟩ := fb_val Hb2.out
                have f3 : val8 (fbL F) (k - 1) = x := by rw [f2, Nat.sub_add_cancel hk0]; exact HX.out
                have i1 : IntKind.i64.wrap ((k : Int) - 1) = ((k - 1 : Nat) : Int) := by rw [IntWalk.i64_in _ (by omega)]; omega
                have F1 := Lib.hid f1
                have F3 := Lib.hid f3
                clear f1 f2 f3 hk0
                go_wp2_with fail
                refine (impl_ValueOf_at (fbL F) (k - 1) Ab nb cb _ _ HNB.out OB F1.out (by omega) x F3.out).mono ?_
                rintro e v11 ⟨rfl, hb1⟩
                replace OF := OF.on hb1
                replace OS := OS.on hb1
                replace OB := OB.on hb1
                replace OT := OT.on hb1
                replace HB := below_go HB HBs hb1
                clear hb1
                go_wp2_with fail
                go_roundw
                case rel => exact ⟨k + 1, by omega, by go_num, HR.out _ rfl, HB⟩
                case measure => simp [intOf] <;> omega
          · obtain ⟨f1, f2⟩ := tp_val Hb3.out
            have f3 := f2 k
            rw [HX.out] at f3
            have f4 := val8_small (fm8_bd f1) (n := k) (by omega)
            rw [f3] at f4
            have hkx : IntKind.i64.wrap ((k : Int) * x) = (k : Int) * x := IntWalk.i64_in _ (by omega)
            have F1 := Lib.hid f1
            have F3 := Lib.hid f3
            clear f1 f2 f3 f4
            go_wp2_with fail
            refine (impl_ValueOf_at (tpL F) k At nt ct _ _ HNT.out OT F1.out (by omega) ((k : Int) * x) F3.out).mono ?_
            rintro e v12 ⟨rfl, hb1⟩
            replace OF := OF.on hb1
            replace OS := OS.on hb1
            replace OB := OB.on hb1
            replace OT := OT.on hb1
            replace HB := below_go HB HBs hb1
            clear hb1
            cases b2
            · skip
              go_wp2_with fail
              go_roundw
              case rel => exact ⟨k + 1, by omega, by go_num, HR.out _ rfl, HB⟩
              case measure => simp [intOf] <;> omega
            · rcases Nat.eq_zero_or_pos k with hk0 | hk0
              · have hk1 : ¬ (0 : Int) < (k : Int) := by omega
                clear hk0
                go_wp2_with fail
                go_roundw
                case rel => exact ⟨k + 1, by omega, by go_num, HR.out _ rfl, HB⟩
                case measure => simp [intOf] <;> omega
              · have hk1 : (0 : Int) < (k : Int) := by omega
                obtain ⟨f1, f2⟩ := fb_val Hb2.out
                have f3 : val8 (fbL F) (k - 1) = x := by rw [f2, Nat.sub_add_cancel hk0]; exact HX.out
                have i1 : IntKind.i64.wrap ((k : Int) - 1) = ((k - 1 : Nat) : Int) := by rw [IntWalk.i64_in _ (by omega)]; omega
                have F1 := Lib.hid f1
                have F3 := Lib.hid f3
                clear f1 f2 f3 hk0
                go_wp2_with fail
                refine (impl_ValueOf_at (fbL F) (k - 1) Ab nb cb _ _ HNB.out OB F1.out (by omega) x F3.out).mono ?_
                rintro e v13 ⟨rfl, hb1⟩
                replace OF := OF.on hb1
                replace OS := OS.on hb1
                replace OB := OB.on hb1
                replace OT := OT.on hb1
                replace HB := below_go HB HBs hb1
                clear hb1
                go_wp2_with fail
                go_roundw
                case rel => exact ⟨k + 1, by omega, by go_num, HR.out _ rfl, HB⟩
                case measure => simp [intOf] <;> omega
        · obtain ⟨f1, f2⟩ := fs_val Hb1.out
          have F1 := Lib.hid f1
          have F3 := Lib.hid ((f2 k).trans HPt.out)
          clear f1 f2
          go_wp2_with fail
          refine (impl_ValueOf_at (fsL F) k As ns cs _ _ HNS.out OS F1.out (by omega) p F3.out).mono ?_
          rintro e v14 ⟨rfl, hb1⟩
          replace OF := OF.on hb1
          replace OS := OS.on hb1
          replace OB := OB.on hb1
          replace OT := OT.on hb1
          replace HB := below_go HB HBs hb1
          clear hb1
          clear F1 F3
          cases b3
          · skip
            cases b2
            · skip
              go_wp2_with fail
              go_roundw
              case rel => exact ⟨k + 1, by omega, by go_num, HR.out _ rfl, HB⟩
              case measure => simp [intOf] <;> omega
            · rcases Nat.eq_zero_or_pos k with hk0 | hk0
              · have hk1 : ¬ (0 : Int) < (k : Int) := by omega
                clear hk0
                go_wp2_with fail
                go_roundw
                case rel => exact ⟨k + 1, by omega, by go_num, HR.out _ rfl, HB⟩
                case measure => simp [intOf] <;> omega
              · have hk1 : (0 : Int) < (k : Int) := by omega
                obtain ⟨f1, f2⟩ := fb_val Hb2.out
                have f3 : val8 (fbL F) (k - 1) = x := by rw [f2, Nat.sub_add_cancel hk0]; exact HX.out
                have i1 : IntKind.i64.wrap ((k : Int) - 1) = ((k - 1 : Nat) : Int) := by rw [IntWalk.i64_in _ (by omega)]; omega
                have F1 := Lib.hid f1
                have F3 := Lib.hid f3
                clear f1 f2 f3 hk0
                go_wp2_with fail
                refine (impl_ValueOf_at (fbL F) (k - 1) Ab nb cb _ _ HNB.out OB F1.out (by omega) x F3.out).mono ?_
                rintro e v15 ⟨rfl, hb1⟩
                replace OF := OF.on hb1
                replace OS := OS.on hb1
                replace OB := OB.on hb1
                replace OT := OT.on hb1
                replace HB := below_go HB HBs hb1
                clear hb1
                go_wp2_with fail
                go_roundw
                case rel => exact ⟨k + 1, by omega, by go_num, HR.out _ rfl, HB⟩
                case measure => simp [intOf] <;> omega
          · obtain ⟨f1, f2⟩ := tp_val Hb3.out
            have f3 := f2 k
            rw [HX.out] at f3
            have f4 := val8_small (fm8_bd f1) (n := k) (by omega)
            rw [f3] at f4
            have hkx : IntKind.i64.wrap ((k : Int) * x) = (k : Int) * x := IntWalk.i64_in _ (by omega)
            have F1 := Lib.hid f1
            have F3 := Lib.hid f3
            clear f1 f2 f3 f4
            go_wp2_with fail
            refine (impl_ValueOf_at (tpL F) k At nt ct _ _ HNT.out OT F1.out (by omega) ((k : Int) * x) F3.out).mono ?_
            rintro e v16 ⟨rfl, hb1⟩
            replace OF := OF.on hb1
            replace OS := OS.on hb1
            replace OB := OB.on hb1
            replace OT := OT.on hb1
            replace HB := below_go HB HBs hb1
            clear hb1
            cases b2
            · skip
              go_wp2_with fail
              go_roundw
              case rel => exact ⟨k + 1, by omega, by go_num, HR.out _ rfl, HB⟩
              case measure => simp [intOf] <;> omega
            · rcases Nat.eq_zero_or_pos k with hk0 | hk0
              · have hk1 : ¬ (0 : Int) < (k : Int) := by omega
                clear hk0
                go_wp2_with fail
                go_roundw
                case rel => exact ⟨k + 1, by omega, by go_num, HR.out _ rfl, HB⟩
                case measure => simp [intOf] <;> omega
              · have hk1 : (0 : Int) < (k : Int) := by omega
                obtain ⟨f1, f2⟩ := fb_val Hb2.out
                have f3 : val8 (fbL F) (k - 1) = x := by rw [f2, Nat.sub_add_cancel hk0]; exact HX.out
                have i1 : IntKind.i64.wrap ((k : Int) - 1) = ((k - 1 : Nat) : Int) := by rw [IntWalk.i64_in _ (by omega)]; omega
                have F1 := Lib.hid f1
                have F3 := Lib.hid f3
                clear f1 f2 f3 hk0
                go_wp2_with fail
                refine (impl_ValueOf_at (fbL F) (k - 1) Ab nb cb _ _ HNB.out OB F1.out (by omega) x F3.out).mono ?_
                rintro e v17 ⟨rfl, hb1⟩
                replace OF := OF.on hb1
                replace OS := OS.on hb1
                replace OB := OB.on hb1
                replace OT := OT.on hb1
                replace HB := below_go HB HBs hb1
                clear hb1
                go_wp2_with fail
                go_roundw
                case rel => exact ⟨k + 1, by omega, by go_num, HR.out _ rfl, HB⟩
                case measure => simp [intOf] <;> omega
      · have hki : ¬ (k : Int) ≤ 6 := by omega
        go_wp2
        refine Met.intro ?_
        go_step
        refine MeetH.of ?_ ?_
        · exact hb
        repeat (first | refine Agr.skip ?_ | refine Agr.keep ?_ | exact Agr.nil)
  intro u18 v18 hb1
  replace Of := Of.on hb1
  replace Ol := Ol.on hb1
  replace Oz := Oz.on hb1
  replace Os := Os.on hb1
  replace Ob := Ob.on hb1
  replace Ot := Ot.on hb1
  replace HB := below_go HB HBs hb1
  clear hb1
  as_aux_lemma =>
  simp only [fillH]
  clear Of Os Ob Ot
  clear hs9 hb9 ht9 Hb1 Hb2 Hb3
  obtain ⟨b5, hb5⟩ : ∃ b : Bool, tfB Z = b := ⟨_, rfl⟩
  have Hb5 := Lib.hid hb5
  clear hb5
  obtain ⟨b7, hb7⟩ : ∃ b : Bool, utB Z = b := ⟨_, rfl⟩
  have Hb7 := Lib.hid hb7
  clear hb7
  go_wp2_with fail
  refine (impl_TransformOf_own Ll nl cl _ Z _ hl (by omega) Ol).mono ?_
  rintro e v19 ⟨Ap, cp, rfl, Op, hb1⟩
  replace Ol := Ol.on hb1
  replace Oz := Oz.on hb1
  replace HB := below_go HB HBs hb1
  clear hb1
  simp only [Hb5.out]
  go_wp2_with fail
  refine (spec_TransformOf_own Ll nl cl _ Z _ hl (by omega) Ol).mono ?_
  rintro e v20 ⟨Aq, cq, rfl, Oq, hb1⟩
  replace Ol := Ol.on hb1
  replace Oz := Oz.on hb1
  replace Op := Op.on hb1
  replace HB := below_go HB HBs hb1
  clear hb1
  simp only [Hb5.out]
  go_wp2_with fail
  refine (impl_UndoTransform_own Ll nl cl _ Z _ hl (by omega) Ol).mono ?_
  rintro e v21 ⟨Au, cu, rfl, Ou, hb1⟩
  replace Ol := Ol.on hb1
  replace Oz := Oz.on hb1
  replace Op := Op.on hb1
  replace Oq := Oq.on hb1
  replace HB := below_go HB HBs hb1
  clear hb1
  simp only [Hb7.out]
  go_wp2_with fail
  refine (spec_UndoTransform_own Ll nl cl _ Z _ hl (by omega) Ol).mono ?_
  rintro e v22 ⟨Av, cv, rfl, Ov, hb1⟩
  replace Ol := Ol.on hb1
  replace Oz := Oz.on hb1
  replace Op := Op.on hb1
  replace Oq := Oq.on hb1
  replace Ou := Ou.on hb1
  replace HB := below_go HB HBs hb1
  clear hb1
  simp only [Hb7.out]
  have hp9 := tf_len Z
  have hu9 := ut_len Z
  go_wp2_with fail
  refine (oSame_b Ap Aq _ cp cq _ _ _ _ (tfL Z) _ rfl (by omega) Op Oq).mono ?_
  rintro e v23 ⟨rfl, hb1⟩
  replace Ol := Ol.on hb1
  replace Oz := Oz.on hb1
  replace Op := Op.on hb1
  replace Oq := Oq.on hb1
  replace Ou := Ou.on hb1
  replace Ov := Ov.on hb1
  replace HB := below_go HB HBs hb1
  clear hb1
  go_wp2_with fail
  refine (oSame_b Au Av _ cu cv _ _ _ _ (utL Z) _ rfl (by omega) Ou Ov).mono ?_
  rintro e v24 ⟨rfl, hb1⟩
  replace Ol := Ol.on hb1
  replace Oz := Oz.on hb1
  replace Op := Op.on hb1
  replace Oq := Oq.on hb1
  replace Ou := Ou.on hb1
  replace Ov := Ov.on hb1
  replace HB := below_go HB HBs hb1
  clear hb1
  clear Oq Ov
  go_upto_if 254 with fail
  refine wp_cut (MeetH [.inr 0, .inl (.slice Ll nl cl), .inl (.int .i64 (gs)), .inl (.slice Lz nz cz), .inl (.int .i64 (gn)), .inl (.int .i64 (gk)), .inr 6, .inr 7, .inr 8, .inr 9, .inr 10, .inr 11, .inr 12, .inr 13, .inr 14, .inr 15, .inr 16, .inr 17, .inr 18, .inr 19, .inr 20, .inr 21, .inr 22, .inr 23, .inr 24, .inr 25, .inr 26, .inr 27, .inr 28, .inr 29, .inr 30, .inr 31, .inr 32, .inr 33, .inr 34, .inr 35, .inr 36, .inr 37, .inr 38, .inl (.slice Au (utL Z).length cu), .inl (.bool (b7)), .inr 41, .inr 42, .inr 43, .inr 44, .inr 45, .inr 46, .inr 47, .inr 48, .inr 49, .inr 50, .inr 51, .inr 52, .inr 53, .inr 54, .inr 55, .inr 56, .inr 57, .inr 58, .inr 59, .inr 60, .inr 61, .inr 62, .inr 63, .inr 64, .inr 65, .inr 66, .inr 67, .inr 68, .inr 69, .inr 70, .inr 71, .inr 72, .inr 73, .inr 74, .inr 75, .inr 76, .inr 77, .inr 78, .inr 79, .inr 80, .inr 81, .inr 82, .inr 83, .inr 84, .inr 85, .inr 86, .inr 87, .inr 88, .inr 89, .inr 90, .inr 91, .inr 92, .inr 93, .inr 94, .inr 95, .inr 96, .inr 97, .inr 98, .inr 99, .inr 100, .inr 101, .inr 102, .inr 103, .inr 104, .inr 105, .inr 106, .inr 107, .inr 108, .inr 109, .inr 110, .inr 111, .inr 112, .inr 113, .inr 114, .inr 115, .inr 116, .inr 117, .inr 118, .inr 119, .inr 120, .inr 121, .inr 122, .inr 123, .inr 124, .inr 125, .inr 126, .inr 127, .inr 128, .inr 129, .inr 130, .inr 131, .inr 132, .inr 133, .inr 134, .inr 135, .inr 136, .inr 137, .inr 138, .inr 139, .inr 140, .inr 141, .inr 142, .inr 143, .inr 144, .inr 145, .inr 146, .inr 147, .inr 148, .inr 149, .inr 150, .inr 151, .inr 152, .inr 153, .inr 154, .inr 155, .inr 156, .inr 157, .inr 158, .inr 159, .inr 160, .inr 161, .inr 162, .inr 163, .inr 164, .inr 165, .inr 166, .inr 167, .inr 168, .inr 169, .inr 170, .inr 171, .inr 172, .inr 173, .inr 174, .inr 175, .inr 176, .inr 177, .inr 178, .inr 179, .inr 180, .inr 181, .inr 182, .inr 183, .inr 184, .inr 185, .inr 186, .inr 187, .inr 188, .inr 189, .inr 190, .inr 191, .inr 192, .inr 193, .inr 194, .inr 195, .inr 196, .inr 197, .inr 198, .inr 199, .inr 200, .inr 201, .inr 202, .inr 203, .inr 204, .inr 205, .inr 206, .inr 207, .inr 208, .inr 209, .inr 210, .inr 211, .inr 212, .inr 213, .inr 214, .inr 215, .inr 216, .inr 217, .inr 218, .inr 219, .inr 220, .inr 221, .inr 222, .inr 223, .inr 224, .inr 225, .inr 226, .inr 227, .inr 228, .inr 229, .inr 230, .inr 231, .inr 232, .inr 233, .inr 234, .inr 235, .inr 236, .inr 237, .inr 238, .inr 239, .inr 240, .inr 241, .inr 242, .inr 243, .inr 244, .inr 245, .inr 246, .inr 247, .inr 248, .inr 249, .inr 250, .inr 251, .inr 252, .inr 253, .inr 254, .inr 255, .inr 256, .inr 257, .inr 258, .inr 259, .inr 260, .inr 261, .inr 262, .inr 263, .inr 264, .inr 265, .inr 266, .inr 267, .inr 268, .inr 269, .inr 270, .inr 271, .inr 272, .inr 273, .inr 274, .inr 275, .inr 276, .inr 277, .inr 278, .inr 279, .inr 280, .inr 281, .inr 282, .inr 283, .inr 284, .inr 285, .inr 286, .inr 287, .inr 288, .inr 289, .inr 290, .inr 291, .inr 292, .inr 293, .inr 294, .inr 295, .inr 296, .inr 297, .inr 298, .inr 299, .inr 300, .inr 301, .inr 302, .inr 303, .inr 304, .inr 305, .inr 306, .inr 307, .inr 308, .inr 309, .inr 310, .inr 311, .inr 312, .inr 313, .inr 314, .inr 315, .inr 316, .inr 317, .inr 318, .inr 319, .inr 320, .inr 321, .inr 322, .inr 323, .inr 324, .inr 325, .inr 326, .inr 327, .inr 328, .inr 329, .inr 330, .inr 331, .inr 332, .inr 333, .inr 334, .inr 335, .inr 336, .inr 337, .inr 338, .inr 339, .inr 340, .inr 341, .inr 342, .inr 343, .inr 344, .inr 345, .inr 346, .inr 347, .inr 348, .inr 349, .inr 350, .inr 351, .inr 352, .inr 353, .inr 354, .inr 355, .inr 356, .inr 357, .inr 358, .inr 359, .inr 360, .inr 361, .inr 362, .inr 363, .inr 364, .inr 365, .inr 366, .inr 367, .inr 368, .inr 369, .inr 370, .inr 371, .inr 372, .inr 373, .inr 374, .inr 375, .inr 376, .inr 377, .inr 378, .inr 379, .inr 380, .inr 381, .inr 382, .inr 383, .inr 384, .inr 385, .inr 386, .inr 387, .inr 388, .inr 389, .inr 390, .inr 391, .inr 392, .inr 393, .inr 394, .inr 395, .inr 396, .inr 397, .inr 398, .inr 399, .inr 400, .inr 401, .inr 402, .inr 403, .inr 404, .inr 405, .inr 406, .inr 407, .inr 408, .inr 409, .inr 410, .inr 411, .inr 412, .inr 413, .inr 414, .inr 415, .inr 416, .inr 417, .inr 418, .inr 419, .inr 420, .inr 421, .inr 422, .inr 423, .inr 424, .inr 425, .inr 426, .inr 427, .inr 428, .inr 429, .inr 430, .inr 431, .inr 432, .inr 433, .inr 434, .inr 435, .inr 436, .inr 437, .inr 438, .inr 439, .inr 440, .inr 441, .inr 442, .inr 443, .inr 444, .inr 445, .inr 446, .inr 447, .inr 448, .inr 449, .inr 450, .inr 451, .inr 452, .inr 453, .inr 454, .inr 455, .inr 456, .inr 457, .inr 458, .inr 459] (fun wx => Below v24.heap.size v24 wx)) (MeetH.go _ (by rfl) ?_) ?_
  rotate_left
  · intro _ _ _ _
    as_aux_lemma =>
    clear HB HBs
    have HB : Below v24.heap.size v24 v24 := Below.refl _ _
    have HBs : v24.heap.size ≤ v24.heap.size := Nat.le_refl _
    rcases Bool.eq_false_or_eq_true (b5) with h | h
    · simp only [h]
      obtain ⟨t1, t2, t3, t4⟩ := tf_back (Hb5.out.trans h)
      clear h Hb5 Hb7
      obtain ⟨P, hP⟩ : ∃ P, (tfL Z).length = P := ⟨_, rfl⟩
      rw [hP] at hp9
      simp only [hP]
      go_wp2_with fail
      refine (impl_UndoTransform_own Ap P cp _ (tfL Z) _ hP (by omega) Op).mono ?_
      rintro e v25 ⟨Ak, ck, rfl, Ok, hb1⟩
      replace Ol := Ol.on hb1
      replace Oz := Oz.on hb1
      replace Op := Op.on hb1
      replace Ou := Ou.on hb1
      replace HB := below_go HB HBs hb1
      clear hb1
      simp only [t1, t2, hl]
      rw [t2] at Ok
      clear t1 t2
      go_wp2_with fail
      refine (oSame_b Ak Ll nl ck cl _ _ _ _ Z _ hl (by omega) Ok Ol).mono ?_
      rintro e v26 ⟨rfl, hb1⟩
      replace Ol := Ol.on hb1
      replace Oz := Oz.on hb1
      replace Op := Op.on hb1
      replace Ou := Ou.on hb1
      replace Ok := Ok.on hb1
      replace HB := below_go HB HBs hb1
      clear hb1
      clear Ok
      go_wp2_with fail
      refine (impl_FormOf_own Ap P cp _ (tfL Z) _ hP (by omega) Op).mono ?_
      rintro e v27 ⟨Aj, cj, rfl, Oj, hb1⟩
      replace Ol := Ol.on hb1
      replace Oz := Oz.on hb1
      replace Op := Op.on hb1
      replace Ou := Ou.on hb1
      replace HB := below_go HB HBs hb1
      clear hb1
      rw [t4] at Oj
      have hT : (trm8 Z).length ≤ nl := by rw [trm8_len, ← hl]; exact tln8_le _ _
      have Ox := own_take8 Ol (tln8 Z Z.length)
      rw [i64s_take, ← trm8] at Ox
      obtain ⟨T, hTe⟩ : ∃ T, (trm8 Z).length = T := ⟨_, rfl⟩
      simp only [t3, t4, hTe]
      rw [hTe] at hT
      have hT1 : decide ((nl : Int) < (T : Int)) = false := decide_eq_false (by omega)
      have hT2 : decide (nl < T) = false := decide_eq_false (by omega)
      have hT3 : (T : Int) ≤ (cl : Int) := by omega
      have hT4 : T ≤ cl := by omega
      have HTe := Lib.hid hTe
      clear t3 t4 hTe hP
      go_wp2_with fail
      refine (oSame_b Aj Ll T cj cl _ _ _ _ (trm8 Z) _ HTe.out (by omega) Oj Ox).mono ?_
      rintro e v28 ⟨rfl, hb1⟩
      replace Ol := Ol.on hb1
      replace Oz := Oz.on hb1
      replace Op := Op.on hb1
      replace Ou := Ou.on hb1
      replace Oj := Oj.on hb1
      replace Ox := Ox.on hb1
      replace HB := below_go HB HBs hb1
      clear hb1
      go_wp2_with fail
      refine Met.intro ?_
      go_step
      refine MeetH.of ?_ ?_
      · exact HB
      repeat (first | refine Agr.skip ?_ | refine Agr.keep ?_ | exact Agr.nil)
    · simp only [h]
      go_wp2_with fail
      refine Met.intro ?_
      go_step
      refine MeetH.of ?_ ?_
      · exact HB
      repeat (first | refine Agr.skip ?_ | refine Agr.keep ?_ | exact Agr.nil)
  intro u29 v29 hb1
  replace Ol := Ol.on hb1
  replace Oz := Oz.on hb1
  replace Op := Op.on hb1
  replace Ou := Ou.on hb1
  replace HB := below_go HB HBs hb1
  clear hb1
  as_aux_lemma =>
  simp only [fillH]
  clear Op
  clear hp9 Hb5
  go_upto_if 291 with fail
  refine wp_cut (MeetH [.inr 0, .inr 1, .inl (.int .i64 (gs)), .inl (.slice Lz nz cz), .inl (.int .i64 (gn)), .inl (.int .i64 (gk)), .inr 6, .inr 7, .inr 8, .inr 9, .inr 10, .inr 11, .inr 12, .inr 13, .inr 14, .inr 15, .inr 16, .inr 17, .inr 18, .inr 19, .inr 20, .inr 21, .inr 22, .inr 23, .inr 24, .inr 25, .inr 26, .inr 27, .inr 28, .inr 29, .inr 30, .inr 31, .inr 32, .inr 33, .inr 34, .inr 35, .inr 36, .inr 37, .inr 38, .inr 39, .inr 40, .inr 41, .inr 42, .inr 43, .inr 44, .inr 45, .inr 46, .inr 47, .inr 48, .inr 49, .inr 50, .inr 51, .inr 52, .inr 53, .inr 54, .inr 55, .inr 56, .inr 57, .inr 58, .inr 59, .inr 60, .inr 61, .inr 62, .inr 63, .inr 64, .inr 65, .inr 66, .inr 67, .inr 68, .inr 69, .inr 70, .inr 71, .inr 72, .inr 73, .inr 74, .inr 75, .inr 76, .inr 77, .inr 78, .inr 79, .inr 80, .inr 81, .inr 82, .inr 83, .inr 84, .inr 85, .inr 86, .inr 87, .inr 88, .inr 89, .inr 90, .inr 91, .inr 92, .inr 93, .inr 94, .inr 95, .inr 96, .inr 97, .inr 98, .inr 99, .inr 100, .inr 101, .inr 102, .inr 103, .inr 104, .inr 105, .inr 106, .inr 107, .inr 108, .inr 109, .inr 110, .inr 111, .inr 112, .inr 113, .inr 114, .inr 115, .inr 116, .inr 117, .inr 118, .inr 119, .inr 120, .inr 121, .inr 122, .inr 123, .inr 124, .inr 125, .inr 126, .inr 127, .inr 128, .inr 129, .inr 130, .inr 131, .inr 132, .inr 133, .inr 134, .inr 135, .inr 136, .inr 137, .inr 138, .inr 139, .inr 140, .inr 141, .inr 142, .inr 143, .inr 144, .inr 145, .inr 146, .inr 147, .inr 148, .inr 149, .inr 150, .inr 151, .inr 152, .inr 153, .inr 154, .inr 155, .inr 156, .inr 157, .inr 158, .inr 159, .inr 160, .inr 161, .inr 162, .inr 163, .inr 164, .inr 165, .inr 166, .inr 167, .inr 168, .inr 169, .inr 170, .inr 171, .inr 172, .inr 173, .inr 174, .inr 175, .inr 176, .inr 177, .inr 178, .inr 179, .inr 180, .inr 181, .inr 182, .inr 183, .inr 184, .inr 185, .inr 186, .inr 187, .inr 188, .inr 189, .inr 190, .inr 191, .inr 192, .inr 193, .inr 194, .inr 195, .inr 196, .inr 197, .inr 198, .inr 199, .inr 200, .inr 201, .inr 202, .inr 203, .inr 204, .inr 205, .inr 206, .inr 207, .inr 208, .inr 209, .inr 210, .inr 211, .inr 212, .inr 213, .inr 214, .inr 215, .inr 216, .inr 217, .inr 218, .inr 219, .inr 220, .inr 221, .inr 222, .inr 223, .inr 224, .inr 225, .inr 226, .inr 227, .inr 228, .inr 229, .inr 230, .inr 231, .inr 232, .inr 233, .inr 234, .inr 235, .inr 236, .inr 237, .inr 238, .inr 239, .inr 240, .inr 241, .inr 242, .inr 243, .inr 244, .inr 245, .inr 246, .inr 247, .inr 248, .inr 249, .inr 250, .inr 251, .inr 252, .inr 253, .inr 254, .inr 255, .inr 256, .inr 257, .inr 258, .inr 259, .inr 260, .inr 261, .inr 262, .inr 263, .inr 264, .inr 265, .inr 266, .inr 267, .inr 268, .inr 269, .inr 270, .inr 271, .inr 272, .inr 273, .inr 274, .inr 275, .inr 276, .inr 277, .inr 278, .inr 279, .inr 280, .inr 281, .inr 282, .inr 283, .inr 284, .inr 285, .inr 286, .inr 287, .inr 288, .inr 289, .inr 290, .inr 291, .inr 292, .inr 293, .inr 294, .inr 295, .inr 296, .inr 297, .inr 298, .inr 299, .inr 300, .inr 301, .inr 302, .inr 303, .inr 304, .inr 305, .inr 306, .inr 307, .inr 308, .inr 309, .inr 310, .inr 311, .inr 312, .inr 313, .inr 314, .inr 315, .inr 316, .inr 317, .inr 318, .inr 319, .inr 320, .inr 321, .inr 322, .inr 323, .inr 324, .inr 325, .inr 326, .inr 327, .inr 328, .inr 329, .inr 330, .inr 331, .inr 332, .inr 333, .inr 334, .inr 335, .inr 336, .inr 337, .inr 338, .inr 339, .inr 340, .inr 341, .inr 342, .inr 343, .inr 344, .inr 345, .inr 346, .inr 347, .inr 348, .inr 349, .inr 350, .inr 351, .inr 352, .inr 353, .inr 354, .inr 355, .inr 356, .inr 357, .inr 358, .inr 359, .inr 360, .inr 361, .inr 362, .inr 363, .inr 364, .inr 365, .inr 366, .inr 367, .inr 368, .inr 369, .inr 370, .inr 371, .inr 372, .inr 373, .inr 374, .inr 375, .inr 376, .inr 377, .inr 378, .inr 379, .inr 380, .inr 381, .inr 382, .inr 383, .inr 384, .inr 385, .inr 386, .inr 387, .inr 388, .inr 389, .inr 390, .inr 391, .inr 392, .inr 393, .inr 394, .inr 395, .inr 396, .inr 397, .inr 398, .inr 399, .inr 400, .inr 401, .inr 402, .inr 403, .inr 404, .inr 405, .inr 406, .inr 407, .inr 408, .inr 409, .inr 410, .inr 411, .inr 412, .inr 413, .inr 414, .inr 415, .inr 416, .inr 417, .inr 418, .inr 419, .inr 420, .inr 421, .inr 422, .inr 423, .inr 424, .inr 425, .inr 426, .inr 427, .inr 428, .inr 429, .inr 430, .inr 431, .inr 432, .inr 433, .inr 434, .inr 435, .inr 436, .inr 437, .inr 438, .inr 439, .inr 440, .inr 441, .inr 442, .inr 443, .inr 444, .inr 445, .inr 446, .inr 447, .inr 448, .inr 449, .inr 450, .inr 451, .inr 452, .inr 453, .inr 454, .inr 455, .inr 456, .inr 457, .inr 458, .inr 459] (fun wx => Below v29.heap.size v29 wx)) (MeetH.go _ (by rfl) ?_) ?_
  rotate_left
  · intro _ _ _ _
    as_aux_lemma =>
    clear HB HBs
    have HB : Below v29.heap.size v29 v29 := Below.refl _ _
    have HBs : v29.heap.size ≤ v29.heap.size := Nat.le_refl _
    rcases Bool.eq_false_or_eq_true (b7) with h | h
    · simp only [h]
      obtain ⟨t1, t2⟩ := ut_back (Hb7.out.trans h)
      clear h Hb7
      obtain ⟨P, hP⟩ : ∃ P, (utL Z).length = P := ⟨_, rfl⟩
      rw [hP] at hu9
      simp only [hP]
      go_wp2_with fail
      refine (impl_TransformOf_own Au P cu _ (utL Z) _ hP (by omega) Ou).mono ?_
      rintro e v30 ⟨Ak, ck, rfl, Ok, hb1⟩
      replace Ol := Ol.on hb1
      replace Oz := Oz.on hb1
      replace Ou := Ou.on hb1
      replace HB := below_go HB HBs hb1
      clear hb1
      simp only [t1, t2, hl]
      rw [t2] at Ok
      clear t1 t2 hP
      go_wp2_with fail
      refine (oSame_b Ak Ll nl ck cl _ _ _ _ Z _ hl (by omega) Ok Ol).mono ?_
      rintro e v31 ⟨rfl, hb1⟩
      replace Ol := Ol.on hb1
      replace Oz := Oz.on hb1
      replace Ou := Ou.on hb1
      replace Ok := Ok.on hb1
      replace HB := below_go HB HBs hb1
      clear hb1
      go_wp2_with fail
      refine Met.intro ?_
      go_step
      refine MeetH.of ?_ ?_
      · exact HB
      repeat (first | refine Agr.skip ?_ | refine Agr.keep ?_ | exact Agr.nil)
    · simp only [h]
      go_wp2_with fail
      refine Met.intro ?_
      go_step
      refine MeetH.of ?_ ?_
      · exact HB
      repeat (first | refine Agr.skip ?_ | refine Agr.keep ?_ | exact Agr.nil)
  intro u32 v32 hb1
  replace Ol := Ol.on hb1
  replace Oz := Oz.on hb1
  replace Ou := Ou.on hb1
  replace HB := below_go HB HBs hb1
  clear hb1
  as_aux_lemma =>
  simp only [fillH]
  clear Ol Ou
  clear hu9 Hb7
  obtain ⟨b9, hb9⟩ : ∃ b : Bool, fhB gs = b := ⟨_, rfl⟩
  have Hb9 := Lib.hid hb9
  clear hb9
  go_wp2_with fail
  refine (impl_FormOfShape_any gs _).mono ?_
  rintro e v33 ⟨Ah, ch, rfl, Oh, hb1⟩
  replace Oz := Oz.on hb1
  replace HB := below_go HB HBs hb1
  clear hb1
  simp only [Hb9.out]
  go_wp2_with fail
  refine (spec_FormOfShape_any gs _).mono ?_
  rintro e v34 ⟨Ai, ci, rfl, Oi, hb1⟩
  replace Oz := Oz.on hb1
  replace Oh := Oh.on hb1
  replace HB := below_go HB HBs hb1
  clear hb1
  simp only [Hb9.out]
  obtain ⟨b11, hb11⟩ : ∃ b : Bool, slB S = b := ⟨_, rfl⟩
  have Hb11 := Lib.hid hb11
  clear hb11
  go_wp2_with fail
  refine (impl_ShapeOfList_own Lz nz cz _ S _ hz (by omega) Oz).mono ?_
  rintro e v35 ⟨rfl, hb1⟩
  simp only [Hb11.out]
  replace Oz := Oz.on hb1
  replace Oh := Oh.on hb1
  replace Oi := Oi.on hb1
  replace HB := below_go HB HBs hb1
  clear hb1
  go_wp2_with fail
  refine (spec_ShapeOfList_own Lz nz cz _ S _ hz (by omega) Oz).mono ?_
  rintro e v36 ⟨rfl, hb1⟩
  simp only [Hb11.out]
  replace Oz := Oz.on hb1
  replace Oh := Oh.on hb1
  replace Oi := Oi.on hb1
  replace HB := below_go HB HBs hb1
  clear hb1
  obtain ⟨b13, hb13⟩ : ∃ b : Bool, chB gn gk = b := ⟨_, rfl⟩
  have Hb13 := Lib.hid hb13
  clear hb13
  go_wp2_with fail
  refine (impl_ChooseOf_any gn gk _).mono ?_
  rintro e v37 ⟨rfl, hb1⟩
  simp only [Hb13.out]
  replace Oz := Oz.on hb1
  replace Oh := Oh.on hb1
  replace Oi := Oi.on hb1
  replace HB := below_go HB HBs hb1
  clear hb1
  go_wp2_with fail
  refine (spec_ChooseOf_any gn gk _).mono ?_
  rintro e v38 ⟨rfl, hb1⟩
  simp only [Hb13.out]
  replace Oz := Oz.on hb1
  replace Oh := Oh.on hb1
  replace Oi := Oi.on hb1
  replace HB := below_go HB HBs hb1
  clear hb1
  have hh9 := fh_len gs
  go_upto_region 53 with fail
  go_wp2_with fail
  refine (oSame_b Ah Ai _ ch ci _ _ _ _ (fhL gs) _ rfl (by omega) Oh Oi).mono ?_
  rintro e v39 ⟨rfl, hb1⟩
  replace Oz := Oz.on hb1
  replace Oh := Oh.on hb1
  replace Oi := Oi.on hb1
  replace HB := below_go HB HBs hb1
  clear hb1
  clear Oi
  go_upto_if 373 with fail
  refine wp_cut (MeetH [.inr 0, .inr 1, .inr 2, .inl (.slice Lz nz cz), .inl (.int .i64 (gn)), .inl (.int .i64 (gk)), .inr 6, .inr 7, .inr 8, .inr 9, .inr 10, .inr 11, .inr 12, .inr 13, .inr 14, .inr 15, .inr 16, .inr 17, .inr 18, .inr 19, .inr 20, .inr 21, .inr 22, .inr 23, .inr 24, .inr 25, .inr 26, .inr 27, .inr 28, .inr 29, .inr 30, .inr 31, .inr 32, .inr 33, .inr 34, .inr 35, .inr 36, .inr 37, .inr 38, .inr 39, .inr 40, .inr 41, .inr 42, .inr 43, .inr 44, .inr 45, .inr 46, .inr 47, .inr 48, .inr 49, .inr 50, .inr 51, .inr 52, .inl (.int .i64 (slS S)), .inl (.int .i64 (slP S)), .inl (.bool (b11)), .inr 56, .inr 57, .inr 58, .inl (.int .i64 (chV gn gk)), .inl (.bool (b13)), .inr 61, .inr 62, .inr 63, .inr 64, .inr 65, .inr 66, .inr 67, .inr 68, .inr 69, .inr 70, .inr 71, .inr 72, .inr 73, .inr 74, .inr 75, .inr 76, .inr 77, .inr 78, .inr 79, .inr 80, .inr 81, .inr 82, .inr 83, .inr 84, .inr 85, .inr 86, .inr 87, .inr 88, .inr 89, .inr 90, .inr 91, .inr 92, .inr 93, .inr 94, .inr 95, .inr 96, .inr 97, .inr 98, .inr 99, .inr 100, .inr 101, .inr 102, .inr 103, .inr 104, .inr 105, .inr 106, .inr 107, .inr 108, .inr 109, .inr 110, .inr 111, .inr 112, .inr 113, .inr 114, .inr 115, .inr 116, .inr 117, .inr 118, .inr 119, .inr 120, .inr 121, .inr 122, .inr 123, .inr 124, .inr 125, .inr 126, .inr 127, .inr 128, .inr 129, .inr 130, .inr 131, .inr 132, .inr 133, .inr 134, .inr 135, .inr 136, .inr 137, .inr 138, .inr 139, .inr 140, .inr 141, .inr 142, .inr 143, .inr 144, .inr 145, .inr 146, .inr 147, .inr 148, .inr 149, .inr 150, .inr 151, .inr 152, .inr 153, .inr 154, .inr 155, .inr 156, .inr 157, .inr 158, .inr 159, .inr 160, .inr 161, .inr 162, .inr 163, .inr 164, .inr 165, .inr 166, .inr 167, .inr 168, .inr 169, .inr 170, .inr 171, .inr 172, .inr 173, .inr 174, .inr 175, .inr 176, .inr 177, .inr 178, .inr 179, .inr 180, .inr 181, .inr 182, .inr 183, .inr 184, .inr 185, .inr 186, .inr 187, .inr 188, .inr 189, .inr 190, .inr 191, .inr 192, .inr 193, .inr 194, .inr 195, .inr 196, .inr 197, .inr 198, .inr 199, .inr 200, .inr 201, .inr 202, .inr 203, .inr 204, .inr 205, .inr 206, .inr 207, .inr 208, .inr 209, .inr 210, .inr 211, .inr 212, .inr 213, .inr 214, .inr 215, .inr 216, .inr 217, .inr 218, .inr 219, .inr 220, .inr 221, .inr 222, .inr 223, .inr 224, .inr 225, .inr 226, .inr 227, .inr 228, .inr 229, .inr 230, .inr 231, .inr 232, .inr 233, .inr 234, .inr 235, .inr 236, .inr 237, .inr 238, .inr 239, .inr 240, .inr 241, .inr 242, .inr 243, .inr 244, .inr 245, .inr 246, .inr 247, .inr 248, .inr 249, .inr 250, .inr 251, .inr 252, .inr 253, .inr 254, .inr 255, .inr 256, .inr 257, .inr 258, .inr 259, .inr 260, .inr 261, .inr 262, .inr 263, .inr 264, .inr 265, .inr 266, .inr 267, .inr 268, .inr 269, .inr 270, .inr 271, .inr 272, .inr 273, .inr 274, .inr 275, .inr 276, .inr 277, .inr 278, .inr 279, .inr 280, .inr 281, .inr 282, .inr 283, .inr 284, .inr 285, .inr 286, .inr 287, .inr 288, .inr 289, .inr 290, .inr 291, .inr 292, .inr 293, .inr 294, .inr 295, .inr 296, .inr 297, .inr 298, .inr 299, .inr 300, .inr 301, .inr 302, .inr 303, .inr 304, .inr 305, .inr 306, .inr 307, .inr 308, .inr 309, .inr 310, .inr 311, .inr 312, .inr 313, .inr 314, .inr 315, .inr 316, .inr 317, .inr 318, .inr 319, .inr 320, .inr 321, .inr 322, .inr 323, .inr 324, .inr 325, .inr 326, .inr 327, .inr 328, .inr 329, .inr 330, .inr 331, .inr 332, .inr 333, .inr 334, .inr 335, .inr 336, .inr 337, .inr 338, .inr 339, .inr 340, .inr 341, .inr 342, .inr 343, .inr 344, .inr 345, .inr 346, .inr 347, .inr 348, .inr 349, .inr 350, .inr 351, .inr 352, .inr 353, .inr 354, .inr 355, .inr 356, .inr 357, .inr 358, .inr 359, .inr 360, .inr 361, .inr 362, .inr 363, .inr 364, .inr 365, .inr 366, .inr 367, .inr 368, .inr 369, .inr 370, .inr 371, .inr 372, .inr 373, .inr 374, .inr 375, .inr 376, .inr 377, .inr 378, .inr 379, .inr 380, .inr 381, .inr 382, .inr 383, .inr 384, .inr 385, .inr 386, .inr 387, .inr 388, .inr 389, .inr 390, .inr 391, .inr 392, .inr 393, .inr 394, .inr 395, .inr 396, .inr 397, .inr 398, .inr 399, .inr 400, .inr 401, .inr 402, .inr 403, .inr 404, .inr 405, .inr 406, .inr 407, .inr 408, .inr 409, .inr 410, .inr 411, .inr 412, .inr 413, .inr 414, .inr 415, .inr 416, .inr 417, .inr 418, .inr 419, .inr 420, .inr 421, .inr 422, .inr 423, .inr 424, .inr 425, .inr 426, .inr 427, .inr 428, .inr 429, .inr 430, .inr 431, .inr 432, .inr 433, .inr 434, .inr 435, .inr 436, .inr 437, .inr 438, .inr 439, .inr 440, .inr 441, .inr 442, .inr 443, .inr 444, .inr 445, .inr 446, .inr 447, .inr 448, .inr 449, .inr 450, .inr 451, .inr 452, .inr 453, .inr 454, .inr 455, .inr 456, .inr 457, .inr 458, .inr 459] (fun wx => Below v39.heap.size v39 wx)) (MeetH.go _ (by rfl) ?_) ?_
  rotate_left
  · intro _ _ _ _
    as_aux_lemma =>
    clear HB HBs
    have HB : Below v39.heap.size v39 v39 := Below.refl _ _
    have HBs : v39.heap.size ≤ v39.heap.size := Nat.le_refl _
    rcases Bool.eq_false_or_eq_true (b9) with h | h
    · simp only [h]
      obtain ⟨⟨s1, s2⟩, f0, f1, f2⟩ := fh_val (Hb9.out.trans h)
      clear h Hb9 Hb11 Hb13
      simp only [f0]
      have HO := Lib.hid Oh
      have H2 := Lib.hid f2
      clear Oh f2
      go_wp2_with fail
      go_loopw [63] (fun i wr => ∃ k : Nat, k ≤ 9 ∧ i = .int .i64 k ∧ Below v39.heap.size v39 wr) (fun i _ => 9 - (intOf i).toNat)
      case atStart => exact ⟨0, by omega, rfl, Below.refl _ _⟩
      case round =>
        obtain ⟨k, hk, rfl, hb⟩ := hrel
        by_cases hlt : k ≤ 8
        · have hki : (k : Int) ≤ 8 := by omega
          have Ow := HO.out.on hb
          clear HB HBs
          have HB := hb
          have HBs : v39.heap.size ≤ v39.heap.size := Nat.le_refl _
          clear hb
          go_wp2_with fail
          refine (impl_ValueOf_at (fhL gs) k Ah 3 ch _ _ f0 Ow f1 hlt (num gs (k : Int)) (H2.out k)).mono ?_
          rintro e v40 ⟨rfl, hb1⟩
          replace HB := below_go HB HBs hb1
          clear hb1
          go_wp2_with fail
          refine (impl_PolygonNumber_yes gs (k : Int) _ s1 s2 (by omega) (by omega)).mono ?_
          rintro e v41 ⟨rfl, hb1⟩
          replace HB := below_go HB HBs hb1
          clear hb1
          go_wp2_with fail
          go_roundw
          case rel => exact ⟨k + 1, by omega, by go_num, HB⟩
          case measure => simp [intOf] <;> omega
        · have hki : ¬ (k : Int) ≤ 8 := by omega
          go_wp2
          refine Met.intro ?_
          go_step
          refine MeetH.of ?_ ?_
          · exact (below_go HB HBs hb)
          repeat (first | refine Agr.skip ?_ | refine Agr.keep ?_ | exact Agr.nil)
    · simp only [h]
      go_wp2_with fail
      refine Met.intro ?_
      go_step
      refine MeetH.of ?_ ?_
      · exact HB
      repeat (first | refine Agr.skip ?_ | refine Agr.keep ?_ | exact Agr.nil)
  intro u42 v42 hb1
  replace Oz := Oz.on hb1
  replace Oh := Oh.on hb1
  replace HB := below_go HB HBs hb1
  clear hb1
  as_aux_lemma =>
  simp only [fillH]
  clear Oh
  clear hh9 Hb9
  go_upto_if 401 with fail
  refine wp_cut (MeetH [.inr 0, .inr 1, .inr 2, .inr 3, .inl (.int .i64 (gn)), .inl (.int .i64 (gk)), .inr 6, .inr 7, .inr 8, .inr 9, .inr 10, .inr 11, .inr 12, .inr 13, .inr 14, .inr 15, .inr 16, .inr 17, .inr 18, .inr 19, .inr 20, .inr 21, .inr 22, .inr 23, .inr 24, .inr 25, .inr 26, .inr 27, .inr 28, .inr 29, .inr 30, .inr 31, .inr 32, .inr 33, .inr 34, .inr 35, .inr 36, .inr 37, .inr 38, .inr 39, .inr 40, .inr 41, .inr 42, .inr 43, .inr 44, .inr 45, .inr 46, .inr 47, .inr 48, .inr 49, .inr 50, .inr 51, .inr 52, .inr 53, .inr 54, .inr 55, .inr 56, .inr 57, .inr 58, .inl (.int .i64 (chV gn gk)), .inl (.bool (b13)), .inr 61, .inr 62, .inr 63, .inr 64, .inr 65, .inr 66, .inr 67, .inr 68, .inr 69, .inr 70, .inr 71, .inr 72, .inr 73, .inr 74, .inr 75, .inr 76, .inr 77, .inr 78, .inr 79, .inr 80, .inr 81, .inr 82, .inr 83, .inr 84, .inr 85, .inr 86, .inr 87, .inr 88, .inr 89, .inr 90, .inr 91, .inr 92, .inr 93, .inr 94, .inr 95, .inr 96, .inr 97, .inr 98, .inr 99, .inr 100, .inr 101, .inr 102, .inr 103, .inr 104, .inr 105, .inr 106, .inr 107, .inr 108, .inr 109, .inr 110, .inr 111, .inr 112, .inr 113, .inr 114, .inr 115, .inr 116, .inr 117, .inr 118, .inr 119, .inr 120, .inr 121, .inr 122, .inr 123, .inr 124, .inr 125, .inr 126, .inr 127, .inr 128, .inr 129, .inr 130, .inr 131, .inr 132, .inr 133, .inr 134, .inr 135, .inr 136, .inr 137, .inr 138, .inr 139, .inr 140, .inr 141, .inr 142, .inr 143, .inr 144, .inr 145, .inr 146, .inr 147, .inr 148, .inr 149, .inr 150, .inr 151, .inr 152, .inr 153, .inr 154, .inr 155, .inr 156, .inr 157, .inr 158, .inr 159, .inr 160, .inr 161, .inr 162, .inr 163, .inr 164, .inr 165, .inr 166, .inr 167, .inr 168, .inr 169, .inr 170, .inr 171, .inr 172, .inr 173, .inr 174, .inr 175, .inr 176, .inr 177, .inr 178, .inr 179, .inr 180, .inr 181, .inr 182, .inr 183, .inr 184, .inr 185, .inr 186, .inr 187, .inr 188, .inr 189, .inr 190, .inr 191, .inr 192, .inr 193, .inr 194, .inr 195, .inr 196, .inr 197, .inr 198, .inr 199, .inr 200, .inr 201, .inr 202, .inr 203, .inr 204, .inr 205, .inr 206, .inr 207, .inr 208, .inr 209, .inr 210, .inr 211, .inr 212, .inr 213, .inr 214, .inr 215, .inr 216, .inr 217, .inr 218, .inr 219, .inr 220, .inr 221, .inr 222, .inr 223, .inr 224, .inr 225, .inr 226, .inr 227, .inr 228, .inr 229, .inr 230, .inr 231, .inr 232, .inr 233, .inr 234, .inr 235, .inr 236, .inr 237, .inr 238, .inr 239, .inr 240, .inr 241, .inr 242, .inr 243, .inr 244, .inr 245, .inr 246, .inr 247, .inr 248, .inr 249, .inr 250, .inr 251, .inr 252, .inr 253, .inr 254, .inr 255, .inr 256, .inr 257, .inr 258, .inr 259, .inr 260, .inr 261, .inr 262, .inr 263, .inr 264, .inr 265, .inr 266, .inr 267, .inr 268, .inr 269, .inr 270, .inr 271, .inr 272, .inr 273, .inr 274, .inr 275, .inr 276, .inr 277, .inr 278, .inr 279, .inr 280, .inr 281, .inr 282, .inr 283, .inr 284, .inr 285, .inr 286, .inr 287, .inr 288, .inr 289, .inr 290, .inr 291, .inr 292, .inr 293, .inr 294, .inr 295, .inr 296, .inr 297, .inr 298, .inr 299, .inr 300, .inr 301, .inr 302, .inr 303, .inr 304, .inr 305, .inr 306, .inr 307, .inr 308, .inr 309, .inr 310, .inr 311, .inr 312, .inr 313, .inr 314, .inr 315, .inr 316, .inr 317, .inr 318, .inr 319, .inr 320, .inr 321, .inr 322, .inr 323, .inr 324, .inr 325, .inr 326, .inr 327, .inr 328, .inr 329, .inr 330, .inr 331, .inr 332, .inr 333, .inr 334, .inr 335, .inr 336, .inr 337, .inr 338, .inr 339, .inr 340, .inr 341, .inr 342, .inr 343, .inr 344, .inr 345, .inr 346, .inr 347, .inr 348, .inr 349, .inr 350, .inr 351, .inr 352, .inr 353, .inr 354, .inr 355, .inr 356, .inr 357, .inr 358, .inr 359, .inr 360, .inr 361, .inr 362, .inr 363, .inr 364, .inr 365, .inr 366, .inr 367, .inr 368, .inr 369, .inr 370, .inr 371, .inr 372, .inr 373, .inr 374, .inr 375, .inr 376, .inr 377, .inr 378, .inr 379, .inr 380, .inr 381, .inr 382, .inr 383, .inr 384, .inr 385, .inr 386, .inr 387, .inr 388, .inr 389, .inr 390, .inr 391, .inr 392, .inr 393, .inr 394, .inr 395, .inr 396, .inr 397, .inr 398, .inr 399, .inr 400, .inr 401, .inr 402, .inr 403, .inr 404, .inr 405, .inr 406, .inr 407, .inr 408, .inr 409, .inr 410, .inr 411, .inr 412, .inr 413, .inr 414, .inr 415, .inr 416, .inr 417, .inr 418, .inr 419, .inr 420, .inr 421, .inr 422, .inr 423, .inr 424, .inr 425, .inr 426, .inr 427, .inr 428, .inr 429, .inr 430, .inr 431, .inr 432, .inr 433, .inr 434, .inr 435, .inr 436, .inr 437, .inr 438, .inr 439, .inr 440, .inr 441, .inr 442, .inr 443, .inr 444, .inr 445, .inr 446, .inr 447, .inr 448, .inr 449, .inr 450, .inr 451, .inr 452, .inr 453, .inr 454, .inr 455, .inr 456, .inr 457, .inr 458, .inr 459] (fun wx => Below v42.heap.size v42 wx)) (MeetH.go _ (by rfl) ?_) ?_
  rotate_left
  · intro _ _ _ _
    as_aux_lemma =>
    clear HB HBs
    have HB : Below v42.heap.size v42 v42 := Below.refl _ _
    have HBs : v42.heap.size ≤ v42.heap.size := Nat.le_refl _
    rcases Bool.eq_false_or_eq_true (b11) with h | h
    · simp only [h]
      obtain ⟨s1, s2, p0, p1, hlen, at9⟩ := slf_of (Hb11.out.trans h)
      clear h Hb11 Hb13
      have HO := Lib.hid Oz
      have HA9 := Lib.hid at9
      have HZ := Lib.hid hz
      clear Oz at9 hz hcz
      go_wp2_with fail
      go_loopw [404] (fun i wr => ∃ k : Nat, k ≤ nz ∧ i = .int .i64 k ∧ Below v42.heap.size v42 wr) (fun i _ => nz - (intOf i).toNat)
      case atStart => exact ⟨0, by omega, rfl, Below.refl _ _⟩
      case round =>
        obtain ⟨k, hk, rfl, hb⟩ := hrel
        by_cases hlt : k < nz
        · have hki : (k : Int) < (nz : Int) := by omega
          have hlk : k < S.length := by rw [HZ.out]; exact hlt
          have Ow := HO.out.on hb
          obtain ⟨g, o, rfl, -⟩ := Ow (by simp only [List.length_map]; omega)
          have ck := own_get Ow (k := k) hlk
          have hat := HA9.out k hlk
          generalize S.getD k 0 = x at ck hat
          have HAT := Lib.hid hat
          have hw : IntKind.i64.wrap (slP S + (k : Int)) = slP S + (k : Int) := IntWalk.i64_in _ (by omega)
          clear HB HBs hat Ow
          have HB := hb
          have HBs : v42.heap.size ≤ v42.heap.size := Nat.le_refl _
          clear hb
          go_wp2_with fail
          refine (impl_PolygonNumber_yes (slS S) (slP S + (k : Int)) _ s1 s2 (by omega) (by omega)).mono ?_
          rintro e v43 ⟨rfl, hb1⟩
          replace HB := below_go HB HBs hb1
          clear hb1
          rw [HAT.out]
          clear ck
          go_wp2_with fail
          go_roundw
          case rel => exact ⟨k + 1, by omega, by go_num, HB⟩
          case measure => simp [intOf] <;> omega
        · have hki : ¬ (k : Int) < (nz : Int) := by omega
          go_wp2
          refine Met.intro ?_
          go_step
          refine MeetH.of ?_ ?_
          · exact (below_go HB HBs hb)
          repeat (first | refine Agr.skip ?_ | refine Agr.keep ?_ | exact Agr.nil)
    · simp only [h]
      go_wp2_with fail
      refine Met.intro ?_
      go_step
      refine MeetH.of ?_ ?_
      · exact HB
      repeat (first | refine Agr.skip ?_ | refine Agr.keep ?_ | exact Agr.nil)
  intro u44 v44 hb1
  replace Oz := Oz.on hb1
  replace HB := below_go HB HBs hb1
  clear hb1
  as_aux_lemma =>
  simp only [fillH]
  clear Oz
  clear Hb11
  rcases Bool.eq_false_or_eq_true b13 with h | h
  rotate_left
  · simp only [h]
    go_wp2_with fail
    go_ret
    exact ⟨rfl, HB⟩
  simp only [h]
  rcases Int.lt_or_le 0 gn with hn | hn
  rotate_left
  · have hn1 : ¬ 0 < gn := by omega
    go_wp2_with fail
    go_ret
    exact ⟨rfl, HB⟩
  rcases Int.lt_or_le 0 gk with hk | hk
  rotate_left
  · have hk1 : ¬ 0 < gk := by omega
    go_wp2_with fail
    go_ret
    exact ⟨rfl, HB⟩
  obtain ⟨q1, q2, q3, q4, ⟨l1, l2⟩, l3, l4⟩ := chf_of (Hb13.out.trans h) hn hk
  clear Hb13 h
  have i1 : IntKind.i64.wrap (gn - 1) = gn - 1 := IntWalk.i64_in _ (by omega)
  have i2 : 0 ≤ gk - 1 := by omega
  have hkb : gk ≤ 9223372036854775807 := hgk9
  have i3 : IntKind.i64.wrap (gk - 1) = gk - 1 := IntWalk.i64_in _ (by omega)
  have i4 : IntKind.i64.wrap (chV (gn - 1) (gk - 1) + chV (gn - 1) gk) = chV gn gk := by rw [q3.symm]; exact IntWalk.i64_in _ (by omega)
  go_wp2_with fail
  refine (impl_ChooseOf_any (gn - 1) (gk - 1) _).mono ?_
  rintro e v45 ⟨rfl, hb1⟩
  replace HB := below_go HB HBs hb1
  clear hb1
  simp only [q1]
  go_wp2_with fail
  refine (impl_ChooseOf_any (gn - 1) gk _).mono ?_
  rintro e v46 ⟨rfl, hb1⟩
  replace HB := below_go HB HBs hb1
  clear hb1
  simp only [q2]
  clear q1 q2 q3
  go_wp2_with fail
  go_ret
  exact ⟨rfl, HB⟩
end Go.Proofs.Ytjfpnecnmdclfaa
