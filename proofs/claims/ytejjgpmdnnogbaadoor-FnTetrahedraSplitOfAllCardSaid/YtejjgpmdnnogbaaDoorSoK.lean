/- The law FnTetrahedraSplitOfAll, walked: whatever the arguments it answers true. The library's table lies where the program laid it. -/
import Derived.Test.YtejjgpmdnnogbaaDoorSoJ
import Derived.Test.YtejjgpmdnnogbaaDoorCut

import Derived.Lib.Hide
import Derived.Deep.Cut
import Derived.Deep.CutBlock
namespace Go.Proofs.YtejjgpmdnnogbaaDoor
open Go.ChangeShapes Go.WideShapes Go.ChangeAt Go.RowKit Go.Maps

set_option maxRecDepth 4000 in
set_option maxHeartbeats 16000000 in
theorem walk_TetrahedraSplitOfAll (n m p : Int) (w : World) (ht : Tabd w) :
    Calls Tryd.prog 4 #[.int .i64 n, .int .i64 m, .int .i64 p] w fun e w' => e = .returned (.bool true) ∧ Below w.heap.size w w' := by
  have HB : Below w.heap.size w w := Below.refl _ _
  have HBs : w.heap.size ≤ w.heap.size := Nat.le_refl _
  go_enter Tryd.func4, Tryd.ntmps4
  go_wp2_with fail
  refine (impl_FirstTetrahedra_any n _ ht).mono ?_
  rintro e v1 ⟨Af, cf, rfl, Of, hb1⟩
  replace ht := ht.on hb1
  replace HB := below_go HB HBs hb1
  clear hb1
  go_wp2_with fail
  refine (spec_FirstTetrahedra_any n _).mono ?_
  rintro e v2 ⟨Ar, cr, rfl, Or, hb1⟩
  replace ht := ht.on hb1
  replace Of := Of.on hb1
  replace HB := below_go HB HBs hb1
  clear hb1
  go_wp2_with fail
  refine (impl_FewestTetrahedra_any n _ ht).mono ?_
  rintro e v3 ⟨rfl, hb1⟩
  replace ht := ht.on hb1
  replace Of := Of.on hb1
  replace Or := Or.on hb1
  replace HB := below_go HB HBs hb1
  clear hb1
  clear ht
  go_wp2_with fail
  refine (spec_FewestTetrahedra_any n _).mono ?_
  rintro e v4 ⟨rfl, hb1⟩
  replace Of := Of.on hb1
  replace Or := Or.on hb1
  replace HB := below_go HB HBs hb1
  clear hb1
  go_wp2_with fail
  have hl9 := ft_len n
  refine (hSame_b Af Ar _ cf cr _ _ _ _ (ftL n) _ rfl (by omega) Of Or).mono ?_
  rintro e v5 ⟨rfl, hb1⟩
  replace Of := Of.on hb1
  replace Or := Or.on hb1
  replace HB := below_go HB HBs hb1
  clear hb1
  clear Or
  go_upto_if 71 with fail
  refine wp_cut (MeetH [.inr 0, .inl (.int .i64 (m)), .inl (.int .i64 (p)), .inr 3, .inr 4, .inr 5, .inr 6, .inr 7, .inr 8, .inr 9, .inr 10, .inr 11, .inr 12, .inr 13, .inr 14, .inr 15, .inr 16, .inr 17, .inr 18, .inr 19, .inr 20, .inr 21, .inr 22, .inr 23, .inr 24, .inr 25, .inr 26, .inr 27, .inr 28, .inr 29, .inr 30, .inr 31, .inr 32, .inr 33, .inr 34, .inr 35, .inr 36, .inr 37, .inr 38, .inr 39, .inr 40, .inr 41, .inr 42, .inr 43, .inr 44, .inr 45, .inr 46, .inr 47, .inr 48, .inr 49, .inr 50, .inr 51, .inr 52, .inr 53, .inr 54, .inr 55, .inr 56, .inr 57, .inr 58, .inr 59, .inr 60, .inr 61, .inr 62, .inr 63, .inr 64, .inr 65, .inr 66, .inr 67, .inr 68, .inr 69, .inr 70, .inr 71, .inr 72, .inr 73, .inr 74, .inr 75, .inr 76, .inr 77, .inr 78, .inr 79, .inr 80, .inr 81, .inr 82, .inr 83, .inr 84, .inr 85, .inr 86, .inr 87, .inr 88, .inr 89, .inr 90, .inr 91, .inr 92, .inr 93, .inr 94, .inr 95, .inr 96, .inr 97, .inr 98, .inr 99, .inr 100, .inr 101, .inr 102, .inr 103, .inr 104, .inr 105, .inr 106, .inr 107, .inr 108, .inr 109, .inr 110, .inr 111, .inr 112, .inr 113, .inr 114, .inr 115, .inr 116, .inr 117, .inr 118, .inr 119, .inr 120, .inr 121, .inr 122, .inr 123, .inr 124, .inr 125, .inr 126, .inr 127, .inr 128, .inr 129, .inr 130, .inr 131, .inr 132, .inr 133, .inr 134, .inr 135, .inr 136, .inr 137, .inr 138, .inr 139, .inr 140, .inr 141, .inr 142, .inr 143, .inr 144, .inr 145, .inr 146, .inr 147, .inr 148, .inr 149, .inr 150, .inr 151, .inr 152, .inr 153, .inr 154, .inr 155, .inr 156, .inr 157, .inr 158, .inr 159, .inr 160] (fun wx => Below v5.heap.size v5 wx)) (MeetH.go _ (by rfl) ?_) ?_
  rotate_left
  · intro _ _ _ _
    as_aux_lemma =>
    clear HB HBs
    have HB : Below v5.heap.size v5 v5 := Below.refl _ _
    have HBs : v5.heap.size ≤ v5.heap.size := Nat.le_refl _
    rcases Bool.eq_false_or_eq_true (ftB n) with h | h
    · simp only [h]
      have q := tef_of h
      generalize gNeed (pyr 3) n = D at q
      have hD := q.d5
      have qlen := q.len
      simp only [qlen, q.few]
      go_upto_block 0 with fail
      refine wp_cut (MeetH [.inl (.int .i64 (n)), .inl (.int .i64 (m)), .inl (.int .i64 (p)), .inr 3, .inr 4, .inr 5, .inr 6, .inl (.slice Af D cf), .inr 8, .inr 9, .inr 10, .inl (.int .i64 ((D : Int))), .inr 12, .inr 13, .inr 14, .inl (.int .i64 (n)), .inr 16, .inr 17, .inr 18, .inr 19, .inr 20, .inr 21, .inr 22, .inr 23, .inr 24, .inr 25, .inr 26, .inr 27, .inr 28, .inr 29, .inr 30, .inr 31, .inr 32, .inr 33, .inr 34, .inr 35, .inr 36, .inr 37, .inr 38, .inr 39, .inr 40, .inr 41, .inr 42, .inr 43, .inr 44, .inr 45, .inr 46, .inr 47, .inr 48, .inr 49, .inr 50, .inr 51, .inr 52, .inr 53, .inr 54, .inr 55, .inr 56, .inr 57, .inr 58, .inr 59, .inr 60, .inr 61, .inr 62, .inr 63, .inr 64, .inr 65, .inr 66, .inr 67, .inr 68, .inr 69, .inr 70, .inr 71, .inr 72, .inr 73, .inr 74, .inr 75, .inr 76, .inr 77, .inr 78, .inr 79, .inr 80, .inr 81, .inr 82, .inr 83, .inr 84, .inr 85, .inr 86, .inr 87, .inr 88, .inr 89, .inr 90, .inr 91, .inr 92, .inr 93, .inr 94, .inr 95, .inr 96, .inr 97, .inr 98, .inr 99, .inr 100, .inr 101, .inr 102, .inr 103, .inr 104, .inr 105, .inr 106, .inr 107, .inr 108, .inr 109, .inr 110, .inr 111, .inr 112, .inr 113, .inr 114, .inr 115, .inr 116, .inr 117, .inr 118, .inr 119, .inr 120, .inr 121, .inr 122, .inr 123, .inr 124, .inr 125, .inr 126, .inr 127, .inr 128, .inr 129, .inr 130, .inr 131, .inr 132, .inr 133, .inr 134, .inr 135, .inr 136, .inr 137, .inr 138, .inr 139, .inr 140, .inr 141, .inr 142, .inr 143, .inr 144, .inr 145, .inr 146, .inr 147, .inr 148, .inr 149, .inr 150, .inr 151, .inr 152, .inr 153, .inr 154, .inr 155, .inr 156, .inr 157, .inr 158, .inr 159, .inr 160] (fun wx => Below v5.heap.size v5 wx)) (MeetH.go _ (by rfl) ?_) ?_
      rotate_left
      · intro _ _ _ _
        as_aux_lemma =>
        clear HB HBs
        have HB : Below v5.heap.size v5 v5 := Below.refl _ _
        have HBs : v5.heap.size ≤ v5.heap.size := Nat.le_refl _
        have HO := Lib.hid Of
        have HQ := Lib.hid q
        have HL := Lib.hid qlen
        clear Of q qlen h hl9
        go_wp2_with fail
        go_loopw [15, 74] (fun v i wr => ∃ k : Nat, k ≤ D ∧ i = .int .i64 k ∧ v = .int .i64 (psum (pyr 3) (ftL n) k) ∧ Below v5.heap.size v5 wr) (fun _ i _ => D - (intOf i).toNat)
        case atStart => exact ⟨0, by omega, rfl, rfl, Below.refl _ _⟩
        case round =>
          obtain ⟨k, hk, rfl, rfl, hb⟩ := hrel
          by_cases hlt : k < D
          · have hlk : k < (ftL n).length := by rw [HL.out]; exact hlt
            have Ow := HO.out.on hb
            obtain ⟨g, o, rfl, -⟩ := Ow (by simp only [List.length_map]; omega)
            have hki : (k : Int) < (D : Int) := by omega
            have ck := own_get Ow (k := k) hlk
            obtain ⟨x0, x1⟩ := HQ.out.el k hlt
            obtain ⟨s0, s1⟩ := HQ.out.bds k hk
            have HF := Lib.hid fun (hk0 : 0 < k) => (show (ftL n).getD k 0 ≤ (ftL n).getD (k - 1) 0 by have := HQ.out.fall (k - 1) (by omega); rwa [Nat.sub_add_cancel hk0] at this)
            have HR : Hid (∀ v : Value, v = .int .i64 (psum (pyr 3) (ftL n) k + pyr 3 ((ftL n).getD k 0)) → v = .int .i64 (psum (pyr 3) (ftL n) (k + 1))) := Lib.hid fun v h => h
            generalize (ftL n).getD k 0 = x at ck x0 x1 HF HR
            generalize psum (pyr 3) (ftL n) k = s at *
            obtain ⟨y0, y1⟩ := pyr3_few x (by omega) x1
            have hs : IntKind.i64.wrap (s + pyr 3 x) = s + pyr 3 x := IntWalk.i64_in _ (by omega)
            have hx1 : ¬ x < 1 := by omega
            clear HB HBs
            have HB := hb
            have HBs : v5.heap.size ≤ v5.heap.size := Nat.le_refl _
            clear hb
            go_wp2_with fail
            refine (impl_PyramidNumber_yes 3 x _ (by omega) (by omega) (by omega) (by omega)).mono ?_
            rintro e v6 ⟨rfl, hb1⟩
            replace Ow := Ow.on hb1
            replace HB := below_go HB HBs hb1
            clear hb1
            clear ck
            rcases Nat.eq_zero_or_pos k with hk0 | hk0
            · have hk0i : ¬ (0 : Int) < (k : Int) := by omega
              clear hk0
              go_wp2_with fail
              go_roundw
              case rel => exact ⟨k + 1, by omega, by go_num, HR.out _ rfl, HB⟩
              case measure => simp [intOf]; omega
            · have hk0i : (0 : Int) < (k : Int) := by omega
              have hf := HF.out hk0
              have c1 := own_get Ow (k := k - 1) (by omega)
              generalize (ftL n).getD (k - 1) 0 = z at hf c1
              have hzx : ¬ z < x := by omega
              have i1 : IntKind.i64.wrap ((k : Int) - 1) = (k : Int) - 1 := IntWalk.i64_in _ (by omega)
              have i2 : (0 : Int) ≤ (k : Int) - 1 := by omega
              have i3 : (k : Int) - 1 < (D : Int) := by omega
              have i4 : ((k : Int) - 1).toNat = k - 1 := by omega
              clear hk0 hf HF
              go_wp2_with fail
              go_roundw
              case rel => exact ⟨k + 1, by omega, by go_num, HR.out _ rfl, HB⟩
              case measure => simp [intOf]; omega
          · have hki : ¬ (k : Int) < (D : Int) := by omega
            obtain rfl : k = D := by omega
            rw [HQ.out.sum]
            go_wp2
            refine Met.intro ?_
            go_step
            refine MeetH.of ?_ ?_
            · exact hb
            repeat (first | refine Agr.skip ?_ | refine Agr.keep ?_ | exact Agr.nil)
      intro u7 v7 hb1
      replace Of := Of.on hb1
      replace HB := below_go HB HBs hb1
      clear hb1
      as_aux_lemma =>
      simp only [fillH]
      clear Of
      have hD5 : ¬ (5 : Int) < (D : Int) := by omega
      go_upto_block 2 with fail
      have HC := Lib.hid q.cnt
      clear q qlen h hl9
      go_wp2_with fail
      go_loopw [20] (fun i wr => ∃ k : Nat, k ≤ D + 1 ∧ i = .int .i64 k ∧ Below v7.heap.size v7 wr) (fun i _ => D + 1 - (intOf i).toNat)
      case atStart => exact ⟨0, by omega, rfl, Below.refl _ _⟩
      case round =>
        obtain ⟨k, hk, rfl, hb⟩ := hrel
        by_cases hlt : k ≤ D
        · obtain ⟨e1, e2⟩ := HC.out k hlt
          have hki : (k : Int) ≤ (D : Int) := by omega
          have HBk := hb
          clear HB HBs
          have HB := hb
          have HBs : v7.heap.size ≤ v7.heap.size := Nat.le_refl _
          clear hb HBk
          rcases Nat.lt_or_ge k D with hkd | hkd
          · have he : ((k : Int) == (D : Int)) = false := by simp only [beq_eq_false_iff_ne, ne_eq]; omega
            have hct : ¬ 0 < ctV n (k : Int) := by rw [he] at e2; exact of_decide_eq_false e2
            clear e2
            go_wp2_with fail
            refine (impl_CountTetrahedra_any n (k : Int) _).mono ?_
            rintro e v8 ⟨rfl, hb1⟩
            replace HB := below_go HB HBs hb1
            clear hb1
            go_wp2_with fail
            go_roundw
            case rel => exact ⟨k + 1, by omega, by go_num, HB⟩
            case measure => simp [intOf] <;> omega
          · obtain rfl : k = D := by omega
            have hct : 0 < ctV n (k : Int) := by rw [beq_self_eq_true] at e2; exact of_decide_eq_true e2
            clear e2
            go_wp2_with fail
            refine (impl_CountTetrahedra_any n (k : Int) _).mono ?_
            rintro e v9 ⟨rfl, hb1⟩
            replace HB := below_go HB HBs hb1
            clear hb1
            go_wp2_with fail
            go_roundw
            case rel => exact ⟨k + 1, by omega, by go_num, HB⟩
            case measure => simp [intOf] <;> omega
        · have hki : ¬ (k : Int) ≤ (D : Int) := by omega
          go_wp2
          refine Met.intro ?_
          go_step
          refine MeetH.of ?_ ?_
          · exact (below_go HB HBs hb)
          repeat (first | refine Agr.skip ?_ | refine Agr.keep ?_ | exact Agr.nil)
    · simp only [h]
      go_wp2_with fail
      refine Met.intro ?_
      go_step
      refine MeetH.of ?_ ?_
      · exact HB
      repeat (first | refine Agr.skip ?_ | refine Agr.keep ?_ | exact Agr.nil)
  intro u10 v10 hb1
  replace Of := Of.on hb1
  replace HB := below_go HB HBs hb1
  clear hb1
  as_aux_lemma =>
  simp only [fillH]
  clear Of
  clear hl9
  go_wp2_with fail
  refine (impl_CountTetrahedra_any m p _).mono ?_
  rintro e v11 ⟨rfl, hb1⟩
  replace HB := below_go HB HBs hb1
  clear hb1
  go_wp2_with fail
  refine (spec_CountTetrahedra_any m p _).mono ?_
  rintro e v12 ⟨rfl, hb1⟩
  replace HB := below_go HB HBs hb1
  clear hb1
  go_wp2_with fail
  go_ret
  exact ⟨rfl, HB⟩
end Go.Proofs.YtejjgpmdnnogbaaDoor
