/- Chapter 5: the laws SquaresApart, CountSquaresApart. -/
import Derived.Test.YtkhjeleoppdjgabRuY
namespace Go.Proofs.Ytkhjeleoppdjgab
open Go.ChangeShapes Go.WideShapes Go.ChangeAt Go.RowKit Go.Shelf Go.Sort

set_option maxHeartbeats 3200000 in
theorem ruSquares_any (n : Int) (w : World) (h0 : 1 ≤ n) (h1 : n ≤ 1000000) :
    Calls Try.prog 75 #[.int .i64 n] w fun e w' => ∃ V rs, e = .returned V ∧ Lists w' w.heap.size V rs ((alikes n).map sqR).reverse ∧ Below w.heap.size w w' := by
  obtain ⟨ir, hir, hzr0, hzr1, hzr2⟩ := info_parts infoRow2
  have HR := Lib.hid fun W => shRoot5_any n W (by omega) (by omega)
  have hr := rootN n h0 (by omega)
  have HF : Hid (((alikes n).map sqR).reverse = selDown (fQ n) (rt n).toNat 0) := Lib.hid (by rw [selDown_end, sq_eq])
  have hrt : rt n = ((rt n).toNat : Int) := by have := rt_nn n (by omega); omega
  rw [hrt] at HR
  generalize (rt n).toNat = R at hr HF HR
  have HLE := Lib.hid hr.le
  have r0 := hr.r0
  have r1 := hr.r1
  clear hr hrt
  go_enter Try.func75, Try.ntmps75
  go_wp2_with (go_at_call 78; refine (HR.out _).mono ?_; rintro e w' ⟨rfl, rfl⟩)
  go_loopw [3, 4] (fun v i wr => ∃ (d : Nat) (rs : List Value), d ≤ R ∧ i = .int .i64 (d : Int) ∧ rs.length + d ≤ R ∧ Hid (Lists wr w.heap.size v rs (selDown (fQ n) R d)) ∧ Below w.heap.size w wr) (fun _ i _ => (intOf i).toNat)
  case atStart => exact ⟨R, [], by omega, rfl, by simp, Lib.hid (by rw [selDown_top]; exact Lists.nil _ _), Below.refl _ _⟩
  case round =>
    obtain ⟨d, rs, hd, rfl, hrd, HL, hb⟩ := hrel
    by_cases hlt : 0 < d
    · obtain ⟨m, rfl⟩ : ∃ m, d = m + 1 := ⟨d - 1, by omega⟩
      have hle := HLE.out m (by omega)
      have hcast : ((m + 1 : Nat) : Int) = (m : Int) + 1 := by omega
      rw [hcast]
      obtain ⟨e, he⟩ : ∃ e : Int, e = (m : Int) + 1 := ⟨_, rfl⟩
      have HE := Lib.hid he
      rw [← he] at hle ⊢
      have e1 : 1 ≤ e := by omega
      have e2 : e ≤ 1415 := by omega
      have hq0 : 0 ≤ n / e := Int.ediv_nonneg (by omega) (by omega)
      have hq1 : n / e ≤ n := Int.ediv_le_self _ (by omega)
      by_cases hc : n % e = 0
      · have hdv := div_spec n e e1 hc
        have hle2 : e ≤ n / e := le_of_sq (by omega) (by omega) hle hdv e1
        by_cases hp : (n / e - e) % 2 = 0
        · obtain ⟨b, hb'⟩ : ∃ b, b = n / e := ⟨_, rfl⟩
          obtain ⟨s, hs⟩ : ∃ s, s = (b + e) / 2 := ⟨_, rfl⟩
          obtain ⟨t, ht⟩ : ∃ t, t = (b - e) / 2 := ⟨_, rfl⟩
          have HS := Lib.hid (selDown_some (fQ n) R m (by omega) (x := [s, t]) (by rw [← he, fQ, if_pos ⟨hc, hp⟩, hs, ht, hb']))
          have HBE := Lib.hid hb'
          have HSE := Lib.hid hs
          have HTE := Lib.hid ht
          have hdp : 0 ≤ n / e - e := by omega
          clear hdv hs ht he hb'
          go_wp2_with fail
          have he0 : ¬ e = 0 := by omega
          have q0 : IntKind.i64.wrap (n.tdiv e) = n / e := by rw [Int.tdiv_eq_ediv_of_nonneg (by omega)]; exact IntWalk.i64_in _ (by omega)
          have HLD := Lib.hid (show Lists wr.drew w.heap.size u3 rs (selDown (fQ n) R (m + 1)) from HL.out.below ((Below.refl wr.heap.size wr).drew) (Nat.le_refl _))
          have HLW := Lib.hid ((HLD.out.2.1.alloc (.cells #[.int .i64 s, .int .i64 t] 3)).alloc (.cells #[.slice (some ⟨wr.drew.heap.size, 0, none⟩) 2 2] 34))
          have HBB := Lib.hid (show Below w.heap.size w wr.drew from hb.drew)
          have hrl : rs.length ≤ 1415 := by omega
          have q1 : IntKind.i64.wrap (n / e + e) = n / e + e := IntWalk.i64_in _ (by omega)
          have q2 : IntKind.i64.wrap ((n / e + e).tdiv 2) = s := by rw [Int.tdiv_eq_ediv_of_nonneg (by omega), ← HBE.out, ← HSE.out]; exact IntWalk.i64_in _ (by have := HBE.out; have := HSE.out; omega)
          have q2' : IntKind.i64.wrap ((n / e + e) / 2) = s := by rw [← HBE.out, ← HSE.out]; exact IntWalk.i64_in _ (by have := HBE.out; have := HSE.out; omega)
          have q3 : IntKind.i64.wrap (n / e - e) = n / e - e := IntWalk.i64_in _ (by omega)
          have q4 : IntKind.i64.wrap ((n / e - e).tdiv 2) = t := by rw [Int.tdiv_eq_ediv_of_nonneg (by omega), ← HBE.out, ← HTE.out]; exact IntWalk.i64_in _ (by have := HBE.out; have := HTE.out; omega)
          have q4' : IntKind.i64.wrap ((n / e - e) / 2) = t := by rw [← HBE.out, ← HTE.out]; exact IntWalk.i64_in _ (by have := HBE.out; have := HTE.out; omega)
          clear hb hc hp hle
          go_region_law (refine step_append_lies _ rfl (.tmp 24) (.tmp 38) 22 rfl w.heap.size 34 ir (.slice none 0 0) 1 24 Try.underlying22 hir hzr0 hzr1 hzr2 rfl (by decide) u3 rs.length rs (by simp [Act.eval]) HLW.out ⟨wr.drew.heap.size + 1, 0, none⟩ 1 1 [.slice (some ⟨wr.drew.heap.size, 0, none⟩) 2 2] (by simp [Act.eval]) rfl (two_one_new wr.drew _ _ _ _ _) (by intro u hu; simp at hu; subst hu; rfl) (by omega) (by unfold maxLen; omega) (by omega) (by have := HBB.out.size; simp at this ⊢; omega) _ rfl ?_; intro g2 cap2 w3 hown' hgrow hat hlt2; have HO := Lib.hid hown'; have HG := Lib.hid hgrow; clear hown' hgrow hat)
          all_goals
            have HL5 : Hid (Lists w3 w.heap.size (.slice (some ⟨g2, 0, none⟩) (rs.length + 1) cap2) (rs ++ [.slice (some ⟨wr.drew.heap.size, 0, none⟩) 2 2]) (selDown (fQ n) R m)) := Lib.hid (by rw [HS.out]; exact HLD.out.two (Below.refl _ _) HBB.out.size HO.out HG.out)
            have hb5 : Below w.heap.size w w3 := Lists.two_below HBB.out HBB.out.size (Nat.le_refl _) HLD.out.2.1 HG.out
            clear q0 he0 q1 q2 q3 q4 q2' q4' HLW HLD HBB HO HG
            go_wp2
            go_roundw
            case rel => exact ⟨m, _, by omega, by rw [show e - 1 = (m : Int) by have := HE.out; omega], by simp; omega, HL5, hb5⟩
            case measure => have := HE.out; simp [intOf]; omega
        · have hs := selDown_none (fQ n) R m (by omega) (by rw [← he, fQ, if_neg (by rintro ⟨_, h⟩; exact hp h)])
          have HL2 : Hid (Lists wr w.heap.size u3 rs (selDown (fQ n) R m)) := Lib.hid (by rw [hs]; exact HL.out)
          have hdp : 0 ≤ n / e - e := by omega
          have hpb : ((n / e - e) % 2 == 0) = false := by simpa using hp
          clear hs hdv he hp
          go_wp2
          go_roundw
          case rel => exact ⟨m, rs, by omega, by rw [show e - 1 = (m : Int) by have := HE.out; omega], by omega, HL2, hb⟩
          case measure => have := HE.out; simp [intOf]; omega
      · have hs := selDown_none (fQ n) R m (by omega) (by rw [← he, fQ, if_neg (by rintro ⟨h, _⟩; exact hc h)])
        have HL2 : Hid (Lists wr w.heap.size u3 rs (selDown (fQ n) R m)) := Lib.hid (by rw [hs]; exact HL.out)
        have hcb : (n % e == 0) = false := by simpa using hc
        clear hs he hc
        go_wp2
        go_roundw
        case rel => exact ⟨m, rs, by omega, by rw [show e - 1 = (m : Int) by have := HE.out; omega], by omega, HL2, hb⟩
        case measure => have := HE.out; simp [intOf]; omega
    · obtain rfl : d = 0 := by omega
      have HRES : Hid (Lists wr w.heap.size u3 rs ((alikes n).map sqR).reverse) := Lib.hid (by rw [HF.out]; exact HL.out)
      go_wp2
      go_ret
      exact ⟨u3, rs, rfl, HRES.out, hb⟩
theorem sqs_len (n : Int) (h0 : 1 ≤ n) (h1 : n ≤ 1000000) : (((alikes n).map sqR).reverse).length ≤ 1500 := by
  have := alikes_len n h0 h1
  simp
  omega
theorem spec_SquaresApart_yes (n : Int) (w : World) (h0 : 1 ≤ n) (h1 : n ≤ 1000000) :
    Calls Try.prog 8 #[.int .i64 n] w (ResSS true ((alikes n).map sqR).reverse w) := by
  have HA := Lib.hid (betr_yes h0 h1)
  have HC := Lib.hid fun W => ruSquares_any n W h0 h1
  go_enter Try.func8, Try.ntmps8
  go_wp2_with (first
    | (go_at_call 74; refine (ruGood_any _ _).mono ?_; rw [HA.out]; rintro e w' ⟨rfl, rfl⟩)
    | (go_at_call 75; refine (HC.out _).mono ?_; rintro e w1 ⟨V, rs, rfl, hl, hb1⟩; have HR := Lib.hid (resSS_of hl hb1); clear hl hb1))
  go_ret2
  exact HR.out
theorem spec_CountSquaresApart_yes (n : Int) (w : World) (h0 : 1 ≤ n) (h1 : n ≤ 1000000) :
    Calls Try.prog 10 #[.int .i64 n] w fun e w' => e = .returned (.tuple #[.int .i64 (((alikes n).map sqR).reverse).length, .bool true]) ∧ Below w.heap.size w w' := by
  have HA := Lib.hid (betr_yes h0 h1)
  have hl := sqs_len n h0 h1
  have HC := Lib.hid fun W => ruSquares_any n W h0 h1
  obtain ⟨xss, hx⟩ : ∃ xss, xss = ((alikes n).map sqR).reverse := ⟨_, rfl⟩
  rw [← hx] at HC hl ⊢
  obtain ⟨N, hN⟩ : ∃ N, N = xss.length := ⟨_, rfl⟩
  rw [← hN] at hl ⊢
  have HN := Lib.hid hN
  clear hx hN
  go_enter Try.func10, Try.ntmps10
  go_wp2_with (first
    | (go_at_call 74; refine (ruGood_any _ _).mono ?_; rw [HA.out]; rintro e w' ⟨rfl, rfl⟩)
    | (go_at_call 75; refine (HC.out _).mono ?_; rintro e w1 ⟨V, rs, rfl, hl, hb1⟩; obtain ⟨A, c, Af, cf, rfl, _⟩ := hl.ownL; rw [← HN.out]; clear hl))
  go_ret2
  exact ⟨rfl, hb1⟩
theorem impl_CountSquaresApart_of (n : Int) (ok : Bool) (xss : List (List Int)) (h : ∀ w, Calls Try.prog 7 #[.int .i64 n] w (ResSS ok xss w)) (_hl : xss.length ≤ 1000000) (w : World) :
    Calls Try.prog 9 #[.int .i64 n] w fun e w' => e = .returned (.tuple #[.int .i64 xss.length, .bool ok]) ∧ Below w.heap.size w w' := by
  have HC := Lib.hid h
  clear h
  obtain ⟨N, hN⟩ : ∃ N, N = xss.length := ⟨_, rfl⟩
  rw [← hN] at _hl ⊢
  have HN := Lib.hid hN
  clear hN
  go_enter Try.func9, Try.ntmps9
  go_wp2_with (go_at_call 7; refine (HC.out _).mono ?_; rintro e w1 ⟨A, c, Af, cf, rfl, ho, hb1⟩; rw [← HN.out]; clear ho)
  go_ret2
  exact ⟨rfl, hb1⟩
theorem spec_SquaresApart_no (n : Int) (w : World) (h : n < 1 ∨ 1000000 < n) :
    Calls Try.prog 8 #[.int .i64 n] w (ResSS false [] w) := by
  have HA := Lib.hid (betr_no h)
  clear h
  go_enter Try.func8, Try.ntmps8
  go_wp2_with (go_at_call 74; refine (ruGood_any _ _).mono ?_; rw [HA.out]; rintro e w' ⟨rfl, rfl⟩)
  go_ret2
  exact resSS_nil (Below.refl _ _)
theorem impl_SquaresApart_no (n : Int) (w : World) (h : n < 1 ∨ 1000000 < n) :
    Calls Try.prog 7 #[.int .i64 n] w (ResSS false [] w) := by
  have HA := Lib.hid (betr_no h)
  clear h
  go_enter Try.func7, Try.ntmps7
  go_wp2_with (go_at_call 70; refine (isRunned_any _ _).mono ?_; rw [HA.out]; rintro e w' ⟨rfl, rfl⟩)
  go_ret2
  exact resSS_nil (Below.refl _ _)
theorem spec_CountSquaresApart_no (n : Int) (w : World) (h : n < 1 ∨ 1000000 < n) :
    Calls Try.prog 10 #[.int .i64 n] w fun e w' => e = .returned (.tuple #[.int .i64 0, .bool false]) ∧ Below w.heap.size w w' := by
  have HA := Lib.hid (betr_no h)
  clear h
  go_enter Try.func10, Try.ntmps10
  go_wp2_with (go_at_call 74; refine (ruGood_any _ _).mono ?_; rw [HA.out]; rintro e w' ⟨rfl, rfl⟩)
  go_ret2
  exact ⟨rfl, Below.refl _ _⟩
end Go.Proofs.Ytkhjeleoppdjgab
