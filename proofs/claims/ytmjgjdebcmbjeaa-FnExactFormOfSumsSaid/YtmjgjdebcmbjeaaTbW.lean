/- Chapter 8, by the specification: FormOfSums, SumsFrom. -/
import Derived.Test.YtmjgjdebcmbjeaaTbU
import Derived.Test.YtmjgjdebcmbjeaaTcN
import Derived.Test.YtmjgjdebcmbjeaaTcO
namespace Go.Proofs.Ytmjgjdebcmbjeaa
open Go.RowKit

theorem spec_FormOfSums_no (A : Option Addr) (n c lo : Nat) (xs : List Int) (w : World) (hn : xs.length = n) (hm : n ≤ 1048576) (ha : Own w lo w.heap.size A (i64s xs)) (h : fm8 xs = false) :
    Calls Try.prog 42 #[.slice A n c] w (ResI false [] w) := by
  have HG := Lib.hid (dfForm_any A n c lo w.heap.size xs w hn hm ha)
  rw [h] at HG
  clear ha hn h
  go_enter Try.func42, Try.ntmps42
  go_wp2_with (go_at_call 69; refine HG.out.mono ?_; rintro e w' ⟨rfl, rfl⟩)
  go_ret2
  exact resI_nil (Below.refl _ _)
set_option maxRecDepth 8000 in
set_option maxHeartbeats 1600000 in
theorem spec_FormOfSums_yes (A : Option Addr) (n c lo : Nat) (xs : List Int) (w : World) (hn : xs.length = n) (ha : Own w lo w.heap.size A (i64s xs)) (h : fm8 xs = true) :
    Calls Try.prog 42 #[.slice A n c] w (ResI (ent8 (trm8 (0 :: xs))) (ans8 (ent8 (trm8 (0 :: xs))) (trm8 (0 :: xs))) w) := by
  have hl := fm8_len h
  rw [hn] at hl
  have HG := Lib.hid (dfForm_any A n c lo w.heap.size xs w hn (by omega) ha)
  rw [h] at HG
  by_cases h0 : n = 0
  · have hx : xs = [] := List.eq_nil_of_length_eq_zero (hn.trans h0)
    subst hx
    subst h0
    show Calls _ _ _ _ (ResI true [] w)
    clear ha h
    go_enter Try.func42, Try.ntmps42
    go_wp2_with (go_at_call 69; refine HG.out.mono ?_; rintro e w' ⟨rfl, rfl⟩)
    go_ret2
    exact resI_nil (Below.refl _ _)
  · have hlast : 0 < (0 :: xs).length → (0 :: xs).getD ((0 :: xs).length - 1) 0 ≠ 0 := fun _ => by
      have h1 := fm8_last h (by omega)
      rw [List.length_cons, Nat.add_sub_cancel, show xs.length = (xs.length - 1) + 1 by omega, List.getD_cons_succ]
      exact h1
    rw [trm8_id (0 :: xs) hlast]
    have hf := fm8_of_last hlast
    obtain ⟨i0, hi0, hz0, hz1, hz2⟩ := info_parts infoInt
    have HLi : Hid ((w.alloc (.cells #[.int .i64 0] 3)).ownsRow w.heap.size 3 1 (.slice (some ⟨w.heap.size, 0, none⟩) 1 1) 1 [.int .i64 0]) := Lib.hid (World.ownsRow_lit w #[.int .i64 0] 1 (Nat.le_refl _) (by decide) rfl)
    have HA := Lib.hid (ha.rd.below ((Below.refl w.heap.size w).alloc (Nat.le_refl _) (.cells #[.int .i64 0] 3)) (Nat.le_refl _))
    have HXL : Hid ((i64s xs).length = n) := Lib.hid (by simp [hn])
    have HCL : Hid ((0 :: xs).length = 1 + n) := Lib.hid (by simp; omega)
    have h0i : ¬ (n : Int) = 0 := by omega
    cases hr : ent8 (0 :: xs) with
    | false =>
      have HD := Lib.hid fun B d l W (h : Own W l W.heap.size B (i64s (0 :: xs))) => dfIf_no B (1 + n) d l W.heap.size (0 :: xs) W HCL.out (by omega) h (hf.trans hr)
      show Calls _ _ _ _ (ResI false [] w)
      clear hf hr hlast ha hn h h0
      go_enter Try.func42, Try.ntmps42
      go_wp2_with (first
        | (go_at_call 69; refine HG.out.mono ?_; rintro e w' ⟨rfl, rfl⟩)
        | (at_builtin; refine wpList_append_src rfl _ _ 22 rfl w.heap.size 3 i0 (.int .i64 0) 8 Try.underlying22 hi0 hz0 hz1 hz2 rfl (.slice (some ⟨w.heap.size, 0, none⟩) 1 1) 1 [.int .i64 0] rfl HLi.out A n c (i64s xs) rfl (by rw [HXL.out]) w.heap.size HA.out (i64s_one _) (by unfold maxLen; omega) (by omega) (by simp) ?_; intro v' w3 hown' hgrow; obtain ⟨A1, c1, rfl⟩ := row_form hown'; have HB3 := Lib.hid (((Below.refl w.heap.size w).alloc (Nat.le_refl _) (.cells #[.int .i64 0] 3)).grown hgrow (by simp) (fun g hg => (by simp [Value.ownBlock] at hg; omega))); have HO3 := Lib.hid (own_of_row hown'); clear hown' hgrow)
        | (go_at_call 67; refine (HD.out _ _ _ _ HO3.out).mono ?_; rintro e w' ⟨rfl, rfl⟩))
      go_ret2
      exact resI_nil HB3.out
    | true =>
      have HD := Lib.hid fun B d l W (h : Own W l W.heap.size B (i64s (0 :: xs))) => dfIf_yes B (1 + n) d l W.heap.size (0 :: xs) W HCL.out (by omega) h (hf.trans hr)
      show Calls _ _ _ _ (ResI true (0 :: xs) w)
      clear hf hr hlast ha hn h h0
      go_enter Try.func42, Try.ntmps42
      go_wp2_with (first
        | (go_at_call 69; refine HG.out.mono ?_; rintro e w' ⟨rfl, rfl⟩)
        | (at_builtin; refine wpList_append_src rfl _ _ 22 rfl w.heap.size 3 i0 (.int .i64 0) 8 Try.underlying22 hi0 hz0 hz1 hz2 rfl (.slice (some ⟨w.heap.size, 0, none⟩) 1 1) 1 [.int .i64 0] rfl HLi.out A n c (i64s xs) rfl (by rw [HXL.out]) w.heap.size HA.out (i64s_one _) (by unfold maxLen; omega) (by omega) (by simp) ?_; intro v' w3 hown' hgrow; obtain ⟨A1, c1, rfl⟩ := row_form hown'; have HB3 := Lib.hid (((Below.refl w.heap.size w).alloc (Nat.le_refl _) (.cells #[.int .i64 0] 3)).grown hgrow (by simp) (fun g hg => (by simp [Value.ownBlock] at hg; omega))); have HO3 := Lib.hid (own_of_row hown'); clear hown' hgrow)
        | (go_at_call 67; refine (HD.out _ _ _ _ HO3.out).mono ?_; rintro e w' ⟨rfl, rfl⟩))
      go_ret2
      exact ⟨A1, c1, by rw [HCL.out]; rfl, HO3.out, HB3.out⟩

theorem gd8_sms (a : Int) (xs : List Int) : gd8 (sms8 a xs) = ent8 (sms8 a xs) := by
  rw [gd8_ent, decide_eq_true (by rw [sms8_len]; omega), Bool.true_and]
theorem dfEntry_any (x : Int) (w : World) : Calls Try.prog 77 #[.int .i64 x] w fun e w' => e = .returned (.bool (decide (-1000000 ≤ x ∧ x ≤ 1000000))) ∧ w = w' := by
  by_cases h : x < -1000000 ∨ 1000000 < x
  · rw [decide_eq_false (by omega)]
    have H := Lib.hid h
    clear h
    go_enter Try.func77, Try.ntmps77
    go_wp2_with (go_at_call 70; refine (in_no _ _ _ _ H.out).mono ?_; rintro e w' ⟨rfl, rfl⟩)
    go_ret
    exact ⟨rfl, rfl⟩
  · have h1 : -1000000 ≤ x := by omega
    have h2 : x ≤ 1000000 := by omega
    rw [decide_eq_true ⟨h1, h2⟩]
    clear h
    go_enter Try.func77, Try.ntmps77
    go_wp2_with (go_at_call 70; refine (in_yes _ _ _ _ h1 h2).mono ?_; rintro e w' ⟨rfl, rfl⟩)
    go_ret
    exact ⟨rfl, rfl⟩
theorem spec_SumsFrom_no (a : Int) (A : Option Addr) (n c lo : Nat) (xs : List Int) (w : World) (hn : xs.length = n) (hm : n ≤ 1048576) (ha : Own w lo w.heap.size A (i64s xs)) (h : (a < -1000000 ∨ 1000000 < a) ∨ gd8 xs = false) :
    Calls Try.prog 40 #[.int .i64 a, .slice A n c] w (ResI false [] w) := by
  have HG := Lib.hid (dfGood_any A n c lo w.heap.size xs w hn hm ha)
  have HE := Lib.hid fun W => dfEntry_any a W
  clear ha hn
  by_cases h1 : a < -1000000 ∨ 1000000 < a
  · rw [decide_eq_false (by omega)] at HE
    clear h h1
    go_enter Try.func40, Try.ntmps40
    go_wp2_with (go_at_call 77; refine (HE.out _).mono ?_; rintro e w' ⟨rfl, rfl⟩)
    go_ret2
    exact resI_nil (Below.refl _ _)
  · rw [decide_eq_true (by omega)] at HE
    rw [h.resolve_left h1] at HG
    clear h h1
    go_enter Try.func40, Try.ntmps40
    go_wp2_with (first
      | (go_at_call 77; refine (HE.out _).mono ?_; rintro e w' ⟨rfl, rfl⟩)
      | (go_at_call 58; refine HG.out.mono ?_; rintro e w' ⟨rfl, rfl⟩))
    go_ret2
    exact resI_nil (Below.refl _ _)
set_option maxRecDepth 8000 in
set_option maxHeartbeats 1600000 in
theorem spec_SumsFrom_yes (a : Int) (A : Option Addr) (n c lo : Nat) (xs : List Int) (w : World) (hn : xs.length = n) (ha : Own w lo w.heap.size A (i64s xs)) (h1 : -1000000 ≤ a) (h2 : a ≤ 1000000) (h : gd8 xs = true) :
    Calls Try.prog 40 #[.int .i64 a, .slice A n c] w (ResI (ent8 (sms8 a xs)) (ans8 (ent8 (sms8 a xs)) (sms8 a xs)) w) := by
  obtain ⟨i0, hi0, hz0, hz1, hz2⟩ := info_parts infoInt
  have hl := gd8_len h
  rw [hn] at hl
  have hbd := gd8_bd h
  have HG := Lib.hid (dfGood_any A n c lo w.heap.size xs w hn (by omega) ha)
  rw [h] at HG
  have HI := Lib.hid fun W => dfEntry_any a W
  rw [decide_eq_true ⟨h1, h2⟩] at HI
  have HA := Lib.hid ha
  have HBd := Lib.hid hbd
  have HBs := Lib.hid ((Bd.sms xs a 1000000 hbd h1 h2).mono (show 1000000 + (xs.length : Int) * 1000000 ≤ 13000000 by omega))
  have HLe : Hid ((sms8 a xs).length = n + 1) := Lib.hid (by rw [sms8_len, hn])
  have HG2 := Lib.hid fun B d l W (h : Own W l W.heap.size B (i64s (sms8 a xs))) => dfGood_any B (n + 1) d l W.heap.size (sms8 a xs) W HLe.out (by omega) h
  rw [gd8_sms] at HG2
  have HG3 := Lib.hid (show ∀ k, k < n → (i64s xs)[k]? = some (.int .i64 (xs.getD k 0)) from fun k hk => by simp [List.getD_eq_getElem?_getD, hn, hk])
  have HIL : Hid ((i64s xs).length = n) := Lib.hid (by simp [hn])
  have HT := Lib.hid (show ∀ k, k < n → sms8 a (xs.take (k + 1)) = sms8 a (xs.take k) ++ [(sms8 a (xs.take k)).getD k 0 + xs.getD k 0] from fun k hk => by
    have h1 : xs.take (k + 1) = xs.take k ++ [xs.getD k 0] := by
      rw [List.take_succ_eq_append_getElem (by omega)]
      simp [List.getD_eq_getElem?_getD, hn, hk]
    have h2 : (xs.take k).length = k := by rw [List.length_take]; omega
    rw [h1, sms8_snoc, h2])
  have HL := Lib.hid (show ∀ k, k ≤ n → (sms8 a (xs.take k)).length = k + 1 from fun k hk => by rw [sms8_len, List.length_take, hn]; omega)
  have HBk := Lib.hid fun k => ((Bd.sms (xs.take k) a 1000000 (hbd.take k) h1 h2).mono (show 1000000 + ((xs.take k).length : Int) * 1000000 ≤ 13000000 by have : (xs.take k).length ≤ 12 := (by rw [List.length_take]; omega); omega))
  have H0 : Hid (i64s (sms8 a (xs.take 0)) = [.int .i64 a]) := Lib.hid (by rw [List.take_zero]; rfl)
  have HF : Hid (xs.take n = xs) := Lib.hid (List.take_of_length_le (by omega))
  have HLi : Hid ((w.alloc (.cells #[.int .i64 a] 3)).ownsRow w.heap.size 3 1 (.slice (some ⟨w.heap.size, 0, none⟩) 1 1) 1 [.int .i64 a]) := Lib.hid (World.ownsRow_lit w #[.int .i64 a] 1 (Nat.le_refl _) (by decide) rfl)
  obtain ⟨r, hr⟩ : ∃ r, r = ent8 (sms8 a xs) := ⟨_, rfl⟩
  rw [← hr] at HG2 ⊢
  clear hbd h ha hn hr h1 h2
  go_enter Try.func40, Try.ntmps40
  go_wp2_with (first
    | (go_at_call 77; refine (HI.out _).mono ?_; rintro e w' ⟨rfl, rfl⟩)
    | (go_at_call 58; refine HG.out.mono ?_; rintro e w' ⟨rfl, rfl⟩))
  go_loopw [6, 21] (fun v i wr => ∃ (k : Nat) (A' : Option Addr) (c' : Nat), k ≤ n ∧ i = .int .i64 (k : Int) ∧ v = .slice A' (k + 1) c' ∧ Hid (wr.ownsRow w.heap.size 3 1 v (k + 1) (i64s (sms8 a (xs.take k)))) ∧ Hid (Below w.heap.size w wr)) (fun _ i _ => n - (intOf i).toNat)
  case atStart => exact ⟨0, some ⟨w.heap.size, 0, none⟩, 1, by omega, by simp, rfl, Lib.hid (by rw [H0.out]; exact HLi.out), Lib.hid ((Below.refl _ _).alloc (Nat.le_refl _) _)⟩
  case round =>
    obtain ⟨k, A', c', hk, rfl, rfl, hR, hbl⟩ := hrel
    by_cases hlt : k < n
    · have hki : (k : Int) < (n : Int) := by omega
      have hk0 : (0 : Int) ≤ (k : Int) := by omega
      obtain ⟨g, o, rfl, hg0, hg1, hcs⟩ := (HA.out.below hbl.out (Nat.le_refl _)) (by rw [HIL.out]; omega)
      have c0 := (hcs _ _ (HG3.out k hlt)).1
      have HK := Lib.hid (HT.out k hlt)
      have hLk := HL.out k hk
      have b1 := HBd.out k
      have b2 := HBk.out k k
      obtain ⟨g', o', rfl, _, _, hcs2⟩ := (own_of_row hR.out) (by simp [hLk])
      have c1 := (hcs2 k (.int .i64 ((sms8 a (xs.take k)).getD k 0)) (by simp [List.getD_eq_getElem?_getD, hLk])).1
      generalize xs.getD k 0 = x at *
      generalize (sms8 a (xs.take k)).getD k 0 = u at *
      obtain ⟨m, hkm⟩ : ∃ m, m = k + 1 := ⟨_, rfl⟩
      rw [← hkm] at hR ⊢
      have e1 : IntKind.i64.wrap ((m : Int) - 1) = (k : Int) := by rw [IntWalk.i64_in _ (by omega)]; omega
      have e2 : IntKind.i64.wrap (u + x) = u + x := IntWalk.i64_in _ (by omega)
      have q1 : (k : Int) < (m : Int) := by omega
      have HKM := Lib.hid hkm
      have hm13 : m ≤ 13 := by omega
      clear hcs hcs2 hLk hkm
      go_wp2_with (at_builtin; refine wpList_append_own _ rfl _ _ 22 rfl w.heap.size 3 i0 (.int .i64 0) 1 8 Try.underlying22 hi0 hz0 hz1 hz2 rfl (by decide) _ _ _ rfl (hR.out.alloc _) ⟨wr.heap.size, 0, none⟩ 1 1 [.int .i64 (u + x)] rfl rfl ?c1 ?c2 ?c3 ?c4 ?c5 ?_)
      case c1 =>
        intro j2 u hj
        match j2, hj with
        | 0, hj => simp at hj; subst hj; simp [Addr.add]
      case c2 => intro u hu; simp at hu; subst hu; rfl
      case c3 => unfold maxLen; omega
      case c4 => omega
      case c5 => exact Nat.le_trans hbl.out.size (by simp)
      · intro v' w5 hown' hgrow _
        obtain ⟨A5, c5, rfl⟩ := row_form hown'
        have HO5 : Hid (w5.ownsRow w.heap.size 3 1 (.slice A5 (m + 1) c5) (m + 1) (i64s (sms8 a (xs.take (k + 1))))) := Lib.hid (by
          rw [HK.out]
          simpa using hown')
        have HB5 : Hid (Below w.heap.size w w5) := Lib.hid ((hbl.out.alloc hbl.out.size _).grown hgrow (Nat.le_trans hbl.out.size (by simp)) fun g hg => (hR.out.lt g hg).1)
        clear hown' hgrow
        go_wp2
        go_roundw
        case rel => exact ⟨k + 1, A5, c5, by omega, by go_num, by rw [HKM.out], by rw [← HKM.out] at HO5 ⊢; exact HO5, HB5⟩
        case measure => simp [intOf]; omega
    · obtain rfl : k = n := by omega
      have hO := own_of_row hR.out
      rw [HF.out] at hO
      have HO := Lib.hid hO
      clear hO
      cases r with
      | true =>
        go_wp2_with (go_at_call 58; refine (HG2.out _ _ _ _ HO.out).mono ?_; rintro e w' ⟨rfl, rfl⟩)
        go_ret2
        exact ⟨A', c', by rw [show ans8 true (sms8 a xs) = sms8 a xs from rfl, HLe.out]; rfl, HO.out, hbl.out⟩
      | false =>
        go_wp2_with (go_at_call 58; refine (HG2.out _ _ _ _ HO.out).mono ?_; rintro e w' ⟨rfl, rfl⟩)
        go_ret2
        exact resI_nil hbl.out
end Go.Proofs.Ytmjgjdebcmbjeaa
