/- Chapter 8, by the specification: FormOfSums, SumsFrom. -/
import Derived.Test.YtjfpnecnmdclfaaMe
import Derived.Test.YtjfpnecnmdclfaaTcO
namespace Go.Proofs.Ytjfpnecnmdclfaa
open Go.RowKit

theorem spec_FormOfSums_no (A : Option Addr) (n c lo : Nat) (xs : List Int) (w : World) (hn : xs.length = n) (hm : n ≤ 1048576) (ha : Own w lo w.heap.size A (i64s xs)) (h : fm8 xs = false) :
    Calls Try.prog 8 #[.slice A n c] w (ResI false [] w) := by
  have HG := Lib.hid (dfForm_any A n c lo w.heap.size xs w hn hm ha)
  rw [h] at HG
  clear ha hn h
  go_enter Try.func8, Try.ntmps8
  go_wp2_with (go_at_call 36; refine HG.out.mono ?_; rintro e w' ⟨rfl, rfl⟩)
  go_ret2
  exact resI_nil (Below.refl _ _)
set_option maxRecDepth 8000 in
set_option maxHeartbeats 1600000 in
theorem spec_FormOfSums_yes (A : Option Addr) (n c lo : Nat) (xs : List Int) (w : World) (hn : xs.length = n) (ha : Own w lo w.heap.size A (i64s xs)) (h : fm8 xs = true) :
    Calls Try.prog 8 #[.slice A n c] w (ResI (ent8 (trm8 (0 :: xs))) (ans8 (ent8 (trm8 (0 :: xs))) (trm8 (0 :: xs))) w) := by
  have hl := fm8_len h
  rw [hn] at hl
  have HG := Lib.hid (dfForm_any A n c lo w.heap.size xs w hn (by omega) ha)
  rw [h] at HG
  by_cases h0 : n = 0
  · have hx : xs = [] := List.eq_nil_of_length_eq_zero (hn.trans h0)
    subst hx
    subst h0
    show Calls _ _ _ _ (ResI true [] w)
    clear ha h
    go_enter Try.func8, Try.ntmps8
    go_wp2_with (go_at_call 36; refine HG.out.mono ?_; rintro e w' ⟨rfl, rfl⟩)
    go_ret2
    exact resI_nil (Below.refl _ _)
  · have hlast : 0 < (0 :: xs).length → (0 :: xs).getD ((0 :: xs).length - 1) 0 ≠ 0 := fun _ => by
      have h1 := fm8_last h (by omega)
      rw [List.length_cons, Nat.add_sub_cancel, show xs.length = (xs.length - 1) + 1 by omega, List.getD_cons_succ]
      exact h1
    rw [trm8_id (0 :: xs) hlast]
    have hf := fm8_of_last hlast
    obtain ⟨i0, hi0, hz0, hz1, hz2⟩ := info_parts infoInt
    have HLi : Hid ((w.alloc (.cells #[.int .i64 0] 3)).ownsRow w.heap.size 3 1 (.slice (some ⟨w.heap.size, 0, none⟩) 1 1) 1 [.int .i64 0]) := Lib.hid (World.ownsRow_lit w #[.int .i64 0] 1 (Nat.le_refl _) (by decide) rfl)
    have HA := Lib.hid (ha.rd.below ((Below.refl w.heap.size w).alloc (Nat.le_refl _) (.cells #[.int .i64 0] 3)) (Nat.le_refl _))
    have HXL : Hid ((i64s xs).length = n) := Lib.hid (by simp [hn])
    have HCL : Hid ((0 :: xs).length = 1 + n) := Lib.hid (by simp; omega)
    have h0i : ¬ (n : Int) = 0 := by omega
    cases hr : ent8 (0 :: xs) with
    | false =>
      have HD := Lib.hid fun B d l W (h : Own W l W.heap.size B (i64s (0 :: xs))) => dfIf_no B (1 + n) d l W.heap.size (0 :: xs) W HCL.out (by omega) h (hf.trans hr)
      show Calls _ _ _ _ (ResI false [] w)
      clear hf hr hlast ha hn h h0
      go_enter Try.func8, Try.ntmps8
      go_wp2_with (first
        | (go_at_call 36; refine HG.out.mono ?_; rintro e w' ⟨rfl, rfl⟩)
        | (at_builtin; refine wpList_append_src rfl _ _ 24 rfl w.heap.size 3 i0 (.int .i64 0) 8 Try.underlying24 hi0 hz0 hz1 hz2 rfl (.slice (some ⟨w.heap.size, 0, none⟩) 1 1) 1 [.int .i64 0] rfl HLi.out A n c (i64s xs) rfl (by rw [HXL.out]) w.heap.size HA.out (i64s_one _) (by unfold maxLen; omega) (by omega) (by simp) ?_; intro v' w3 hown' hgrow; obtain ⟨A1, c1, rfl⟩ := row_form hown'; have HB3 := Lib.hid (((Below.refl w.heap.size w).alloc (Nat.le_refl _) (.cells #[.int .i64 0] 3)).grown hgrow (by simp) (fun g hg => (by simp [Value.ownBlock] at hg; omega))); have HO3 := Lib.hid (own_of_row hown'); clear hown' hgrow)
        | (go_at_call 37; refine (HD.out _ _ _ _ HO3.out).mono ?_; rintro e w' ⟨rfl, rfl⟩))
      go_ret2
      exact resI_nil HB3.out
    | true =>
      have HD := Lib.hid fun B d l W (h : Own W l W.heap.size B (i64s (0 :: xs))) => dfIf_yes B (1 + n) d l W.heap.size (0 :: xs) W HCL.out (by omega) h (hf.trans hr)
      show Calls _ _ _ _ (ResI true (0 :: xs) w)
      clear hf hr hlast ha hn h h0
      go_enter Try.func8, Try.ntmps8
      go_wp2_with (first
        | (go_at_call 36; refine HG.out.mono ?_; rintro e w' ⟨rfl, rfl⟩)
        | (at_builtin; refine wpList_append_src rfl _ _ 24 rfl w.heap.size 3 i0 (.int .i64 0) 8 Try.underlying24 hi0 hz0 hz1 hz2 rfl (.slice (some ⟨w.heap.size, 0, none⟩) 1 1) 1 [.int .i64 0] rfl HLi.out A n c (i64s xs) rfl (by rw [HXL.out]) w.heap.size HA.out (i64s_one _) (by unfold maxLen; omega) (by omega) (by simp) ?_; intro v' w3 hown' hgrow; obtain ⟨A1, c1, rfl⟩ := row_form hown'; have HB3 := Lib.hid (((Below.refl w.heap.size w).alloc (Nat.le_refl _) (.cells #[.int .i64 0] 3)).grown hgrow (by simp) (fun g hg => (by simp [Value.ownBlock] at hg; omega))); have HO3 := Lib.hid (own_of_row hown'); clear hown' hgrow)
        | (go_at_call 37; refine (HD.out _ _ _ _ HO3.out).mono ?_; rintro e w' ⟨rfl, rfl⟩))
      go_ret2
      exact ⟨A1, c1, by rw [HCL.out]; rfl, HO3.out, HB3.out⟩

theorem gd8_sms (a : Int) (xs : List Int) : gd8 (sms8 a xs) = ent8 (sms8 a xs) := by
  rw [gd8_ent, decide_eq_true (by rw [sms8_len]; omega), Bool.true_and]
end Go.Proofs.Ytjfpnecnmdclfaa
