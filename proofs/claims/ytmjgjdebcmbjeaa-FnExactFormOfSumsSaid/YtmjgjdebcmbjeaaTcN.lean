/- Chapter 8, the program: FormOfSums. -/
import Derived.Test.YtmjgjdebcmbjeaaTcL
import Derived.Test.YtmjgjdebcmbjeaaSuI
namespace Go.Proofs.Ytmjgjdebcmbjeaa
open Go.RowKit

theorem Bd.cons0 {M : Int} {xs : List Int} (h : Bd M xs) : Bd M (0 :: xs) := fun j => by
  have := h.nonneg
  cases j with
  | zero => simp; omega
  | succ j => rw [List.getD_cons_succ]; exact h j
theorem impl_FormOfSums_no (A : Option Addr) (n c lo : Nat) (xs : List Int) (w : World) (hn : xs.length = n) (hm : n ≤ 1048576) (ha : Own w lo w.heap.size A (i64s xs)) (h : fm8 xs = false) :
    Calls Try.prog 43 #[.slice A n c] w (ResI false [] w) := by
  have HG := Lib.hid (isForm8_any A n c lo w.heap.size xs w hn hm ha)
  rw [h] at HG
  clear ha hn h
  go_enter Try.func43, Try.ntmps43
  go_wp2_with (go_at_call 72; refine HG.out.mono ?_; rintro e w' ⟨rfl, rfl⟩)
  go_ret2
  exact resI_nil (Below.refl _ _)
set_option maxRecDepth 8000 in
set_option maxHeartbeats 1600000 in
theorem impl_FormOfSums_yes (A : Option Addr) (n c lo : Nat) (xs : List Int) (w : World) (hn : xs.length = n) (ha : Own w lo w.heap.size A (i64s xs)) (h : fm8 xs = true) :
    Calls Try.prog 43 #[.slice A n c] w (ResI (ent8 (trm8 (0 :: xs))) (ans8 (ent8 (trm8 (0 :: xs))) (trm8 (0 :: xs))) w) := by
  subst hn
  have hl : xs.length ≤ 12 := fm8_len h
  have hbd : Bd 1000000 xs := fm8_bd h
  have HG := Lib.hid (isForm8_any A xs.length c lo w.heap.size xs w rfl (by omega) ha)
  rw [h] at HG
  obtain ⟨i0, hi0, hz0, hz1, hz2⟩ := info_parts infoInt
  have HLi : Hid ((w.alloc (.cells #[.int .i64 0] 3)).ownsRow w.heap.size 3 1 (.slice (some ⟨w.heap.size, 0, none⟩) 1 1) 1 [.int .i64 0]) := Lib.hid (World.ownsRow_lit w #[.int .i64 0] 1 (Nat.le_refl _) (by decide) rfl)
  have HA := Lib.hid (ha.rd.below ((Below.refl w.heap.size w).alloc (Nat.le_refl _) (.cells #[.int .i64 0] 3)) (Nat.le_refl _))
  have HXL : Hid ((i64s xs).length = xs.length) := Lib.hid (by simp)
  have HR := Lib.hid fun B d l W (h : Own W l W.heap.size B (i64s (0 :: xs))) => rowOf_any B (1 + xs.length) d l W.heap.size (0 :: xs) W (by simp; omega) (by omega) h (Nat.le_refl _) (hbd.cons0.i64 (by omega))
  have H0 := Lib.hid fun B d l W (hd : (0 :: xs).length ≤ d) (h : Own W l W.heap.size B (l64s (0 :: xs))) => trim_any B (0 :: xs).length d l W.heap.size (0 :: xs) W rfl (by simp; omega) hd (hbd.cons0.sm (by omega)) h (Nat.le_refl _)
  have HE := Lib.hid fun B d l W (h : Own W l W.heap.size B (l64s (trm8 (0 :: xs)))) => entries_any B (trm8 (0 :: xs)).length d l W.heap.size (trm8 (0 :: xs)) W rfl (by rw [trm8_len]; exact Nat.le_trans (tln8_le _ _) (by simp; omega)) ((hbd.cons0.trm).sm (by omega)) h (Nat.le_refl _)
  clear hbd h
  generalize ent8 (trm8 (0 :: xs)) = r at *
  generalize ans8 r (trm8 (0 :: xs)) = zs at *
  skip
  go_enter Try.func43, Try.ntmps43
  go_wp2_with (first
    | (go_at_call 72; refine HG.out.mono ?_; rintro e w' ⟨rfl, rfl⟩)
    | (at_builtin; refine wpList_append_src rfl _ _ 22 rfl w.heap.size 3 i0 (.int .i64 0) 8 Try.underlying22 hi0 hz0 hz1 hz2 rfl (.slice (some ⟨w.heap.size, 0, none⟩) 1 1) 1 [.int .i64 0] rfl HLi.out A xs.length c (i64s xs) rfl (by rw [HXL.out]) w.heap.size HA.out (i64s_one _) (by unfold maxLen; omega) (by omega) (by simp) ?_; intro v' w3 hown' hgrow; obtain ⟨A1, c1, rfl⟩ := row_form hown'; have HB3 := Lib.hid (((Below.refl w.heap.size w).alloc (Nat.le_refl _) (.cells #[.int .i64 0] 3)).grown hgrow (by simp) (fun g hg => (by simp [Value.ownBlock] at hg; omega))); have HO3 := Lib.hid (own_of_row hown'); clear hown' hgrow)
    | (go_at_call 61; refine (HR.out _ _ _ _ HO3.out).mono ?_; rintro e v0 ⟨B0, d0, hd0, rfl, hO0, hb0⟩; have HO0 := Lib.hid (hO0.wide (Nat.le_refl _) (Nat.le_refl _)); have HB0 := Lib.hid (HB3.out.trans (hb0.mono HB3.out.size)); clear hO0 hb0)
    | (go_at_call 81; refine (H0.out _ _ _ _ hd0 HO0.out).mono ?_; rintro e v1 ⟨⟨B1, d1, rfl, hO1⟩, hb1⟩; have HO1 := Lib.hid (hO1.wide (Nat.le_refl _) (by first | exact hb1.size | exact Nat.le_refl _)); have HB1 := Lib.hid (HB0.out.trans (hb1.mono HB0.out.size)); clear hO1 hb1)
    | (go_at_call 68; refine (HE.out _ _ _ _ HO1.out).mono ?_; rintro e v9 ⟨B9, d9, rfl, hO9, hb9⟩))
  go_ret2
  exact ⟨B9, d9, rfl, hO9.wide HB1.out.size (Nat.le_refl _), HB1.out.trans (hb9.mono HB1.out.size)⟩
end Go.Proofs.Ytmjgjdebcmbjeaa
