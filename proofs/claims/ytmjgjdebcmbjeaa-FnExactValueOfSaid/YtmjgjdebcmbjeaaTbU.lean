/- Chapter 8, by the specification: forms. -/
import Derived.Test.YtmjgjdebcmbjeaaTbT
import Derived.Test.YtmjgjdebcmbjeaaTcL
namespace Go.Proofs.Ytmjgjdebcmbjeaa
open Go.RowKit

theorem dfIf_yes (A : Option Addr) (n c lo hi : Nat) (xs : List Int) (w : World) (hn : xs.length = n) (hm : n ≤ 1048576) (ha : Own w lo hi A (i64s xs)) (h : fm8 xs = true) :
    Calls Try.prog 67 #[.slice A n c] w fun e w' => e = .returned (.tuple #[.slice A n c, .bool true]) ∧ w = w' := by
  have := dfIf_any A n c lo hi xs w hn hm ha
  rw [h] at this
  exact this
theorem dfIf_no (A : Option Addr) (n c lo hi : Nat) (xs : List Int) (w : World) (hn : xs.length = n) (hm : n ≤ 1048576) (ha : Own w lo hi A (i64s xs)) (h : fm8 xs = false) :
    Calls Try.prog 67 #[.slice A n c] w fun e w' => e = .returned (.tuple #[.slice none 0 0, .bool false]) ∧ w = w' := by
  have := dfIf_any A n c lo hi xs w hn hm ha
  rw [h] at this
  exact this
theorem fm8_of_last {xs : List Int} (h : 0 < xs.length → xs.getD (xs.length - 1) 0 ≠ 0) : fm8 xs = ent8 xs := by
  rw [fm8_ent]
  by_cases h0 : xs.length = 0
  · rw [decide_eq_true h0, Bool.true_or, Bool.and_true]
  · rw [decide_eq_true (p := xs.getD (xs.length - 1) 0 ≠ 0) (h (by omega)), Bool.or_true, Bool.and_true]
theorem fm8_trm (xs : List Int) : fm8 (trm8 xs) = ent8 (trm8 xs) := fm8_of_last (trm8_last xs)
theorem fm8_last {xs : List Int} (h : fm8 xs = true) (h0 : 0 < xs.length) : xs.getD (xs.length - 1) 0 ≠ 0 := by
  rw [fm8_ent, Bool.and_eq_true, Bool.or_eq_true, decide_eq_true_iff, decide_eq_true_iff] at h
  rcases h.2 with h1 | h1
  · omega
  · exact h1
theorem spec_FormOf_no (A : Option Addr) (n c lo : Nat) (xs : List Int) (w : World) (hn : xs.length = n) (hm : n ≤ 1048576) (ha : Own w lo w.heap.size A (i64s xs)) (h : gd8 xs = false) :
    Calls Try.prog 32 #[.slice A n c] w (ResI false [] w) := by
  have HG := Lib.hid (dfGood_any A n c lo w.heap.size xs w hn hm ha)
  rw [h] at HG
  clear ha hn h
  go_enter Try.func32, Try.ntmps32
  go_wp2_with (go_at_call 58; refine HG.out.mono ?_; rintro e w' ⟨rfl, rfl⟩)
  go_ret2
  exact resI_nil (Below.refl _ _)
set_option maxRecDepth 8000 in
set_option maxHeartbeats 1600000 in
theorem spec_FormOf_yes (A : Option Addr) (n c lo : Nat) (xs : List Int) (w : World) (hn : xs.length = n) (ha : Own w lo w.heap.size A (i64s xs)) (h : gd8 xs = true) :
    Calls Try.prog 32 #[.slice A n c] w (ResI (ent8 (trm8 (fst8 dif8 n xs))) (ans8 (ent8 (trm8 (fst8 dif8 n xs))) (trm8 (fst8 dif8 n xs))) w) := by
  have hl := gd8_len h
  rw [hn] at hl
  have HG := Lib.hid (dfGood_any A n c lo w.heap.size xs w hn (by omega) ha)
  rw [h] at HG
  have HO := Lib.hid (dfOf_any A n c lo w.heap.size xs w hn hl.1 hl.2 (gd8_bd h) ha (Nat.le_refl _))
  have hf := fm8_trm (fst8 dif8 n xs)
  have hlt : (trm8 (fst8 dif8 n xs)).length ≤ 12 := by rw [trm8_len]; exact Nat.le_trans (tln8_le _ _) (by rw [fst8_len]; omega)
  generalize trm8 (fst8 dif8 n xs) = ts at *
  clear h ha hn
  cases hr : ent8 ts with
  | false =>
    rw [hr] at hf
    have HD := Lib.hid fun B d l W (h : Own W l W.heap.size B (i64s ts)) => dfIf_no B ts.length d l W.heap.size ts W rfl (by omega) h hf
    show Calls _ _ _ _ (ResI false [] w)
    clear hr hf
    go_enter Try.func32, Try.ntmps32
    go_wp2_with (first
      | (go_at_call 58; refine HG.out.mono ?_; rintro e w' ⟨rfl, rfl⟩)
      | (go_at_call 65; refine HO.out.mono ?_; rintro e v1 ⟨⟨B1, d1, rfl, hO1⟩, hb1⟩; have HO1 := Lib.hid hO1; have HB1 := Lib.hid hb1; clear hO1 hb1)
      | (go_at_call 67; refine (HD.out _ _ _ _ HO1.out).mono ?_; rintro e w' ⟨rfl, rfl⟩))
    go_ret2
    exact resI_nil HB1.out
  | true =>
    rw [hr] at hf
    have HD := Lib.hid fun B d l W (h : Own W l W.heap.size B (i64s ts)) => dfIf_yes B ts.length d l W.heap.size ts W rfl (by omega) h hf
    show Calls _ _ _ _ (ResI true ts w)
    clear hr hf
    go_enter Try.func32, Try.ntmps32
    go_wp2_with (first
      | (go_at_call 58; refine HG.out.mono ?_; rintro e w' ⟨rfl, rfl⟩)
      | (go_at_call 65; refine HO.out.mono ?_; rintro e v1 ⟨⟨B1, d1, rfl, hO1⟩, hb1⟩; have HO1 := Lib.hid hO1; have HB1 := Lib.hid hb1; clear hO1 hb1)
      | (go_at_call 67; refine (HD.out _ _ _ _ HO1.out).mono ?_; rintro e w' ⟨rfl, rfl⟩))
    go_ret2
    exact ⟨B1, d1, rfl, HO1.out, HB1.out⟩
theorem spec_DegreeOf_no (A : Option Addr) (n c lo : Nat) (xs : List Int) (w : World) (hn : xs.length = n) (hm : n ≤ 1048576) (ha : Own w lo w.heap.size A (i64s xs)) (h : gd8 xs = false) :
    Calls Try.prog 30 #[.slice A n c] w fun e w' => e = .returned (.tuple #[.int .i64 0, .bool false]) ∧ Below w.heap.size w w' := by
  have HG := Lib.hid (dfGood_any A n c lo w.heap.size xs w hn hm ha)
  rw [h] at HG
  clear ha hn h
  go_enter Try.func30, Try.ntmps30
  go_wp2_with (go_at_call 58; refine HG.out.mono ?_; rintro e w' ⟨rfl, rfl⟩)
  go_ret2
  exact ⟨rfl, Below.refl _ _⟩
set_option maxRecDepth 8000 in
set_option maxHeartbeats 1600000 in
theorem spec_DegreeOf_yes (A : Option Addr) (n c lo : Nat) (xs : List Int) (w : World) (hn : xs.length = n) (ha : Own w lo w.heap.size A (i64s xs)) (h : gd8 xs = true) (m : Nat) (hm : (trm8 (fst8 dif8 n xs)).length = m) :
    Calls Try.prog 30 #[.slice A n c] w fun e w' => e = .returned (.tuple #[.int .i64 ((m : Int) - (if m = 0 then 0 else 1)), .bool (decide (m ≠ 0))]) ∧ Below w.heap.size w w' := by
  have hl := gd8_len h
  rw [hn] at hl
  have HG := Lib.hid (dfGood_any A n c lo w.heap.size xs w hn (by omega) ha)
  rw [h] at HG
  have HO := Lib.hid fun W lo2 (h2 : Own W lo2 w.heap.size A (i64s xs)) hh => dfOf_any A n c lo2 w.heap.size xs W hn hl.1 hl.2 (gd8_bd h) h2 hh
  have HA := Lib.hid ha
  have hlt : m ≤ 12 := by rw [← hm, trm8_len]; exact Nat.le_trans (tln8_le _ _) (by rw [fst8_len]; omega)
  rw [hm] at HO
  generalize trm8 (fst8 dif8 n xs) = ts at *
  clear h ha hn hm
  by_cases h0 : m = 0
  · subst h0
    show Calls _ _ _ _ (fun e w' => e = .returned (.tuple #[.int .i64 0, .bool false]) ∧ _)
    go_enter Try.func30, Try.ntmps30
    go_wp2_with (first
      | (go_at_call 58; refine HG.out.mono ?_; rintro e w' ⟨rfl, rfl⟩)
      | (go_at_call 65; refine (HO.out _ _ HA.out (Nat.le_refl _)).mono ?_; rintro e v1 ⟨⟨B1, d1, rfl, hO1⟩, hb1⟩; have HB1 := Lib.hid hb1; clear hO1 hb1))
    go_ret2
    exact ⟨rfl, HB1.out⟩
  · have hmi : ¬ (m : Int) = 0 := by omega
    have e1 : IntKind.i64.wrap ((m : Int) - 1) = (m : Int) - 1 := IntWalk.i64_in _ (by omega)
    rw [if_neg h0, decide_eq_true h0]
    clear h0
    go_enter Try.func30, Try.ntmps30
    go_wp2_with (first
      | (go_at_call 58; refine HG.out.mono ?_; rintro e w' ⟨rfl, rfl⟩)
      | (go_at_call 65; refine (HO.out _ _ (HA.out.below HB1.out (Nat.le_refl _)) HB1.out.size).mono ?_; rintro e v2 ⟨⟨B2, d2, rfl, hO2⟩, hb2⟩)
      | (go_at_call 65; refine (HO.out _ _ HA.out (Nat.le_refl _)).mono ?_; rintro e v1 ⟨⟨B1, d1, rfl, hO1⟩, hb1⟩; have HB1 := Lib.hid hb1; clear hO1 hb1))
    go_ret2
    exact ⟨rfl, HB1.out.trans (hb2.mono HB1.out.size)⟩
end Go.Proofs.Ytmjgjdebcmbjeaa
