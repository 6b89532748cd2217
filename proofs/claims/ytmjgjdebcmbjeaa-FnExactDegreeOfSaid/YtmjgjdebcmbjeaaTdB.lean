/- Chapter 8: the law DegreeOf. -/
import Derived.Test.YtmjgjdebcmbjeaaTcL
import Derived.Test.YtmjgjdebcmbjeaaTbU
import Derived.Test.YtmjgjdebcmbjeaaTbG
namespace Go.Proofs.Ytmjgjdebcmbjeaa
open Go.ChangeShapes Go.WideShapes Go.ChangeAt Go.RowKit

theorem impl_DegreeOf_no (A : Option Addr) (n c lo : Nat) (xs : List Int) (w : World) (hn : xs.length = n) (hm : n ≤ 1048576) (ha : Own w lo w.heap.size A (i64s xs)) (h : gd8 xs = false) :
    Calls Try.prog 31 #[.slice A n c] w fun e w' => e = .returned (.tuple #[.int .i64 0, .bool false]) ∧ Below w.heap.size w w' := by
  have HG := Lib.hid (isList8_any A n c lo w.heap.size xs w hn hm ha)
  rw [h] at HG
  clear ha hn h
  go_enter Try.func31, Try.ntmps31
  go_wp2_with (go_at_call 60; refine HG.out.mono ?_; rintro e w' ⟨rfl, rfl⟩)
  go_ret2
  exact ⟨rfl, Below.refl _ _⟩
set_option maxRecDepth 8000 in
set_option maxHeartbeats 1600000 in
theorem impl_DegreeOf_yes (A : Option Addr) (n c lo : Nat) (xs : List Int) (w : World) (hn : xs.length = n) (ha : Own w lo w.heap.size A (i64s xs)) (h : gd8 xs = true) (m : Nat) (hm : (trm8 (fst8 dif8 n xs)).length = m) :
    Calls Try.prog 31 #[.slice A n c] w fun e w' => e = .returned (.tuple #[.int .i64 ((m : Int) - (if m = 0 then 0 else 1)), .bool (decide (m ≠ 0))]) ∧ Below w.heap.size w w' := by
  subst hn
  have hl : xs.length ≤ 12 := (gd8_len h).2
  have hbd : Bd 1000000 xs := gd8_bd h
  have HG := Lib.hid (isList8_any A xs.length c lo w.heap.size xs w rfl (by omega) ha)
  rw [h] at HG
  have HR := Lib.hid (rowOf_any A xs.length c lo w.heap.size xs w rfl (by omega) ha (Nat.le_refl _) (hbd.i64 (by omega)))
  have HO := Lib.hid fun B d l W (h : Own W l W.heap.size B (l64s xs)) => form_any B xs.length d l W.heap.size xs W rfl (by omega) (((hbd.fst (fun M xs h => h.dif) xs.length).mono (two12 xs.length hl)).sm (by omega)) h (Nat.le_refl _)
  have hlt : m ≤ 12 := by rw [← hm, trm8_len]; exact Nat.le_trans (tln8_le _ _) (by rw [fst8_len]; omega)
  rw [hm] at HO
  generalize trm8 (fst8 dif8 xs.length xs) = ts at *
  clear h ha hm hbd
  by_cases h0 : m = 0
  · subst h0
    show Calls _ _ _ _ (fun e w' => e = .returned (.tuple #[.int .i64 0, .bool false]) ∧ _)
    go_enter Try.func31, Try.ntmps31
    go_wp2_with (first
      | (go_at_call 60; refine HG.out.mono ?_; rintro e w' ⟨rfl, rfl⟩)
      | (go_at_call 61; refine HR.out.mono ?_; rintro e v0 ⟨B0, d0, hd0, rfl, hO0, hb0⟩; have HO0 := Lib.hid hO0; have HB0 := Lib.hid hb0; clear hO0 hb0)
      | (go_at_call 66; refine (HO.out _ _ _ _ HO0.out).mono ?_; rintro e v1 ⟨⟨B1, d1, rfl, hO1⟩, hb1⟩; have HB1 := Lib.hid (HB0.out.trans (hb1.mono HB0.out.size)); clear hO1 hb1))
    go_ret2
    exact ⟨rfl, HB1.out⟩
  · have hmi : ¬ (m : Int) = 0 := by omega
    have e1 : IntKind.i64.wrap ((m : Int) - 1) = (m : Int) - 1 := IntWalk.i64_in _ (by omega)
    rw [if_neg h0, decide_eq_true h0]
    clear h0
    go_enter Try.func31, Try.ntmps31
    go_wp2_with (first
      | (go_at_call 60; refine HG.out.mono ?_; rintro e w' ⟨rfl, rfl⟩)
      | (go_at_call 61; refine HR.out.mono ?_; rintro e v0 ⟨B0, d0, hd0, rfl, hO0, hb0⟩; have HO0 := Lib.hid hO0; have HB0 := Lib.hid hb0; clear hO0 hb0)
      | (go_at_call 66; refine (HO.out _ _ _ _ HO0.out).mono ?_; rintro e v1 ⟨⟨B1, d1, rfl, hO1⟩, hb1⟩; have HB1 := Lib.hid (HB0.out.trans (hb1.mono HB0.out.size)); clear hO1 hb1))
    go_ret2
    exact ⟨rfl, HB1.out⟩
theorem walk_DegreeOf (A : Option Addr) (n c : Nat) (xs : List Int) (w : World) (hn : xs.length = n) (hl : n ≤ 9223372036854775807) (ha : Rd w w.heap.size A (i64s xs)) :
    Calls Try.prog 5 #[.slice A n c] w fun e w' => e = .returned (.bool true) ∧ Below w.heap.size w w' := by
  by_cases hm : n ≤ 1048576
  · cases h : gd8 xs with
    | false => exact lawLV_DegreeOf A n c xs 0 false w hn hm ha (fun B d lo W hO => spec_DegreeOf_no B n d lo xs W hn hm hO h) (fun B d lo W hO => impl_DegreeOf_no B n d lo xs W hn hm hO h)
    | true => exact lawLV_DegreeOf A n c xs _ _ w hn hm ha (fun B d lo W hO => spec_DegreeOf_yes B n d lo xs W hn hO h _ rfl) (fun B d lo W hO => impl_DegreeOf_yes B n d lo xs W hn hO h _ rfl)
  · exact lawL_DegreeOf_big A n c w (by omega)
end Go.Proofs.Ytmjgjdebcmbjeaa
