/- Chapter 8, the program: the functions that hand back a list or a form. -/
import Derived.Test.YtmjgjdebcmbjeaaTcK
import Derived.Test.YtmjgjdebcmbjeaaTcG
import Derived.Test.YtmjgjdebcmbjeaaTbS
namespace Go.Proofs.Ytmjgjdebcmbjeaa
open Go.RowKit

theorem gd8_bd {xs : List Int} (h : gd8 xs = true) : Bd 1000000 xs := fun j => gd8_at h j
theorem ent8_bd {xs : List Int} (h : ent8 xs = true) : Bd 1000000 xs := fun j => by
  unfold ent8 at h
  rw [Bool.and_eq_true] at h
  by_cases hj : j < xs.length
  · have e : xs.getD j 0 = xs[j] := by simp [List.getD_eq_getElem?_getD, hj]
    have := List.all_eq_true.1 h.2 xs[j] (List.getElem_mem hj)
    rw [decide_eq_true_iff] at this
    rw [e]
    exact this
  · have e : xs.getD j 0 = 0 := by simp [List.getD_eq_getElem?_getD, Nat.le_of_not_lt hj]
    rw [e]
    omega
theorem fm8_enty {xs : List Int} (h : fm8 xs = true) : ent8 xs = true := by
  rw [fm8_ent, Bool.and_eq_true] at h
  exact h.1
theorem fm8_len {xs : List Int} (h : fm8 xs = true) : xs.length ≤ 12 := ent8_len (fm8_enty h)
theorem fm8_bd {xs : List Int} (h : fm8 xs = true) : Bd 1000000 xs := ent8_bd (fm8_enty h)
theorem Bd.sm {M : Int} {xs : List Int} (h : Bd M xs) (hM : M ≤ 85070591730234615865843651857942052864) : Sm xs := fun j => h.mono hM j
theorem two12 : ∀ n : Nat, n ≤ 12 → (2 : Int) ^ n * 1000000 ≤ 4096000000 := by decide
theorem Bd.i64 {M : Int} {xs : List Int} (h : Bd M xs) (hM : M ≤ 9223372036854775807) : ∀ j, -9223372036854775808 ≤ xs.getD j 0 ∧ xs.getD j 0 ≤ 9223372036854775807 := fun j => by
  have := h j
  omega
theorem impl_FormBehind_no (A : Option Addr) (n c lo : Nat) (xs : List Int) (w : World) (hn : xs.length = n) (hm : n ≤ 1048576) (ha : Own w lo w.heap.size A (i64s xs)) (h : fm8 xs = false) :
    Calls Try.prog 45 #[.slice A n c] w (ResI false [] w) := by
  have HG := Lib.hid (isForm8_any A n c lo w.heap.size xs w hn hm ha)
  rw [h] at HG
  clear ha hn h
  go_enter Try.func45, Try.ntmps45
  go_wp2_with (go_at_call 72; refine HG.out.mono ?_; rintro e w' ⟨rfl, rfl⟩)
  go_ret2
  exact resI_nil (Below.refl _ _)
set_option maxRecDepth 8000 in
set_option maxHeartbeats 1600000 in
theorem impl_FormBehind_yes (A : Option Addr) (n c lo : Nat) (xs : List Int) (w : World) (hn : xs.length = n) (ha : Own w lo w.heap.size A (i64s xs)) (h : fm8 xs = true) :
    Calls Try.prog 45 #[.slice A n c] w (ResI (ent8 (stp8 xs)) (ans8 (ent8 (stp8 xs)) (stp8 xs)) w) := by
  subst hn
  have hl : xs.length ≤ 12 := fm8_len h
  have hbd : Bd 1000000 xs := fm8_bd h
  have HG := Lib.hid (isForm8_any A xs.length c lo w.heap.size xs w rfl (by omega) ha)
  rw [h] at HG
  have HR := Lib.hid (rowOf_any A xs.length c lo w.heap.size xs w rfl (by omega) ha (Nat.le_refl _) (hbd.i64 (by omega)))
  have H0 := Lib.hid fun B d l W (hd : (xs).length ≤ d) (h : Own W l W.heap.size B (l64s (xs))) => behind_any B xs.length d l W.heap.size xs W rfl (by omega) h (Nat.le_refl _)
  have HE := Lib.hid fun B d l W (h : Own W l W.heap.size B (l64s (stp8 xs))) => entries_any B (stp8 xs).length d l W.heap.size (stp8 xs) W rfl (by rw [stp8_len]; omega) ((hbd.stp).sm (by omega)) h (Nat.le_refl _)
  clear hbd h
  generalize ent8 (stp8 xs) = r at *
  generalize ans8 r (stp8 xs) = zs at *
  clear ha
  go_enter Try.func45, Try.ntmps45
  go_wp2_with (first
    | (go_at_call 72; refine HG.out.mono ?_; rintro e w' ⟨rfl, rfl⟩)
    | (go_at_call 61; refine HR.out.mono ?_; rintro e v0 ⟨B0, d0, hd0, rfl, hO0, hb0⟩; have HO0 := Lib.hid hO0; have HB0 := Lib.hid hb0; clear hO0 hb0)
    | (go_at_call 83; refine (H0.out _ _ _ _ hd0 HO0.out).mono ?_; rintro e v1 ⟨B1, d1, hd1, rfl, hO1, hb1⟩; have HO1 := Lib.hid hO1; have HB1 := Lib.hid (HB0.out.trans (hb1.mono HB0.out.size)); clear hO1 hb1)
    | (go_at_call 68; refine (HE.out _ _ _ _ HO1.out).mono ?_; rintro e v9 ⟨B9, d9, rfl, hO9, hb9⟩))
  go_ret2
  exact ⟨B9, d9, rfl, hO9.wide HB1.out.size (Nat.le_refl _), HB1.out.trans (hb9.mono HB1.out.size)⟩
theorem impl_UndoTransform_no (A : Option Addr) (n c lo : Nat) (xs : List Int) (w : World) (hn : xs.length = n) (hm : n ≤ 1048576) (ha : Own w lo w.heap.size A (i64s xs)) (h : gd8 xs = false) :
    Calls Try.prog 49 #[.slice A n c] w (ResI false [] w) := by
  have HG := Lib.hid (isList8_any A n c lo w.heap.size xs w hn hm ha)
  rw [h] at HG
  clear ha hn h
  go_enter Try.func49, Try.ntmps49
  go_wp2_with (go_at_call 60; refine HG.out.mono ?_; rintro e w' ⟨rfl, rfl⟩)
  go_ret2
  exact resI_nil (Below.refl _ _)
set_option maxRecDepth 8000 in
set_option maxHeartbeats 1600000 in
theorem impl_UndoTransform_yes (A : Option Addr) (n c lo : Nat) (xs : List Int) (w : World) (hn : xs.length = n) (ha : Own w lo w.heap.size A (i64s xs)) (h : gd8 xs = true) :
    Calls Try.prog 49 #[.slice A n c] w (ResI (ent8 (fst8 dif8 n xs)) (ans8 (ent8 (fst8 dif8 n xs)) (fst8 dif8 n xs)) w) := by
  subst hn
  have hl : xs.length ≤ 12 := (gd8_len h).2
  have hbd : Bd 1000000 xs := gd8_bd h
  have HG := Lib.hid (isList8_any A xs.length c lo w.heap.size xs w rfl (by omega) ha)
  rw [h] at HG
  have HR := Lib.hid (rowOf_any A xs.length c lo w.heap.size xs w rfl (by omega) ha (Nat.le_refl _) (hbd.i64 (by omega)))
  have H0 := Lib.hid fun B d l W (hd : (xs).length ≤ d) (h : Own W l W.heap.size B (l64s (xs))) => fullForm_any B xs.length d l W.heap.size xs W rfl (by omega) h (Nat.le_refl _)
  have HE := Lib.hid fun B d l W (h : Own W l W.heap.size B (l64s (fst8 dif8 xs.length xs))) => entries_any B (fst8 dif8 xs.length xs).length d l W.heap.size (fst8 dif8 xs.length xs) W rfl (by rw [fst8_len]; omega) ((((hbd.fst (fun M xs h => h.dif) xs.length).mono (two12 xs.length hl))).sm (by omega)) h (Nat.le_refl _)
  clear hbd h
  generalize ent8 (fst8 dif8 xs.length xs) = r at *
  generalize ans8 r (fst8 dif8 xs.length xs) = zs at *
  clear ha
  go_enter Try.func49, Try.ntmps49
  go_wp2_with (first
    | (go_at_call 60; refine HG.out.mono ?_; rintro e w' ⟨rfl, rfl⟩)
    | (go_at_call 61; refine HR.out.mono ?_; rintro e v0 ⟨B0, d0, hd0, rfl, hO0, hb0⟩; have HO0 := Lib.hid hO0; have HB0 := Lib.hid hb0; clear hO0 hb0)
    | (go_at_call 85; refine (H0.out _ _ _ _ hd0 HO0.out).mono ?_; rintro e v1 ⟨B1, d1, hd1, rfl, hO1, hb1⟩; have HO1 := Lib.hid hO1; have HB1 := Lib.hid (HB0.out.trans (hb1.mono HB0.out.size)); clear hO1 hb1)
    | (go_at_call 68; refine (HE.out _ _ _ _ HO1.out).mono ?_; rintro e v9 ⟨B9, d9, rfl, hO9, hb9⟩))
  go_ret2
  exact ⟨B9, d9, rfl, hO9.wide HB1.out.size (Nat.le_refl _), HB1.out.trans (hb9.mono HB1.out.size)⟩
theorem impl_TransformOf_no (A : Option Addr) (n c lo : Nat) (xs : List Int) (w : World) (hn : xs.length = n) (hm : n ≤ 1048576) (ha : Own w lo w.heap.size A (i64s xs)) (h : gd8 xs = false) :
    Calls Try.prog 47 #[.slice A n c] w (ResI false [] w) := by
  have HG := Lib.hid (isList8_any A n c lo w.heap.size xs w hn hm ha)
  rw [h] at HG
  clear ha hn h
  go_enter Try.func47, Try.ntmps47
  go_wp2_with (go_at_call 60; refine HG.out.mono ?_; rintro e w' ⟨rfl, rfl⟩)
  go_ret2
  exact resI_nil (Below.refl _ _)
set_option maxRecDepth 8000 in
set_option maxHeartbeats 1600000 in
theorem impl_TransformOf_yes (A : Option Addr) (n c lo : Nat) (xs : List Int) (w : World) (hn : xs.length = n) (ha : Own w lo w.heap.size A (i64s xs)) (h : gd8 xs = true) :
    Calls Try.prog 47 #[.slice A n c] w (ResI (ent8 (fst8 stp8 n xs)) (ans8 (ent8 (fst8 stp8 n xs)) (fst8 stp8 n xs)) w) := by
  subst hn
  have hl : xs.length ≤ 12 := (gd8_len h).2
  have hbd : Bd 1000000 xs := gd8_bd h
  have HG := Lib.hid (isList8_any A xs.length c lo w.heap.size xs w rfl (by omega) ha)
  rw [h] at HG
  have hg := h
  have HR := Lib.hid (rowOf_any A xs.length c lo w.heap.size xs w rfl (by omega) ha (Nat.le_refl _) (hbd.i64 (by omega)))
  have H0 := Lib.hid fun B d l W (hd : (xs).length ≤ d) (h : Own W l W.heap.size B (l64s (xs))) => (by have := values_any B xs.length d l W.heap.size 0 xs.length xs W rfl (by omega) (by omega) (gd8_len hg).1 h (Nat.le_refl _); rw [Nat.zero_add, List.drop_zero] at this; exact this)
  have HE := Lib.hid fun B d l W (h : Own W l W.heap.size B (l64s (fst8 stp8 xs.length xs))) => entries_any B (fst8 stp8 xs.length xs).length d l W.heap.size (fst8 stp8 xs.length xs) W rfl (by rw [fst8_len]; omega) ((((hbd.fst (fun M xs h => h.stp) xs.length).mono (two12 xs.length hl))).sm (by omega)) h (Nat.le_refl _)
  clear hbd h hg
  generalize ent8 (fst8 stp8 xs.length xs) = r at *
  generalize ans8 r (fst8 stp8 xs.length xs) = zs at *
  clear ha
  go_enter Try.func47, Try.ntmps47
  go_wp2_with (first
    | (go_at_call 60; refine HG.out.mono ?_; rintro e w' ⟨rfl, rfl⟩)
    | (go_at_call 61; refine HR.out.mono ?_; rintro e v0 ⟨B0, d0, hd0, rfl, hO0, hb0⟩; have HO0 := Lib.hid hO0; have HB0 := Lib.hid hb0; clear hO0 hb0)
    | (go_at_call 74; refine (H0.out _ _ _ _ hd0 HO0.out).mono ?_; rintro e v1 ⟨B1, d1, hd1, rfl, hO1, hb1⟩; have HO1 := Lib.hid hO1; have HB1 := Lib.hid (HB0.out.trans (hb1.mono HB0.out.size)); clear hO1 hb1)
    | (go_at_call 68; refine (HE.out _ _ _ _ HO1.out).mono ?_; rintro e v9 ⟨B9, d9, rfl, hO9, hb9⟩))
  go_ret2
  exact ⟨B9, d9, rfl, hO9.wide HB1.out.size (Nat.le_refl _), HB1.out.trans (hb9.mono HB1.out.size)⟩
theorem impl_FormOf_no (A : Option Addr) (n c lo : Nat) (xs : List Int) (w : World) (hn : xs.length = n) (hm : n ≤ 1048576) (ha : Own w lo w.heap.size A (i64s xs)) (h : gd8 xs = false) :
    Calls Try.prog 33 #[.slice A n c] w (ResI false [] w) := by
  have HG := Lib.hid (isList8_any A n c lo w.heap.size xs w hn hm ha)
  rw [h] at HG
  clear ha hn h
  go_enter Try.func33, Try.ntmps33
  go_wp2_with (go_at_call 60; refine HG.out.mono ?_; rintro e w' ⟨rfl, rfl⟩)
  go_ret2
  exact resI_nil (Below.refl _ _)
set_option maxRecDepth 8000 in
set_option maxHeartbeats 1600000 in
theorem impl_FormOf_yes (A : Option Addr) (n c lo : Nat) (xs : List Int) (w : World) (hn : xs.length = n) (ha : Own w lo w.heap.size A (i64s xs)) (h : gd8 xs = true) :
    Calls Try.prog 33 #[.slice A n c] w (ResI (ent8 (trm8 (fst8 dif8 n xs))) (ans8 (ent8 (trm8 (fst8 dif8 n xs))) (trm8 (fst8 dif8 n xs))) w) := by
  subst hn
  have hl : xs.length ≤ 12 := (gd8_len h).2
  have hbd : Bd 1000000 xs := gd8_bd h
  have HG := Lib.hid (isList8_any A xs.length c lo w.heap.size xs w rfl (by omega) ha)
  rw [h] at HG
  have HR := Lib.hid (rowOf_any A xs.length c lo w.heap.size xs w rfl (by omega) ha (Nat.le_refl _) (hbd.i64 (by omega)))
  have H0 := Lib.hid fun B d l W (hd : (xs).length ≤ d) (h : Own W l W.heap.size B (l64s (xs))) => form_any B xs.length d l W.heap.size xs W rfl (by omega) (((hbd.fst (fun M xs h => h.dif) xs.length).mono (two12 xs.length hl)).sm (by omega)) h (Nat.le_refl _)
  have HE := Lib.hid fun B d l W (h : Own W l W.heap.size B (l64s (trm8 (fst8 dif8 xs.length xs)))) => entries_any B (trm8 (fst8 dif8 xs.length xs)).length d l W.heap.size (trm8 (fst8 dif8 xs.length xs)) W rfl (by rw [trm8_len]; exact Nat.le_trans (tln8_le _ _) (by rw [fst8_len]; omega)) ((((hbd.fst (fun M xs h => h.dif) xs.length).mono (two12 xs.length hl)).trm).sm (by omega)) h (Nat.le_refl _)
  clear hbd h
  generalize ent8 (trm8 (fst8 dif8 xs.length xs)) = r at *
  generalize ans8 r (trm8 (fst8 dif8 xs.length xs)) = zs at *
  clear ha
  go_enter Try.func33, Try.ntmps33
  go_wp2_with (first
    | (go_at_call 60; refine HG.out.mono ?_; rintro e w' ⟨rfl, rfl⟩)
    | (go_at_call 61; refine HR.out.mono ?_; rintro e v0 ⟨B0, d0, hd0, rfl, hO0, hb0⟩; have HO0 := Lib.hid hO0; have HB0 := Lib.hid hb0; clear hO0 hb0)
    | (go_at_call 66; refine (H0.out _ _ _ _ hd0 HO0.out).mono ?_; rintro e v1 ⟨⟨B1, d1, rfl, hO1⟩, hb1⟩; have HO1 := Lib.hid (hO1.wide (Nat.le_refl _) (by first | exact Nat.le_refl _ | exact hb1.size)); have HB1 := Lib.hid (HB0.out.trans (hb1.mono HB0.out.size)); clear hO1 hb1)
    | (go_at_call 68; refine (HE.out _ _ _ _ HO1.out).mono ?_; rintro e v9 ⟨B9, d9, rfl, hO9, hb9⟩))
  go_ret2
  exact ⟨B9, d9, rfl, hO9.wide HB1.out.size (Nat.le_refl _), HB1.out.trans (hb9.mono HB1.out.size)⟩
end Go.Proofs.Ytmjgjdebcmbjeaa
