/- Chapter 8, the program: SumsFrom. -/
import Derived.Test.YtmjgjdebcmbjeaaTcL
namespace Go.Proofs.Ytmjgjdebcmbjeaa
open Go.RowKit

theorem Bd.sms {M : Int} : ∀ (xs : List Int) (a K : Int), Bd M xs → -K ≤ a → a ≤ K → Bd (K + (xs.length : Int) * M) (sms8 a xs)
  | [], a, K, h, h1, h2 => fun j => by
    cases j with
    | zero => simp [sms8]; omega
    | succ j => simp [sms8]; omega
  | x :: l, a, K, h, h1, h2 => fun j => by
    have hm := h.nonneg
    have hl : 0 ≤ (l.length : Int) * M := Int.mul_nonneg (by omega) hm
    have he : ((x :: l).length : Int) * M = (l.length : Int) * M + M := by rw [List.length_cons, Int.natCast_add, Int.add_mul]; simp
    rw [he]
    cases j with
    | zero =>
      show -_ ≤ a ∧ a ≤ _
      omega
    | succ j =>
      have hx := h 0
      rw [List.getD_cons_zero] at hx
      have ht : Bd M l := fun j => by have := h (j + 1); rwa [List.getD_cons_succ] at this
      have := Bd.sms l (a + x) (K + M) ht (by omega) (by omega) j
      rw [sms8, List.getD_cons_succ]
      omega
theorem impl_SumsFrom_no (a : Int) (A : Option Addr) (n c lo : Nat) (xs : List Int) (w : World) (hn : xs.length = n) (hm : n ≤ 1048576) (ha : Own w lo w.heap.size A (i64s xs)) (h : (a < -1000000 ∨ 1000000 < a) ∨ gd8 xs = false) :
    Calls Try.prog 41 #[.int .i64 a, .slice A n c] w (ResI false [] w) := by
  have HG := Lib.hid (isList8_any A n c lo w.heap.size xs w hn hm ha)
  have HE := Lib.hid fun W => isEntry8_any a W
  clear ha hn
  by_cases h1 : a < -1000000 ∨ 1000000 < a
  · rw [decide_eq_false (by omega)] at HE
    clear h h1
    go_enter Try.func41, Try.ntmps41
    go_wp2_with (go_at_call 78; refine (HE.out _).mono ?_; rintro e w' ⟨rfl, rfl⟩)
    go_ret2
    exact resI_nil (Below.refl _ _)
  · rw [decide_eq_true (by omega)] at HE
    rw [h.resolve_left h1] at HG
    clear h h1
    go_enter Try.func41, Try.ntmps41
    go_wp2_with (first
      | (go_at_call 78; refine (HE.out _).mono ?_; rintro e w' ⟨rfl, rfl⟩)
      | (go_at_call 60; refine HG.out.mono ?_; rintro e w' ⟨rfl, rfl⟩))
    go_ret2
    exact resI_nil (Below.refl _ _)
set_option maxRecDepth 8000 in
set_option maxHeartbeats 1600000 in
theorem impl_SumsFrom_yes (a : Int) (A : Option Addr) (n c lo : Nat) (xs : List Int) (w : World) (hn : xs.length = n) (ha : Own w lo w.heap.size A (i64s xs)) (h1 : -1000000 ≤ a) (h2 : a ≤ 1000000) (h : gd8 xs = true) :
    Calls Try.prog 41 #[.int .i64 a, .slice A n c] w (ResI (ent8 (sms8 a xs)) (ans8 (ent8 (sms8 a xs)) (sms8 a xs)) w) := by
  subst hn
  have hl : xs.length ≤ 12 := (gd8_len h).2
  have hbd : Bd 1000000 xs := gd8_bd h
  have HG := Lib.hid (isList8_any A xs.length c lo w.heap.size xs w rfl (by omega) ha)
  rw [h] at HG
  have HI := Lib.hid fun W => isEntry8_any a W
  rw [decide_eq_true ⟨h1, h2⟩] at HI
  have HR := Lib.hid (rowOf_any A xs.length c lo w.heap.size xs w rfl (by omega) ha (Nat.le_refl _) (hbd.i64 (by omega)))
  have HLo := Lib.hid fun W => longOf_any a W (by omega) (by omega)
  have HS := Lib.hid fun B d l h2 W (h : Own W l h2 B (l64s xs)) (hh : h2 ≤ W.heap.size) => sumsFrom_any a B xs.length d l h2 xs W rfl (by omega) h hh
  have hbs : Bd 13000000 (sms8 a xs) := (Bd.sms xs a 1000000 hbd h1 h2).mono (by omega)
  have HE := Lib.hid fun B d l W (h : Own W l W.heap.size B (l64s (sms8 a xs))) => entries_any B (sms8 a xs).length d l W.heap.size (sms8 a xs) W rfl (by rw [sms8_len]; omega) (hbs.sm (by omega)) h (Nat.le_refl _)
  unfold lng at HLo HS
  generalize hi8 a = a1 at *
  generalize lo8 a = a2 at *
  clear hbd h hbs ha
  generalize ent8 (sms8 a xs) = r at *
  generalize ans8 r (sms8 a xs) = zs at *
  generalize sms8 a xs = ys at *
  go_enter Try.func41, Try.ntmps41
  go_wp2_with (first
    | (go_at_call 78; refine (HI.out _).mono ?_; rintro e w' ⟨rfl, rfl⟩)
    | (go_at_call 60; refine HG.out.mono ?_; rintro e w' ⟨rfl, rfl⟩)
    | (go_at_call 61; refine HR.out.mono ?_; rintro e v0 ⟨B0, d0, hd0, rfl, hO0, hb0⟩; have HO0 := Lib.hid hO0; have HB0 := Lib.hid hb0; clear hO0 hb0)
    | (go_at_call 80; refine (HLo.out _).mono ?_; rintro e v1 ⟨rfl, hb1⟩; have HO1 := Lib.hid (HO0.out.below hb1 (Nat.le_refl _)); have HZ1 := Lib.hid hb1.size; have HB1 := Lib.hid (HB0.out.trans (hb1.mono HB0.out.size)); clear hb1)
    | (go_at_call 79; refine (HS.out _ _ _ _ _ HO1.out HZ1.out).mono ?_; rintro e v2 ⟨B2, d2, hd2, rfl, hO2, hb2⟩; have HO2 := Lib.hid hO2; have HB2 := Lib.hid (HB1.out.trans (hb2.mono HB1.out.size)); clear hO2 hb2)
    | (go_at_call 68; refine (HE.out _ _ _ _ HO2.out).mono ?_; rintro e v9 ⟨B9, d9, rfl, hO9, hb9⟩))
  go_ret2
  exact ⟨B9, d9, rfl, hO9.wide HB2.out.size (Nat.le_refl _), HB2.out.trans (hb9.mono HB2.out.size)⟩
end Go.Proofs.Ytmjgjdebcmbjeaa
