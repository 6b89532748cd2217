/- Chapter 8: the law ValueOf. -/
import Derived.Test.YtjfpnecnmdclfaaTeB
import Derived.Test.YtjfpnecnmdclfaaMd
import Derived.Test.YtjfpnecnmdclfaaMe
namespace Go.Proofs.Ytjfpnecnmdclfaa
open Go.ChangeShapes Go.WideShapes Go.ChangeAt Go.RowKit

theorem valueOf_no_impl (k : Int) (A : Option Addr) (n c lo : Nat) (xs : List Int) (w : World) (hn : xs.length = n) (hm : n ≤ 1048576) (ha : Own w lo w.heap.size A (i64s xs)) (h : fm8 xs = false ∨ (k < 0 ∨ 1000 < k)) :
    Calls Try.prog 14 #[.slice A n c, .int .i64 k] w fun e w' => e = .returned (.tuple #[.int .i64 0, .bool false]) ∧ Below w.heap.size w w' := by
  have HG := Lib.hid (isForm8_any A n c lo w.heap.size xs w hn hm ha)
  clear ha hn
  cases hg : fm8 xs with
  | false =>
    rw [hg] at HG
    clear h hg
    go_enter Try.func14, Try.ntmps14
    go_wp2_with (go_at_call 32; refine HG.out.mono ?_; rintro e w' ⟨rfl, rfl⟩)
    go_ret2
    exact ⟨rfl, Below.refl _ _⟩
  | true =>
    rw [hg] at HG
    have H : Hid (k < 0 ∨ 1000 < k) := Lib.hid (by
      rcases h with h | h
      · rw [hg] at h; cases h
      · exact h)
    clear h hg
    go_enter Try.func14, Try.ntmps14
    go_wp2_with (first
      | (go_at_call 32; refine HG.out.mono ?_; rintro e w' ⟨rfl, rfl⟩)
      | (go_at_call 42; refine (within_no _ _ _ _ H.out).mono ?_; rintro e w' ⟨rfl, rfl⟩))
    go_ret2
    exact ⟨rfl, Below.refl _ _⟩
/-- The value, if it is not too great. -/
def vok8 (v : Int) : Bool := decide (-1000000000000000 ≤ v ∧ v ≤ 1000000000000000)
theorem vans8_eq (v : Int) : vans8 v = .returned (.tuple #[.int .i64 (if vok8 v = true then v else 0), .bool (vok8 v)]) := by
  unfold vans8 vok8
  by_cases h : -1000000000000000 ≤ v ∧ v ≤ 1000000000000000
  · rw [if_pos h, decide_eq_true h]
    rfl
  · rw [if_neg h, decide_eq_false h]
    rfl
set_option maxRecDepth 8000 in
set_option maxHeartbeats 1600000 in
theorem valueOf_impl (N : Nat) (A : Option Addr) (n c lo : Nat) (xs : List Int) (w : World) (hn : xs.length = n) (ha : Own w lo w.heap.size A (i64s xs)) (h : fm8 xs = true) (hN : N ≤ 1000) (r : Bool) (u : Int) (hr : r = vok8 (val8 xs N)) (hu : u = if vok8 (val8 xs N) = true then val8 xs N else 0) :
    Calls Try.prog 14 #[.slice A n c, .int .i64 (N : Int)] w fun e w' => e = .returned (.tuple #[.int .i64 u, .bool r]) ∧ Below w.heap.size w w' := by
  subst hn
  have hl := fm8_len h
  have hbd := fm8_bd h
  have HG := Lib.hid (isForm8_any A xs.length c lo w.heap.size xs w rfl (by omega) ha)
  rw [h] at HG
  have HR := Lib.hid (rowOf_any A xs.length c lo w.heap.size xs w rfl (by omega) ha (Nat.le_refl _) (hbd.i64 (by omega)))
  have HVa := Lib.hid fun B d l W (h : Own W l W.heap.size B (l64s xs)) => values_any B xs.length d l W.heap.size N 1 xs W rfl (by omega) (by omega) (by omega) h (Nat.le_refl _)
  simp only [fst_drop] at HVa
  have hvb := itr_bd hbd hl N hN 0
  rw [← val_itr] at hvb
  have hsm : Sm [val8 xs N] := fun j => by
    cases j with
    | zero => exact ⟨by have := hvb.1; simp; omega, by have := hvb.2; simp; omega⟩
    | succ j => simp
  have HNu := Lib.hid fun B d l W (h : Own W l W.heap.size B (l64s [val8 xs N])) => numbers_any 1000000000000000 B 1 d l W.heap.size [val8 xs N] W rfl (by omega) hsm (by omega) (by omega) h (Nat.le_refl _)
  have hall : allIn [val8 xs N] (-1000000000000000) 1000000000000000 = vok8 (val8 xs N) := by simp [allIn, vok8]
  rw [show -(1000000000000000 : Int) = -1000000000000000 from rfl, hall, ← hr] at HNu
  rw [← hr] at hu
  generalize val8 xs N = v at *
  have q1 : (0 : Int) ≤ (N : Int) := by omega
  have q2 : (N : Int) ≤ 1000 := by omega
  clear hr hall hsm hvb hbd ha h hN
  cases r with
  | false =>
    obtain rfl : u = 0 := hu
    have HNf := Lib.hid (show ∀ B d l W, Own W l W.heap.size B (l64s [v]) → Calls Try.prog 44 #[.slice B 1 d, .int .i64 1000000000000000] W (ResI false [] W) from fun B d l W h => HNu.out B d l W h)
    clear HNu
    go_enter Try.func14, Try.ntmps14
    go_wp2_with (first
      | (go_at_call 32; refine HG.out.mono ?_; rintro e w' ⟨rfl, rfl⟩)
      | (go_at_call 42; refine (within_yes _ _ _ _ q1 q2).mono ?_; rintro e w' ⟨rfl, rfl⟩)
      | (go_at_call 33; refine HR.out.mono ?_; rintro e v0 ⟨B0, d0, hd0, rfl, hO0, hb0⟩; have HO0 := Lib.hid hO0; have HB0 := Lib.hid hb0; clear hO0 hb0)
      | (go_at_call 43; refine (HVa.out _ _ _ _ HO0.out).mono ?_; rintro e v1 ⟨B1, d1, hd1, rfl, hO1, hb1⟩; have HO1 := Lib.hid hO1; have HB1 := Lib.hid (HB0.out.trans (hb1.mono HB0.out.size)); clear hO1 hb1)
      | (go_at_call 44; refine (HNf.out _ _ _ _ HO1.out).mono ?_; rintro e v2 ⟨B2, d2, rfl, hO2, hb2⟩; have HB2 := Lib.hid (HB1.out.trans (hb2.mono HB1.out.size)); clear hO2 hb2))
    go_ret2
    exact ⟨rfl, HB2.out⟩
  | true =>
    obtain rfl : u = v := hu
    have HNf := Lib.hid (show ∀ B d l W, Own W l W.heap.size B (l64s [u]) → Calls Try.prog 44 #[.slice B 1 d, .int .i64 1000000000000000] W (ResI true [u] W) from fun B d l W h => HNu.out B d l W h)
    clear HNu
    go_enter Try.func14, Try.ntmps14
    go_wp2_with (first
      | (go_at_call 32; refine HG.out.mono ?_; rintro e w' ⟨rfl, rfl⟩)
      | (go_at_call 42; refine (within_yes _ _ _ _ q1 q2).mono ?_; rintro e w' ⟨rfl, rfl⟩)
      | (go_at_call 33; refine HR.out.mono ?_; rintro e v0 ⟨B0, d0, hd0, rfl, hO0, hb0⟩; have HO0 := Lib.hid hO0; have HB0 := Lib.hid hb0; clear hO0 hb0)
      | (go_at_call 43; refine (HVa.out _ _ _ _ HO0.out).mono ?_; rintro e v1 ⟨B1, d1, hd1, rfl, hO1, hb1⟩; have HO1 := Lib.hid hO1; have HB1 := Lib.hid (HB0.out.trans (hb1.mono HB0.out.size)); clear hO1 hb1)
      | (go_at_call 44; refine (HNf.out _ _ _ _ HO1.out).mono ?_; rintro e v2 ⟨B2, d2, rfl, hO2, hb2⟩; have HB2 := Lib.hid (HB1.out.trans (hb2.mono HB1.out.size)); obtain ⟨g, o, rfl, _, _, hcs⟩ := hO2 (by simp); have c0 : v2.cell? ⟨g, o, none⟩ = some (.int .i64 u) := (hcs 0 _ rfl).1; clear hcs hb2))
    go_ret2
    exact ⟨rfl, HB2.out⟩
end Go.Proofs.Ytjfpnecnmdclfaa
