/- Chapter 5: the last of a list; the laws LongestRun, MostSquareRectangle. -/
import Derived.Test.YtcfpdlkkniilpaaGreatDoorRuF
import Derived.BigRegion
namespace Go.Proofs.YtcfpdlkkniilpaaGreatDoor
open Go.ChangeShapes Go.WideShapes Go.ChangeAt Go.RowKit

/-- The last of a list, for a program's text. -/
theorem lastRun_any (A : Option Addr) (c lo hi M : Nat) (xs : List (Int × Int)) (x : Int × Int) (w : World) (hl : xs.length = M + 1) (hx : xs[M]? = some x) (hm : M ≤ 1000000) (ho : Own w lo hi A (prs xs)) (hh : hi ≤ w.heap.size) :
    Calls Tryz.prog 36 #[.slice A (M + 1) c] w fun e w' => e = .returned (.agg #[.int .i64 x.1, .int .i64 x.2]) ∧ Below w.heap.size w w' := by
  obtain ⟨g, o, rfl, _, hg, c0, c1⟩ := ho.pair_ (k := M) (by omega)
  have e : xs[M]'(by omega) = x := by
    rw [List.getElem?_eq_getElem (by omega)] at hx
    injection hx
  rw [e] at c0 c1
  obtain ⟨a, b⟩ := x
  simp only at c0 c1 ⊢
  clear e hx ho hl
  have hgw : g < w.heap.size := by omega
  have d0 : (w.alloc (.cells #[.int .i64 0, .int .i64 0] 31)).cell? ⟨g, o + M * 2, none⟩ = some (.int .i64 a) := (((Below.refl w.heap.size w).alloc (Nat.le_refl _) _).cell (p := ⟨g, o + M * 2, none⟩) hgw).trans c0
  have d1 : (w.alloc (.cells #[.int .i64 0, .int .i64 0] 31)).cell? ⟨g, o + M * 2 + 1, none⟩ = some (.int .i64 b) := (((Below.refl w.heap.size w).alloc (Nat.le_refl _) _).cell (p := ⟨g, o + M * 2 + 1, none⟩) hgw).trans c1
  go_enter Tryz.func36, Tryz.ntmps36
  go_wp2
  exact bodyPost_ret (v := .agg #[.int .i64 a, .int .i64 b]) (by simp [results, Tryz.results36, go_sem]) rfl ⟨rfl, (Below.refl _ _).alloc (Nat.le_refl _) _⟩
theorem last_of {xs : List (Int × Int)} (h : xs ≠ []) : ∃ M x, xs.length = M + 1 ∧ xs[M]? = some x := by
  have hl : 0 < xs.length := List.length_pos_iff.2 h
  exact ⟨xs.length - 1, xs[xs.length - 1], by omega, List.getElem?_eq_getElem (by omega)⟩
/-- The longest run. -/
structure LastR (n : Int) (M : Nat) (x : Int × Int) : Prop where
  len : (runsL n).length = M + 1
  at_ : (runsL n)[M]? = some x
  le : M ≤ 1500
theorem lastR_ex (n : Int) (h0 : 1 ≤ n) (h1 : n ≤ 1000000) : ∃ M x, LastR n M x := by
  obtain ⟨M, x, h2, h3⟩ := last_of (runs_ne n h0)
  have := runs_len n h0 h1
  exact ⟨M, x, h2, h3, by omega⟩
theorem impl_LongestRun_yes (n : Int) (M : Nat) (x : Int × Int) (w : World) (h0 : 1 ≤ n) (h1 : n ≤ 1000000) (h : LastR n M x) :
    Calls Tryz.prog 10 #[.int .i64 n] w fun e w' => e = .returned (.tuple #[.agg #[.int .i64 x.1, .int .i64 x.2], .bool true]) ∧ Below w.heap.size w w' := by
  obtain ⟨hl, hx, hm⟩ := h
  have HA := Lib.hid (betr_yes h0 h1)
  have HC := Lib.hid fun W => runsOf_any n W h0 h1
  have HL := Lib.hid fun A c lo hi w => lastRun_any A c lo hi M (runsL n) x w hl hx (by omega)
  rw [hl] at HC
  obtain ⟨xs, hxs⟩ : ∃ xs, xs = runsL n := ⟨_, rfl⟩
  rw [← hxs] at HC HL
  obtain ⟨a, b⟩ := x
  simp only at HL ⊢
  clear hl hx hxs
  go_enter Tryz.func10, Tryz.ntmps10
  go_wp2_with (first
    | (go_at_call 32; refine (isRunned_any _ _).mono ?_; rw [HA.out]; rintro e w' ⟨rfl, rfl⟩)
    | (go_at_call 33; refine (HC.out _).mono ?_; rintro e w1 ⟨A, c, rfl, ho, hb1⟩; have HO := Lib.hid ho; clear ho)
    | (go_at_call 36; refine (HL.out _ _ _ _ _ HO.out (Nat.le_refl _)).mono ?_; rintro e w2 ⟨rfl, hb2⟩; have hb3 := hb1.trans (hb2.mono hb1.size); obtain ⟨c1, f1⟩ := bcell hb3; have z1 : w.heap.size < w2.heap.size := by have := hb3.size; simp at this; omega))
  have hB : Below w.heap.size w w2 := ((Below.refl _ _).alloc (Nat.le_refl _) _).trans (hb3.mono (by simp))
  exact bodyPost_ret (v := .tuple #[.agg #[.int .i64 a, .int .i64 b], .bool true]) (by simp [results, Tryz.results10, go_sem, c1]) rfl ⟨rfl, (hB.setCell (by simp) _).setCell (by simp) _⟩
set_option maxHeartbeats 800000 in
theorem spec_LongestRun_yes (n : Int) (M : Nat) (x : Int × Int) (w : World) (h0 : 1 ≤ n) (h1 : n ≤ 1000000) (h : LastR n M x) :
    Calls Tryz.prog 11 #[.int .i64 n] w fun e w' => e = .returned (.tuple #[.agg #[.int .i64 x.1, .int .i64 x.2], .bool true]) ∧ Below w.heap.size w w' := by
  obtain ⟨hl, hx, hm⟩ := h
  have HA := Lib.hid (betr_yes h0 h1)
  have HC := Lib.hid fun W => ruAll_runs n W h0 h1
  have HP : Hid (∀ (W : World) lo hi A, Own W lo hi A (prs (runsL n)) → ∃ g o, A = some ⟨g, o, none⟩ ∧ lo ≤ g ∧ g < hi ∧ W.cell? ⟨g, o + M * 2, none⟩ = some (.int .i64 x.1) ∧ W.cell? ⟨g, o + M * 2 + 1, none⟩ = some (.int .i64 x.2)) := Lib.hid fun W lo hi A ho => by
    have e : (runsL n)[M]'(by omega) = x := by
      rw [List.getElem?_eq_getElem (by omega)] at hx
      injection hx
    have := ho.pair_ (k := M) (by omega)
    rwa [e] at this
  rw [hl] at HC
  obtain ⟨xs, hxs⟩ : ∃ xs, xs = runsL n := ⟨_, rfl⟩
  rw [← hxs] at HC HP
  obtain ⟨a, b⟩ := x
  simp only at HP ⊢
  clear hl hx hxs
  go_enter Tryz.func11, Tryz.ntmps11
  go_wp2_with (first
    | (go_at_call 34; refine (ruGood_any _ _).mono ?_; rw [HA.out]; rintro e w' ⟨rfl, rfl⟩)
    | (go_at_call 35; refine (HC.out _).mono ?_; rintro e w1 ⟨A, c, rfl, ho, hb1⟩; obtain ⟨g, o, rfl, hg1, hg2, d0, d1⟩ := HP.out _ _ _ _ ho; clear ho; obtain ⟨c1, f1⟩ := bcell hb1; have z1 : w.heap.size < w1.heap.size := by have := hb1.size; simp at this; omega))
  have hB : Below w.heap.size w w1 := ((Below.refl _ _).alloc (Nat.le_refl _) _).trans (hb1.mono (by simp))
  exact bodyPost_ret (v := .tuple #[.agg #[.int .i64 a, .int .i64 b], .bool true]) (by simp [results, Tryz.results11, go_sem, c1]) rfl ⟨rfl, (hB.setCell (by simp) _).setCell (by simp) _⟩
end Go.Proofs.YtcfpdlkkniilpaaGreatDoor
