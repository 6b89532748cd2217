/- Chapter 9, by the program: puzzles with other clues; DropClue. -/
import Derived.Test.YtmpajeldfbchhaaTgA
import Derived.Test.YtmpajeldfbchhaaTgH
import Derived.Lib.AppendZeros
import Derived.Lib.Walk
import Derived.Lib.SliceRun
namespace Go.Proofs.Ytmpajeldfbchhaa
open Go.ChangeShapes Go.WideShapes Go.ChangeAt Go.RowKit

set_option maxRecDepth 4000 in
theorem hasClue_any (m : Int) (A : Option Addr) (n c : Nat) (k : Int) (w : World) (hm : n ≤ 1048576) :
    Calls Try.prog 41 #[.agg #[.int .i64 m, .slice A n c], .int .i64 k] w fun e w' => e = .returned (.bool (betr k 0 ((n : Int) - 1))) ∧ Below w.heap.size w w' := by
  have e1 : IntKind.i64.wrap ((n : Int) - 1) = (n : Int) - 1 := IntWalk.i64_in _ (by omega)
  go_enter Try.func41, Try.ntmps41
  go_wp2_with (go_at_call 29; refine (rwithin_any _ _ _ _).mono ?_; rintro e w' ⟨rfl, rfl⟩)
  go_ret
  exact ⟨rfl, (Below.refl _ _).alloc (Nat.le_refl _) _⟩
set_option maxRecDepth 4000 in
theorem withClues_any (m : Int) (A B : Option Addr) (n c p d : Nat) (w : World) :
    Calls Try.prog 45 #[.agg #[.int .i64 m, .slice A n c], .slice B p d] w fun e w' => e = .returned (.agg #[.int .i64 m, .slice B p d]) ∧ Below w.heap.size w w' := by
  obtain ⟨bx, rm, b0, z0⟩ := entry9 w m A n c 35 35
  obtain ⟨r0, r1, f0, f1⟩ := rm
  clear bx b0 z0
  go_enter Try.func45, Try.ntmps45
  go_wp2
  exact bodyPost_ret (v := .agg #[.int .i64 m, .slice B p d]) (by simp [results, Try.results45, go_sem]) rfl ⟨rfl, ((Below.refl _ _).alloc (Nat.le_refl _) _).alloc (by simp) _⟩
/-- Room for clues. -/
theorem growClues_any (n : Nat) (w : World) (hm : n ≤ 1048576) :
    Calls Try.prog 67 #[.slice none 0 0, .int .i64 (n : Int)] w fun e w' => (∃ v, e = .returned v ∧ w'.ownsRow w.heap.size 25 3 v 0 []) ∧ Below w.heap.size w w' := by
  obtain ⟨i0, hi0, hz0, hz1, hz2⟩ := info_parts infoClue
  have h1 : ¬ ((n : Int) < 0) := by omega
  by_cases h0 : n = 0
  · subst h0
    go_enter Try.func67, Try.ntmps67
    go_wp2
    go_ret
    exact ⟨⟨_, rfl, World.ownsRow_nil _ _ _ _⟩, Below.refl _ _⟩
  · have h4 : (0 : Int) < (n : Int) := by omega
    have hrz := fun ty => Lib.run_append_nil_zeros (P := Try.prog) w 33 3 ty 25 i0 _ .i64 .i64 Try.underlying33 Try.underlying3 hi0 hz0 n (by omega) (by omega) (by omega) (by rw [hz2]; omega)
    have g1 := grownCap_ge w n 0 25
    have g2 := grownCap_le_maxLen w n 0 25 (by unfold maxLen; omega)
    generalize grownCap w n 0 25 = C at *
    have hC : (C : Int) ≤ 9223372036854775807 := by unfold maxLen at g2; omega
    have hC0 : (0 : Int) ≤ (C : Int) := by omega
    have ho : (w.drew.alloc (.cells (Builtin.zeroCells (Value.agg #[.int .i64 0, .int .i64 0, .int .i64 0]).cells n ++ Builtin.zeroCells (Value.agg #[.int .i64 0, .int .i64 0, .int .i64 0]).cells (C - n)) 25)).ownsRow w.heap.size 25 3 (.slice (some ⟨w.heap.size, 0, none⟩) 0 C) 0 [] := by
      refine ⟨rfl, .inr ⟨w.heap.size, C, _, rfl, Nat.le_refl _, heap_alloc_new _ _, by omega, g2, ?_, by simp⟩⟩
      rw [Array.size_append, size_zeroCells, size_zeroCells]
      show n * 3 + (C - n) * 3 = C * 3
      omega
    have hb : Below w.heap.size w (w.drew.alloc (.cells (Builtin.zeroCells (Value.agg #[.int .i64 0, .int .i64 0, .int .i64 0]).cells n ++ Builtin.zeroCells (Value.agg #[.int .i64 0, .int .i64 0, .int .i64 0]).cells (C - n)) 25)) := (Below.refl _ _).drew.alloc (Nat.le_refl _) _
    have HO := Lib.hid ho
    have HB := Lib.hid hb
    clear ho hb
    go_enter Try.func67, Try.ntmps67
    go_wp2_with (at_builtin; refine Lib.wpList_append_run _ rfl _ _ _ _ rfl _ _ rfl rfl _ _ (hrz _) ?_)
    go_ret
    exact ⟨⟨_, rfl, HO.out⟩, HB.out⟩
set_option maxRecDepth 8000 in
set_option maxHeartbeats 3200000 in
/-- Two slices of clues, one behind the other. -/
theorem concatClues_any (R : Nat) (a1 a2 : Addr) (m1 c1 m2 c2 : Nat) (T D : List Value) (w : World) (h0 : w.cell? ⟨R, 0, none⟩ = some (.slice (some a1) m1 c1)) (h1 : w.cell? ⟨R, 1, none⟩ = some (.slice (some a2) m2 c2)) (hR : R < w.heap.size)
    (hT : T.length = m1 * 3) (hD : D.length = m2 * 3) (hm1 : m1 ≤ 524288) (hm2 : m2 ≤ 524288) (oT : ∀ u ∈ T, u.oneCell' = true) (oD : ∀ u ∈ D, u.oneCell' = true)
    (cT : ∀ w', Below w.heap.size w w' → ∀ j u, T[j]? = some u → w'.cell? (a1.add j) = some u) (cD : ∀ w', Below w.heap.size w w' → ∀ j u, D[j]? = some u → w'.cell? (a2.add j) = some u) :
    Calls Try.prog 58 #[.slice (some ⟨R, 0, none⟩) 2 2] w fun e w' => (∃ v, e = .returned v ∧ w'.ownsRow w.heap.size 25 3 v (m1 + m2) (T ++ D)) ∧ Below w.heap.size w w' := by
  obtain ⟨i0, hi0, hz0, hz1, hz2⟩ := info_parts infoClue
  have HT := Lib.hid hT
  have HD := Lib.hid hD
  have HOT := Lib.hid oT
  have HOD := Lib.hid oD
  have HCT := Lib.hid cT
  have HCD := Lib.hid cD
  have HG := Lib.hid fun W => growClues_any (m1 + m2) W (by omega)
  have hp : ((m1 + m2 : Nat) : Int) = (m1 : Int) + (m2 : Int) := by omega
  rw [hp] at HG
  clear hT hD oT oD cT cD hp
  have e1 : IntKind.i64.wrap ((m1 : Int) + (m2 : Int)) = (m1 : Int) + (m2 : Int) := IntWalk.i64_in _ (by omega)
  have e0 : IntKind.i64.wrap (m1 : Int) = (m1 : Int) := IntWalk.i64_in _ (by omega)
  have p1 : ¬ ((m1 : Int) < 0) := by omega
  have p2 : ¬ ((m1 : Int) + (m2 : Int) < 0) := by omega
  go_enter Try.func58, Try.ntmps58
  go_wp2
  go_loop [3, 5, 11] (fun s _ i => (i = .int .i64 0 ∧ s = .int .i64 0) ∨ (i = .int .i64 1 ∧ s = .int .i64 (m1 : Int)) ∨ (i = .int .i64 2 ∧ s = .int .i64 ((m1 : Int) + (m2 : Int)))) (fun _ _ i => 2 - (intOf i).toNat)
  case atStart => exact .inl ⟨rfl, rfl⟩
  case round =>
    rcases hrel with ⟨rfl, rfl⟩ | ⟨rfl, rfl⟩ | ⟨rfl, rfl⟩
    · go_wp2
      go_round
      case rel => exact .inr (.inl ⟨rfl, by first | rfl | go_num⟩)
      case measure => decide
    · go_wp2
      go_round
      case rel => exact .inr (.inr ⟨rfl, by first | rfl | go_num⟩)
      case measure => decide
    · go_wp2_with (go_at_call 67; refine (HG.out _).mono ?_; rintro e w1 ⟨⟨v0, rfl, ho0⟩, hb1⟩; have HO0 := Lib.hid ho0; have HB1 := Lib.hid hb1; clear ho0 hb1)
      go_loopw [6, 8, 27] (fun v _ i wr => ((i = .int .i64 0 ∧ Hid (wr.ownsRow w.heap.size 25 3 v 0 [])) ∨ (i = .int .i64 1 ∧ Hid (wr.ownsRow w.heap.size 25 3 v (0 + m1) ([] ++ T))) ∨ (i = .int .i64 2 ∧ Hid (wr.ownsRow w.heap.size 25 3 v (0 + m1 + m2) ([] ++ T ++ D)))) ∧ Below w.heap.size w wr) (fun _ _ i _ => 2 - (intOf i).toNat)
      case atStart => exact ⟨.inl ⟨rfl, HO0⟩, HB1.out⟩
      case round =>
        obtain ⟨(⟨rfl, hown⟩ | ⟨rfl, hown⟩ | ⟨rfl, hown⟩), hb⟩ := hrel
        · have c0 := (hb.cell (p := ⟨R, 0, none⟩) hR).trans h0
          go_wp2_with (at_builtin; refine wpList_append_own _ rfl _ _ 33 rfl w.heap.size 25 i0 (.agg #[.int .i64 0, .int .i64 0, .int .i64 0]) 3 24 Try.underlying33 hi0 hz0 hz1 hz2 rfl (by decide) _ _ _ rfl hown.out a1 m1 c1 T rfl HT.out (HCT.out _ hb) HOT.out (by unfold maxLen; omega) (by omega) hb.size ?_; intro v' w2 hown' hgrow _; have hb2 := hb.grown hgrow hb.size (fun g hg => (hown.out.lt g hg).1); have HO2 := Lib.hid hown'; clear hown' hgrow)
          go_roundw
          case rel => exact ⟨.inr (.inl ⟨rfl, HO2⟩), hb2⟩
          case measure => decide
        · have c0 := (hb.cell (p := ⟨R, 1, none⟩) hR).trans h1
          go_wp2_with (at_builtin; refine wpList_append_own _ rfl _ _ 33 rfl w.heap.size 25 i0 (.agg #[.int .i64 0, .int .i64 0, .int .i64 0]) 3 24 Try.underlying33 hi0 hz0 hz1 hz2 rfl (by decide) _ _ _ rfl hown.out a2 m2 c2 D rfl HD.out (HCD.out _ hb) HOD.out (by unfold maxLen; omega) (by omega) hb.size ?_; intro v' w2 hown' hgrow _; have hb2 := hb.grown hgrow hb.size (fun g hg => (hown.out.lt g hg).1); have HO2 := Lib.hid hown'; clear hown' hgrow)
          go_roundw
          case rel => exact ⟨.inr (.inr ⟨rfl, HO2⟩), hb2⟩
          case measure => decide
        · have HO2 : Hid (wr.ownsRow w.heap.size 25 3 u6 (m1 + m2) (T ++ D)) := Lib.hid (by have := hown.out; rwa [Nat.zero_add, List.nil_append] at this)
          go_wp2
          go_ret
          exact ⟨⟨_, rfl, HO2.out⟩, hb⟩
end Go.Proofs.Ytmpajeldfbchhaa
