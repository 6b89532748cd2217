/- Chapter 9, by the program: puzzles that are made. -/
import Derived.Test.YtmpajeldfbchhaaTgB
import Derived.Test.YtmpajeldfbchhaaTgL
namespace Go.Proofs.Ytmpajeldfbchhaa
open Go.ChangeShapes Go.WideShapes Go.ChangeAt Go.RowKit

/-- The number drawn last. -/
def Dr9 (w : World) (D z : Nat) : Prop := w.cell? ⟨D, 0, none⟩ = some (.int .i64 (z : Int)) ∧ w.frozen? ⟨D, 0, none⟩ = false
theorem Dr9.below {w w' : World} {D z B : Nat} (h : Dr9 w D z) (hb : Below B w w') (hB : D < B) : Dr9 w' D z := ⟨(hb.cell (p := ⟨D, 0, none⟩) hB).trans h.1, (hb.frozen (p := ⟨D, 0, none⟩) hB).trans h.2⟩
theorem Dr9.set {w : World} {D z : Nat} (h : Dr9 w D z) (z' : Nat) : Dr9 (w.setCell ⟨D, 0, none⟩ (.int .i64 (z' : Int))) D z' := ⟨World.cell?_setCell_same w _ _ h.1, by rw [World.frozen?_setCell]; exact h.2⟩
/-- All but a block is as it was. -/
theorem grown_set9 (w : World) (g o : Nat) (u : Value) : w.grownBy (w.setCell ⟨g, o, none⟩ u) (some g) := by
  have hb : Below g w (w.setCell ⟨g, o, none⟩ u) := (Below.refl g w).setCell (Nat.le_refl _) u
  exact ⟨hb.os, hb.tape, hb.output, hb.size, fun i hi hne => Below.heap_setCell _ _ _ i (fun e => hne (by rw [e]))⟩
theorem grown_below9 {w w' : World} (h : Below w.heap.size w w') (r : Option Nat) : w.grownBy w' r := ⟨h.os, h.tape, h.output, h.size, fun i hi _ => h.block i hi⟩
theorem grown_trans9 {a b c : World} {r : Option Nat} (h : a.grownBy b r) (k : b.grownBy c r) : a.grownBy c r :=
  ⟨k.os.trans h.os, k.tape.trans h.tape, k.output.trans h.output, Nat.le_trans h.size k.size, fun i hi hne => (k.block i (Nat.lt_of_lt_of_le hi h.size) hne).trans (h.block i hi hne)⟩
set_option maxRecDepth 4000 in
theorem draw1_any (D z : Nat) (m : Int) (w : World) (h : Dr9 w D z) (hz : z ≤ 10007) (m0 : 0 < m) (m1 : m ≤ 1000) :
    Calls Try.prog 61 #[.int .i64 m, .pointer (some ⟨D, 0, none⟩)] w fun e w' => e = .returned (.int .i64 (((nx9 z : Nat) : Int) % m)) ∧ w' = w.setCell ⟨D, 0, none⟩ (.int .i64 ((nx9 z : Nat) : Int)) := by
  obtain ⟨t1, t2, t3, t4⟩ := nx9_run z hz
  have hy := nx9_lt z
  generalize nx9 z = z1 at *
  have x1 : (z1 : Int).tmod m = (z1 : Int) % m := Int.tmod_eq_emod_of_nonneg (by omega)
  have r0 : 0 ≤ (z1 : Int) % m := Int.emod_nonneg _ (by omega)
  have r1 : (z1 : Int) % m < m := Int.emod_lt_of_pos _ m0
  have x2 : IntKind.i64.wrap ((z1 : Int) % m) = (z1 : Int) % m := IntWalk.i64_in _ (by omega)
  have q0 : m ≠ 0 := by omega
  have q1 : (m == 0) = false := by simp; omega
  obtain ⟨c0, f0⟩ := h
  have c1 : (w.setCell ⟨D, 0, none⟩ (.int .i64 (z1 : Int))).cell? ⟨D, 0, none⟩ = some (.int .i64 (z1 : Int)) := World.cell?_setCell_same w _ _ c0
  go_enter Try.func61, Try.ntmps61
  go_wp2
  go_ret
  exact ⟨rfl, rfl⟩
theorem cf_draw1 : ∀ (args : Array Value) (W : World), (callFunc 61 args).run Try.prog W = .ok (.enter 61 args) W := fun _ _ => by kernel_rfl
theorem newDraw_any (sd : Nat) (w : World) :
    Calls Try.prog 49 #[.int .i64 (sd : Int)] w fun e w' => e = .returned (.func (.func 61) #[] #[.pointer (some ⟨w.heap.size, 0, none⟩)]) ∧ Dr9 w' w.heap.size sd ∧ w'.heap.size = w.heap.size + 1 ∧ Below w.heap.size w w' := by
  have hmf : ∀ (fn : Fn) (first cap : Array Value) (w : World), (Instr.makeFunc fn first cap).run Try.prog w = .ok (.func fn first cap) w := fun _ _ _ _ => rfl
  go_enter Try.func49, Try.ntmps49
  go_wp2
  go_ret
  exact ⟨rfl, ⟨by simp [go_sem], by simp [go_sem]⟩, by simp, (Below.refl _ _).alloc (Nat.le_refl _) _⟩
/-- The room of an answer that is a clue. -/
def Rc9 (w : World) (Q : Nat) : Prop := (∃ u, w.cell? ⟨Q, 0, none⟩ = some u) ∧ (∃ u, w.cell? ⟨Q, 1, none⟩ = some u) ∧ (∃ u, w.cell? ⟨Q, 2, none⟩ = some u) ∧ w.frozen? ⟨Q, 0, none⟩ = false ∧ w.frozen? ⟨Q, 1, none⟩ = false ∧ w.frozen? ⟨Q, 2, none⟩ = false
theorem Rc9.new (w : World) (a b c : Value) (t : TypeId) : Rc9 (w.alloc (.cells #[a, b, c] t)) w.heap.size := ⟨⟨a, by simp [go_sem]⟩, ⟨b, by simp [go_sem]⟩, ⟨c, by simp [go_sem]⟩, by simp [go_sem], by simp [go_sem], by simp [go_sem]⟩
theorem Rc9.grown {w w' : World} {Q D : Nat} (h : Rc9 w Q) (hg : w.grownBy w' (some D)) (hQ : Q < w.heap.size) (hne : Q ≠ D) : Rc9 w' Q := by
  have hb := hg.block Q hQ (fun e => hne (by injection e))
  have hc : ∀ o, w'.cell? ⟨Q, o, none⟩ = w.cell? ⟨Q, o, none⟩ := fun o => World.cell?_of_block (a := ⟨Q, o, none⟩) hb
  have hf : ∀ o, w'.frozen? ⟨Q, o, none⟩ = w.frozen? ⟨Q, o, none⟩ := fun o => World.frozen?_of_block (a := ⟨Q, o, none⟩) hb
  unfold Rc9
  rw [hc, hc, hc, hf, hf, hf]
  exact h
theorem grown_three9 {w w' : World} {D Q : Nat} (h : w.grownBy w' (some D)) (hQ : w.heap.size ≤ Q) (a b c : Value) : w.grownBy (((w'.setCell ⟨Q, 0, none⟩ a).setCell ⟨Q, 1, none⟩ b).setCell ⟨Q, 2, none⟩ c) (some D) := by
  refine ⟨h.os, h.tape, h.output, by have := h.size; simp [World.setCell]; exact this, fun i hi hne => ?_⟩
  rw [Below.heap_setCell _ _ _ i (by show i ≠ Q; omega), Below.heap_setCell _ _ _ i (by show i ≠ Q; omega), Below.heap_setCell _ _ _ i (by show i ≠ Q; omega)]
  exact h.block i hi hne
theorem drew_three9 {w : World} {D z Q : Nat} (h : Dr9 w D z) (hne : Q ≠ D) (a b c : Value) : Dr9 (((w.setCell ⟨Q, 0, none⟩ a).setCell ⟨Q, 1, none⟩ b).setCell ⟨Q, 2, none⟩ c) D z := by
  unfold Dr9
  rw [World.frozen?_setCell, World.frozen?_setCell, World.frozen?_setCell, World.cell?_setCell_other _ _ _ _ (fun e => hne (by injection e)), World.cell?_setCell_other _ _ _ _ (fun e => hne (by injection e)), World.cell?_setCell_other _ _ _ _ (fun e => hne (by injection e))]
  exact h
theorem three_cells9 {w : World} {Q : Nat} (h : Rc9 w Q) (a b c : Value) :
    (((w.setCell ⟨Q, 0, none⟩ a).setCell ⟨Q, 1, none⟩ b).setCell ⟨Q, 2, none⟩ c).cell? ⟨Q, 0, none⟩ = some a ∧ (((w.setCell ⟨Q, 0, none⟩ a).setCell ⟨Q, 1, none⟩ b).setCell ⟨Q, 2, none⟩ c).cell? ⟨Q, 1, none⟩ = some b ∧ (((w.setCell ⟨Q, 0, none⟩ a).setCell ⟨Q, 1, none⟩ b).setCell ⟨Q, 2, none⟩ c).cell? ⟨Q, 2, none⟩ = some c := by
  obtain ⟨⟨u0, h0⟩, ⟨u1, h1⟩, ⟨u2, h2⟩, _⟩ := h
  have n01 : (⟨Q, 0, none⟩ : Addr) ≠ ⟨Q, 1, none⟩ := fun e => by simp at e
  have n02 : (⟨Q, 0, none⟩ : Addr) ≠ ⟨Q, 2, none⟩ := fun e => by simp at e
  have n12 : (⟨Q, 1, none⟩ : Addr) ≠ ⟨Q, 2, none⟩ := fun e => by simp at e
  refine ⟨?_, ?_, ?_⟩
  · rw [World.cell?_setCell_other _ _ _ _ n02.symm, World.cell?_setCell_other _ _ _ _ n01.symm]
    exact World.cell?_setCell_same w _ _ h0
  · rw [World.cell?_setCell_other _ _ _ _ n12.symm]
    exact World.cell?_setCell_same _ _ _ ((World.cell?_setCell_other w _ _ _ n01).trans h1)
  · exact World.cell?_setCell_same _ _ _ ((World.cell?_setCell_other _ _ _ _ n12).trans ((World.cell?_setCell_other w _ _ _ n02).trans h2))
set_option maxRecDepth 4000 in
set_option maxHeartbeats 3200000 in
theorem drawClue_any (D n z : Nat) (w : World) (h : Dr9 w D z) (hD : D < w.heap.size) (hz : z ≤ 10007) (hn : n ≤ 500) :
    Calls Try.prog 50 #[.int .i64 (n : Int), .func (.func 61) #[] #[.pointer (some ⟨D, 0, none⟩)]] w fun e w' => e = .returned (cv (mkc9 n z).1) ∧ Dr9 w' D (mkc9 n z).2 ∧ w.grownBy w' (some D) := by
  have hcf := cf_draw1
  have hb0 : Below w.heap.size w (w.alloc (.cells #[.int .i64 0, .int .i64 0, .int .i64 0] 25)) := (Below.refl _ _).alloc (Nat.le_refl _) _
  have hr0 := Rc9.new w (.int .i64 0) (.int .i64 0) (.int .i64 0) 25
  have hd0 := h.below hb0 hD
  have hz0 : (w.alloc (.cells #[.int .i64 0, .int .i64 0, .int .i64 0] 25)).heap.size = w.heap.size + 1 := by simp
  have hg0 := grown_below9 hb0 (some D)
  have HC0 := mkc9_0 n z
  have HC1 := mkc9_1 n z
  have HC2 := mkc9_2 n z
  have hyl := nx9_lt z
  have HDR := Lib.hid fun (m : Int) (W : World) (hW : Dr9 W D z) (m0 : 0 < m) (m1 : m ≤ 1000) => draw1_any D z m W hW hz m0 m1
  generalize nx9 z = z1 at *
  go_enter Try.func50, Try.ntmps50
  go_wp2_with fail
  generalize w.alloc (.cells #[.int .i64 0, .int .i64 0, .int .i64 0] 25) = w1 at *
  refine (HDR.out 3 _ hd0 (by omega) (by omega)).mono ?_
  rintro e w2 ⟨rfl, rfl⟩
  have hd2 := hd0.set z1
  have hg1 := grown_set9 w1 D 0 (.int .i64 (z1 : Int))
  have hr2 := hr0.grown hg1 (by omega) (by omega)
  have hg2 := grown_trans9 hg0 hg1
  clear hd0 hg0 hg1 hr0 hb0
  have HDR2 := Lib.hid fun (m : Int) (W : World) (hW : Dr9 W D z1) (m0 : 0 < m) (m1 : m ≤ 1000) => draw1_any D z1 m W hW (by omega) m0 m1
  have hyl2 := nx9_lt z1
  clear HDR
  have hQD : w.heap.size ≠ D := by omega
  have hs1 : w.heap.size < (w1.setCell ⟨D, 0, none⟩ (.int .i64 (z1 : Int))).heap.size := by
    have := (grown_set9 w1 D 0 (.int .i64 (z1 : Int))).size
    omega
  rcases (by omega : z1 % 3 = 0 ∨ z1 % 3 = 1 ∨ z1 % 3 = 2) with hq | hq | hq
  · have x3 : (z1 : Int) % 3 = 0 := by omega
    have hC := HC0 hq
    generalize nx9 z1 = z2 at *
    obtain ⟨q, hq2⟩ : ∃ q, q = z2 % 11 + 2 := ⟨_, rfl⟩
    rw [← hq2] at hC
    have y3 : IntKind.i64.wrap ((z2 : Int) % 11 + 2) = (q : Int) := by rw [IntWalk.i64_in _ (by omega)]; omega
    obtain ⟨n1, n2⟩ := mod9_run n q (by omega) (by omega)
    have q0 : (q : Int) ≠ 0 := by omega
    have q1 : ((q : Int) == 0) = false := by simp; omega
    generalize n % q = r3 at *
    have HCC := Lib.hid hC
    clear HC0 HC1 HC2 hC hq2
    go_wp2_with fail
    refine (HDR2.out 11 _ hd2 (by omega) (by omega)).mono ?_
    rintro e w3 ⟨rfl, rfl⟩
    have hg3 := grown_set9 (w1.setCell ⟨D, 0, none⟩ (.int .i64 (z1 : Int))) D 0 (.int .i64 (z2 : Int))
    have hd3 := hd2.set z2
    have hr3 := hr2.grown hg3 hs1 hQD
    have hg4 := grown_trans9 hg2 hg3
    clear hg3 hg2 hd2 hr2
    generalize ((w1.setCell ⟨D, 0, none⟩ (.int .i64 (z1 : Int))).setCell ⟨D, 0, none⟩ (.int .i64 (z2 : Int))) = w4 at *
    have HG := Lib.hid (grown_three9 hg4 (Nat.le_refl _) (.int .i64 2) (.int .i64 (q : Int)) (.int .i64 (r3 : Int)))
    have HDD := Lib.hid (drew_three9 hd3 hQD (.int .i64 2) (.int .i64 (q : Int)) (.int .i64 (r3 : Int)))
    obtain ⟨k0, k1, k2⟩ := three_cells9 hr3 (.int .i64 2) (.int .i64 (q : Int)) (.int .i64 (r3 : Int))
    obtain ⟨⟨u0, a0⟩, ⟨u1, a1⟩, ⟨u2, a2⟩, f0, f1, f2⟩ := hr3
    clear hg4 hd3
    go_wp2
    exact bodyPost_ret (v := .agg #[.int .i64 2, .int .i64 (q : Int), .int .i64 (r3 : Int)]) (by simp [results, Try.results50, go_sem, k0, k1, k2]) rfl ⟨by rw [HCC.out]; rfl, by rw [HCC.out]; exact HDD.out, HG.out⟩
  · have x3 : (z1 : Int) % 3 = 1 := by omega
    have hC := HC1 hq
    have HS := Lib.hid fun W => sumOfDigits_any n W (by omega)
    generalize dig9 n = dg at *
    have HCC := Lib.hid hC
    clear HC0 HC1 HC2 hC HDR2
    generalize w1.setCell ⟨D, 0, none⟩ (.int .i64 (z1 : Int)) = w4 at *
    have HG := Lib.hid (grown_three9 hg2 (Nat.le_refl _) (.int .i64 3) (.int .i64 (dg : Int)) (.int .i64 0))
    have HDD := Lib.hid (drew_three9 hd2 hQD (.int .i64 3) (.int .i64 (dg : Int)) (.int .i64 0))
    obtain ⟨k0, k1, k2⟩ := three_cells9 hr2 (.int .i64 3) (.int .i64 (dg : Int)) (.int .i64 0)
    obtain ⟨⟨u0, a0⟩, ⟨u1, a1⟩, ⟨u2, a2⟩, f0, f1, f2⟩ := hr2
    clear hg2 hd2
    go_wp2_with (go_at_call 56; refine (HS.out _).mono ?_; rintro e w' ⟨rfl, rfl⟩)
    exact bodyPost_ret (v := .agg #[.int .i64 3, .int .i64 (dg : Int), .int .i64 0]) (by simp [results, Try.results50, go_sem, k0, k1, k2]) rfl ⟨by rw [HCC.out]; rfl, by rw [HCC.out]; exact HDD.out, HG.out⟩
  · have x3 : (z1 : Int) % 3 = 2 := by omega
    have hC := HC2 hq
    generalize nx9 z1 = z2 at *
    obtain ⟨q, hq2⟩ : ∃ q, q = z2 % 6 + 3 := ⟨_, rfl⟩
    rw [← hq2] at hC
    have y3 : IntKind.i64.wrap ((z2 : Int) % 6 + 3) = (q : Int) := by rw [IntWalk.i64_in _ (by omega)]; omega
    have HS := Lib.hid fun W => hasShape_any (q : Int) (n : Int) W (by omega) (by omega) (by omega)
    clear HC0 HC1 HC2 hq2
    have key : ∀ (b : Bool), shp9 (q : Int) (n : Int) = b → (mkc9 n z).1 = ⟨if b = true then 0 else 1, (q : Int), 0⟩ ∧ (mkc9 n z).2 = z2 := fun b hb => by rw [hC, hb]; exact ⟨rfl, rfl⟩
    clear hC
    go_wp2_with fail
    refine (HDR2.out 6 _ hd2 (by omega) (by omega)).mono ?_
    rintro e w3 ⟨rfl, rfl⟩
    have hg3 := grown_set9 (w1.setCell ⟨D, 0, none⟩ (.int .i64 (z1 : Int))) D 0 (.int .i64 (z2 : Int))
    have hd3 := hd2.set z2
    have hr3 := hr2.grown hg3 hs1 hQD
    have hg4 := grown_trans9 hg2 hg3
    have hs3 := Nat.lt_of_lt_of_le hs1 hg3.size
    clear hg3 hg2 hd2 hr2 HDR2
    generalize ((w1.setCell ⟨D, 0, none⟩ (.int .i64 (z1 : Int))).setCell ⟨D, 0, none⟩ (.int .i64 (z2 : Int))) = w4 at *
    cases hsh : shp9 (q : Int) (n : Int) with
    | true =>
      obtain ⟨e1, e2⟩ := key _ hsh
      rw [hsh] at HS
      rw [if_pos rfl] at e1
      have HE := Lib.hid (And.intro e1 e2)
      clear key hsh e1 e2
      go_wp2_with fail
      refine (HS.out _).mono ?_
      rintro e w5 ⟨rfl, b5⟩
      have hg5 := grown_below9 b5 (some D)
      have hr5 := hr3.grown hg5 hs3 hQD
      have HG := Lib.hid (grown_three9 (grown_trans9 hg4 hg5) (Nat.le_refl _) (.int .i64 0) (.int .i64 (q : Int)) (.int .i64 0))
      have HDD := Lib.hid (drew_three9 (hd3.below b5 (by omega)) hQD (.int .i64 0) (.int .i64 (q : Int)) (.int .i64 0))
      obtain ⟨k0, k1, k2⟩ := three_cells9 hr5 (.int .i64 0) (.int .i64 (q : Int)) (.int .i64 0)
      obtain ⟨⟨u0, a0⟩, ⟨u1, a1⟩, ⟨u2, a2⟩, f0, f1, f2⟩ := hr5
      clear hg4 hg5 hd3 hr3 b5
      go_wp2
      exact bodyPost_ret (v := .agg #[.int .i64 0, .int .i64 (q : Int), .int .i64 0]) (by simp [results, Try.results50, go_sem, k0, k1, k2]) rfl ⟨by rw [HE.out.1]; rfl, by rw [HE.out.2]; exact HDD.out, HG.out⟩
    | false =>
      obtain ⟨e1, e2⟩ := key _ hsh
      rw [hsh] at HS
      rw [if_neg (by simp)] at e1
      have HE := Lib.hid (And.intro e1 e2)
      clear key hsh e1 e2
      go_wp2_with fail
      refine (HS.out _).mono ?_
      rintro e w5 ⟨rfl, b5⟩
      have hg5 := grown_below9 b5 (some D)
      have hr5 := hr3.grown hg5 hs3 hQD
      have HG := Lib.hid (grown_three9 (grown_trans9 hg4 hg5) (Nat.le_refl _) (.int .i64 1) (.int .i64 (q : Int)) (.int .i64 0))
      have HDD := Lib.hid (drew_three9 (hd3.below b5 (by omega)) hQD (.int .i64 1) (.int .i64 (q : Int)) (.int .i64 0))
      obtain ⟨k0, k1, k2⟩ := three_cells9 hr5 (.int .i64 1) (.int .i64 (q : Int)) (.int .i64 0)
      obtain ⟨⟨u0, a0⟩, ⟨u1, a1⟩, ⟨u2, a2⟩, f0, f1, f2⟩ := hr5
      clear hg4 hg5 hd3 hr3 b5
      go_wp2
      exact bodyPost_ret (v := .agg #[.int .i64 1, .int .i64 (q : Int), .int .i64 0]) (by simp [results, Try.results50, go_sem, k0, k1, k2]) rfl ⟨by rw [HE.out.1]; rfl, by rw [HE.out.2]; exact HDD.out, HG.out⟩
end Go.Proofs.Ytmpajeldfbchhaa
