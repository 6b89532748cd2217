/- Chapter 6: the specification's spots of the hexagon spiral. -/
import Derived.Test.YtkhjeleoppdjgacSiH
namespace Go.Proofs.Ytkhjeleoppdjgac
open Go.ChangeShapes Go.WideShapes Go.ChangeAt Go.RowKit

/-- The six steps along the sides of a ring. -/
def six : List (Int × Int) := [(0, 1), (-1, 1), (-1, 0), (0, -1), (1, -1), (1, 0)]
theorem six_len : six.length = 6 := rfl
theorem six_b : ∀ (i : Nat) (h : i < 6), -1 ≤ (six[i]'h).1 ∧ (six[i]'h).1 ≤ 1 ∧ -1 ≤ (six[i]'h).2 ∧ (six[i]'h).2 ≤ 1 := by decide
theorem hat_side (r m : Int) (i : Nat) (hi : i < 6) (h1 : 1 ≤ r) (m0 : 0 ≤ m) (m1 : m ≤ r) : hat r ((i : Int) * r + m) = ((hat r ((i : Int) * r)).1 + m * (six[i]'hi).1, (hat r ((i : Int) * r)).2 + m * (six[i]'hi).2) := by
  have hc : i = 0 ∨ i = 1 ∨ i = 2 ∨ i = 3 ∨ i = 4 ∨ i = 5 := by omega
  rcases hc with rfl | rfl | rfl | rfl | rfl | rfl
  all_goals simp only [six, List.getElem_cons_zero, List.getElem_cons_succ]
  · rcases hat_cases (k := ((0 : Nat) : Int) * r + m) h1 with ⟨a, e⟩ | ⟨a, b, e⟩ | ⟨a, b, e⟩ | ⟨a, b, e⟩ | ⟨a, b, e⟩ | ⟨a, e⟩ <;> rw [e] <;> rcases hat_cases (k := ((0 : Nat) : Int) * r) h1 with ⟨a', e'⟩ | ⟨a', b', e'⟩ | ⟨a', b', e'⟩ | ⟨a', b', e'⟩ | ⟨a', b', e'⟩ | ⟨a', e'⟩ <;> rw [e'] <;> first | (exfalso; omega) | (apply pair_eq <;> dsimp only <;> omega)
  · rcases hat_cases (k := ((1 : Nat) : Int) * r + m) h1 with ⟨a, e⟩ | ⟨a, b, e⟩ | ⟨a, b, e⟩ | ⟨a, b, e⟩ | ⟨a, b, e⟩ | ⟨a, e⟩ <;> rw [e] <;> rcases hat_cases (k := ((1 : Nat) : Int) * r) h1 with ⟨a', e'⟩ | ⟨a', b', e'⟩ | ⟨a', b', e'⟩ | ⟨a', b', e'⟩ | ⟨a', b', e'⟩ | ⟨a', e'⟩ <;> rw [e'] <;> first | (exfalso; omega) | (apply pair_eq <;> dsimp only <;> omega)
  · rcases hat_cases (k := ((2 : Nat) : Int) * r + m) h1 with ⟨a, e⟩ | ⟨a, b, e⟩ | ⟨a, b, e⟩ | ⟨a, b, e⟩ | ⟨a, b, e⟩ | ⟨a, e⟩ <;> rw [e] <;> rcases hat_cases (k := ((2 : Nat) : Int) * r) h1 with ⟨a', e'⟩ | ⟨a', b', e'⟩ | ⟨a', b', e'⟩ | ⟨a', b', e'⟩ | ⟨a', b', e'⟩ | ⟨a', e'⟩ <;> rw [e'] <;> first | (exfalso; omega) | (apply pair_eq <;> dsimp only <;> omega)
  · rcases hat_cases (k := ((3 : Nat) : Int) * r + m) h1 with ⟨a, e⟩ | ⟨a, b, e⟩ | ⟨a, b, e⟩ | ⟨a, b, e⟩ | ⟨a, b, e⟩ | ⟨a, e⟩ <;> rw [e] <;> rcases hat_cases (k := ((3 : Nat) : Int) * r) h1 with ⟨a', e'⟩ | ⟨a', b', e'⟩ | ⟨a', b', e'⟩ | ⟨a', b', e'⟩ | ⟨a', b', e'⟩ | ⟨a', e'⟩ <;> rw [e'] <;> first | (exfalso; omega) | (apply pair_eq <;> dsimp only <;> omega)
  · rcases hat_cases (k := ((4 : Nat) : Int) * r + m) h1 with ⟨a, e⟩ | ⟨a, b, e⟩ | ⟨a, b, e⟩ | ⟨a, b, e⟩ | ⟨a, b, e⟩ | ⟨a, e⟩ <;> rw [e] <;> rcases hat_cases (k := ((4 : Nat) : Int) * r) h1 with ⟨a', e'⟩ | ⟨a', b', e'⟩ | ⟨a', b', e'⟩ | ⟨a', b', e'⟩ | ⟨a', b', e'⟩ | ⟨a', e'⟩ <;> rw [e'] <;> first | (exfalso; omega) | (apply pair_eq <;> dsimp only <;> omega)
  · rcases hat_cases (k := ((5 : Nat) : Int) * r + m) h1 with ⟨a, e⟩ | ⟨a, b, e⟩ | ⟨a, b, e⟩ | ⟨a, b, e⟩ | ⟨a, b, e⟩ | ⟨a, e⟩ <;> rw [e] <;> rcases hat_cases (k := ((5 : Nat) : Int) * r) h1 with ⟨a', e'⟩ | ⟨a', b', e'⟩ | ⟨a', b', e'⟩ | ⟨a', b', e'⟩ | ⟨a', b', e'⟩ | ⟨a', e'⟩ <;> rw [e'] <;> first | (exfalso; omega) | (apply pair_eq <;> dsimp only <;> omega)
/-- How far the i-th side leaves a walk of k steps, and where. -/
def hdone (r k : Int) (i : Nat) : Int := min k ((i : Int) * r)
def hP (r k : Int) (i : Nat) : Int × Int := hat r (hdone r k i)
def hN (r k : Int) (i : Nat) : Int := k - hdone r k i
theorem hN_b (r k : Int) (i : Nat) (h1 : 1 ≤ r) (k0 : 0 ≤ k) : 0 ≤ hN r k i ∧ hN r k i ≤ k := by
  have := Int.mul_nonneg (a := (i : Int)) (b := r) (by omega) (by omega)
  unfold hN hdone
  omega
theorem hdone_step (r k : Int) (i : Nat) (h1 : 1 ≤ r) : hdone r k (i + 1) = hdone r k i + min (hN r k i) r := by
  have e : ((i + 1 : Nat) : Int) * r = (i : Int) * r + r := by rw [show ((i + 1 : Nat) : Int) = (i : Int) + 1 by omega]; grind
  unfold hN hdone
  rw [e]
  omega
theorem hN_step (r k : Int) (i : Nat) (h1 : 1 ≤ r) : hN r k (i + 1) = hN r k i - min (hN r k i) r := by
  have h := hdone_step r k i h1
  have e : hN r k (i + 1) = k - hdone r k (i + 1) := rfl
  rw [e, h]
  have e2 : hN r k i = k - hdone r k i := rfl
  omega
theorem hP_step (r k : Int) (i : Nat) (hi : i < 6) (h1 : 1 ≤ r) (k0 : 0 ≤ k) : hP r k (i + 1) = ((hP r k i).1 + min (hN r k i) r * (six[i]'hi).1, (hP r k i).2 + min (hN r k i) r * (six[i]'hi).2) := by
  have hb := hN_b r k i h1 k0
  unfold hP
  rw [hdone_step r k i h1]
  rcases Int.lt_or_le k ((i : Int) * r) with h | h
  · have hz : hN r k i = 0 := by unfold hN hdone; omega
    rw [hz, show min 0 r = 0 by omega]
    simp
  · have hd : hdone r k i = (i : Int) * r := by unfold hdone; omega
    rw [hd]
    exact hat_side r _ i hi h1 (by omega) (by omega)
theorem hat_b {r k : Int} (h1 : 1 ≤ r) (k0 : 0 ≤ k) (k1 : k ≤ 6 * r) : -r ≤ (hat r k).1 ∧ (hat r k).1 ≤ r ∧ -r ≤ (hat r k).2 ∧ (hat r k).2 ≤ r := by
  rcases hat_cases (k := k) h1 with ⟨a, e⟩ | ⟨a, b, e⟩ | ⟨a, b, e⟩ | ⟨a, b, e⟩ | ⟨a, b, e⟩ | ⟨a, e⟩ <;> rw [e] <;> dsimp only <;> omega
theorem hP_b (r k : Int) (i : Nat) (h1 : 1 ≤ r) (k0 : 0 ≤ k) (k1 : k ≤ 6 * r) : -r ≤ (hP r k i).1 ∧ (hP r k i).1 ≤ r ∧ -r ≤ (hP r k i).2 ∧ (hP r k i).2 ≤ r := by
  have := Int.mul_nonneg (a := (i : Int)) (b := r) (by omega) (by omega)
  exact hat_b h1 (by unfold hdone; omega) (by unfold hdone; omega)
theorem hP_zero (r k : Int) (h1 : 1 ≤ r) (k0 : 0 ≤ k) : hP r k 0 = (r, -r) ∧ hN r k 0 = k := by
  have e : hdone r k 0 = 0 := by unfold hdone; simp; omega
  constructor
  · unfold hP
    rw [e]
    rcases hat_cases (k := 0) h1 with ⟨a, e⟩ | ⟨a, b, e⟩ | ⟨a, b, e⟩ | ⟨a, b, e⟩ | ⟨a, b, e⟩ | ⟨a, e⟩ <;> rw [e] <;> apply pair_eq <;> omega
  · unfold hN
    omega
theorem hP_six (r k : Int) (k1 : k ≤ 6 * r) : hP r k 6 = hat r k := by
  unfold hP hdone
  rw [show min k (((6 : Nat) : Int) * r) = k by omega]
theorem side_b (m s : Int) (m0 : 0 ≤ m) (m1 : m ≤ 2000) (s0 : -1 ≤ s) (s1 : s ≤ 1) : -2000 ≤ m * s ∧ m * s ≤ 2000 := by
  have h : s = -1 ∨ s = 0 ∨ s = 1 := by omega
  rcases h with rfl | rfl | rfl <;> omega
theorem spSteps_any (w : World) : Calls Try.prog 158 #[] w fun e w' => ∃ A c, e = .returned (.slice A 6 c) ∧ Own w' w.heap.size w'.heap.size A (prs six) ∧ Below w.heap.size w w' := by
  go_enter Try.func158, Try.ntmps158
  go_wp2
  go_ret
  exact ⟨_, _, rfl, fun _ => ⟨w.heap.size, 0, rfl, Nat.le_refl _, by simp, fun j u hu => ⟨by rw [World.cell?_alloc_at _ _ _ _ rfl]; simpa [prs, six] using hu, by rw [World.frozen?_alloc_at _ _ _ _ rfl]⟩⟩, (Below.refl _ _).alloc (Nat.le_refl _) _⟩
/-- Two cells of a box that are written. -/
theorem hset_two {W : World} {R : Nat} {u v : Value} (p q : Value) (c0 : W.cell? ⟨R, 0, none⟩ = some u) (c1 : W.cell? ⟨R, 1, none⟩ = some v) :
    ((W.setCell ⟨R, 0, none⟩ p).setCell ⟨R, 1, none⟩ q).cell? ⟨R, 0, none⟩ = some p ∧ ((W.setCell ⟨R, 0, none⟩ p).setCell ⟨R, 1, none⟩ q).cell? ⟨R, 1, none⟩ = some q := by
  refine ⟨?_, ?_⟩
  · rw [World.cell?_setCell_other _ _ _ _ (by intro e; simp only [Addr.mk.injEq] at e; omega)]
    exact World.cell?_setCell_same W _ _ c0
  · exact World.cell?_setCell_same _ _ _ ((World.cell?_setCell_other W _ _ _ (by intro e; simp only [Addr.mk.injEq] at e; omega)).trans c1)
theorem hset_far {W : World} {R Q : Nat} (o : Nat) (p q : Value) (h : Q ≠ R) : ((W.setCell ⟨R, 0, none⟩ p).setCell ⟨R, 1, none⟩ q).cell? ⟨Q, o, none⟩ = W.cell? ⟨Q, o, none⟩ := by
  rw [World.cell?_setCell_other _ _ _ _ (by intro e; simp only [Addr.mk.injEq] at e; omega), World.cell?_setCell_other _ _ _ _ (by intro e; simp only [Addr.mk.injEq] at e; omega)]
/-- The memory of the walk along the sides: the result's box, the spot's box, the steps. -/
structure HexW (w wr : World) (hi : Nat) (A : Option Addr) (a b : Int) : Prop where
  r0 : wr.cell? ⟨w.heap.size, 0, none⟩ = some (.int .i64 0)
  r1 : wr.cell? ⟨w.heap.size, 1, none⟩ = some (.int .i64 0)
  g0 : wr.frozen? ⟨w.heap.size, 0, none⟩ = false
  g1 : wr.frozen? ⟨w.heap.size, 1, none⟩ = false
  c0 : wr.cell? ⟨w.heap.size + 1, 0, none⟩ = some (.int .i64 a)
  c1 : wr.cell? ⟨w.heap.size + 1, 1, none⟩ = some (.int .i64 b)
  f0 : wr.frozen? ⟨w.heap.size + 1, 0, none⟩ = false
  f1 : wr.frozen? ⟨w.heap.size + 1, 1, none⟩ = false
  own : Own wr (w.heap.size + 2) hi A (prs six)
  hi : hi ≤ wr.heap.size
  z : w.heap.size + 2 ≤ wr.heap.size
  below : Below w.heap.size w wr
theorem hset_own {wr : World} {lo hi R : Nat} {A : Option Addr} {cs : List Value} (h : Own wr lo hi A cs) (hR : R < lo) (p q : Value) : Own ((wr.setCell ⟨R, 0, none⟩ p).setCell ⟨R, 1, none⟩ q) lo hi A cs := fun hn => by
  obtain ⟨g, o, e, h1, h2, hc⟩ := h hn
  refine ⟨g, o, e, h1, h2, fun j u hu => ?_⟩
  rw [hset_far _ _ _ (by omega), World.frozen?_setCell, World.frozen?_setCell]
  exact hc j u hu
theorem HexW.next {w wr : World} {hi : Nat} {A : Option Addr} {a b : Int} (h : HexW w wr hi A a b) (p q : Int) (o : Obj) :
    HexW w (((wr.setCell ⟨w.heap.size + 1, 0, none⟩ (.int .i64 p)).setCell ⟨w.heap.size + 1, 1, none⟩ (.int .i64 q)).alloc o) hi A p q := by
  have hs := hset_two (.int .i64 p) (.int .i64 q) h.c0 h.c1
  have z := h.z
  have hz : ((wr.setCell ⟨w.heap.size + 1, 0, none⟩ (.int .i64 p)).setCell ⟨w.heap.size + 1, 1, none⟩ (.int .i64 q)).heap.size = wr.heap.size := by simp
  have hbl : Below ((wr.setCell ⟨w.heap.size + 1, 0, none⟩ (.int .i64 p)).setCell ⟨w.heap.size + 1, 1, none⟩ (.int .i64 q)).heap.size _ (((wr.setCell ⟨w.heap.size + 1, 0, none⟩ (.int .i64 p)).setCell ⟨w.heap.size + 1, 1, none⟩ (.int .i64 q)).alloc o) := (Below.refl _ _).alloc (Nat.le_refl _) _
  obtain ⟨bc, bf⟩ := bcell hbl
  have hi2 := h.hi
  refine ⟨?_, ?_, ?_, ?_, ?_, ?_, ?_, ?_, ?_, ?_, ?_, ?_⟩
  · rw [bc _ _ (by omega), hset_far _ _ _ (by omega)]; exact h.r0
  · rw [bc _ _ (by omega), hset_far _ _ _ (by omega)]; exact h.r1
  · rw [bf _ _ (by omega), World.frozen?_setCell, World.frozen?_setCell]; exact h.g0
  · rw [bf _ _ (by omega), World.frozen?_setCell, World.frozen?_setCell]; exact h.g1
  · rw [bc _ _ (by omega)]; exact hs.1
  · rw [bc _ _ (by omega)]; exact hs.2
  · rw [bf _ _ (by omega), World.frozen?_setCell, World.frozen?_setCell]; exact h.f0
  · rw [bf _ _ (by omega), World.frozen?_setCell, World.frozen?_setCell]; exact h.f1
  · exact (hset_own h.own (by omega) _ _).below hbl (by omega)
  · rw [World.size_alloc]; omega
  · rw [World.size_alloc]; omega
  · exact ((h.below.setCell (by simp) _).setCell (by simp) _).alloc (by omega) _
set_option maxHeartbeats 1600000 in
theorem spHexSpot_any (n : Int) (w : World) (h0 : 0 ≤ n) (h1 : n ≤ 1003000) :
    Calls Try.prog 113 #[.int .i64 n] w fun e w' => e = .returned (.agg #[.int .i64 (hp n).1, .int .i64 (hp n).2]) ∧ Below w.heap.size w w' := by
  have hr := hx_is n h0
  have hle := hx_le n h0 h1
  have hnn := hr.nn
  have HT := Lib.hid fun W => spHexRing_any n W h0 h1
  by_cases hr0 : hx n = 0
  · have HS : Hid (hp n = (0, 0)) := Lib.hid (by unfold hp; rw [if_pos hr0])
    rw [hr0] at HT
    clear hr hle hnn hr0
    go_enter Try.func113, Try.ntmps113
    go_wp2_with (go_at_call 114; refine (HT.out _).mono ?_; rintro e w' ⟨rfl, rfl⟩)
    rw [HS.out]
    exact bodyPost_ret (v := .agg #[.int .i64 0, .int .i64 0]) (by simp [results, Try.results113, go_sem]) rfl ⟨rfl, (Below.refl _ _).alloc (Nat.le_refl _) _⟩
  · have hr1 : 1 ≤ hx n := by omega
    obtain ⟨k0, k1⟩ := hof_bds hr hr1
    have q0 := hex_mono (a := 0) (b := hx n - 1) (by omega) (by omega)
    have q1 := hex_mono (a := hx n - 1) (b := 578) (by omega) (by omega)
    rw [← hex_below] at q0 q1
    have HS : Hid (hp n = hat (hx n) (n - 3 * hx n * (hx n - 1))) := Lib.hid (by unfold hp; rw [if_neg hr0])
    rw [HS.out]
    clear HS hr hr0 hnn
    generalize hx n = r at *
    obtain ⟨k, hk⟩ : ∃ k, k = n - 3 * r * (r - 1) := ⟨_, rfl⟩
    rw [← hk] at k0 k1 ⊢
    have HK := Lib.hid hk
    have HPS := Lib.hid fun (i : Nat) (hi : i < 6) => hP_step r k i hi hr1 (by omega)
    have HNS := Lib.hid fun (i : Nat) => hN_step r k i hr1
    have HPB := Lib.hid fun (i : Nat) => hP_b r k i hr1 (by omega) k1
    have HNB := Lib.hid fun (i : Nat) => hN_b r k i hr1 (by omega)
    have HP6 := Lib.hid (hP_six r k k1)
    have HP0 := Lib.hid (hP_zero r k hr1 (by omega))
    have HKW : Hid (n - 3 * r * (r - 1) = k) := Lib.hid hk.symm
    clear hk
    go_enter Try.func113, Try.ntmps113
    go_wp2_with (first
      | (go_at_call 114; refine (HT.out _).mono ?_; rintro e w' ⟨rfl, rfl⟩)
      | (go_at_call 158; refine (spSteps_any _).mono ?_; rintro e w1 ⟨A, c, rfl, ho, hb1⟩))
    have HW : Hid (HexW w w1 w1.heap.size A r (-r)) := Lib.hid (by
      obtain ⟨bc, bf⟩ := bcell hb1
      have hz := hb1.size
      simp at hz
      exact ⟨by rw [bc _ _ (by simp <;> omega)]; simp [go_sem], by rw [bc _ _ (by simp <;> omega)]; simp [go_sem], by rw [bf _ _ (by simp <;> omega)]; simp [go_sem], by rw [bf _ _ (by simp <;> omega)]; simp [go_sem], by rw [bc _ _ (by simp <;> omega)]; simp [go_sem], by rw [bc _ _ (by simp <;> omega)]; simp [go_sem], by rw [bf _ _ (by simp <;> omega)]; simp [go_sem], by rw [bf _ _ (by simp <;> omega)]; simp [go_sem], by simpa using ho, Nat.le_refl _, by omega, ((((Below.refl _ _).alloc (Nat.le_refl _) _).alloc (by simp) _).trans (hb1.mono (by simp; omega)))⟩)
    clear ho hb1
    rw [HKW.out]
    generalize w1.heap.size = hh at HW
    have HA6 := Lib.hid (And.intro HP0.out.1 HP0.out.2)
    go_loopw [4, 27] (fun kv i wr => ∃ j : Nat, j ≤ 6 ∧ i = .int .i64 (j : Int) ∧ kv = .int .i64 (hN r k j) ∧ Hid (HexW w wr hh A (hP r k j).1 (hP r k j).2)) (fun _ i _ => (6 - intOf i).toNat)
    case atStart => exact ⟨0, by omega, by simp, by rw [HP0.out.2], Lib.hid (by rw [HP0.out.1]; exact HW.out)⟩
    case round =>
      obtain ⟨j, hj, rfl, rfl, HX⟩ := hrel
      by_cases hlt : j < 6
      · have hlt2 : (j : Int) < 6 := by omega
        obtain ⟨g, o, rfl, hg1, hg2, p0, p1⟩ := HX.out.own.pair_ (k := j) hlt
        obtain ⟨s0, s1, t0, t1⟩ := six_b j hlt
        have HNX := HPS.out j hlt
        have HNY := HNS.out j
        obtain ⟨a0, a1, b0, b1⟩ := HPB.out j
        obtain ⟨m0, m1⟩ := HNB.out j
        have gl : g < wr.heap.size := Nat.lt_of_lt_of_le hg2 HX.out.hi
        have z1 : w.heap.size + 1 < wr.heap.size := HX.out.z
        have z0 : w.heap.size < wr.heap.size := by omega
        have c0 := HX.out.c0
        have c1 := HX.out.c1
        have f0 := HX.out.f0
        have f1 := HX.out.f1
        generalize (six[j]'hlt).1 = u at *
        generalize (six[j]'hlt).2 = v at *
        obtain ⟨m, hm⟩ : ∃ m, m = min (hN r k j) r := ⟨_, rfl⟩
        have mm : 0 ≤ m ∧ m ≤ r ∧ m ≤ hN r k j := by omega
        rw [← hm] at HNX HNY
        have HM := Lib.hid hm.symm
        obtain ⟨mm0, mm1, mm2⟩ := mm
        obtain ⟨d0, d1⟩ := side_b m u mm0 (by omega) s0 s1
        obtain ⟨e0, e1⟩ := side_b m v mm0 (by omega) t0 t1
        clear hm
        have HNXH := Lib.hid HNX
        have HNYH := Lib.hid HNY
        clear HNX HNY
        generalize (hP r k j).1 = a at *
        generalize (hP r k j).2 = b at *
        generalize hN r k j = q at *
        go_wp2_with (go_at_call 148; refine (siLeast_any _ _ _).mono ?_; rw [HM.out]; rintro e w' ⟨rfl, rfl⟩)
        go_roundw
        case rel =>
          refine ⟨j + 1, by omega, by go_num, by rw [HNYH.out], Lib.hid ?_⟩
          rw [HNXH.out]
          exact HX.out.next _ _ _
        case measure => simp [intOf]; omega
      · obtain rfl : j = 6 := by omega
        have c0 := HX.out.c0
        have c1 := HX.out.c1
        have r0 := HX.out.r0
        have r1 := HX.out.r1
        have g0 := HX.out.g0
        have g1 := HX.out.g1
        have HB := Lib.hid HX.out.below
        rw [HP6.out] at c0 c1
        have hs := hset_two (.int .i64 (hat r k).1) (.int .i64 (hat r k).2) r0 r1
        go_wp2
        exact bodyPost_ret (v := .agg #[.int .i64 (hat r k).1, .int .i64 (hat r k).2]) (by simp [results, Try.results113, go_sem, hs.1, hs.2]) rfl ⟨rfl, (HB.out.setCell (Nat.le_refl _) _).setCell (Nat.le_refl _) _⟩
end Go.Proofs.Ytkhjeleoppdjgac
