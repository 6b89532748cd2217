/- Chapter 6: the specification's numbers of the hexagon spiral. -/
import Derived.Test.YtkhjeleoppdjgacSiK
namespace Go.Proofs.Ytkhjeleoppdjgac
open Go.ChangeShapes Go.WideShapes Go.ChangeAt Go.RowKit

/-- The memory of the search along the sides: the argument's box, the spot's box, the steps. -/
structure HexV (w wr : World) (R hi : Nat) (A : Option Addr) (x y a b : Int) : Prop where
  r0 : wr.cell? ⟨w.heap.size, 0, none⟩ = some (.int .i64 x)
  r1 : wr.cell? ⟨w.heap.size, 1, none⟩ = some (.int .i64 y)
  c0 : wr.cell? ⟨R, 0, none⟩ = some (.int .i64 a)
  c1 : wr.cell? ⟨R, 1, none⟩ = some (.int .i64 b)
  f0 : wr.frozen? ⟨R, 0, none⟩ = false
  f1 : wr.frozen? ⟨R, 1, none⟩ = false
  own : Own wr (R + 1) hi A (prs six)
  hi : hi ≤ wr.heap.size
  z : R + 1 ≤ wr.heap.size
  zr : w.heap.size < R
  below : Below w.heap.size w wr
theorem HexV.next {w wr : World} {R hi : Nat} {A : Option Addr} {x y a b : Int} (h : HexV w wr R hi A x y a b) (p q : Int) (o : Obj) :
    HexV w (((wr.setCell ⟨R, 0, none⟩ (.int .i64 p)).setCell ⟨R, 1, none⟩ (.int .i64 q)).alloc o) R hi A x y p q := by
  have hs := hset_two (.int .i64 p) (.int .i64 q) h.c0 h.c1
  have z := h.z
  have zr := h.zr
  have hz : ((wr.setCell ⟨R, 0, none⟩ (.int .i64 p)).setCell ⟨R, 1, none⟩ (.int .i64 q)).heap.size = wr.heap.size := by simp
  have hbl : Below ((wr.setCell ⟨R, 0, none⟩ (.int .i64 p)).setCell ⟨R, 1, none⟩ (.int .i64 q)).heap.size _ (((wr.setCell ⟨R, 0, none⟩ (.int .i64 p)).setCell ⟨R, 1, none⟩ (.int .i64 q)).alloc o) := (Below.refl _ _).alloc (Nat.le_refl _) _
  obtain ⟨bc, bf⟩ := bcell hbl
  have hi2 := h.hi
  refine ⟨?_, ?_, ?_, ?_, ?_, ?_, ?_, ?_, ?_, zr, ?_⟩
  · rw [bc _ _ (by omega), hset_far _ _ _ (by omega)]; exact h.r0
  · rw [bc _ _ (by omega), hset_far _ _ _ (by omega)]; exact h.r1
  · rw [bc _ _ (by omega)]; exact hs.1
  · rw [bc _ _ (by omega)]; exact hs.2
  · rw [bf _ _ (by omega), World.frozen?_setCell, World.frozen?_setCell]; exact h.f0
  · rw [bf _ _ (by omega), World.frozen?_setCell, World.frozen?_setCell]; exact h.f1
  · exact (hset_own h.own (by omega) _ _).below hbl (by omega)
  · rw [World.size_alloc]; omega
  · rw [World.size_alloc]; omega
  · exact ((h.below.setCell (by simp; omega) _).setCell (by simp; omega) _).alloc (by omega) _
theorem hat_inj {r k x y : Int} (h1 : 1 ≤ r) (k0 : 1 ≤ k) (k1 : k ≤ 6 * r) : ((hat r k).1 = x ∧ (hat r k).2 = y) → k = hoK r x y := by
  rintro ⟨rfl, rfl⟩
  exact (hat_on h1 k0 k1).symm
/-- Where the search stands: the place K is not yet reached. -/
structure Seek (r K : Int) (x y : Int) : Prop where
  r1 : 1 ≤ r
  rb : r ≤ 600
  K0 : 1 ≤ K
  K1 : K ≤ 6 * r
  at_ : hat r K = (x, y)
  only : ∀ k, 1 ≤ k → k ≤ 6 * r → (hat r k).1 = x → (hat r k).2 = y → k = K
theorem seek_of {x y : Int} (h : 1 ≤ hsz x y) (hb : hsz x y ≤ 600) : Seek (hsz x y) (hoK (hsz x y) x y) x y := by
  obtain ⟨b0, b1⟩ := hoK_bds (x := x) (y := y) rfl h
  exact ⟨h, hb, b0, b1, hon_at rfl h, fun k k0 k1 e1 e2 => hat_inj h k0 k1 ⟨e1, e2⟩⟩
set_option maxHeartbeats 3200000 in
theorem spHexNumber_any (x y : Int) (w : World) (x0 : -2000 ≤ x) (x1 : x ≤ 2000) (y0 : -2000 ≤ y) (y1 : y ≤ 2000) (hb600 : hsz x y ≤ 600) :
    Calls Try.prog 115 #[.agg #[.int .i64 x, .int .i64 y]] w fun e w' => e = .returned (.int .i64 (hn x y)) ∧ Below w.heap.size w w' := by
  have hnn := hsz_nn x y
  have HT := Lib.hid fun W => spHexSize_any x y W x0 x1 y0 y1
  by_cases hr0 : hsz x y = 0
  · have HS : Hid (0 = hn x y) := Lib.hid (by unfold hn; rw [if_pos hr0])
    rw [hr0] at HT
    clear hnn hr0 hb600
    go_enter Try.func115, Try.ntmps115
    go_wp2_with (go_at_call 120; refine (HT.out _).mono ?_; rintro e w1 ⟨rfl, hb1⟩)
    go_ret
    exact ⟨ret_int HS.out, ((Below.refl _ _).alloc (Nat.le_refl _) _).trans (hb1.mono (by simp))⟩
  · have SK := seek_of (x := x) (y := y) (by omega) hb600
    have HN : Hid (3 * hsz x y * (hsz x y - 1) + hoK (hsz x y) x y = hn x y) := Lib.hid (by unfold hn; rw [if_neg hr0])
    have q0 := hex_mono (a := 0) (b := hsz x y - 1) (by omega) (by omega)
    have q1 := hex_mono (a := hsz x y - 1) (b := 600) (by omega) (by omega)
    rw [← hex_below] at q0 q1
    clear hnn hr0 hb600
    generalize hoK (hsz x y) x y = K at *
    generalize hsz x y = r at *
    obtain ⟨r1, rb, K0, K1, hat1, only⟩ := SK
    have HAT := Lib.hid hat1
    have HON := Lib.hid only
    clear hat1 only
    have HSD := Lib.hid fun (i : Nat) (hi : i < 6) (m : Int) (m0 : 0 ≤ m) (m1 : m ≤ r) => hat_side r m i hi r1 m0 m1
    have HPB := Lib.hid fun (k : Int) (k0 : 0 ≤ k) (k1 : k ≤ 6 * r) => hat_b r1 k0 k1
    have HZ0 : Hid (hat r 0 = (r, -r)) := Lib.hid (by
      have := (hP_zero r 0 r1 (by omega)).1
      have e : hP r 0 0 = hat r 0 := by unfold hP hdone; simp
      rw [← e, this])
    go_enter Try.func115, Try.ntmps115
    go_wp2_with (first
      | (go_at_call 120; refine (HT.out _).mono ?_; rintro e w1 ⟨rfl, hb1⟩; obtain ⟨bc1, bf1⟩ := bcell hb1)
      | (go_at_call 158; refine (spSteps_any _).mono ?_; rintro e w2 ⟨A, c, rfl, ho, hb2⟩))
    have HW : Hid (HexV w w2 w1.heap.size w2.heap.size A x y r (-r)) := Lib.hid (by
      obtain ⟨bc, bf⟩ := bcell hb2
      have hz := hb2.size
      have hz1 := hb1.size
      simp at hz hz1
      have ra : ∀ o, w2.cell? ⟨w.heap.size, o, none⟩ = (w.alloc (.cells #[.int .i64 x, .int .i64 y] 26)).cell? ⟨w.heap.size, o, none⟩ := fun o => by
        rw [bc _ _ (by simp; omega), World.cell?_alloc_past _ _ _ (by omega)]
        exact bc1 _ _ (by simp)
      exact ⟨by rw [ra]; simp [go_sem], by rw [ra]; simp [go_sem], by rw [bc _ _ (by simp)]; simp [go_sem], by rw [bc _ _ (by simp)]; simp [go_sem], by rw [bf _ _ (by simp)]; simp [go_sem], by rw [bf _ _ (by simp)]; simp [go_sem], by simpa using ho, Nat.le_refl _, by omega, by omega, (((Below.refl _ _).alloc (Nat.le_refl _) _).trans (hb1.mono (by simp))).trans ((Below.alloc (Below.refl _ _) (Nat.le_refl _) _).mono (by omega) |>.trans (hb2.mono (by simp; omega)))⟩)
    clear ho hb1 hb2 bc1 bf1
    generalize w1.heap.size = R at *
    generalize w2.heap.size = hh at HW
    have HB5 := Lib.hid fun (j : Nat) (h : j < 6) => Int.mul_le_mul_of_nonneg_right (a := (j : Int)) (b := 5) (c := r) (by omega) (by omega)
    have HB0 := Lib.hid fun (j : Nat) => Int.mul_nonneg (a := (j : Int)) (b := r) (by omega) (by omega)
    have HSC : Hid (∀ j : Nat, ((j + 1 : Nat) : Int) * r = (j : Int) * r + r) := Lib.hid fun j => by rw [show ((j + 1 : Nat) : Int) = (j : Int) + 1 by omega]; grind
    go_loopw [5, 19] (fun kv i wr => ∃ j : Nat, j ≤ 6 ∧ i = .int .i64 (j : Int) ∧ kv = .int .i64 ((j : Int) * r) ∧ Hid ((j : Int) * r < K) ∧ Hid (HexV w wr R hh A x y (hat r ((j : Int) * r)).1 (hat r ((j : Int) * r)).2)) (fun _ i _ => (6 - intOf i).toNat)
    case atStart => exact ⟨0, by omega, by simp, by simp, Lib.hid (by simp; omega), Lib.hid (by rw [show ((0 : Nat) : Int) * r = 0 by simp, HZ0.out]; exact HW.out)⟩
    case round =>
      obtain ⟨j, hj, rfl, rfl, HLT, HX⟩ := hrel
      by_cases hlt : j < 6
      · have hlt2 : (j : Int) < 6 := by omega
        obtain ⟨g, o, rfl, hg1, hg2, p0, p1⟩ := HX.out.own.pair_ (k := j) hlt
        obtain ⟨s0, s1, t0, t1⟩ := six_b j hlt
        have HS := Lib.hid (HSD.out j hlt)
        have pb5 := HB5.out j hlt
        have pb0 := HB0.out j
        have HSJ := Lib.hid (HSC.out j)
        have gl : g < wr.heap.size := Nat.lt_of_lt_of_le hg2 HX.out.hi
        have z1 : R < wr.heap.size := HX.out.z
        have z0 : w.heap.size < wr.heap.size := Nat.lt_trans HX.out.zr HX.out.z
        have zne : ¬ w.heap.size = R := by have := HX.out.zr; omega
        have r0 := HX.out.r0
        have r1' := HX.out.r1
        have c0 := HX.out.c0
        have c1 := HX.out.c1
        have f0 := HX.out.f0
        have f1 := HX.out.f1
        generalize (six[j]'hlt).1 = u at *
        generalize (six[j]'hlt).2 = v at *
        obtain ⟨a0, a1, b0, b1⟩ := HPB.out ((j : Int) * r) pb0 (by omega)
        generalize hp : (j : Int) * r = p at *
        clear hp
        generalize (hat r p).1 = a at *
        generalize (hat r p).2 = b at *
        generalize wr = wo at *
        go_wp2
        go_loopw [5, 8] (fun kv mv w' => ∃ m : Int, 1 ≤ m ∧ m ≤ r + 1 ∧ mv = .int .i64 m ∧ kv = .int .i64 (p + m - 1) ∧ Hid (p + m - 1 < K) ∧ w' = wo.alloc (.cells #[.int .i64 u, .int .i64 v] 26)) (fun _ mv _ => (r + 1 - intOf mv).toNat)
        case atStart => exact ⟨1, by omega, by omega, rfl, by go_num, Lib.hid (by have := HLT.out; omega), rfl⟩
        case round =>
          obtain ⟨m, m0, m1, rfl, rfl, HK, rfl⟩ := hrel
          by_cases hm : m ≤ r
          · obtain ⟨d0, d1⟩ := side_b m u (by omega) (by omega) s0 s1
            obtain ⟨e0, e1⟩ := side_b m v (by omega) (by omega) t0 t1
            have hh1 := HS.out m (by omega) hm
            have on1 := HON.out (p + m) (by omega) (by omega)
            have at1 := HAT.out
            have HF : Hid (p + m - 1 < K) := HK
            by_cases hx : a + m * u = x
            · by_cases hy : b + m * v = y
              · have hK : p + m = K := on1 (by rw [hh1]; exact hx) (by rw [hh1]; exact hy)
                have HR : Hid (3 * r * (r - 1) + (p + m) = hn x y) := Lib.hid (by rw [← HN.out, ← hK])
                have hxb : (a + m * u == x) = true := by simpa using hx
                have hyb : (b + m * v == y) = true := by simpa using hy
                have HBB := Lib.hid HX.out.below
                have hKb : p + m ≤ 6 * r := by omega
                clear hx hy hh1 on1 at1 hK
                go_wp2
                go_ret
                exact ⟨ret_int HR.out, HBB.out.alloc (by omega) _⟩
              · have hxb : (a + m * u == x) = true := by simpa using hx
                have hyb : (b + m * v == y) = false := by simpa using hy
                have HF2 : Hid (p + (m + 1) - 1 < K) := Lib.hid (by
                  have := HF.out
                  rcases Int.lt_or_le (p + m) K with h | h
                  · omega
                  · have e : K = p + m := by omega
                    rw [e, hh1] at at1
                    injection at1 with _ h2
                    exact absurd h2 hy)
                clear hx hy hh1 on1 at1
                go_wp2
                go_roundw
                case rel => exact ⟨m + 1, by omega, by omega, by go_num, by go_num, HF2, trivial⟩
                case measure => simp [intOf]; omega
            · have hxb : (a + m * u == x) = false := by simpa using hx
              have HF2 : Hid (p + (m + 1) - 1 < K) := Lib.hid (by
                have := HF.out
                rcases Int.lt_or_le (p + m) K with h | h
                · omega
                · have e : K = p + m := by omega
                  rw [e, hh1] at at1
                  injection at1 with h1 _
                  exact absurd h1 hx)
              clear hx hh1 on1 at1
              go_wp2
              go_roundw
              case rel => exact ⟨m + 1, by omega, by omega, by go_num, by go_num, HF2, trivial⟩
              case measure => simp [intOf]; omega
          · obtain rfl : m = r + 1 := by omega
            obtain ⟨d0, d1⟩ := side_b r u (by omega) (by omega) s0 s1
            obtain ⟨e0, e1⟩ := side_b r v (by omega) (by omega) t0 t1
            go_wp2
            go_roundw
            case rel => exact ⟨j + 1, by omega, by go_num, by rw [HSJ.out]; go_num, Lib.hid (by rw [HSJ.out]; have := HK.out; omega), Lib.hid (by rw [HSJ.out, HS.out r (by omega) (by omega)]; exact HX.out.next _ _ _)⟩
            case measure => simp [intOf]; omega
      · exfalso
        have h := HLT.out
        obtain rfl : j = 6 := by omega
        omega
end Go.Proofs.Ytkhjeleoppdjgac
