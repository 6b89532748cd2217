/- The least number of parts: out of a set of counts; the specification's table of needs. -/
import Derived.Test.YtegbikakfckehaaDoorCoS
import Derived.Shelf.Spec.TrailingZeros
namespace Go.Proofs.YtegbikakfckehaaDoor
open Go.ChangeShapes Go.WideShapes Go.ChangeAt Go.RowKit

theorem ctz_bit (x i : Nat) (h0 : x ≠ 0) (h : x < 2 ^ 32) : (x.testBit (Lib.ctz 32 x) = true) ∧ (i < Lib.ctz 32 x → x.testBit i = false) := by
  obtain ⟨m, hm, hk⟩ := Lib.ctzFrom_spec 32 x (by omega) h
  have e : Lib.ctz 32 x = Lib.ctzFrom 32 x := by simp [Lib.ctz, h0]
  rw [e]
  generalize Lib.ctzFrom 32 x = k at *
  rw [hm, Nat.mul_comm]
  refine ⟨?_, fun hi => ?_⟩
  · rw [Nat.testBit_mul_two_pow]
    simp
  · rw [Nat.testBit_mul_two_pow]
    simp
    omega
theorem ctz_T (s m : Int) (K : Nat) (h1 : 3 ≤ s) (h2 : s ≤ 24) (h3 : 0 ≤ m) (h4 : m ≤ 3000) (hK : pl s m ≤ K) : T s K m ≠ 0 ∧ Lib.ctz 32 (T s K m) = need s m := by
  have hn := need_sides s m h1 h2 h3 h4
  have h5 := need_is s m h3
  have b1 : (T s K m).testBit (need s m) = true := by
    rw [T_bit]
    have h6 := (rep_pl s h1 _ m h3 K hK).1 h5.1
    simp [h6]
    omega
  have h0 : T s K m ≠ 0 := by
    intro e
    rw [e] at b1
    simp at b1
  refine ⟨h0, ?_⟩
  have hlt := T_lt s K m
  have c1 := ctz_bit (T s K m) (need s m) h0 (by omega)
  have hle : ¬ need s m < Lib.ctz 32 (T s K m) := fun h => by
    have := c1.2 h
    rw [b1] at this
    cases this
  have hge : ¬ Lib.ctz 32 (T s K m) < need s m := fun h => by
    have h7 := c1.1
    rw [T_bit] at h7
    simp at h7
    exact h5.2 _ h ⟨K, h7.2⟩
  omega

theorem tz32_core (x k idx : Nat) (w : World) (hz : ((x : Int) == 0) = false)
    (key : bits BinOp.and IntKind.u32 (x : Int) (-(x : Int) % 4294967296) * 125613361 % 4294967296 / 134217728 = (idx : Int))
    (hi : idx < 32) (hk : k < 32) (hcell : w.cell? ⟨0, idx, none⟩ = some (.int .u8 k)) :
    Calls Tryd.prog 76 #[.int .u32 x] w fun e w' => e = .returned (.int .i64 k) ∧ w = w' := by
  go_enter Tryd.func76, Tryd.ntmps76
  go_wp2_with (simp only [key])
  go_ret
  exact ⟨rfl, rfl⟩
theorem tz32_any (x : Nat) (w : World) (hx0 : x ≠ 0) (hx : x < 4294967296) (hT : TabAt 0 Lib.deBruijn32tab w) :
    Calls Tryd.prog 76 #[.int .u32 x] w fun e w' => e = .returned (.int .i64 (Lib.ctz 32 x)) ∧ w = w' := by
  obtain ⟨hlow, hk⟩ := Lib.lowest_bit 32 x hx0 hx
  obtain ⟨hi, htab⟩ := Lib.deBruijn32_at _ hk
  have hcell := hT _ hi
  rw [htab] at hcell
  exact tz32_core x _ _ w (by simp; omega) (tz32_key x _ hx hx0 hlow) hi hk hcell
theorem least_any (x : Nat) (w : World) (hx0 : x ≠ 0) (hx : x < 4294967296) (hT : TabAt 0 Lib.deBruijn32tab w) :
    Calls Tryd.prog 70 #[.int .u32 x] w fun e w' => e = .returned (.int .i64 (Lib.ctz 32 x)) ∧ w = w' := by
  go_enter Tryd.func70, Tryd.ntmps70
  go_wp2_with (go_at_call 76; refine (tz32_any _ _ hx0 hx hT).mono ?_; rintro e w' ⟨rfl, rfl⟩)
  go_ret
  exact ⟨rfl, rfl⟩
theorem TabAt.below {w w' : World} {B : Nat} (h : TabAt 0 Lib.deBruijn32tab w) (hb : Below B w w') (hB : 0 < B) : TabAt 0 Lib.deBruijn32tab w' := fun j hj =>
  (hb.cell (p := ⟨0, j, none⟩) hB).trans (h j hj)

/-- Needs below p; 0 from p on. -/
noncomputable def nmix (s : Int) (p : Nat) : Nat → Int := fun m => if m < p then (need s m : Int) else 0
/-- The least need that a part of a place below k leaves, and one more; 0 where there is none. -/
noncomputable def best (s m : Int) : Nat → Int
  | 0 => 0
  | k + 1 => if num s ((k : Int) + 1) ≤ m ∧ (best s m k = 0 ∨ (need s (m - num s ((k : Int) + 1)) : Int) + 1 < best s m k) then (need s (m - num s ((k : Int) + 1)) : Int) + 1 else best s m k
theorem best_bds (s m : Int) (h1 : 3 ≤ s) (h2 : s ≤ 24) (h4 : m ≤ 3000) (k : Nat) : 0 ≤ best s m k ∧ best s m k ≤ 25 := by
  induction k with
  | zero => simp [best]
  | succ k ih =>
    rw [best]
    split
    · rename_i h
      have h5 := num_nn s ((k : Int) + 1) h1
      have h6 := need_sides s (m - num s ((k : Int) + 1)) h1 h2 (by omega) (by omega)
      omega
    · exact ih
theorem best_spec (s m : Int) (hm : 1 ≤ m) (k : Nat) (hk : 1 ≤ k) :
    1 ≤ best s m k ∧ (∃ j : Nat, j < k ∧ num s ((j : Int) + 1) ≤ m ∧ best s m k = (need s (m - num s ((j : Int) + 1)) : Int) + 1) ∧ (∀ j : Nat, j < k → num s ((j : Int) + 1) ≤ m → best s m k ≤ (need s (m - num s ((j : Int) + 1)) : Int) + 1) := by
  induction k with
  | zero => omega
  | succ k ih =>
    rcases Nat.eq_zero_or_pos k with h0 | h0
    · subst h0
      have e1 : num s (((0 : Nat) : Int) + 1) = 1 := by simp [num_one]
      have e : best s m (0 + 1) = (need s (m - num s (((0 : Nat) : Int) + 1)) : Int) + 1 := by
        rw [best, if_pos ⟨by rw [e1]; exact hm, Or.inl rfl⟩]
      rw [e]
      refine ⟨by omega, ⟨0, by omega, by rw [e1]; exact hm, rfl⟩, fun j hj _ => ?_⟩
      have : j = 0 := by omega
      subst this
      omega
    · obtain ⟨a, ⟨j, hj1, hj2, hj3⟩, c⟩ := ih h0
      rw [best]
      split
      · rename_i h
        have hlt : (need s (m - num s ((k : Int) + 1)) : Int) + 1 < best s m k := by
          rcases h.2 with h5 | h5
          · omega
          · exact h5
        refine ⟨by omega, ⟨k, by omega, h.1, rfl⟩, fun i hi hi2 => ?_⟩
        by_cases e : i = k
        · subst e; omega
        · have := c i (by omega) hi2
          omega
      · rename_i h
        refine ⟨a, ⟨j, by omega, hj2, hj3⟩, fun i hi hi2 => ?_⟩
        by_cases e : i = k
        · subst e
          rcases Int.lt_or_le ((need s (m - num s ((i : Int) + 1)) : Int) + 1) (best s m i) with h5 | h5
          · exact absurd ⟨hi2, Or.inr h5⟩ h
          · exact h5
        · exact c i (by omega) hi2
theorem best_need (s m : Int) (hs : 3 ≤ s) (hm : 1 ≤ m) (k : Nat) (hk : (k : Int) = pl s m) : best s m k = (need s m : Int) := by
  have hp := pl_pos s m hs (by omega)
  obtain ⟨a, ⟨j, hj1, hj2, hj3⟩, c⟩ := best_spec s m hm k (by omega)
  have h1 := need_put s m ((j : Int) + 1) (by omega) (by omega) hs
  obtain ⟨q, hq1, hq2, hq3⟩ := need_top s m hs (by omega)
  have h2 := (fits_iff s m q hs (by omega) (by omega)).1 hq2
  have h3 := c (q - 1).toNat (by omega) (by rw [show ((((q - 1).toNat : Nat) : Int)) + 1 = q from by omega]; exact hq2)
  rw [show ((((q - 1).toNat : Nat) : Int)) + 1 = q from by omega] at h3
  omega

set_option maxHeartbeats 3200000 in
theorem suFewest_any (s : Int) (N : Nat) (w : World) (h1 : 3 ≤ s) (h2 : s ≤ 24) (hN : N ≤ 3000) :
    Calls Tryd.prog 45 #[.int .i64 s, .int .i64 N] w fun e w' => (∃ g c, e = .returned (.slice (some ⟨g, 0, none⟩) (N + 1) c) ∧ Row w' w.heap.size g (N + 1) c (fun m => (need s m : Int))) ∧ Below w.heap.size w w' := by
  obtain ⟨i0, hi0, hz0, hz1, hz2⟩ := info_parts infoInt
  obtain ⟨B, hB⟩ : ∃ B, w.heap.size = B := ⟨_, rfl⟩
  have HBB := Lib.hid hB
  go_enter Tryd.func45, Tryd.ntmps45
  go_wp2_with (at_make; refine wpList_make_full _ rfl _ _ 25 rfl w.heap.size 3 i0 (.int .i64 0) 1 Tryd.underlying25 hi0 hz0 hz1 _ _ _ _ (N + 1) rfl rfl (by push_cast; rfl) (by push_cast; rfl) (by rw [hz2]; omega) (by unfold maxLen; omega) (Nat.le_refl _) ?_; intro w1 hown1 hgrow1)
  have hb1 : Below B w w1 := by rw [← hB]; exact (Below.refl _ _).grown hgrow1 (Nat.le_refl _) (fun g hg => by cases hg)
  rw [hB] at hown1
  have hr1 := (row_made hown1).congr (f' := nmix s 1) (fun m hm => by
    simp only [nmix]
    by_cases e : m < 1
    · have : m = 0 := by omega
      subst this
      rw [if_pos e, show (((0 : Nat) : Int)) = 0 from rfl, need_zero]
      rfl
    · rw [if_neg e])
  have HR1 := Lib.hid hr1
  clear hown1 hgrow1 hr1 hB
  go_wp2
  go_loopw [6] (fun i wr => ∃ p : Nat, 1 ≤ p ∧ p ≤ N + 1 ∧ i = .int .i64 p ∧ Hid (Row wr B B (N + 1) (N + 1) (nmix s p)) ∧ Below B w wr) (fun i _ => N + 1 - (intOf i).toNat)
  case atStart => exact ⟨1, by omega, by omega, rfl, HR1, hb1⟩
  case round =>
    obtain ⟨p, hp1, hp2, rfl, hrow, hb⟩ := hrel
    by_cases hlt : p ≤ N
    · have hpI : (p : Int) ≤ (N : Int) := by omega
      have q1 := pl_77 s p h1 (by omega) (by omega)
      have q0 := pl_nn s p h1 (by omega)
      have HPL := Lib.hid (fun k : Int => fits_iff s p k h1 (by omega))
      have HBB2 := Lib.hid (fun k => best_bds s p h1 h2 (by omega) k)
      go_wp2
      go_loopw [7, 8] (fun b k wr2 => ∃ j : Nat, (j : Int) ≤ pl s p ∧ k = .int .i64 ((j : Int) + 1) ∧ b = .int .i64 (best s p j) ∧ Hid (Row wr2 B B (N + 1) (N + 1) (nmix s p)) ∧ Below B w wr2) (fun _ k _ => (pl s p + 1 - intOf k).toNat)
      case atStart => exact ⟨0, q0, rfl, rfl, hrow, hb⟩
      case round =>
        clear hrow hb
        obtain ⟨j, hj, rfl, rfl, hrow, hb⟩ := hrel
        have hm := HPL.out ((j : Int) + 1) (by omega)
        by_cases hlt2 : (j : Int) + 1 ≤ pl s p
        · have hx := hm.2 hlt2
          have hnn := num_nn s ((j : Int) + 1) h1
          have hps := num_pos s ((j : Int) + 1) h1 (by omega)
          obtain ⟨b, hbq⟩ := Int.eq_ofNat_of_zero_le (show 0 ≤ (p : Int) - num s ((j : Int) + 1) by omega)
          have hnb := need_sides s b h1 h2 (by omega) (by omega)
          have cb := hrow.out.cell (j := b) (by omega)
          have eb : nmix s p b = (need s b : Int) := by simp only [nmix]; rw [if_pos (by omega)]
          rw [eb] at cb
          have hbb := HBB2.out j
          have n1 : (0 : Int) ≤ (b : Int) := by omega
          have n2 : (b : Int) < (N : Int) + 1 := by omega
          have hnn2 : (0 : Int) ≤ (need s b : Int) := by omega
          have HS : Hid (best s p (j + 1) = if best s p j = 0 ∨ (need s b : Int) + 1 < best s p j then (need s b : Int) + 1 else best s p j) := by
            refine Lib.hid ?_
            rw [best, hbq]
            by_cases h : best s p j = 0 ∨ (need s b : Int) + 1 < best s p j
            · rw [if_pos h, if_pos ⟨hx, h⟩]
            · rw [if_neg h, if_neg (fun h2 => h h2.2)]
          generalize (need s b : Int) = nb at *
          clear eb hm
          by_cases hz : best s p j = 0
          · have HF : Hid (best s p (j + 1) = nb + 1) := Lib.hid (by rw [HS.out, if_pos (Or.inl hz)])
            rw [hz]
            clear hz HS
            go_wp2_with (go_at_call 65; refine (shNumber_any _ _ _ h1 h2 (by omega) (by omega)).mono ?_; rintro e w' ⟨rfl, rfl⟩)
            go_roundw
            case rel => exact ⟨j + 1, by omega, by go_num, by rw [HF.out], hrow, hb⟩
            case measure => simp [intOf]; omega
          · have hzb : (best s p j == 0) = false := by simpa using hz
            by_cases hl : nb + 1 < best s p j
            · have HF : Hid (best s p (j + 1) = nb + 1) := Lib.hid (by rw [HS.out, if_pos (Or.inr hl)])
              clear hz HS
              generalize best s p j = bj at *
              go_wp2_with (go_at_call 65; refine (shNumber_any _ _ _ h1 h2 (by omega) (by omega)).mono ?_; rintro e w' ⟨rfl, rfl⟩)
              go_roundw
              case rel => exact ⟨j + 1, by omega, by go_num, by rw [HF.out], hrow, hb⟩
              case measure => simp [intOf]; omega
            · have HF : Hid (best s p (j + 1) = best s p j) := Lib.hid (by rw [HS.out, if_neg (fun h => h.elim hz hl)])
              clear hz HS
              generalize best s p j = bj at *
              go_wp2_with (go_at_call 65; refine (shNumber_any _ _ _ h1 h2 (by omega) (by omega)).mono ?_; rintro e w' ⟨rfl, rfl⟩)
              go_roundw
              case rel => exact ⟨j + 1, by omega, by go_num, by rw [HF.out], hrow, hb⟩
              case measure => simp [intOf]; omega
        · have hn : (p : Int) < num s ((j : Int) + 1) := by
            rcases Int.lt_or_le (p : Int) (num s ((j : Int) + 1)) with h | h
            · exact h
            · exact absurd (hm.1 h) hlt2
          have hbn := best_need s p h1 (by omega) j (by omega)
          have cp := hrow.out.cell (j := p) (by omega)
          have fp := hrow.out.frozen p
          have hset := (hrow.out.set p (best s p j)).congr (f' := nmix s (p + 1)) (fun m hm => by
            simp only [upd, nmix]
            by_cases e : m = p
            · subst e; rw [if_pos rfl, if_pos (by omega), hbn]
            · have e2 : (m < p + 1) = (m < p) := propext (by omega)
              rw [if_neg e]
              simp only [e2])
          have hb3 := hb.setCell (p := ⟨B, p, none⟩) (Nat.le_refl _) (.int .i64 (best s p j))
          have HS := Lib.hid hset
          have HB3 := Lib.hid hb3
          have n2 : (p : Int) < (N : Int) + 1 := by omega
          generalize best s p j = bj at *
          clear hset hb3 hrow hm hbn
          go_wp2_with (go_at_call 65; refine (shNumber_any _ _ _ h1 h2 (by omega) (by omega)).mono ?_; rintro e w' ⟨rfl, rfl⟩)
          go_roundw
          case rel => exact ⟨p + 1, by omega, by omega, by go_num, HS, HB3.out⟩
          case measure => simp [intOf]; omega
    · have hf := hrow.out.congr (f' := fun m => (need s m : Int)) (fun m hm => by simp only [nmix]; rw [if_pos (by omega)])
      have HF := Lib.hid hf
      clear hf hrow
      go_wp2
      go_ret
      rw [HBB.out]
      exact ⟨⟨_, _, rfl, HF.out⟩, hb⟩
end Go.Proofs.YtegbikakfckehaaDoor
