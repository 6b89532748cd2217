/- The least number of parts: out of a set of counts; the specification's table of needs. -/
import Derived.Test.YtejjgpmdnnogbaaDoorCoS
import Derived.Shelf.Spec.TrailingZeros
namespace Go.Proofs.YtejjgpmdnnogbaaDoor
open Go.ChangeShapes Go.WideShapes Go.ChangeAt Go.RowKit

theorem ctz_bit (x i : Nat) (h0 : x ≠ 0) (h : x < 2 ^ 32) : (x.testBit (Lib.ctz 32 x) = true) ∧ (i < Lib.ctz 32 x → x.testBit i = false) := by
  obtain ⟨m, hm, hk⟩ := Lib.ctzFrom_spec 32 x (by omega) h
  have e : Lib.ctz 32 x = Lib.ctzFrom 32 x := by simp [Lib.ctz, h0]
  rw [e]
  generalize Lib.ctzFrom 32 x = k at *
  rw [hm, Nat.mul_comm]
  refine ⟨?_, fun hi => ?_⟩
  · rw [Nat.testBit_mul_two_pow]
    simp
  · rw [Nat.testBit_mul_two_pow]
    simp
    omega
theorem ctz_T (s m : Int) (K : Nat) (h1 : 3 ≤ s) (h2 : s ≤ 24) (h3 : 0 ≤ m) (h4 : m ≤ 3000) (hK : pl s m ≤ K) : T s K m ≠ 0 ∧ Lib.ctz 32 (T s K m) = need s m := by
  have hn := need_sides s m h1 h2 h3 h4
  have h5 := need_is s m h3
  have b1 : (T s K m).testBit (need s m) = true := by
    rw [T_bit]
    have h6 := (rep_pl s h1 _ m h3 K hK).1 h5.1
    simp [h6]
    omega
  have h0 : T s K m ≠ 0 := by
    intro e
    rw [e] at b1
    simp at b1
  refine ⟨h0, ?_⟩
  have hlt := T_lt s K m
  have c1 := ctz_bit (T s K m) (need s m) h0 (by omega)
  have hle : ¬ need s m < Lib.ctz 32 (T s K m) := fun h => by
    have := c1.2 h
    rw [b1] at this
    cases this
  have hge : ¬ Lib.ctz 32 (T s K m) < need s m := fun h => by
    have h7 := c1.1
    rw [T_bit] at h7
    simp at h7
    exact h5.2 _ h ⟨K, h7.2⟩
  omega

theorem tz32_core (x k idx : Nat) (w : World) (hz : ((x : Int) == 0) = false)
    (key : bits BinOp.and IntKind.u32 (x : Int) (-(x : Int) % 4294967296) * 125613361 % 4294967296 / 134217728 = (idx : Int))
    (hi : idx < 32) (hk : k < 32) (hcell : w.cell? ⟨0, idx, none⟩ = some (.int .u8 k)) :
    Calls Tryd.prog 41 #[.int .u32 x] w fun e w' => e = .returned (.int .i64 k) ∧ w = w' := by
  go_enter Tryd.func41, Tryd.ntmps41
  go_wp2_with (simp only [key])
  go_ret
  exact ⟨rfl, rfl⟩
theorem tz32_any (x : Nat) (w : World) (hx0 : x ≠ 0) (hx : x < 4294967296) (hT : TabAt 0 Lib.deBruijn32tab w) :
    Calls Tryd.prog 41 #[.int .u32 x] w fun e w' => e = .returned (.int .i64 (Lib.ctz 32 x)) ∧ w = w' := by
  obtain ⟨hlow, hk⟩ := Lib.lowest_bit 32 x hx0 hx
  obtain ⟨hi, htab⟩ := Lib.deBruijn32_at _ hk
  have hcell := hT _ hi
  rw [htab] at hcell
  exact tz32_core x _ _ w (by simp; omega) (tz32_key x _ hx hx0 hlow) hi hk hcell
theorem least_any (x : Nat) (w : World) (hx0 : x ≠ 0) (hx : x < 4294967296) (hT : TabAt 0 Lib.deBruijn32tab w) :
    Calls Tryd.prog 33 #[.int .u32 x] w fun e w' => e = .returned (.int .i64 (Lib.ctz 32 x)) ∧ w = w' := by
  go_enter Tryd.func33, Tryd.ntmps33
  go_wp2_with (go_at_call 41; refine (tz32_any _ _ hx0 hx hT).mono ?_; rintro e w' ⟨rfl, rfl⟩)
  go_ret
  exact ⟨rfl, rfl⟩
theorem TabAt.below {w w' : World} {B : Nat} (h : TabAt 0 Lib.deBruijn32tab w) (hb : Below B w w') (hB : 0 < B) : TabAt 0 Lib.deBruijn32tab w' := fun j hj =>
  (hb.cell (p := ⟨0, j, none⟩) hB).trans (h j hj)

/-- Needs below p; 0 from p on. -/
noncomputable def nmix (s : Int) (p : Nat) : Nat → Int := fun m => if m < p then (need s m : Int) else 0
/-- The least need that a part of a place below k leaves, and one more; 0 where there is none. -/
noncomputable def best (s m : Int) : Nat → Int
  | 0 => 0
  | k + 1 => if num s ((k : Int) + 1) ≤ m ∧ (best s m k = 0 ∨ (need s (m - num s ((k : Int) + 1)) : Int) + 1 < best s m k) then (need s (m - num s ((k : Int) + 1)) : Int) + 1 else best s m k
theorem best_bds (s m : Int) (h1 : 3 ≤ s) (h2 : s ≤ 24) (h4 : m ≤ 3000) (k : Nat) : 0 ≤ best s m k ∧ best s m k ≤ 25 := by
  induction k with
  | zero => simp [best]
  | succ k ih =>
    rw [best]
    split
    · rename_i h
      have h5 := num_nn s ((k : Int) + 1) h1
      have h6 := need_sides s (m - num s ((k : Int) + 1)) h1 h2 (by omega) (by omega)
      omega
    · exact ih
theorem best_spec (s m : Int) (hm : 1 ≤ m) (k : Nat) (hk : 1 ≤ k) :
    1 ≤ best s m k ∧ (∃ j : Nat, j < k ∧ num s ((j : Int) + 1) ≤ m ∧ best s m k = (need s (m - num s ((j : Int) + 1)) : Int) + 1) ∧ (∀ j : Nat, j < k → num s ((j : Int) + 1) ≤ m → best s m k ≤ (need s (m - num s ((j : Int) + 1)) : Int) + 1) := by
  induction k with
  | zero => omega
  | succ k ih =>
    rcases Nat.eq_zero_or_pos k with h0 | h0
    · subst h0
      have e1 : num s (((0 : Nat) : Int) + 1) = 1 := by simp [num_one]
      have e : best s m (0 + 1) = (need s (m - num s (((0 : Nat) : Int) + 1)) : Int) + 1 := by
        rw [best, if_pos ⟨by rw [e1]; exact hm, Or.inl rfl⟩]
      rw [e]
      refine ⟨by omega, ⟨0, by omega, by rw [e1]; exact hm, rfl⟩, fun j hj _ => ?_⟩
      have : j = 0 := by omega
      subst this
      omega
    · obtain ⟨a, ⟨j, hj1, hj2, hj3⟩, c⟩ := ih h0
      rw [best]
      split
      · rename_i h
        have hlt : (need s (m - num s ((k : Int) + 1)) : Int) + 1 < best s m k := by
          rcases h.2 with h5 | h5
          · omega
          · exact h5
        refine ⟨by omega, ⟨k, by omega, h.1, rfl⟩, fun i hi hi2 => ?_⟩
        by_cases e : i = k
        · subst e; omega
        · have := c i (by omega) hi2
          omega
      · rename_i h
        refine ⟨a, ⟨j, by omega, hj2, hj3⟩, fun i hi hi2 => ?_⟩
        by_cases e : i = k
        · subst e
          rcases Int.lt_or_le ((need s (m - num s ((i : Int) + 1)) : Int) + 1) (best s m i) with h5 | h5
          · exact absurd ⟨hi2, Or.inr h5⟩ h
          · exact h5
        · exact c i (by omega) hi2
theorem best_need (s m : Int) (hs : 3 ≤ s) (hm : 1 ≤ m) (k : Nat) (hk : (k : Int) = pl s m) : best s m k = (need s m : Int) := by
  have hp := pl_pos s m hs (by omega)
  obtain ⟨a, ⟨j, hj1, hj2, hj3⟩, c⟩ := best_spec s m hm k (by omega)
  have h1 := need_put s m ((j : Int) + 1) (by omega) (by omega) hs
  obtain ⟨q, hq1, hq2, hq3⟩ := need_top s m hs (by omega)
  have h2 := (fits_iff s m q hs (by omega) (by omega)).1 hq2
  have h3 := c (q - 1).toNat (by omega) (by rw [show ((((q - 1).toNat : Nat) : Int)) + 1 = q from by omega]; exact hq2)
  rw [show ((((q - 1).toNat : Nat) : Int)) + 1 = q from by omega] at h3
  omega

end Go.Proofs.YtejjgpmdnnogbaaDoor
