/- Sums of different places: the specification's counts. -/
import Derived.Test.YtlcmlfodhjmdiaaSuR
import Derived.Deep.RegionHeld3
namespace Go.Proofs.Ytlcmlfodhjmdiaa
open Go.ChangeShapes Go.WideShapes Go.ChangeAt Go.RowKit

/-- Counts of different places up to k, but up to k + 1 for the sums beyond p. -/
def dmix (s : Int) (k : Nat) (p : Int) : Nat → Int := fun m => if p < (m : Int) then (D s (k + 1) m : Int) else (D s k m : Int)

theorem d_zero (s : Int) (m : Nat) : (D s 0 (m : Int) : Int) = if m = 0 then 1 else 0 := by
  rw [D]
  by_cases h : m = 0
  · subst h; simp
  · rw [if_neg (by omega), if_neg h]; rfl

set_option maxHeartbeats 1600000 in
theorem suDifferent_any (s : Int) (N : Nat) (w : World) (h1 : 3 ≤ s) (h2 : s ≤ 24) (hN : N ≤ 3000) :
    Calls Try.prog 50 #[.int .i64 s, .int .i64 N] w fun e w' => (∃ g c, e = .returned (.slice (some ⟨g, 0, none⟩) (N + 1) c) ∧ Row w' w.heap.size g (N + 1) c (fun m => D s (pl s N).toNat m)) ∧ Below w.heap.size w w' := by
  obtain ⟨i0, hi0, hz0, hz1, hz2⟩ := info_parts infoInt
  have p0 := pl_nn s N h1 (by omega)
  have p1 := pl_77 s N h1 (by omega) (by omega)
  go_enter Try.func50, Try.ntmps50
  go_wp2_with (at_make; refine wpList_make_full _ rfl _ _ 28 rfl w.heap.size 3 i0 (.int .i64 0) 1 Try.underlying28 hi0 hz0 hz1 _ _ _ _ (N + 1) rfl rfl (by push_cast; rfl) (by push_cast; rfl) (by rw [hz2]; omega) (by unfold maxLen; omega) (Nat.le_refl _) ?_; intro w1 hown1 hgrow1; have hr1 := row_made hown1; have c0 := hr1.cell (j := 0) (by omega); have f0 := hr1.frozen 0)
  have hb1 : Below w.heap.size w w1 := (Below.refl _ _).grown hgrow1 (Nat.le_refl _) (fun g hg => by cases hg)
  have hgl := hr1.lt
  have hr2 := (hr1.set 0 1).congr (f' := fun m => D s 0 m) (fun m hm => by rw [d_zero]; simp [upd])
  have hb2 : Below w.heap.size w (w1.setCell ⟨w.heap.size, 0, none⟩ (.int .i64 1)) := hb1.setCell (Nat.le_refl _) _
  generalize w1.setCell ⟨w.heap.size, 0, none⟩ (.int .i64 1) = w2 at *
  generalize hg0 : w.heap.size = g at *
  have HG := Lib.hid hg0
  have HR := Lib.hid hr2
  clear hown1 hgrow1 hr1 c0 f0 hr2 hb1 hgl hg0
  go_loopw [6] (fun k wr => ∃ j : Nat, k = .int .i64 ((j : Int) + 1) ∧ (j : Int) ≤ pl s N ∧ Hid (Row wr g g (N + 1) (N + 1) (fun m => D s j m)) ∧ Below g w wr) (fun k _ => (pl s N + 1 - intOf k).toNat)
  case atStart => exact ⟨0, rfl, p0, HR, hb2⟩
  case round =>
    obtain ⟨j, rfl, hj, hrow, hb⟩ := hrel
    have hm := fits_iff s N ((j : Int) + 1) h1 (by omega) (by omega)
    by_cases hlt : (j : Int) + 1 ≤ pl s N
    · have hn := hm.2 hlt
      have hx1 := num_pos s ((j : Int) + 1) h1 (by omega)
      clear hm
      go_wp2_with (go_at_call 61; refine (shNumber_any _ _ _ h1 h2 (by omega) (by omega)).mono ?_; rintro e w' ⟨rfl, rfl⟩)
      go_loopw [7] (fun p wr2 => ∃ q : Int, p = .int .i64 q ∧ num s ((j : Int) + 1) - 1 ≤ q ∧ q ≤ N ∧ Hid (Row wr2 g g (N + 1) (N + 1) (dmix s j q)) ∧ Below g w wr2) (fun p _ => (intOf p).toNat)
      case atStart => exact ⟨N, rfl, by omega, by omega, Lib.hid (hrow.out.congr (fun m hm => by simp [dmix]; omega)), hb⟩
      case round =>
        obtain ⟨q, rfl, hq0, hq1, hrow2, hb2⟩ := hrel
        by_cases hge : num s ((j : Int) + 1) ≤ q
        · obtain ⟨a, rfl⟩ := Int.eq_ofNat_of_zero_le (show 0 ≤ q by omega)
          obtain ⟨b, hbq⟩ := Int.eq_ofNat_of_zero_le (show 0 ≤ (a : Int) - num s ((j : Int) + 1) by omega)
          have ca := hrow2.out.cell (j := a) (by omega)
          have cb := hrow2.out.cell (j := b) (by omega)
          have fa := hrow2.out.frozen a
          have ea : dmix s j a a = (D s j a : Int) := by simp [dmix]
          have eb : dmix s j a b = (D s j b : Int) := by simp [dmix]; omega
          have e3 : (D s (j + 1) (a : Int) : Int) = (D s j a : Int) + (D s j b : Int) := by rw [D, hbq]; push_cast; rfl
          have hsm := D_small s h1 (j + 1) a (by omega) (by omega)
          rw [ea] at ca
          rw [eb] at cb
          have hset := (hrow2.out.set a (D s (j + 1) (a : Int))).congr (f' := dmix s j ((a : Int) - 1)) (fun m hm => by
            simp only [upd, dmix]
            by_cases e : m = a
            · subst e; simp; omega
            · by_cases e2 : (a : Int) < m
              · simp [e, e2]; omega
              · have e4 : ¬ ((a : Int) - 1 < m) := by omega
                simp [e, e2, e4])
          have hb3 : Below g w (wr.setCell ⟨g, a, none⟩ (.int .i64 (D s (j + 1) (a : Int)))) := hb2.setCell (Nat.le_refl _) _
          rw [e3] at hset hb3 hsm
          have hD1 : (0 : Int) ≤ (D s j (a : Int) : Int) := by omega
          have hD2 : (0 : Int) ≤ (D s j (b : Int) : Int) := by omega
          generalize (D s j (a : Int) : Int) = x at *
          generalize (D s j (b : Int) : Int) = y at *
          have HS := Lib.hid hset
          have w1e : IntKind.i64.wrap (b : Int) = (b : Int) := IntWalk.i64_in _ (by omega)
          have w2e : IntKind.i64.wrap (x + y) = x + y := IntWalk.i64_in _ (by omega)
          have i1 : (0 : Int) ≤ (a : Int) := by omega
          have i2 : (a : Int) < (N : Int) + 1 := by omega
          have i3 : (0 : Int) ≤ (b : Int) := by omega
          have i4 : (b : Int) < (N : Int) + 1 := by omega
          clear hset ea eb e3 hrow2 hrow
          go_wp2_with (go_at_call 61; refine (shNumber_any _ _ _ h1 h2 (by omega) (by omega)).mono ?_; rintro e w' ⟨rfl, rfl⟩)
          go_region_with (go_at_call 61; refine (shNumber_any _ _ _ h1 h2 (by omega) (by omega)).mono ?_; rintro e w' ⟨rfl, rfl⟩)
          all_goals (go_wp2; go_roundw)
          all_goals first
            | exact ⟨(a : Int) - 1, rfl, by omega, by omega, Lib.hid HS.out.drew, hb3.drew⟩
            | (simp [intOf]; omega)
        · have hqe : q = num s ((j : Int) + 1) - 1 := by omega
          have hfin := hrow2.out.congr (f' := fun m => (D s (j + 1) m : Int)) (fun m hm => by
            simp only [dmix]
            by_cases e : q < (m : Int)
            · simp [e]
            · rw [if_neg e, D_above s h1 j m (by omega)])
          have HF := Lib.hid hfin
          clear hfin hrow2 hrow hqe
          go_wp2_with (go_at_call 61; refine (shNumber_any _ _ _ h1 h2 (by omega) (by omega)).mono ?_; rintro e w' ⟨rfl, rfl⟩)
          go_roundw
          case rel => exact ⟨j + 1, by go_num, by omega, HF, hb2⟩
          case measure => simp [intOf]; omega
    · have hn : (N : Int) < num s ((j : Int) + 1) := by
        rcases Int.lt_or_le (N : Int) (num s ((j : Int) + 1)) with h | h
        · exact h
        · exact absurd (hm.1 h) hlt
      have hke : (pl s N).toNat = j := by omega
      have HK := Lib.hid hke
      clear hm hke
      go_wp2_with (go_at_call 61; refine (shNumber_any _ _ _ h1 h2 (by omega) (by omega)).mono ?_; rintro e w' ⟨rfl, rfl⟩)
      go_ret
      rw [HK.out, HG.out]
      exact ⟨⟨_, _, rfl, hrow.out⟩, hb⟩
end Go.Proofs.Ytlcmlfodhjmdiaa
