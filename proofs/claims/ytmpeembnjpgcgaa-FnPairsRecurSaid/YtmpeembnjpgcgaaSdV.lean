/- Chapter 4: recurrences: the program's side. -/
import Derived.Test.YtmpeembnjpgcgaaSdJ
import Derived.Test.YtmpeembnjpgcgaaSdK
import Derived.Test.YtmpeembnjpgcgaaSdL
import Derived.BigRegion
namespace Go.Proofs.Ytmpeembnjpgcgaa
open Go.ChangeShapes Go.WideShapes Go.ChangeAt Go.RowKit

theorem within_any (x lo hi : Int) (w : World) : Calls Try.prog 37 #[.int .i64 x, .int .i64 lo, .int .i64 hi] w fun e w' => e = .returned (.bool (betw x lo hi)) ∧ w = w' := by
  by_cases h : x < lo ∨ hi < x
  · rw [betw_no h]; exact within_no _ _ _ _ h
  · rw [betw_yes (x := x) (lo := lo) (hi := hi) (by omega) (by omega)]; exact within_yes _ _ _ _ (by omega) (by omega)
theorem ofSize_any (x g : Int) (w : World) (h1 : 0 ≤ g) (h2 : g ≤ 1000000000000000) : Calls Try.prog 38 #[.int .i64 x, .int .i64 g] w fun e w' => e = .returned (.bool (betw x (-g) g)) ∧ w = w' := by
  go_enter Try.func38, Try.ntmps38
  go_wp2_with (go_at_call 37; refine (within_any _ _ _ _).mono ?_; rintro e w' ⟨rfl, rfl⟩)
  go_ret
  exact ⟨rfl, rfl⟩
/-- The step of a recurrence. -/
theorem nextRec_any (f c x0 x1 : Int) (w : World) (f1 : -1000 ≤ f) (f2 : f ≤ 1000) (c1 : -1000 ≤ c) (c2 : c ≤ 1000) (a1 : -1000000000000000 ≤ x0) (a2 : x0 ≤ 1000000000000000) (b1 : -1000000000000000 ≤ x1) (b2 : x1 ≤ 1000000000000000) :
    Calls Try.prog 43 #[.agg #[.int .i64 f, .int .i64 c], .agg #[.int .i64 x0, .int .i64 x1]] w fun e w' => e = .returned (.agg #[.int .i64 x1, .int .i64 (f * x1 - x0 + c)]) ∧ Below w.heap.size w w' := by
  obtain ⟨p1, p2⟩ := mil_le f x1 1000000000000000 f1 f2 b1 b2
  go_enter Try.func43, Try.ntmps43
  go_wp2
  exact bodyPost_ret (v := .agg #[.int .i64 x1, .int .i64 (f * x1 - x0 + c)]) (by simp [results, Try.results43, go_sem]) rfl ⟨rfl, (((Below.refl _ _).alloc (Nat.le_refl _) _).alloc (by simp) _).alloc (by simp; omega) _⟩
theorem keeps_false (xs : List Int) (f c : Int) (i m : Nat) (h : keepsTo xs f c i = false) (hm : i ≤ m) : keepsTo xs f c m = false := by
  induction m with
  | zero => obtain rfl : i = 0 := by omega
            exact h
  | succ m ih =>
    rcases Nat.lt_or_ge m i with h1 | h1
    · obtain rfl : i = m + 1 := by omega
      exact h
    · rw [keepsTo, ih h1, Bool.false_and]
set_option maxHeartbeats 3200000 in
theorem keptBy_any (f c : Int) (ad : Addr) (n cap hB : Nat) (xs : List Int) (w : World) (f1 : -1000 ≤ f) (f2 : f ≤ 1000) (c1 : -1000 ≤ c) (c2 : c ≤ 1000) (hn : xs.length = n) (hm1 : 4 ≤ n) (hm2 : n ≤ 20) (ha : Rd w hB (some ad) (i64s xs)) (hh : hB ≤ w.heap.size) (hX : ∀ i, -1000000000000000 ≤ xs.getD i 0 ∧ xs.getD i 0 ≤ 1000000000000000) :
    Calls Try.prog 51 #[.agg #[.int .i64 f, .int .i64 c], .slice (some ad) n cap] w fun e w' => e = .returned (.bool (keepsTo xs f c (n - 2))) ∧ Below w.heap.size w w' := by
  have HX := Lib.hid hX
  have HC : ∀ W : World, Hid (Below w.heap.size w W → ∀ j, j < n → W.cell? (ad.add j) = some (.int .i64 (xs.getD j 0))) := fun W => Lib.hid fun hb j hj => by
    obtain ⟨ad', h1, h2, h3⟩ := (ha.below hb hh).get (k := j) (by omega)
    cases h1
    exact h3
  have hadb : ad.block < w.heap.size := by
    obtain ⟨ad', h1, h2, h3⟩ := ha.get (k := 0) (by omega)
    cases h1
    omega
  obtain ⟨r, hr⟩ : ∃ r, r = keepsTo xs f c (n - 2) := ⟨_, rfl⟩
  rw [← hr]
  have HR := Lib.hid hr
  clear hX ha hr hn
  go_enter Try.func51, Try.ntmps51
  go_wp2
  go_loopw [5] (fun i wr => ∃ j : Nat, j + 2 ≤ n ∧ i = .int .i64 ((j : Int) + 2) ∧ Hid (keepsTo xs f c j = true) ∧ wr.cell? ⟨w.heap.size, 0, none⟩ = some (.int .i64 f) ∧ wr.cell? ⟨w.heap.size, 1, none⟩ = some (.int .i64 c) ∧ w.heap.size < wr.heap.size ∧ Hid (Below w.heap.size w wr)) (fun i _ => n - (intOf i).toNat)
  case atStart => exact ⟨0, by omega, by simp, Lib.hid rfl, by simp [go_sem], by simp [go_sem], by simp, Lib.hid ((Below.refl _ _).alloc (Nat.le_refl _) _)⟩
  case round =>
    obtain ⟨j, hj, rfl, HK, r0, r1, hz, hb⟩ := hrel
    by_cases hlj : j + 2 < n
    · have hks : keepsTo xs f c (j + 1) = (keepsTo xs f c j && (xs.getD (j + 2) 0 == f * xs.getD (j + 1) 0 - xs.getD j 0 + c)) := rfl
      rw [HK.out, Bool.true_and] at hks
      have hkf := keeps_false xs f c (j + 1) (n - 2)
      have hji : (j : Int) + 2 < (n : Int) := by omega
      have HS := Lib.hid hks
      have HKF := Lib.hid hkf
      clear hks hkf
      obtain ⟨y0, y1⟩ := HX.out j
      obtain ⟨y2, y3⟩ := HX.out (j + 1)
      obtain ⟨y4, y5⟩ := HX.out (j + 2)
      have cA : wr.cell? (ad.add (j + 2)) = some (.int .i64 (xs.getD (j + 2) 0)) := (HC wr).out hb.out (j + 2) (by omega)
      have cB : wr.cell? (ad.add (j + 1)) = some (.int .i64 (xs.getD (j + 1) 0)) := (HC wr).out hb.out (j + 1) (by omega)
      have cC : wr.cell? (ad.add j) = some (.int .i64 (xs.getD j 0)) := (HC wr).out hb.out j (by omega)
      have w1e : IntKind.i64.wrap ((j : Int) + 2 - 1) = (j : Int) + 1 := by rw [IntWalk.i64_in _ (by omega)]; omega
      have w2e : IntKind.i64.wrap (j : Int) = (j : Int) := IntWalk.i64_in _ (by omega)
      have i1' : (0 : Int) ≤ (j : Int) + 1 := by omega
      have i2' : (j : Int) + 1 < (n : Int) := by omega
      have i3 : (0 : Int) ≤ (j : Int) := by omega
      have i4 : (j : Int) < (n : Int) := by omega
      have i5 : ((j : Int) + 1).toNat = j + 1 := by omega
      have i6 : ((j : Int) + 2).toNat = j + 2 := by omega
      have i7 : (0 : Int) ≤ (j : Int) + 2 := by omega
      have cA' : wr.cell? ⟨ad.block, ad.off + (j + 2), none⟩ = some (.int .i64 (xs.getD (j + 2) 0)) := cA
      have cB' : wr.cell? ⟨ad.block, ad.off + (j + 1), none⟩ = some (.int .i64 (xs.getD (j + 1) 0)) := cB
      have cC' : (wr.alloc (.cells #[.int .i64 0, .int .i64 0] 42)).cell? (ad.add j) = some (.int .i64 (xs.getD j 0)) := (((Below.refl wr.heap.size wr).alloc (Nat.le_refl _) _).cell (by rw [addr_block]; omega)).trans cC
      have hadw : ad.block < wr.heap.size := by omega
      generalize xs.getD j 0 = x0 at *
      generalize xs.getD (j + 1) 0 = x1 at *
      generalize xs.getD (j + 2) 0 = x2 at *
      go_wp2_with fail
      go_region
      have hb1 : Below w.heap.size w ((wr.alloc (.cells #[.int .i64 x0, .int .i64 x1] 42)).drew) := (hb.out.alloc hb.out.size _).drew
      have z1 : wr.heap.size < ((wr.alloc (.cells #[.int .i64 x0, .int .i64 x1] 42)).drew).heap.size := by simp
      have k : ((wr.alloc (.cells #[.int .i64 x0, .int .i64 x1] 42)).drew).cell? ⟨w.heap.size, 0, none⟩ = some (.int .i64 f) ∧ ((wr.alloc (.cells #[.int .i64 x0, .int .i64 x1] 42)).drew).cell? ⟨w.heap.size, 1, none⟩ = some (.int .i64 c) ∧ ((wr.alloc (.cells #[.int .i64 x0, .int .i64 x1] 42)).drew).cell? ⟨wr.heap.size, 0, none⟩ = some (.int .i64 x0) ∧ ((wr.alloc (.cells #[.int .i64 x0, .int .i64 x1] 42)).drew).cell? ⟨wr.heap.size, 1, none⟩ = some (.int .i64 x1) ∧ ((wr.alloc (.cells #[.int .i64 x0, .int .i64 x1] 42)).drew).cell? ⟨ad.block, ad.off + (j + 1), none⟩ = some (.int .i64 x1) ∧ ((wr.alloc (.cells #[.int .i64 x0, .int .i64 x1] 42)).drew).cell? ⟨ad.block, ad.off + (j + 2), none⟩ = some (.int .i64 x2) :=
        ⟨(((Below.refl wr.heap.size wr).alloc (Nat.le_refl _) _).cell (p := ⟨w.heap.size, 0, none⟩) hz).trans r0, (((Below.refl wr.heap.size wr).alloc (Nat.le_refl _) _).cell (p := ⟨w.heap.size, 1, none⟩) hz).trans r1, by simp [go_sem], by simp [go_sem], (((Below.refl wr.heap.size wr).alloc (Nat.le_refl _) _).cell (p := ⟨ad.block, ad.off + (j + 1), none⟩) hadw).trans cB', (((Below.refl wr.heap.size wr).alloc (Nat.le_refl _) _).cell (p := ⟨ad.block, ad.off + (j + 2), none⟩) hadw).trans cA'⟩
      obtain ⟨Q, hQ⟩ : ∃ Q, Q = wr.heap.size := ⟨_, rfl⟩
      generalize (wr.alloc (.cells #[.int .i64 x0, .int .i64 x1] 42)).drew = w1 at *
      rw [← hQ] at k z1 hz hadw ⊢
      clear r0 r1 cA cB cC cA' cB' cC' hb hQ
      obtain ⟨k0, k1, k2, k3, k4, k5⟩ := k
      have hRz : w.heap.size < w1.heap.size := Nat.lt_trans hz z1
      have haz : ad.block < w1.heap.size := Nat.lt_trans hadw z1
      by_cases he : x2 = f * x1 - x0 + c
      · have hq : ∀ W : World, (Op.equalIn 10000 42 (.agg #[.int .i64 x1, .int .i64 (f * x1 - x0 + c)]) (.agg #[.int .i64 x1, .int .i64 x2])).run Try.prog W = .ok true W := fun W => by
          rw [eq_pair]
          simp [he]
        have hHS : Hid (keepsTo xs f c (j + 1) = true) := Lib.hid (by rw [HS.out]; simp [he])
        clear he
        go_wp2
        go_region_held3 (fun w' => w'.cell? ⟨w.heap.size, 0, none⟩ = some (.int .i64 f) ∧ w'.cell? ⟨w.heap.size, 1, none⟩ = some (.int .i64 c) ∧ w'.cell? ⟨Q, 0, none⟩ = some (.int .i64 x0) ∧ w'.cell? ⟨Q, 1, none⟩ = some (.int .i64 x1) ∧ w'.cell? ⟨ad.block, ad.off + (j + 1), none⟩ = some (.int .i64 x1) ∧ w'.cell? ⟨ad.block, ad.off + (j + 2), none⟩ = some (.int .i64 x2))
          (first | exact ⟨k0, k1, k2, k3, k4, k5⟩ | exact ⟨(hb4.cell (p := ⟨w.heap.size, 0, none⟩) hRz).trans k0, (hb4.cell (p := ⟨w.heap.size, 1, none⟩) hRz).trans k1, (hb4.cell (p := ⟨Q, 0, none⟩) z1).trans k2, (hb4.cell (p := ⟨Q, 1, none⟩) z1).trans k3, (hb4.cell (p := ⟨ad.block, ad.off + (j + 1), none⟩) haz).trans k4, (hb4.cell (p := ⟨ad.block, ad.off + (j + 2), none⟩) haz).trans k5⟩)
          (first | (go_at_call 43; refine (nextRec_any f c x0 x1 _ f1 f2 c1 c2 y0 y1 y2 y3).mono ?_; rintro e w4 ⟨rfl, hb4⟩))
        have HB4 := Lib.hid (hb1.drew.trans (hb4.mono (by simp; omega)))
        have e0 := (hb4.cell (p := ⟨w.heap.size, 0, none⟩) hRz).trans k0
        have e1 := (hb4.cell (p := ⟨w.heap.size, 1, none⟩) hRz).trans k1
        have hz4 : w.heap.size < w4.heap.size := by have := hb4.size; simp at this; omega
        clear hb4 hb1 k0 k1 k2 k3 k4 k5 w1e w2e i1' i2' i3 i4 i5 i6 i7 hq
        go_wp2
        go_roundw
        case rel => exact ⟨j + 1, by omega, by go_num, hHS, e0, e1, hz4, HB4⟩
        case measure => simp [intOf]; omega
      · have hq : ∀ W : World, (Op.equalIn 10000 42 (.agg #[.int .i64 x1, .int .i64 (f * x1 - x0 + c)]) (.agg #[.int .i64 x1, .int .i64 x2])).run Try.prog W = .ok false W := fun W => by
          rw [eq_pair]
          have : (f * x1 - x0 + c == x2) = false := by simpa using fun h => he h.symm
          simp [this]
        have hF : r = false := by
          rw [HR.out]
          exact HKF.out (by rw [HS.out]; simpa using he) (by omega)
        subst hF
        clear he
        go_wp2
        go_region_held3 (fun w' => w'.cell? ⟨w.heap.size, 0, none⟩ = some (.int .i64 f) ∧ w'.cell? ⟨w.heap.size, 1, none⟩ = some (.int .i64 c) ∧ w'.cell? ⟨Q, 0, none⟩ = some (.int .i64 x0) ∧ w'.cell? ⟨Q, 1, none⟩ = some (.int .i64 x1) ∧ w'.cell? ⟨ad.block, ad.off + (j + 1), none⟩ = some (.int .i64 x1) ∧ w'.cell? ⟨ad.block, ad.off + (j + 2), none⟩ = some (.int .i64 x2))
          (first | exact ⟨k0, k1, k2, k3, k4, k5⟩ | exact ⟨(hb4.cell (p := ⟨w.heap.size, 0, none⟩) hRz).trans k0, (hb4.cell (p := ⟨w.heap.size, 1, none⟩) hRz).trans k1, (hb4.cell (p := ⟨Q, 0, none⟩) z1).trans k2, (hb4.cell (p := ⟨Q, 1, none⟩) z1).trans k3, (hb4.cell (p := ⟨ad.block, ad.off + (j + 1), none⟩) haz).trans k4, (hb4.cell (p := ⟨ad.block, ad.off + (j + 2), none⟩) haz).trans k5⟩)
          (first | (go_at_call 43; refine (nextRec_any f c x0 x1 _ f1 f2 c1 c2 y0 y1 y2 y3).mono ?_; rintro e w4 ⟨rfl, hb4⟩))
        have HB4 := Lib.hid (hb1.drew.trans (hb4.mono (by simp; omega)))
        clear hb4 hb1 k0 k1 k2 k3 k4 k5 w1e w2e i1' i2' i3 i4 i5 i6 i7 hq
        go_wp2
        first | (rw [Exit.noGoto_ret]; go_ret) | go_ret
        exact ⟨rfl, HB4.out⟩
    · obtain rfl : n = j + 2 := by omega
      have hT : r = true := by rw [HR.out, ← HK.out]; rfl
      subst hT
      go_wp2
      go_ret
      exact ⟨rfl, hb.out⟩
end Go.Proofs.Ytmpeembnjpgcgaa
