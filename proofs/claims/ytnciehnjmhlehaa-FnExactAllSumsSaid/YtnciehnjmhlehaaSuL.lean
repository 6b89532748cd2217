/- Counts of parts: the specification's. -/
import Derived.Test.YtnciehnjmhlehaaSuK
namespace Go.Proofs.Ytnciehnjmhlehaa
open Go.ChangeShapes Go.WideShapes Go.ChangeAt Go.RowKit

theorem w_zero (s : Int) (j m : Nat) : (W s 0 j (m : Int) : Int) = if j = 0 ∧ m = 0 then 1 else 0 := by
  rw [W_00]
  by_cases h : j = 0 ∧ m = 0
  · rw [if_pos h, if_pos (by omega)]; rfl
  · rw [if_neg h, if_neg (by omega)]; rfl

theorem wmix_start (s : Int) (k : Nat) (j m : Nat) : (W s k j (m : Int) : Int) = wmix s k 1 0 j m := by
  simp only [wmix]
  by_cases h : j = 0
  · subst h; rw [if_pos (by omega), W_k0, W_k0]
  · rw [if_neg (by omega)]
theorem wmix_row (s : Int) (hs : 3 ≤ s) (k i : Nat) (x : Int) (hx : x = num s ((k : Int) + 1)) (j m : Nat) : wmix s k i 0 j m = wmix s k i x j m := by
  simp only [wmix]
  by_cases h1 : j < i
  · rw [if_pos (by omega), if_pos (by omega)]
  · by_cases h2 : j = i ∧ (m : Int) < x
    · rw [if_neg (by omega), if_pos (by omega), W_above s hs k j m (by omega)]
    · rw [if_neg (by omega), if_neg (by omega)]
theorem wmix_next (s : Int) (k i N : Nat) (q : Int) (hq : (N : Int) < q) (j m : Nat) (hm : m < N + 1) : wmix s k i q j m = wmix s k (i + 1) 0 j m := by
  simp only [wmix]
  by_cases h : j < i ∨ j = i
  · rw [if_pos (by omega), if_pos (by omega)]
  · rw [if_neg (by omega), if_neg (by omega)]
theorem wmix_end (s : Int) (k M : Nat) (j m : Nat) (hj : j < M + 1) : wmix s k (M + 1) 0 j m = (W s (k + 1) j m : Int) := by
  simp only [wmix]
  rw [if_pos (by omega)]
theorem wmix_step (s : Int) (k i a : Nat) (v : Int) (hv : v = (W s (k + 1) i (a : Int) : Int)) (j m : Nat) :
    (if j = i then upd (wmix s k i (a : Int) i) a v else wmix s k i (a : Int) j) m = wmix s k i ((a : Int) + 1) j m := by
  by_cases h : j = i
  · subst h
    by_cases e : m = a
    · subst e
      have e3 : (m : Int) < (m : Int) + 1 := by omega
      simp [upd, wmix, hv, e3]
    · have e2 : ((m : Int) < (a : Int) + 1) = ((m : Int) < (a : Int)) := propext (by omega)
      simp only [if_true, upd, wmix, e2]
      rw [if_neg e]
  · simp [wmix, h]

set_option maxHeartbeats 6400000 in
theorem suCount_any (s : Int) (N M : Nat) (w : World) (h1 : 3 ≤ s) (h2 : s ≤ 24) (hN : N ≤ 3000) (hM : M ≤ 24) :
    Calls Try.prog 61 #[.int .i64 s, .int .i64 N, .int .i64 M] w fun e w' => e = .returned (.int .i64 (W s (pl s N).toNat M N)) ∧ Below w.heap.size w w' := by
  obtain ⟨i0, hi0, hz0, hz1, hz2⟩ := info_parts infoInt
  obtain ⟨ir, hir, hzr0, hzr1, hzr2⟩ := info_parts infoRow
  have p0 := pl_nn s N h1 (by omega)
  have p1 := pl_77 s N h1 (by omega) (by omega)
  have hK : (pl s N).toNat ≤ 77 := by omega
  have HPL := Lib.hid (fun k : Int => fits_iff s N k h1 (by omega))
  have HKK : Hid (((pl s N).toNat : Int) = pl s N) := Lib.hid (by omega)
  generalize (pl s N).toNat = K at *
  obtain ⟨B, hB⟩ : ∃ B, w.heap.size = B := ⟨_, rfl⟩
  have HBB := Lib.hid hB
  go_enter Try.func61, Try.ntmps61
  go_wp2_with (at_make; refine wpList_make_full _ rfl _ _ 38 rfl w.heap.size 59 ir (.slice none 0 0) 1 Try.underlying38 hir hzr0 hzr1 _ _ _ _ (M + 1) rfl rfl (by push_cast; rfl) (by push_cast; rfl) (by rw [hzr2]; omega) (by unfold maxLen; omega) (Nat.le_refl _) ?_; intro w1 hown1 hgrow1)
  have hb1 : Below B w w1 := by rw [← hB]; exact (Below.refl _ _).grown hgrow1 (Nat.le_refl _) (fun g hg => by cases hg)
  rw [hB] at hown1
  have hm0 := mat_made (n := N + 1) (F := fun _ _ => 0) (fun _ => 0) hown1
  have HM0 := Lib.hid hm0
  clear hown1 hgrow1 hm0
  try simp only [hB]
  clear hB
  go_wp2
  go_loopw [18] (fun i wr => ∃ (j : Nat) (G : Nat → Nat), j ≤ M + 1 ∧ i = .int .i64 j ∧ Hid (Mat wr B B (M + 1) (M + 1) (N + 1) j G (fun _ _ => 0)) ∧ Below B w wr) (fun i _ => M + 1 - (intOf i).toNat)
  case atStart => exact ⟨0, _, Nat.zero_le _, rfl, HM0, hb1⟩
  case round =>
    obtain ⟨j, G, hj, rfl, hmat, hb⟩ := hrel
    by_cases hlt : j < M + 1
    · have hjI : (j : Int) < (M : Int) + 1 := by omega
      go_wp2_with (at_make; refine wpList_make_full _ rfl _ _ 59 rfl B 3 i0 (.int .i64 0) 1 Try.underlying59 hi0 hz0 hz1 _ _ _ _ (N + 1) rfl rfl (by push_cast; rfl) (by push_cast; rfl) (by rw [hz2]; omega) (by unfold maxLen; omega) (by have := hb.size; have := HBB.out; omega) ?_; intro w2 hown2 hgrow2; have hk := World.ownsRow.kept hmat.out.own hgrow2 (Or.inr (by simp [Value.ownBlock])); have hc := World.ownsRow.cellAt hk j (by omega); rw [outer_get _ _ _ _ _ hlt, if_neg (by omega)] at hc; have hf := World.ownsRow.frozenAt hk j)
      have hadd := hmat.out.add (row_made hown2) (Nat.le_refl _) hgrow2
      have hb2 : Below B w w2 := hb.grown hgrow2 (by have := hb.size; have := HBB.out; omega) (fun g hg => by cases hg)
      have hb3 := hb2.setCell (p := ⟨B, j, none⟩) (Nat.le_refl _) (.slice (some ⟨wr.heap.size, 0, none⟩) (N + 1) (N + 1))
      have HA := Lib.hid hadd
      clear hown2 hgrow2 hk hc hf hmat hadd
      go_wp2
      go_roundw
      case rel => exact ⟨j + 1, _, by omega, by go_num, HA, hb3⟩
      case measure => simp [intOf]; omega
    · obtain rfl : j = M + 1 := by omega
      have hcast : ((M + 1 : Nat) : Int) = (M : Int) + 1 := by omega
      rw [hcast]
      clear hcast
      have c0 := hmat.out.cell (j := 0) (by omega) (by omega)
      have d0 := (hmat.out.rows 0 (by omega)).cell (j := 0) (by omega)
      have f0 := (hmat.out.rows 0 (by omega)).frozen 0
      have hm1 := (hmat.out.set (j := 0) (by omega) 0 1).congr (F' := fun j m => (W s 0 j m : Int)) (fun j hj m hm => by
        rw [w_zero]
        by_cases e : j = 0
        · subst e; simp [upd]
        · simp [e])
      have hb1 := hb.setCell (p := ⟨G 0, 0, none⟩) (hmat.out.rows 0 (by omega)).lt.1 (.int .i64 1)
      have HM1 := Lib.hid hm1
      have i1 : (0 : Int) < (M : Int) + 1 := by omega
      have i2 : (0 : Int) < (N : Int) + 1 := by omega
      clear hm1 hmat
      go_wp2
      go_loopw [9] (fun k wr => ∃ k' : Nat, k' ≤ K ∧ k = .int .i64 ((k' : Int) + 1) ∧ Hid (Mat wr B B (M + 1) (M + 1) (N + 1) (M + 1) G (fun j m => (W s k' j m : Int))) ∧ Below B w wr) (fun k _ => K + 1 - (intOf k).toNat)
      case atStart => exact ⟨0, Nat.zero_le _, rfl, HM1, hb1⟩
      case round =>
        obtain ⟨k', hk', rfl, hmat, hb⟩ := hrel
        have hm := HPL.out ((k' : Int) + 1) (by omega)
        by_cases hlt : k' < K
        · have hxn := hm.2 (by rw [← HKK.out]; omega)
          have hx1 := num_pos s ((k' : Int) + 1) h1 (by omega)
          obtain ⟨x, hx⟩ : ∃ x, x = num s ((k' : Int) + 1) := ⟨_, rfl⟩
          have HX := Lib.hid hx
          have HNC := Lib.hid (fun w => shNumber_any s ((k' : Int) + 1) w h1 h2 (by omega) (by omega))
          rw [← hx] at hxn hx1
          have hms := hmat.out.congr (F' := wmix s k' 1 0) (fun j _ m _ => wmix_start s k' j m)
          have HMS := Lib.hid hms
          clear hm hx hms hmat
          go_wp2_with (go_at_call 40; refine (HNC.out _).mono ?_; rw [← HX.out]; rintro e w' ⟨rfl, rfl⟩)
          go_loopw [11] (fun i wr => ∃ i' : Nat, i' ≤ M ∧ i = .int .i64 ((i' : Int) + 1) ∧ Hid (Mat wr B B (M + 1) (M + 1) (N + 1) (M + 1) G (wmix s k' (i' + 1) 0)) ∧ Below B w wr) (fun i _ => M + 1 - (intOf i).toNat)
          case atStart => exact ⟨0, Nat.zero_le _, rfl, HMS, hb⟩
          case round =>
            obtain ⟨i', hi', rfl, hmat, hb⟩ := hrel
            by_cases hlt2 : i' < M
            · have hiI : (i' : Int) + 1 ≤ (M : Int) := by omega
              have hms := hmat.out.congr (F' := wmix s k' (i' + 1) x) (fun j _ m _ => wmix_row s h1 k' (i' + 1) x HX.out j m)
              have HMS2 := Lib.hid hms
              clear hms hmat
              go_wp2
              go_loopw [12] (fun p wr => ∃ q : Int, p = .int .i64 q ∧ x ≤ q ∧ q ≤ (N : Int) + 1 ∧ Hid (Mat wr B B (M + 1) (M + 1) (N + 1) (M + 1) G (wmix s k' (i' + 1) q)) ∧ Below B w wr) (fun p _ => ((N : Int) + 1 - intOf p).toNat)
              case atStart => exact ⟨x, rfl, by omega, by omega, HMS2, hb⟩
              case round =>
                obtain ⟨q, rfl, hq0, hq1, hmat, hb⟩ := hrel
                by_cases hge : q ≤ (N : Int)
                · obtain ⟨a, rfl⟩ := Int.eq_ofNat_of_zero_le (show 0 ≤ q by omega)
                  obtain ⟨b, hbq⟩ := Int.eq_ofNat_of_zero_le (show 0 ≤ (a : Int) - x by omega)
                  have ci := hmat.out.cell (j := i' + 1) (by omega) (by omega)
                  have cj := hmat.out.cell (j := i') (by omega) (by omega)
                  have ca := (hmat.out.rows (i' + 1) (by omega)).cell (j := a) (by omega)
                  have cb := (hmat.out.rows i' (by omega)).cell (j := b) (by omega)
                  have fa := (hmat.out.rows (i' + 1) (by omega)).frozen a
                  have gB := (hmat.out.rows (i' + 1) (by omega)).lt.1
                  have ea : wmix s k' (i' + 1) a (i' + 1) a = (W s k' (i' + 1) a : Int) := by simp [wmix]
                  have eb : wmix s k' (i' + 1) a i' b = (W s (k' + 1) i' b : Int) := by simp [wmix]
                  have e3 : (W s (k' + 1) (i' + 1) (a : Int) : Int) = (W s k' (i' + 1) a : Int) + (W s (k' + 1) i' b : Int) := by rw [W_kk, ← HX.out, hbq]; push_cast; rfl
                  have hsm := W_small s h1 (k' + 1) (i' + 1) a (by omega) (by omega) (by omega)
                  rw [ea] at ca
                  rw [eb] at cb
                  have hset := (hmat.out.set (j := i' + 1) (by omega) a (W s (k' + 1) (i' + 1) (a : Int) : Int)).congr (F' := wmix s k' (i' + 1) ((a : Int) + 1)) (fun j _ m _ => wmix_step s k' (i' + 1) a _ rfl j m)
                  have hb3 := hb.setCell (p := ⟨G (i' + 1), a, none⟩) gB (.int .i64 (W s (k' + 1) (i' + 1) (a : Int) : Int))
                  rw [e3] at hset hb3 hsm
                  have hD1 : (0 : Int) ≤ (W s k' (i' + 1) (a : Int) : Int) := by omega
                  have hD2 : (0 : Int) ≤ (W s (k' + 1) i' (b : Int) : Int) := by omega
                  generalize (W s k' (i' + 1) (a : Int) : Int) = y at *
                  generalize (W s (k' + 1) i' (b : Int) : Int) = z at *
                  have HS := Lib.hid hset
                  have HB3 := Lib.hid hb3
                  have w1e : IntKind.i64.wrap (b : Int) = (b : Int) := IntWalk.i64_in _ (by omega)
                  have w2e : IntKind.i64.wrap (y + z) = y + z := IntWalk.i64_in _ (by omega)
                  have w3e : IntKind.i64.wrap (i' : Int) = (i' : Int) := IntWalk.i64_in _ (by omega)
                  have t1 : ((i' : Int) + 1).toNat = i' + 1 := by omega
                  have n1 : (0 : Int) ≤ (a : Int) := by omega
                  have n2 : (a : Int) < (N : Int) + 1 := by omega
                  have n3 : (0 : Int) ≤ (b : Int) := by omega
                  have n4 : (b : Int) < (N : Int) + 1 := by omega
                  have n5 : (0 : Int) ≤ (i' : Int) + 1 := by omega
                  have n6 : (i' : Int) + 1 < (M : Int) + 1 := by omega
                  have n7 : (0 : Int) ≤ (i' : Int) := by omega
                  have n8 : (i' : Int) < (M : Int) + 1 := by omega
                  clear hset ea eb e3 hmat hb3 gB
                  go_wp2
                  generalize hwq : wr = wq at *
                  go_region
                  all_goals (go_wp2; go_roundw)
                  case rel => exact ⟨(a : Int) + 1, rfl, by omega, by omega, Lib.hid HS.out.drew, HB3.out.drew⟩
                  case measure => simp [intOf]; omega
                · have hms := hmat.out.congr (F' := wmix s k' (i' + 1 + 1) 0) (fun j _ m hm => wmix_next s k' (i' + 1) N q (by omega) j m hm)
                  have HMS3 := Lib.hid hms
                  clear hms hmat
                  go_wp2
                  go_roundw
                  case rel => exact ⟨i' + 1, by omega, by go_num, HMS3, hb⟩
                  case measure => simp [intOf]; omega
            · have hm2 := hmat.out
              rw [show i' = M from by omega] at hm2
              have hms := hm2.congr (F' := fun j m => (W s (k' + 1) j m : Int)) (fun j hj m _ => wmix_end s k' M j m hj)
              clear hm2
              have HMS3 := Lib.hid hms
              clear hms hmat
              go_wp2
              go_roundw
              case rel => exact ⟨k' + 1, by omega, by go_num, HMS3, hb⟩
              case measure => simp [intOf]; omega
        · obtain rfl : k' = K := by omega
          have hn : (N : Int) < num s ((k' : Int) + 1) := by
            rcases Int.lt_or_le (N : Int) (num s ((k' : Int) + 1)) with h | h
            · exact h
            · have := hm.1 h; rw [← HKK.out] at this; omega
          have ci := hmat.out.cell (j := M) (by omega) (by omega)
          have ca := (hmat.out.rows M (by omega)).cell (j := N) (by omega)
          clear hm hmat
          go_wp2_with (go_at_call 40; refine (shNumber_any _ _ _ h1 h2 (by omega) (by omega)).mono ?_; rintro e w' ⟨rfl, rfl⟩)
          go_ret
          rw [HBB.out]
          exact ⟨rfl, hb⟩
end Go.Proofs.Ytnciehnjmhlehaa
