/- The law FnExactAsManyAsSides: as many places as sides, whatever the arguments. No condition. -/
import Derived.Test.YtiloljldefodkaaDoorCoX
import Derived.Test.YtiloljldefodkaaDoorSuW
namespace Go.Proofs.YtiloljldefodkaaDoor
open Go.ChangeShapes Go.WideShapes Go.ChangeAt Go.RowKit Go.Maps

theorem W_down (s : Int) (hs : 3 ≤ s) (i : Nat) (m : Int) (k d : Nat) (h : m < num s ((k : Int) + 1)) : W s (k + d) i m = W s k i m := by
  cases i with
  | zero => rw [W_k0, W_k0]
  | succ i => rw [← Lw_len, ← Lw_len, Lw_down s hs i m k d h]
open Classical in
noncomputable def ck (s : Int) (k c : Nat) (m : Int) : Bool := decide (Can s k c m)
theorem ck_yes {s : Int} {k c : Nat} {m : Int} (h : Can s k c m) : ck s k c m = true := by simp [ck, h]
theorem ck_no {s : Int} {k c : Nat} {m : Int} (h : ¬ Can s k c m) : ck s k c m = false := by simp [ck, h]
theorem can_zero (s : Int) (k c : Nat) : Can s k c 0 := ⟨0, by omega, by rw [W_k0]; simp⟩
theorem can_k0 (s : Int) (c : Nat) (m : Int) (hm : m ≠ 0) : ¬ Can s 0 c m := fun ⟨i, _, hw⟩ => by
  cases i with
  | zero => rw [W_k0, if_neg hm] at hw; omega
  | succ i => rw [← Lw_len, Lw_0] at hw; simp at hw
theorem can_hit (s : Int) (k c : Nat) (m : Int) (h : Can s (k + 1) c (m - num s ((k : Int) + 1))) : Can s (k + 1) (c + 1) m := by
  obtain ⟨i, hi, hw⟩ := h
  exact ⟨i + 1, by omega, by rw [W_kk]; omega⟩
theorem can_miss (s : Int) (k c : Nat) (m : Int) (hm : m ≠ 0) (h : ¬ Can s (k + 1) c (m - num s ((k : Int) + 1))) : Can s (k + 1) (c + 1) m ↔ Can s k (c + 1) m := by
  constructor
  · rintro ⟨i, hi, hw⟩
    cases i with
    | zero => rw [W_k0, if_neg hm] at hw; omega
    | succ i =>
      rw [W_kk] at hw
      refine ⟨i + 1, hi, ?_⟩
      rcases Nat.eq_zero_or_pos (W s (k + 1) i (m - num s ((k : Int) + 1))) with h0 | h0
      · omega
      · exact absurd ⟨i, by omega, h0⟩ h
  · rintro ⟨i, hi, hw⟩
    cases i with
    | zero => rw [W_k0, if_neg hm] at hw; omega
    | succ i => exact ⟨i + 1, hi, by rw [W_kk]; omega⟩
theorem can_down (s : Int) (hs : 3 ≤ s) (c : Nat) (m : Int) (k d : Nat) (h : m < num s ((k : Int) + 1)) : Can s (k + d) c m ↔ Can s k c m := by
  constructor
  · rintro ⟨i, hi, hw⟩; exact ⟨i, hi, by rwa [W_down s hs i m k d h] at hw⟩
  · rintro ⟨i, hi, hw⟩; exact ⟨i, hi, by rwa [W_down s hs i m k d h]⟩
theorem can_most (s : Int) (hs : 3 ≤ s) (k c : Nat) (m : Int) (h : Can s k c m) : m ≤ (c : Int) * num s (k : Int) := by
  obtain ⟨i, hi, hw⟩ := h
  have h1 := W_most s hs k i m hw
  have h2 : (i : Int) * num s (k : Int) ≤ (c : Int) * num s (k : Int) := Int.mul_le_mul_of_nonneg_right (by omega) (num_nn s _ hs)
  omega

set_option maxHeartbeats 3200000 in
theorem suCan_any (s : Int) (N0 base gf cf : Nat) (h1 : 3 ≤ s) (h2 : s ≤ 24) (hN0 : N0 ≤ 3000) (c : Nat) : ∀ (m : Nat) (K : Nat) (w : World), c ≤ 24 → m ≤ N0 → K ≤ 77 → Row w base gf (N0 + 1) cf (fun m => (need s m : Int)) →
    Calls Tryd.prog 43 #[.int .i64 s, .int .i64 m, .int .i64 c, .int .i64 K, .slice (some ⟨gf, 0, none⟩) (N0 + 1) cf] w fun e w' => e = .returned (.bool (ck s K c m)) ∧ w = w' := by
  induction c with
  | zero =>
    intro m K w _ hm hK hrow
    have cn := hrow.cell (j := m) (by omega)
    have hgl := hrow.lt
    have hmI : (m : Int) < (N0 : Int) + 1 := by omega
    have hmI0 : (0 : Int) ≤ (m : Int) := by omega
    by_cases hm0 : m = 0
    · have HE : Hid (ck s K 0 (m : Int) = true) := Lib.hid (by rw [hm0]; exact ck_yes (can_zero s K 0))
      have hmb : ((m : Int) == 0) = true := by simp; omega
      clear hrow hm0 cn
      go_enter Tryd.func43, Tryd.ntmps43
      go_wp2_with fail
      go_ret
      exact ⟨by rw [HE.out]; rfl, rfl⟩
    · have HE : Hid (ck s K 0 (m : Int) = false) := Lib.hid (ck_no (fun h => by
        have := can_need h1 h
        have := need_pos s m (by omega)
        omega))
      have hnp : (0 : Int) < (need s m : Int) := by have := need_pos s m (by omega); omega
      have hmb : ((m : Int) == 0) = false := by simp; omega
      generalize (need s m : Int) = nd at *
      clear hrow hm0
      go_enter Tryd.func43, Tryd.ntmps43
      go_wp2_with fail
      go_ret
      exact ⟨by rw [HE.out]; rfl, rfl⟩
  | succ c ih =>
    intro m K w hc hm hK hrow
    have cn := hrow.cell (j := m) (by omega)
    have hgl := hrow.lt
    have hmI : (m : Int) < (N0 : Int) + 1 := by omega
    have hmI0 : (0 : Int) ≤ (m : Int) := by omega
    have hcast : ((c + 1 : Nat) : Int) = (c : Int) + 1 := by omega
    have hcI : (c : Int) + 1 ≤ 24 := by omega
    have hcI0 : (0 : Int) ≤ (c : Int) := by omega
    rw [hcast]
    clear hcast
    by_cases hm0 : m = 0
    · have HE : Hid (ck s K (c + 1) (m : Int) = true) := Lib.hid (by rw [hm0]; exact ck_yes (can_zero s K (c + 1)))
      have hmb : ((m : Int) == 0) = true := by simp; omega
      clear hrow hm0 cn
      go_enter Tryd.func43, Tryd.ntmps43
      go_wp2_with fail
      go_ret
      exact ⟨by rw [HE.out]; rfl, rfl⟩
    have hmb : ((m : Int) == 0) = false := by simp; omega
    have HM0 := Lib.hid (show (m : Int) ≠ 0 by omega)
    clear hm0
    by_cases hnd : c + 1 < need s m
    · have HE : Hid (ck s K (c + 1) (m : Int) = false) := Lib.hid (ck_no (fun h => by
        have := can_need h1 h
        omega))
      have hndI : (c : Int) + 1 < (need s m : Int) := by omega
      generalize (need s m : Int) = nd at *
      clear hnd hrow
      go_enter Tryd.func43, Tryd.ntmps43
      go_wp2_with fail
      go_ret
      exact ⟨by rw [HE.out]; rfl, rfl⟩
    have hndI : (need s m : Int) ≤ (c : Int) + 1 := by omega
    have nK0 := num_nn s (K : Int) h1
    have nK1 := num_small s (K : Int) h1 h2 (by omega) (by omega)
    have xK0 : (0 : Int) ≤ ((c : Int) + 1) * num s (K : Int) := Int.mul_nonneg (by omega) nK0
    have xK1 : ((c : Int) + 1) * num s (K : Int) ≤ 25000000 := Int.le_trans (Int.mul_le_mul (show (c : Int) + 1 ≤ 25 by omega) nK1 nK0 (by omega)) (by omega)
    by_cases hxm : ((c : Int) + 1) * num s (K : Int) < (m : Int)
    · have HE : Hid (ck s K (c + 1) (m : Int) = false) := Lib.hid (ck_no (fun h => by
        have h7 := can_most s h1 K (c + 1) m h
        push_cast at h7
        omega))
      generalize (need s m : Int) = nd at *
      clear hnd hrow
      go_enter Tryd.func43, Tryd.ntmps43
      go_wp2_with (go_at_call 41; refine (shNumber_any _ _ _ h1 h2 (by omega) (by omega)).mono ?_; rintro e w' ⟨rfl, rfl⟩)
      go_ret
      exact ⟨by rw [HE.out]; rfl, rfl⟩
    have hxm2 : (m : Int) ≤ ((c : Int) + 1) * num s (K : Int) := by omega
    have HROW := Lib.hid hrow
    have IH : Hid (∀ (k : Nat) (x : Int), 0 ≤ x → x ≤ N0 → k ≤ 77 → Calls Tryd.prog 43 #[.int .i64 s, .int .i64 x, .int .i64 c, .int .i64 ((k : Nat) : Int), .slice (some ⟨gf, 0, none⟩) (N0 + 1) cf] w fun e w' => e = .returned (.bool (ck s k c x)) ∧ w = w') := Lib.hid (fun k x hx0 hx1 hk => by
      have h9 := ih x.toNat k w (by omega) (by omega) hk hrow
      rw [Int.toNat_of_nonneg hx0] at h9
      exact h9)
    have p0 := pl_nn s m h1 (by omega)
    have p1 := pl_77 s m h1 (by omega) (by omega)
    have HPL := Lib.hid (fun q : Int => fits_iff s m q h1 hmI0)
    have q0 : (0 : Int) ≤ min (K : Int) (pl s m) := by omega
    have q2 : min (K : Int) (pl s m) ≤ (K : Int) := by omega
    have q3 : min (K : Int) (pl s m) ≤ pl s m := by omega
    obtain ⟨t, ht⟩ := Int.eq_ofNat_of_zero_le q0
    have HT : Hid (Can s t (c + 1) m ↔ Can s K (c + 1) m) := by
      refine Lib.hid ?_
      by_cases hjt : t = K
      · subst hjt; exact Iff.rfl
      · have e : K = t + (K - t) := by omega
        have h5 := fits_iff s m ((t : Int) + 1) h1 hmI0 (by omega)
        have h6 := can_down s h1 (c + 1) m t (K - t) (by
          rcases Int.lt_or_le (m : Int) (num s ((t : Int) + 1)) with h | h
          · exact h
          · have := h5.1 h; omega)
        rw [← e] at h6
        exact h6.symm
    rw [ht] at q2 q3
    have HTT := Lib.hid ht
    have HNB := Lib.hid (fun (q : Nat) (h : (q : Int) + 1 ≤ pl s m) => show num s ((q : Int) + 1) ≤ 3000 from by have := (fits_iff s m ((q : Int) + 1) h1 hmI0 (by omega)).2 (by omega); omega)
    generalize (need s m : Int) = nd at *
    clear ht q0 hrow ih hnd hxm
    go_enter Tryd.func43, Tryd.ntmps43
    go_wp2_with (first
      | (go_at_call 41; refine (shNumber_any _ _ _ h1 h2 (by omega) (by omega)).mono ?_; rintro e w' ⟨rfl, rfl⟩)
      | (go_at_call 36; refine (shBelow_any _ _ _ h1 h2 hmI0 (by omega)).mono ?_; rintro e w' ⟨rfl, rfl⟩)
      | (go_at_call 42; refine (l1Least_any _ _ _).mono ?_; rw [HTT.out]; rintro e w' ⟨rfl, rfl⟩))
    go_loopw [11] (fun p wr => ∃ q : Nat, p = .int .i64 q ∧ q ≤ K ∧ (q : Int) ≤ pl s m ∧ Hid (Can s q (c + 1) m ↔ Can s K (c + 1) m) ∧ w = wr) (fun p _ => (intOf p).toNat)
    case atStart => exact ⟨t, rfl, by omega, q3, HT, rfl⟩
    case round =>
      obtain ⟨q, rfl, hqj, hqp, HQ, rfl⟩ := hrel
      cases q with
      | zero =>
        have HE : Hid (ck s K (c + 1) m = false) := Lib.hid (ck_no (fun h => can_k0 s (c + 1) m HM0.out (HQ.out.2 h)))
        go_wp2_with fail
        go_ret
        exact ⟨by rw [HE.out]; rfl, rfl⟩
      | succ q =>
        have hfit := (HPL.out ((q : Int) + 1) (by omega)).2 (by omega)
        have hnn := num_nn s ((q : Int) + 1) h1
        have hge : (1 : Int) ≤ (q : Int) + 1 := by omega
        have hqK : (q : Int) + 1 ≤ 77 := by omega
        have hn3 := HNB.out q (by omega)
        have hx0 : (0 : Int) ≤ ((c : Int) + 1) * num s ((q : Int) + 1) := Int.mul_nonneg (by omega) hnn
        have hx1 : ((c : Int) + 1) * num s ((q : Int) + 1) ≤ 75000 := Int.le_trans (Int.mul_le_mul (show (c : Int) + 1 ≤ 25 by omega) hn3 hnn (by omega)) (by omega)
        by_cases hpm : ((c : Int) + 1) * num s ((q : Int) + 1) < (m : Int)
        · have HE : Hid (ck s K (c + 1) m = false) := Lib.hid (ck_no (fun h => by
            have h7 := can_most s h1 (q + 1) (c + 1) m (HQ.out.2 h)
            push_cast at h7
            omega))
          push_cast
          go_wp2_with (go_at_call 41; refine (shNumber_any _ _ _ h1 h2 (by omega) (by omega)).mono ?_; rintro e w' ⟨rfl, rfl⟩)
          go_ret
          exact ⟨by rw [HE.out]; rfl, rfl⟩
        · have hpm2 : (m : Int) ≤ ((c : Int) + 1) * num s ((q : Int) + 1) := by omega
          clear hpm
          by_cases hD : Can s (q + 1) c (m - num s ((q : Int) + 1))
          · have HU := Lib.hid (ck_yes hD)
            have HE : Hid (ck s K (c + 1) m = true) := Lib.hid (ck_yes (HQ.out.1 (can_hit s q c m hD)))
            clear hD
            push_cast
            go_wp2_with (first
              | (go_at_call 41; refine (shNumber_any _ _ _ h1 h2 (by omega) (by omega)).mono ?_; rintro e w' ⟨rfl, rfl⟩)
              | (go_at_call 43; refine (IH.out (q + 1) _ (by omega) (by omega) (by omega)).mono ?_; rw [HU.out]; rintro e w2 ⟨rfl, rfl⟩))
            go_ret
            exact ⟨by rw [HE.out]; rfl, rfl⟩
          · have HU := Lib.hid (ck_no hD)
            have HQ2 : Hid (Can s q (c + 1) m ↔ Can s K (c + 1) m) := Lib.hid ((can_miss s q c m HM0.out hD).symm.trans HQ.out)
            clear hD
            push_cast
            go_wp2_with (first
              | (go_at_call 41; refine (shNumber_any _ _ _ h1 h2 (by omega) (by omega)).mono ?_; rintro e w' ⟨rfl, rfl⟩)
              | (go_at_call 43; refine (IH.out (q + 1) _ (by omega) (by omega) (by omega)).mono ?_; rw [HU.out]; rintro e w2 ⟨rfl, rfl⟩))
            go_roundw
            case rel => exact ⟨q, by go_num, by omega, by omega, HQ2, by first | rfl | trivial⟩
            case measure => simp [intOf]
theorem spec_AsManyAsSides_no (s n : Int) (w : World) (h : (s < 3 ∨ 24 < s) ∨ (n < 0 ∨ 3000 < n)) :
    Calls Tryd.prog 14 #[.int .i64 s, .int .i64 n] w (ResI false [] w) := by
  have H := Lib.hid h
  clear h
  go_enter Tryd.func14, Tryd.ntmps14
  go_wp2_with (go_at_call 34; refine (suGood_no _ _ _ H.out).mono ?_; rintro e w' ⟨rfl, rfl⟩)
  go_ret2
  exact resI_nil (Below.refl _ _)

set_option maxHeartbeats 6400000 in
theorem spec_AsManyAsSides_yes (S N : Nat) (w : World) (i3 : (3 : Int) ≤ (S : Int)) (i4 : (S : Int) ≤ 24) (hN : N ≤ 3000) :
    Calls Tryd.prog 14 #[.int .i64 S, .int .i64 N] w (ResI true (fp S S N (pl S N).toNat) w) := by
  obtain ⟨i0, hi0, hz0, hz1, hz2⟩ := info_parts infoInt
  have i1 : (0 : Int) ≤ (N : Int) := by omega
  have i2 : (N : Int) ≤ 3000 := by omega
  obtain ⟨s, hs⟩ : ∃ s : Int, s = (S : Int) := ⟨_, rfl⟩
  rw [← hs] at i3 i4
  rw [← hs]
  have h1 := i3
  have h2 := i4
  have hns := need_sides s N h1 h2 i1 i2
  have hnS : need s N ≤ S := by omega
  have p0 := pl_nn s N h1 i1
  have p1 := pl_77 s N h1 i1 i2
  have hK : (pl s N).toNat ≤ 77 := by omega
  have hKe : ((pl s N).toNat : Int) = pl s N := by omega
  have HKE := Lib.hid hKe
  have HN0 := Lib.hid (fun c => none_pl s N c (pl s N).toNat h1 (by omega) (by omega))
  have HFL := Lib.hid (fp_len s S N (pl s N).toNat)
  generalize (pl s N).toNat = K at *
  have HS := Lib.hid hs
  have hS24 : S ≤ 24 := by omega
  clear hs hKe i3 i4
  have HPA := Lib.hid (fun (m : Int) (h : 0 ≤ m) (h2 : m ≤ 3000) => show 0 ≤ pl s m ∧ pl s m ≤ 77 from ⟨pl_nn s m h1 h, pl_77 s m h1 h h2⟩)
  go_enter Tryd.func14, Tryd.ntmps14
  go_wp2_with (first
    | (go_at_call 34; refine (suGood_yes _ _ _ h1 h2 i1 i2).mono ?_; rintro e w' ⟨rfl, rfl⟩)
    | (go_at_call 35; refine (suFewest_any _ _ _ h1 h2 hN).mono ?_; rintro e w1 ⟨⟨g, cf, rfl, hr⟩, hb⟩)
    | (go_at_call 36; refine (shBelow_any _ _ _ h1 h2 i1 (by omega)).mono ?_; rintro e w' ⟨rfl, rfl⟩))
  have HR := Lib.hid hr
  clear hr
  go_loopw [1, 7, 8, 9] (fun l v p mo wr => ∃ (q : Nat) (k : Nat) (m : Int) (xs : List Int), k ≤ K ∧ 0 ≤ m ∧ m ≤ N ∧ q ≤ S ∧ p = .int .i64 k ∧ l = .int .i64 m ∧ mo = .int .i64 q ∧ need s m ≤ q ∧ Hid (1 ≤ q → None s m (q - 1) k) ∧ Hid (xs ++ fp s q m k = fp s S N K) ∧ Hid (wr.ownsRow w1.heap.size 3 1 v xs.length (i64s xs)) ∧ Below w1.heap.size w1 wr) (fun _ _ _ mo _ => (intOf mo).toNat)
  case atStart => exact ⟨S, K, N, [], Nat.le_refl _, by omega, Int.le_refl _, Nat.le_refl _, by rw [HKE.out], rfl, by rw [HS.out], hnS, Lib.hid (fun _ => HN0.out _), Lib.hid rfl, Lib.hid (World.ownsRow_nil _ _ _ _), Below.refl _ _⟩
  case round =>
    obtain ⟨q, k, m, xs, hk, hm0, hm1, hqC, rfl, rfl, rfl, hnm, hno, hx, hown, hb2⟩ := hrel
    cases q with
    | zero =>
      have hE : Hid (xs = fp s S N K) := Lib.hid (by have := hx.out; rwa [fp, List.append_nil] at this)
      obtain ⟨A, c, rfl⟩ := row_form hown.out
      clear hx
      go_wp2
      go_ret2
      have hl : xs.length = S := by rw [hE.out, HFL.out]
      have ho := own_of_row hown.out
      rw [← hE.out]
      exact ⟨A, c, rfl, ho.wide hb.size (Nat.le_refl _), hb.trans (hb2.mono hb.size)⟩
    | succ q =>
      have hqI : (((q + 1 : Nat) : Int)) = (q : Int) + 1 := by omega
      have hq0 : (0 : Int) ≤ (q : Int) := by omega
      have hq24 : (q : Int) + 1 ≤ 24 := by omega
      rw [hqI]
      have hno2 : None s m q k := by have := hno.out (by omega); simpa using this
      have hQs := sc_is s m q k h1 hm0 hnm hno2
      have HQS := Lib.hid hQs
      have hsl := sc_le s m q k
      have HAB := Lib.hid (sc_above s m q k)
      have hxl : xs.length ≤ 24 := by
        have h5 := HFL.out
        rw [← hx.out, List.length_append] at h5
        omega
      have HNX : Hid (1 ≤ q → None s (m - num s (sc s m q k : Int)) (q - 1) (sc s m q k)) := Lib.hid (fun hr => by
        obtain ⟨r, rfl⟩ : ∃ r, q = r + 1 := ⟨q - 1, by omega⟩
        simpa using none_next s m r k h1 hno2)
      obtain ⟨t, ht⟩ : ∃ t, t = sc s m q k := ⟨_, rfl⟩
      rw [← ht] at HNX HQS HAB
      have HFP : Hid (fp s (q + 1) m k = (t : Int) :: fp s q (m - num s (t : Int)) t) := Lib.hid (by rw [fp, ← ht])
      rw [← ht] at hsl
      have hpm := HPA.out m hm0 (by omega)
      have hpm0 := hpm.1
      have hpm1 := hpm.2
      have htp : (t : Int) ≤ pl s m := (fits_iff s m (t : Int) h1 hm0 (by omega)).1 HQS.out.1
      obtain ⟨t0, ht0⟩ := Int.eq_ofNat_of_zero_le (show 0 ≤ min (k : Int) (pl s m) by omega)
      have z1 : t ≤ t0 := by omega
      have z2 : (t0 : Int) ≤ pl s m := by omega
      have z3 : t0 ≤ k := by omega
      have HT0 := Lib.hid ht0
      have HFI := Lib.hid (fun (j : Nat) (h : (j : Int) ≤ pl s m) => (fits_iff s m (j : Int) h1 hm0 (by omega)).2 h)
      clear hno hno2 hQs hqI ht hpm ht0
      go_wp2_with (first
        | (go_at_call 36; refine (shBelow_any _ _ _ h1 h2 hm0 (by omega)).mono ?_; rintro e w' ⟨rfl, rfl⟩)
        | (go_at_call 42; refine (l1Least_any _ _ _).mono ?_; rw [HT0.out]; rintro e w' ⟨rfl, rfl⟩))
      go_loopw [1, 7, 8, 10] (fun l v p k2v wr2 => ∃ k2 : Nat, l = .int .i64 m ∧ v = u7 ∧ p = .int .i64 k ∧ k2v = .int .i64 k2 ∧ k2 ≤ t0 ∧ t ≤ k2 ∧ Hid (wr2.ownsRow w1.heap.size 3 1 u7 xs.length (i64s xs)) ∧ Below w1.heap.size w1 wr2) (fun _ _ _ k2v _ => (intOf k2v).toNat)
      case atStart => exact ⟨t0, rfl, rfl, rfl, rfl, Nat.le_refl _, by omega, hown, hb2⟩
      case round =>
        clear hown hb2
        obtain ⟨k2, rfl, rfl, rfl, rfl, hk2, htk, hown, hb2⟩ := hrel
        have hnn := num_nn s (k2 : Int) h1
        have hns := num_small s (k2 : Int) h1 h2 (by omega) (by omega)
        have hfit := HFI.out k2 (by omega)
        have hkI : (k2 : Int) ≤ 77 := by omega
        have hkI0 : (0 : Int) ≤ (k2 : Int) := by omega
        obtain ⟨r, hr⟩ := Int.eq_ofNat_of_zero_le (show 0 ≤ m - num s (k2 : Int) by omega)
        have hrm : (r : Int) ≤ m := by omega
        have HSC := Lib.hid (fun (wx : World) (hx : Row wx w.heap.size g (N + 1) cf (fun m => (need s m : Int))) => suCan_any s N w.heap.size g cf h1 h2 hN q r k2 wx (by omega) (by omega) (by omega) hx)
        have HRW := Lib.hid (HR.out.below hb2 (Nat.le_refl _))
        have HRE := Lib.hid hr
        by_cases hq : t = k2
        · subst hq
          have hcan : Can s t q (r : Int) := none_can h1 (by omega) (by rw [← hr]; exact HQS.out.2) (by rw [← hr]; exact HNX.out)
          have HU := Lib.hid (ck_yes hcan)
          have HX2 : Hid ((xs ++ [(t : Int)]) ++ fp s q r t = fp s S N K) := Lib.hid (by rw [← hx.out, HFP.out, ← hr]; simp)
          have HN2 : Hid (1 ≤ q → None s (r : Int) (q - 1) t) := Lib.hid (fun h => by rw [← hr]; exact HNX.out h)
          have HNR := Lib.hid (show need s (r : Int) ≤ q by rw [← hr]; exact HQS.out.2)
          clear hcan hr
          go_wp2_with (first
            | (go_at_call 41; refine (shNumber_any _ _ _ h1 h2 (by omega) (by omega)).mono ?_; rw [HRE.out]; rintro e w' ⟨rfl, rfl⟩)
            | (go_at_call 41; refine (shNumber_any _ _ _ h1 h2 (by omega) (by omega)).mono ?_; rintro e w' ⟨rfl, rfl⟩)
            | (go_at_call 43; rw [HRE.out]; refine (HSC.out _ HRW.out).mono ?_; rw [HU.out]; rintro e w2 ⟨rfl, rfl⟩)
            | (at_builtin; refine wpList_append_own _ rfl _ _ 26 rfl w1.heap.size 3 i0 (.int .i64 0) 1 8 Tryd.underlying26 hi0 hz0 hz1 hz2 rfl (by decide) _ _ _ rfl (hown.out.alloc _) ⟨wr.heap.size, 0, none⟩ 1 1 [.int .i64 (t : Int)] rfl rfl ?c1 ?c2 ?c3 ?c4 ?c5 ?_))
          case c1 =>
            intro j u hj
            match j, hj with
            | 0, hj => simp at hj; subst hj; simp [Addr.add]
          case c2 => intro u hu; simp at hu; subst hu; rfl
          case c3 => unfold maxLen; omega
          case c4 => omega
          case c5 => have := hb2.size; simp; omega
          · intro v' w5 hown' hgrow _
            rw [snoc_i64] at hown'
            have hb5 : Below w1.heap.size w1 w5 := (hb2.alloc hb2.size _).grown hgrow (by have := hb2.size; simp; omega) fun g hg => (hown.out.lt g hg).1
            have HO : Hid (w5.ownsRow w1.heap.size 3 1 v' (xs ++ [(t : Int)]).length (i64s (xs ++ [(t : Int)]))) := Lib.hid (by simpa using hown')
            clear hown' hgrow hown hb2
            go_wp2_with (go_at_call 41; refine (shNumber_any _ _ _ h1 h2 (by omega) (by omega)).mono ?_; rintro e w' ⟨rfl, rfl⟩)
            go_roundw
            case rel => exact ⟨q, t, r, xs ++ [(t : Int)], by omega, by omega, by omega, by omega, rfl, by rw [HRE.out], by go_num, HNR.out, HN2, HX2, HO, hb5⟩
            case measure => simp [intOf] <;> omega
        · have hno3 : ¬ Can s k2 q (r : Int) := fun h => HAB.out k2 (by omega) (by omega) ⟨by omega, by rw [hr]; exact (can_need h1 h).2⟩
          have HU := Lib.hid (ck_no hno3)
          have hk1 : 1 ≤ k2 := by omega
          clear hno3 hr
          go_wp2_with (first
            | (go_at_call 41; refine (shNumber_any _ _ _ h1 h2 (by omega) (by omega)).mono ?_; rintro e w' ⟨rfl, rfl⟩)
            | (go_at_call 43; rw [HRE.out]; refine (HSC.out _ HRW.out).mono ?_; rw [HU.out]; rintro e w2 ⟨rfl, rfl⟩))
          go_roundw
          case rel => exact ⟨k2 - 1, rfl, rfl, rfl, by rw [show ((k2 - 1 : Nat) : Int) = (k2 : Int) - 1 by omega], by omega, by omega, hown, hb2⟩
          case measure => simp [intOf] <;> omega
end Go.Proofs.YtiloljldefodkaaDoor
