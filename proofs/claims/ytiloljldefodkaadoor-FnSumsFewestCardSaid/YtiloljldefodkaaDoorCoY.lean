/- The law FnExactFirstFewest: the program's first list of the fewest parts is the specification's, whatever the arguments. No condition. -/
import Derived.Test.YtiloljldefodkaaDoorCoX
import Derived.Test.YtiloljldefodkaaDoorSuW
namespace Go.Proofs.YtiloljldefodkaaDoor
open Go.ChangeShapes Go.WideShapes Go.ChangeAt Go.RowKit Go.Maps

theorem hdw_scan (s m : Int) (hs : 3 ≤ s) (c K : Nat) (hk : 1 ≤ sc s m c K) (hc : 0 < W s (sc s m c K) c (m - num s (sc s m c K : Int))) :
    hd (Lw s K (c + 1) m) = (sc s m c K : Int) :: hd (Lw s (sc s m c K) c (m - num s (sc s m c K : Int))) := by
  induction K with
  | zero => have e : sc s m c 0 = 0 := rfl; omega
  | succ K ih =>
    by_cases hq : Q s m c (K + 1)
    · have e : sc s m c (K + 1) = K + 1 := sc_hit s m c (K + 1) hq
      rw [e] at hc ⊢
      have hcast : ((K + 1 : Nat) : Int) = (K : Int) + 1 := by omega
      rw [hcast] at hc ⊢
      rw [Lw_kk]
      have hne : (Lw s (K + 1) c (m - num s ((K : Int) + 1))).map (List.cons ((K : Int) + 1)) ≠ [] := by
        intro h
        rw [List.map_eq_nil_iff] at h
        exact Lw_ne _ _ _ _ hc h
      rw [hd_app _ _ hne, hd_map _ _ (Lw_ne _ _ _ _ hc)]
    · have e := sc_step s m c K hq
      rw [e] at hc hk ⊢
      rw [Lw_miss s K c m (fun h => hq ⟨by
        have := rep_nn s hs c _ ⟨K + 1, h⟩
        push_cast
        omega, by
        have := need_le s _ (rep_nn s hs c _ ⟨K + 1, h⟩) c ⟨K + 1, h⟩
        push_cast
        exact this⟩)]
      exact ih hk hc
theorem hdw_fp (s : Int) (hs : 3 ≤ s) (c : Nat) : ∀ (m : Int) (K : Nat), 0 ≤ m → need s m = c → (1 ≤ c → None s m (c - 1) K) → hd (Lw s K c m) = fp s c m K := by
  induction c with
  | zero =>
    intro m K hm hn _
    have hm0 : m = 0 := by
      rcases Int.lt_or_le 0 m with h | h
      · have := need_pos s m h; omega
      · omega
    subst hm0
    rw [Lw_k0]
    rfl
  | succ c ih =>
    intro m K hm hn h0
    have h1 : None s m c K := by simpa using h0 (by omega)
    have hq := sc_is s m c K hs hm (by omega) h1
    have hno : 1 ≤ c → None s (m - num s (sc s m c K : Int)) (c - 1) (sc s m c K) := fun h => by
      obtain ⟨r, rfl⟩ : ∃ r, c = r + 1 := ⟨c - 1, by omega⟩
      simpa using none_next s m r K hs h1
    have hq1 := hq.1
    have hq2 := hq.2
    have hk1 : 1 ≤ sc s m c K := by
      rcases Nat.eq_zero_or_pos (sc s m c K) with h | h
      · rw [h] at hq2
        simp only [show (((0 : Nat) : Int)) = 0 from rfl, num_zero, Int.sub_zero] at hq2
        omega
      · exact h
    have hp := need_put s m (sc s m c K : Int) (by omega) (by omega) hs
    have he : need s (m - num s (sc s m c K : Int)) = c := by omega
    have hw : 0 < W s (sc s m c K) c (m - num s (sc s m c K : Int)) := none_rep hs (by omega) c (Nat.le_refl _) (by have := (need_is s (m - num s (sc s m c K : Int)) (by omega)).1; rwa [he] at this) hno
    rw [hdw_scan s m hs c K hk1 hw, fp, ih _ _ (by omega) he hno]

def okw (s : Int) (k i : Nat) (m : Int) : Bool := decide (0 < W s k i m)
def hdw (s : Int) (k i : Nat) (m : Int) : List Int := hd (Lw s k i m)
theorem w_yes {s : Int} {k i : Nat} {m : Int} (h : 0 < W s k i m) : okw s k i m = true := by simp [okw, h]
theorem w_no {s : Int} {k i : Nat} {m : Int} (h : ¬ 0 < W s k i m) : okw s k i m = false ∧ hdw s k i m = [] := ⟨by simp [okw, h], by rw [hdw, Lw_nil _ _ _ _ h]; rfl⟩
theorem hd_mem_len (s : Int) (k : Nat) : ∀ (i : Nat) (m : Int), ∀ x ∈ Lw s k i m, x.length = i := by
  induction k with
  | zero =>
    intro i m x hx
    cases i with
    | zero => rw [Lw_k0] at hx; split at hx <;> simp at hx; subst hx; rfl
    | succ i => rw [Lw_0] at hx; simp at hx
  | succ k ih =>
    intro i
    induction i with
    | zero => intro m x hx; rw [Lw_k0] at hx; split at hx <;> simp at hx; subst hx; rfl
    | succ i ih2 =>
      intro m x hx
      rw [Lw_kk, List.mem_append] at hx
      rcases hx with hx | hx
      · obtain ⟨y, hy, rfl⟩ := List.mem_map.1 hx
        simp [ih2 _ y hy]
      · exact ih _ _ x hx
theorem hdw_len (s : Int) (k i : Nat) (m : Int) : (hdw s k i m).length ≤ i := by
  unfold hdw
  cases h : Lw s k i m with
  | nil => simp [hd]
  | cons x xs =>
    have := hd_mem_len s k i m x (by rw [h]; simp)
    simp [hd, this]

set_option maxHeartbeats 3200000 in
theorem suFirst_any (s : Int) (N0 base gf cf : Nat) (h1 : 3 ≤ s) (h2 : s ≤ 24) (hN0 : N0 ≤ 3000) (c : Nat) : ∀ (m : Nat) (K : Nat) (w : World), c ≤ 24 → m ≤ N0 → K ≤ 77 → Row w base gf (N0 + 1) cf (fun m => (need s m : Int)) →
    Calls Tryd.prog 37 #[.int .i64 s, .int .i64 m, .int .i64 c, .int .i64 K, .slice (some ⟨gf, 0, none⟩) (N0 + 1) cf] w (ResI (okw s K c m) (hdw s K c m) w) := by
  induction c with
  | zero =>
    intro m K w _ hm hK hrow
    by_cases hm0 : m = 0
    · subst hm0
      have HE : Hid (okw s K 0 ((0 : Nat) : Int) = true ∧ hdw s K 0 ((0 : Nat) : Int) = []) := Lib.hid ⟨w_yes (by rw [W_k0]; simp), by rw [hdw, Lw_k0]; rfl⟩
      clear hrow
      go_enter Tryd.func37, Tryd.ntmps37
      go_wp2_with fail
      go_ret2
      have h3 := HE.out
      rw [show (((0 : Nat) : Int)) = 0 from rfl] at h3
      first
        | (rw [h3.1, h3.2]; exact resI_nil (Below.refl _ _))
        | (rw [HE.out.1, HE.out.2]; exact resI_nil (Below.refl _ _))
    · have HE : Hid (okw s K 0 (m : Int) = false ∧ hdw s K 0 (m : Int) = []) := Lib.hid (w_no (by rw [W_k0, if_neg (by omega)]; omega))
      have hmb : ((m : Int) == 0) = false := by simp; omega
      clear hrow hm0
      go_enter Tryd.func37, Tryd.ntmps37
      go_wp2_with fail
      go_ret2
      rw [HE.out.1, HE.out.2]
      exact resI_nil (Below.refl _ _)
  | succ c ih =>
    intro m K w hc hm hK hrow
    obtain ⟨i0, hi0, hz0, hz1, hz2⟩ := info_parts infoInt
    have cn := hrow.cell (j := m) (by omega)
    have hgl := hrow.lt
    have hmI : (m : Int) < (N0 : Int) + 1 := by omega
    have hmI0 : (0 : Int) ≤ (m : Int) := by omega
    have hcast : ((c + 1 : Nat) : Int) = (c : Int) + 1 := by omega
    have hcI : (c : Int) + 1 ≤ 24 := by omega
    have hcb : ((c : Int) + 1 == 0) = false := by simp; omega
    rw [hcast]
    clear hcast
    by_cases hnd : c + 1 < need s m
    · have HE : Hid (okw s K (c + 1) (m : Int) = false ∧ hdw s K (c + 1) (m : Int) = []) := Lib.hid (w_no (fun h => by
        have := need_le s m (by omega) (c + 1) ⟨K, h⟩
        omega))
      have hndI : (c : Int) + 1 < (need s m : Int) := by omega
      have hm00 : m ≠ 0 := fun h => by
        subst h
        rw [show (((0 : Nat) : Int)) = 0 from rfl, need_zero] at hnd
        omega
      generalize (need s m : Int) = nd at *
      clear hnd hrow
      have hmb : ((m : Int) == 0) = false := by simp; omega
      clear hm00
      go_enter Tryd.func37, Tryd.ntmps37
      go_wp2_with fail
      go_ret2
      rw [HE.out.1, HE.out.2]
      exact resI_nil (Below.refl _ _)
    · have hndI : (need s m : Int) ≤ (c : Int) + 1 := by omega
      have HROW := Lib.hid hrow
      have IH : Hid (∀ (k : Nat) (x : Int) (w : World), 0 ≤ x → x ≤ N0 → k ≤ 77 → Row w base gf (N0 + 1) cf (fun m => (need s m : Int)) → Calls Tryd.prog 37 #[.int .i64 s, .int .i64 x, .int .i64 c, .int .i64 ((k : Nat) : Int), .slice (some ⟨gf, 0, none⟩) (N0 + 1) cf] w (ResI (okw s k c x) (hdw s k c x) w)) := Lib.hid (fun k x w hx0 hx1 hk hr => by
        have h9 := ih x.toNat k w (by omega) (by omega) hk hr
        rw [Int.toNat_of_nonneg hx0] at h9
        exact h9)
      have p0 := pl_nn s m h1 (by omega)
      have p1 := pl_77 s m h1 (by omega) (by omega)
      have HPL := Lib.hid (fun q : Int => fits_iff s m q h1 hmI0)
      have q0 : (0 : Int) ≤ min (K : Int) (pl s m) := by omega
      have q2 : min (K : Int) (pl s m) ≤ (K : Int) := by omega
      have q3 : min (K : Int) (pl s m) ≤ pl s m := by omega
      obtain ⟨t, ht⟩ := Int.eq_ofNat_of_zero_le q0
      have HT : Hid (Lw s t (c + 1) m = Lw s K (c + 1) m) := by
        refine Lib.hid ?_
        by_cases hjt : t = K
        · subst hjt; rfl
        · have e : K = t + (K - t) := by omega
          have h5 := fits_iff s m ((t : Int) + 1) h1 hmI0 (by omega)
          have h6 := Lw_down s h1 c m t (K - t) (by
            rcases Int.lt_or_le (m : Int) (num s ((t : Int) + 1)) with h | h
            · exact h
            · have := h5.1 h; omega)
          rw [← e] at h6
          exact h6.symm
      rw [ht] at q2 q3
      have HTT := Lib.hid ht
      have HW : Hid (∀ k : Nat, Lw s k (c + 1) m = Lw s K (c + 1) m → (0 < W s k (c + 1) m ↔ 0 < W s K (c + 1) m)) := Lib.hid (fun k h => by rw [← Lw_len, ← Lw_len, h])
      have HMO := Lib.hid (fun (k : Nat) (h : 0 < W s k (c + 1) m) => W_most s h1 k (c + 1) m h)
      have HNB := Lib.hid (fun (q : Nat) (h : (q : Int) + 1 ≤ pl s m) => show num s ((q : Int) + 1) ≤ 3000 from by have := (fits_iff s m ((q : Int) + 1) h1 hmI0 (by omega)).2 (by omega); omega)
      generalize (need s m : Int) = nd at *
      clear ht q0 hrow ih hnd
      cases hbz : ((m : Int) == 0)
      · go_enter Tryd.func37, Tryd.ntmps37
        go_wp2_with (first
          | (go_at_call 36; refine (shBelow_any _ _ _ h1 h2 hmI0 (by omega)).mono ?_; rintro e w' ⟨rfl, rfl⟩)
          | (go_at_call 42; refine (l1Least_any _ _ _).mono ?_; rw [HTT.out]; rintro e w' ⟨rfl, rfl⟩))
        go_loopw [12] (fun p wr => ∃ q : Nat, p = .int .i64 q ∧ q ≤ K ∧ (q : Int) ≤ pl s m ∧ Hid (Lw s q (c + 1) m = Lw s K (c + 1) m) ∧ Below w.heap.size w wr) (fun p _ => (intOf p).toNat)
        case atStart => exact ⟨t, rfl, by omega, q3, HT, Below.refl _ _⟩
        case round =>
          obtain ⟨q, rfl, hqj, hqp, HQ, hb⟩ := hrel
          cases q with
          | zero =>
            have HE : Hid (okw s K (c + 1) m = false ∧ hdw s K (c + 1) m = []) := by
              refine Lib.hid (w_no (fun h => ?_))
              rw [← Lw_len, ← HQ.out, Lw_0] at h
              simp at h
            go_wp2_with fail
            go_ret2
            rw [HE.out.1, HE.out.2]
            exact resI_nil hb
          | succ q =>
            have hfit := (HPL.out ((q : Int) + 1) (by omega)).2 (by omega)
            have hnn := num_nn s ((q : Int) + 1) h1
            have hge : (1 : Int) ≤ (q : Int) + 1 := by omega
            have hqK : (q : Int) + 1 ≤ 77 := by omega
            have hn3 := HNB.out q (by omega)
            have hx0 : (0 : Int) ≤ ((c : Int) + 1) * num s ((q : Int) + 1) := Int.mul_nonneg (by omega) hnn
            have hx1 : ((c : Int) + 1) * num s ((q : Int) + 1) ≤ 75000 := Int.le_trans (Int.mul_le_mul (show (c : Int) + 1 ≤ 25 by omega) hn3 hnn (by omega)) (by omega)
            by_cases hpm : ((c : Int) + 1) * num s ((q : Int) + 1) < (m : Int)
            · have HE : Hid (okw s K (c + 1) m = false ∧ hdw s K (c + 1) m = []) := by
                refine Lib.hid (w_no (fun h => ?_))
                rw [← Lw_len, ← HQ.out, Lw_len] at h
                have h7 := HMO.out _ h
                push_cast at h7
                omega
              push_cast
              go_wp2_with (go_at_call 41; refine (shNumber_any _ _ _ h1 h2 (by omega) (by omega)).mono ?_; rintro e w' ⟨rfl, rfl⟩)
              go_ret2
              rw [HE.out.1, HE.out.2]
              exact resI_nil hb
            · have hpm2 : (m : Int) ≤ ((c : Int) + 1) * num s ((q : Int) + 1) := by omega
              clear hpm
              have hrw : ∀ W0 : World, Below w.heap.size w W0 → Row W0 base gf (N0 + 1) cf (fun m => (need s m : Int)) := fun W0 h => HROW.out.below h (Nat.le_refl _)
              have HRW := Lib.hid hrw
              clear hrw
              by_cases hD : 0 < W s (q + 1) c (m - num s ((q : Int) + 1))
              · have HU := Lib.hid (w_yes hD)
                have HF : Hid (okw s K (c + 1) m = true ∧ hdw s K (c + 1) m = ((q : Int) + 1) :: hdw s (q + 1) c (m - num s ((q : Int) + 1))) := by
                  have h7 : Lw s K (c + 1) m = (Lw s (q + 1) c (m - num s ((q : Int) + 1))).map (List.cons ((q : Int) + 1)) ++ Lw s q (c + 1) m := by rw [← HQ.out, Lw_kk]
                  have h8 := Lw_ne _ _ _ _ hD
                  have h9 : (Lw s (q + 1) c (m - num s ((q : Int) + 1))).map (List.cons ((q : Int) + 1)) ≠ [] := by
                    intro h
                    rw [List.map_eq_nil_iff] at h
                    exact h8 h
                  refine Lib.hid ⟨w_yes (by rw [← Lw_len, h7, List.length_append]; have := Nat.pos_of_ne_zero (fun e => h9 (List.eq_nil_of_length_eq_zero e)); omega), ?_⟩
                  rw [hdw, h7, hd_app _ _ h9, hd_map _ _ h8, hdw]
                have hlf := hdw_len s (q + 1) c (m - num s ((q : Int) + 1))
                clear hD
                push_cast
                go_wp2_with (first
                  | (go_at_call 41; refine (shNumber_any _ _ _ h1 h2 (by omega) (by omega)).mono ?_; rintro e w' ⟨rfl, rfl⟩)
                  | (go_at_call 37; refine (IH.out (q + 1) _ _ (by omega) (by omega) (by omega) (HRW.out _ hb)).mono ?_; rw [HU.out]; rintro e w2 ⟨A, ca, rfl, hown, hb2⟩; have HO := Lib.hid hown; clear hown)
                  | (at_builtin; refine wpList_append_src rfl _ _ 26 rfl w.heap.size 3 i0 (.int .i64 0) 8 Tryd.underlying26 hi0 hz0 hz1 hz2 rfl (.slice (some ⟨w2.heap.size, 0, none⟩) 1 1) 1 [.int .i64 ((q : Int) + 1)] rfl (World.ownsRow_lit w2 #[.int .i64 ((q : Int) + 1)] 1 (Nat.le_trans hb.size hb2.size) (by unfold maxLen; omega) rfl) A _ ca (i64s (hdw s (q + 1) c (m - num s ((q : Int) + 1)))) rfl (by simp) w2.heap.size (HO.out.rd.below ((Below.refl _ _).alloc (Nat.le_refl _) _) (Nat.le_refl _)) (i64s_one _) (by unfold maxLen; omega) (by omega) (by have := hb.size; have := hb2.size; simp; omega) ?_; intro v' w3 hown' hgrow))
                have hb3 : Below w.heap.size w w3 := ((hb.trans (hb2.mono hb.size)).alloc (Nat.le_trans hb.size hb2.size) _).grown hgrow (by have := hb.size; have := hb2.size; simp; omega) fun g hg => by
                  have := hb.size
                  have := hb2.size
                  simp [Value.ownBlock] at hg
                  omega
                have hlen : 1 + (hdw s (q + 1) c (m - num s ((q : Int) + 1))).length = (((q : Int) + 1) :: hdw s (q + 1) c (m - num s ((q : Int) + 1))).length := by simp; omega
                obtain ⟨A', c', rfl⟩ := row_form hown'
                go_ret2
                rw [HF.out.1, HF.out.2]
                refine ⟨A', c', ?_, own_of_row hown', hb3⟩
                rw [← hlen]
                rfl
              · have HU := Lib.hid (w_no hD)
                have HQ2 : Hid (Lw s q (c + 1) m = Lw s K (c + 1) m) := Lib.hid (by rw [← Lw_miss s q c m hD]; exact HQ.out)
                clear hD
                push_cast
                go_wp2_with (first
                  | (go_at_call 41; refine (shNumber_any _ _ _ h1 h2 (by omega) (by omega)).mono ?_; rintro e w' ⟨rfl, rfl⟩)
                  | (go_at_call 37; refine (IH.out (q + 1) _ _ (by omega) (by omega) (by omega) (HRW.out _ hb)).mono ?_; rw [HU.out.1, HU.out.2]; rintro e w2 ⟨A, ca, rfl, hown, hb2⟩))
                go_roundw
                case rel => exact ⟨q, by go_num, by omega, by omega, HQ2, hb.trans (hb2.mono hb.size)⟩
                case measure => simp [intOf]
      · go_enter Tryd.func37, Tryd.ntmps37
        go_wp2_with (first
          | (go_at_call 36; refine (shBelow_any _ _ _ h1 h2 hmI0 (by omega)).mono ?_; rintro e w' ⟨rfl, rfl⟩)
          | (go_at_call 42; refine (l1Least_any _ _ _).mono ?_; rw [HTT.out]; rintro e w' ⟨rfl, rfl⟩))
        go_loopw [12] (fun p wr => ∃ q : Nat, p = .int .i64 q ∧ q ≤ K ∧ (q : Int) ≤ pl s m ∧ Hid (Lw s q (c + 1) m = Lw s K (c + 1) m) ∧ Below w.heap.size w wr) (fun p _ => (intOf p).toNat)
        case atStart => exact ⟨t, rfl, by omega, q3, HT, Below.refl _ _⟩
        case round =>
          obtain ⟨q, rfl, hqj, hqp, HQ, hb⟩ := hrel
          cases q with
          | zero =>
            have HE : Hid (okw s K (c + 1) m = false ∧ hdw s K (c + 1) m = []) := by
              refine Lib.hid (w_no (fun h => ?_))
              rw [← Lw_len, ← HQ.out, Lw_0] at h
              simp at h
            go_wp2_with fail
            go_ret2
            rw [HE.out.1, HE.out.2]
            exact resI_nil hb
          | succ q =>
            have hfit := (HPL.out ((q : Int) + 1) (by omega)).2 (by omega)
            have hnn := num_nn s ((q : Int) + 1) h1
            have hge : (1 : Int) ≤ (q : Int) + 1 := by omega
            have hqK : (q : Int) + 1 ≤ 77 := by omega
            have hn3 := HNB.out q (by omega)
            have hx0 : (0 : Int) ≤ ((c : Int) + 1) * num s ((q : Int) + 1) := Int.mul_nonneg (by omega) hnn
            have hx1 : ((c : Int) + 1) * num s ((q : Int) + 1) ≤ 75000 := Int.le_trans (Int.mul_le_mul (show (c : Int) + 1 ≤ 25 by omega) hn3 hnn (by omega)) (by omega)
            by_cases hpm : ((c : Int) + 1) * num s ((q : Int) + 1) < (m : Int)
            · have HE : Hid (okw s K (c + 1) m = false ∧ hdw s K (c + 1) m = []) := by
                refine Lib.hid (w_no (fun h => ?_))
                rw [← Lw_len, ← HQ.out, Lw_len] at h
                have h7 := HMO.out _ h
                push_cast at h7
                omega
              push_cast
              go_wp2_with (go_at_call 41; refine (shNumber_any _ _ _ h1 h2 (by omega) (by omega)).mono ?_; rintro e w' ⟨rfl, rfl⟩)
              go_ret2
              rw [HE.out.1, HE.out.2]
              exact resI_nil hb
            · have hpm2 : (m : Int) ≤ ((c : Int) + 1) * num s ((q : Int) + 1) := by omega
              clear hpm
              have hrw : ∀ W0 : World, Below w.heap.size w W0 → Row W0 base gf (N0 + 1) cf (fun m => (need s m : Int)) := fun W0 h => HROW.out.below h (Nat.le_refl _)
              have HRW := Lib.hid hrw
              clear hrw
              by_cases hD : 0 < W s (q + 1) c (m - num s ((q : Int) + 1))
              · have HU := Lib.hid (w_yes hD)
                have HF : Hid (okw s K (c + 1) m = true ∧ hdw s K (c + 1) m = ((q : Int) + 1) :: hdw s (q + 1) c (m - num s ((q : Int) + 1))) := by
                  have h7 : Lw s K (c + 1) m = (Lw s (q + 1) c (m - num s ((q : Int) + 1))).map (List.cons ((q : Int) + 1)) ++ Lw s q (c + 1) m := by rw [← HQ.out, Lw_kk]
                  have h8 := Lw_ne _ _ _ _ hD
                  have h9 : (Lw s (q + 1) c (m - num s ((q : Int) + 1))).map (List.cons ((q : Int) + 1)) ≠ [] := by
                    intro h
                    rw [List.map_eq_nil_iff] at h
                    exact h8 h
                  refine Lib.hid ⟨w_yes (by rw [← Lw_len, h7, List.length_append]; have := Nat.pos_of_ne_zero (fun e => h9 (List.eq_nil_of_length_eq_zero e)); omega), ?_⟩
                  rw [hdw, h7, hd_app _ _ h9, hd_map _ _ h8, hdw]
                have hlf := hdw_len s (q + 1) c (m - num s ((q : Int) + 1))
                clear hD
                push_cast
                go_wp2_with (first
                  | (go_at_call 41; refine (shNumber_any _ _ _ h1 h2 (by omega) (by omega)).mono ?_; rintro e w' ⟨rfl, rfl⟩)
                  | (go_at_call 37; refine (IH.out (q + 1) _ _ (by omega) (by omega) (by omega) (HRW.out _ hb)).mono ?_; rw [HU.out]; rintro e w2 ⟨A, ca, rfl, hown, hb2⟩; have HO := Lib.hid hown; clear hown)
                  | (at_builtin; refine wpList_append_src rfl _ _ 26 rfl w.heap.size 3 i0 (.int .i64 0) 8 Tryd.underlying26 hi0 hz0 hz1 hz2 rfl (.slice (some ⟨w2.heap.size, 0, none⟩) 1 1) 1 [.int .i64 ((q : Int) + 1)] rfl (World.ownsRow_lit w2 #[.int .i64 ((q : Int) + 1)] 1 (Nat.le_trans hb.size hb2.size) (by unfold maxLen; omega) rfl) A _ ca (i64s (hdw s (q + 1) c (m - num s ((q : Int) + 1)))) rfl (by simp) w2.heap.size (HO.out.rd.below ((Below.refl _ _).alloc (Nat.le_refl _) _) (Nat.le_refl _)) (i64s_one _) (by unfold maxLen; omega) (by omega) (by have := hb.size; have := hb2.size; simp; omega) ?_; intro v' w3 hown' hgrow))
                have hb3 : Below w.heap.size w w3 := ((hb.trans (hb2.mono hb.size)).alloc (Nat.le_trans hb.size hb2.size) _).grown hgrow (by have := hb.size; have := hb2.size; simp; omega) fun g hg => by
                  have := hb.size
                  have := hb2.size
                  simp [Value.ownBlock] at hg
                  omega
                have hlen : 1 + (hdw s (q + 1) c (m - num s ((q : Int) + 1))).length = (((q : Int) + 1) :: hdw s (q + 1) c (m - num s ((q : Int) + 1))).length := by simp; omega
                obtain ⟨A', c', rfl⟩ := row_form hown'
                go_ret2
                rw [HF.out.1, HF.out.2]
                refine ⟨A', c', ?_, own_of_row hown', hb3⟩
                rw [← hlen]
                rfl
              · have HU := Lib.hid (w_no hD)
                have HQ2 : Hid (Lw s q (c + 1) m = Lw s K (c + 1) m) := Lib.hid (by rw [← Lw_miss s q c m hD]; exact HQ.out)
                clear hD
                push_cast
                go_wp2_with (first
                  | (go_at_call 41; refine (shNumber_any _ _ _ h1 h2 (by omega) (by omega)).mono ?_; rintro e w' ⟨rfl, rfl⟩)
                  | (go_at_call 37; refine (IH.out (q + 1) _ _ (by omega) (by omega) (by omega) (HRW.out _ hb)).mono ?_; rw [HU.out.1, HU.out.2]; rintro e w2 ⟨A, ca, rfl, hown, hb2⟩))
                go_roundw
                case rel => exact ⟨q, by go_num, by omega, by omega, HQ2, hb.trans (hb2.mono hb.size)⟩
                case measure => simp [intOf]
theorem spec_FirstFewest_no (s n : Int) (w : World) (h : (s < 3 ∨ 24 < s) ∨ (n < 0 ∨ 3000 < n)) :
    Calls Tryd.prog 8 #[.int .i64 s, .int .i64 n] w (ResI false [] w) := by
  have H := Lib.hid h
  clear h
  go_enter Tryd.func8, Tryd.ntmps8
  go_wp2_with (go_at_call 34; refine (suGood_no _ _ _ H.out).mono ?_; rintro e w' ⟨rfl, rfl⟩)
  go_ret2
  exact resI_nil (Below.refl _ _)
theorem impl_FirstFewest_no (s n : Int) (w : World) (h : (s < 3 ∨ 24 < s) ∨ (n < 0 ∨ 3000 < n)) :
    Calls Tryd.prog 7 #[.int .i64 s, .int .i64 n] w (ResI false [] w) := by
  have H := Lib.hid h
  clear h
  go_enter Tryd.func7, Tryd.ntmps7
  go_wp2_with (go_at_call 30; refine (assum_no _ _ _ H.out).mono ?_; rintro e w' ⟨rfl, rfl⟩)
  go_ret2
  exact resI_nil (Below.refl _ _)

theorem okhd (s : Int) (N : Nat) (h1 : 3 ≤ s) (hN : N ≤ 3000) : okw s (pl s N).toNat (need s N) N = true ∧ hdw s (pl s N).toNat (need s N) N = fp s (need s N) N (pl s N).toNat := by
  have i1 : (0 : Int) ≤ (N : Int) := by omega
  have p0 := pl_nn s N h1 i1
  have hno : 1 ≤ need s N → None s N (need s N - 1) (pl s N).toNat := fun _ => none_pl s N _ _ h1 i1 (by omega)
  exact ⟨w_yes (none_rep h1 i1 (need s N) (Nat.le_refl _) (need_is s N i1).1 hno), hdw_fp s h1 (need s N) N _ i1 rfl hno⟩
set_option maxHeartbeats 800000 in
theorem spec_FirstFewest_yes (s : Int) (N : Nat) (w : World) (h1 : 3 ≤ s) (h2 : s ≤ 24) (hN : N ≤ 3000) :
    Calls Tryd.prog 8 #[.int .i64 s, .int .i64 N] w (ResI true (fp s (need s N) N (pl s N).toNat) w) := by
  have i1 : (0 : Int) ≤ (N : Int) := by omega
  have i2 : (N : Int) ≤ 3000 := by omega
  have p0 := pl_nn s N h1 i1
  have p1 := pl_77 s N h1 i1 i2
  have hns := need_sides s N h1 h2 i1 i2
  have HOK := Lib.hid (okhd s N h1 hN)
  obtain ⟨t, ht⟩ := Int.eq_ofNat_of_zero_le p0
  have HT := Lib.hid ht
  have HSF := Lib.hid (fun (g cf : Nat) (w w1 : World) (hr : Row w1 w.heap.size g (N + 1) cf (fun m => (need s m : Int))) => suFirst_any s N w.heap.size g cf h1 h2 hN (need s N) N (pl s N).toNat w1 (by omega) (Nat.le_refl _) (by omega) hr)
  rw [show (pl s N).toNat = t by omega] at HSF HOK
  rw [show (pl s N).toNat = t by omega]
  clear ht
  go_enter Tryd.func8, Tryd.ntmps8
  go_wp2_with (first
    | (go_at_call 34; refine (suGood_yes _ _ _ h1 h2 i1 i2).mono ?_; rintro e w' ⟨rfl, rfl⟩)
    | (go_at_call 35; refine (suFewest_any _ _ _ h1 h2 hN).mono ?_; rintro e w1 ⟨⟨g, cf, rfl, hr⟩, hb⟩; have hcl := hr.cell (j := N) (by omega); have HR := Lib.hid hr; clear hr)
    | (go_at_call 36; refine (shBelow_any _ _ _ h1 h2 i1 (by omega)).mono ?_; rintro e w' ⟨rfl, rfl⟩)
    | (go_at_call 37; rw [HT.out]; refine (HSF.out g cf w _ HR.out).mono ?_; rw [HOK.out.1, HOK.out.2]; rintro e w2 ⟨A, c, rfl, ho, hb2⟩))
  go_ret2
  exact ⟨A, c, rfl, ho.wide hb.size (Nat.le_refl _), hb.trans (hb2.mono hb.size)⟩
set_option maxHeartbeats 800000 in
theorem impl_FirstFewest_yes (s : Int) (N : Nat) (w : World) (h1 : 3 ≤ s) (h2 : s ≤ 24) (hN : N ≤ 3000) (ht : Tabd w) :
    Calls Tryd.prog 7 #[.int .i64 s, .int .i64 N] w (ResI true (fp s (need s N) N (pl s N).toNat) w) := by
  have i1 : (0 : Int) ≤ (N : Int) := by omega
  have i2 : (N : Int) ≤ 3000 := by omega
  have hns := need_sides s N h1 h2 i1 i2
  have HFL := Lib.hid (fp_len s (need s N) N (pl s N).toNat)
  have HTB := Lib.hid ht
  have HNP := Lib.hid fun w => numbersByPlace_any s N w h1 h2 hN
  have HNU := Lib.hid fun (base0 g0 c0 : Nat) (w : World) hnb hT hg => needsUpTo_any s N base0 g0 c0 w h1 h2 hN hnb hT hg
  have HFP := Lib.hid fun (b base0 g0 c0 : Nat) (w : World) hnb hm => firstPlaces_any s N (need s N) b base0 g0 c0 w h1 h2 hN hnb (by omega) (Nat.le_refl _) hm
  go_enter Tryd.func7, Tryd.ntmps7
  go_wp2_with (first
    | (go_at_call 30; refine (assum_yes _ _ _ h1 h2 i1 i2).mono ?_; rintro e w' ⟨rfl, rfl⟩)
    | (go_at_call 31; refine (HNP.out _).mono ?_; rintro e wn ⟨⟨gn, cn, rfl, hrn⟩, hbn⟩; have HRn := Lib.hid hrn; clear hrn)
    | (go_at_call 32; refine (HNU.out _ _ _ _ HRn.out (HTB.out.below hbn).tab (HTB.out.below hbn).lt).mono ?_; rintro e w1 ⟨⟨b, rfl, hle0, hm⟩, hbx⟩; have hb := hbn.trans (hbx.mono hbn.size); have hle := Nat.le_trans hbn.size hle0; have HM := Lib.hid hm; have HR1 := Lib.hid (HRn.out.below hbx (Nat.le_refl _)); clear hm hle0)
    | (at_lookup; refine wpList_lookup_own_int _ rfl _ _ 49 rfl 3 3 .i64 keyI Tryd.underlying49 Tryd.underlying3 (zeroI _) b (N + 1) _ rfl HM.out _ _ rfl (keyOf_int_mk Tryd.underlying3 (wf64 _ (by omega) (by omega))) ?_; intro c hat hwc; have hce := look_need s (N + 1) N (by omega) hat; have HCE := Lib.hid hce; clear hat hwc hce)
    | (go_at_call 33; rw [HCE.out]; refine (HFP.out _ _ _ _ _ HR1.out HM.out).mono ?_; rintro e w2 ⟨⟨A, c2, rfl, ho⟩, hb2⟩))
  go_ret2
  refine ⟨A, c2, ?_, ho.wide hb.size (Nat.le_refl _), hb.trans (hb2.mono hb.size)⟩
  rw [HFL.out]
  rfl
end Go.Proofs.YtiloljldefodkaaDoor
