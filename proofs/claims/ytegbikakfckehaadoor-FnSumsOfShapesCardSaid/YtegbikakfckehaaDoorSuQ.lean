/- Three triangles: all of them in order; the specification's loops. -/
import Derived.Test.YtegbikakfckehaaDoorSuI
namespace Go.Proofs.YtegbikakfckehaaDoor
open Go.ChangeShapes Go.WideShapes Go.ChangeAt Go.RowKit

/-- The falling lists of i places in 0, .., k whose numbers are m together, the greatest first. -/
def Lz (s : Int) : Nat → Nat → Int → List (List Int)
  | 0, 0, m => if m = 0 then [[]] else []
  | 0, i + 1, m => (Lz s 0 i m).map (List.cons 0)
  | k + 1, 0, m => Lz s k 0 m
  | k + 1, i + 1, m => (Lz s (k + 1) i (m - num s ((k : Int) + 1))).map (List.cons ((k : Int) + 1)) ++ Lz s k (i + 1) m
termination_by k i => (k, i)
theorem Lz_k0 (s : Int) (k : Nat) (m : Int) : Lz s k 0 m = if m = 0 then [[]] else [] := by
  induction k with
  | zero => rw [Lz]
  | succ k ih => rw [Lz]; exact ih
theorem Lz_neg (s : Int) (hs : 3 ≤ s) (k : Nat) : ∀ (i : Nat) (m : Int), m < 0 → Lz s k i m = [] := by
  induction k with
  | zero =>
    intro i
    induction i with
    | zero => intro m h; rw [Lz_k0, if_neg (by omega)]
    | succ i ih2 => intro m h; rw [Lz, ih2 m h]; rfl
  | succ k ih =>
    intro i
    induction i with
    | zero => intro m h; rw [Lz_k0, if_neg (by omega)]
    | succ i ih2 =>
      intro m h
      have := num_nn s ((k : Int) + 1) hs
      rw [Lz, ih _ _ h, ih2 (m - num s ((k : Int) + 1)) (by omega)]
      rfl
/-- What is left to come from the first place a on. -/
def rem (s : Int) (i : Nat) (m : Int) (a : Int) : List (List Int) := if a < 0 then [] else Lz s a.toNat i m
theorem rem_nat (s : Int) (i : Nat) (m : Int) (k : Nat) : rem s i m (k : Int) = Lz s k i m := by
  rw [rem, if_neg (by omega)]
  simp
theorem rem_step (s : Int) (i : Nat) (m a : Int) (ha : 0 ≤ a) : rem s (i + 1) m a = (rem s i (m - num s a) a).map (List.cons a) ++ rem s (i + 1) m (a - 1) := by
  obtain ⟨k, rfl⟩ := Int.eq_ofNat_of_zero_le ha
  rw [rem_nat, rem_nat]
  cases k with
  | zero =>
    rw [Lz]
    simp [rem, num_zero]
  | succ k =>
    have e : (((k + 1 : Nat) : Int)) - 1 = (k : Int) := by omega
    rw [e, rem_nat, Lz]
    push_cast
    rfl
theorem rem_down (s : Int) (hs : 3 ≤ s) (i : Nat) (m : Int) (k d : Nat) (h : m < num s ((k : Int) + 1)) : Lz s (k + d) (i + 1) m = Lz s k (i + 1) m := by
  induction d with
  | zero => rfl
  | succ d ih =>
    have h1 := num_mono_le s hs (a := (k : Int) + 1) (b := ((k + d : Nat) : Int) + 1) (by omega) (by omega)
    rw [← Nat.add_assoc, Lz, Lz_neg s hs (k + d + 1) i (m - num s (((k + d : Nat) : Int) + 1)) (by omega)]
    exact ih
theorem Lz_one (s : Int) (hs : 3 ≤ s) (r : Int) (hr : 0 ≤ r) (k : Nat) : Lz s k 1 r = if pl s r ≤ k ∧ num s (pl s r) = r then [[pl s r]] else [] := by
  obtain ⟨q0, q1, q2⟩ := pl_is s r hs hr
  induction k with
  | zero =>
    rw [Lz, Lz_k0]
    by_cases h : r = 0
    · subst h
      rw [pl_zero s hs]
      simp [num_zero]
    · rw [if_neg h, if_neg]
      · rfl
      · rintro ⟨h1, h2⟩
        have e : pl s r = 0 := by omega
        rw [e, num_zero] at h2
        omega
  | succ k ih =>
    rw [Lz, Lz_k0, ih]
    by_cases h : r - num s ((k : Int) + 1) = 0
    · have e : pl s r = (k : Int) + 1 := by
        have h1 := (fits_iff s r ((k : Int) + 1) hs hr (by omega)).1 (by omega)
        rcases Int.lt_or_eq_of_le h1 with h2 | h2
        · have := num_mono_lt s hs (by omega) h2
          omega
        · omega
      rw [if_pos h, e, if_neg (by omega), if_pos ⟨by push_cast; omega, by omega⟩]
      rfl
    · rw [if_neg h]
      by_cases h1 : pl s r ≤ k ∧ num s (pl s r) = r
      · rw [if_pos h1, if_pos ⟨by push_cast; omega, h1.2⟩]
        rfl
      · rw [if_neg h1, if_neg]
        · rfl
        · rintro ⟨h2, h3⟩
          have e : pl s r = (k : Int) + 1 := by
            have : ¬ pl s r ≤ k := fun h4 => h1 ⟨h4, h3⟩
            push_cast at h2
            omega
          rw [e] at h3
          omega

/-- How many there are: sums of at most so many parts. -/
def Zc (s : Int) (k : Nat) (m : Int) : Nat → Nat
  | 0 => W s k 0 m
  | i + 1 => Zc s k m i + W s k (i + 1) m
theorem Zc_zero (s : Int) (m : Int) (i : Nat) : Zc s 0 m i = if m = 0 then 1 else 0 := by
  induction i with
  | zero => rw [Zc, W_k0]
  | succ i ih => rw [Zc, ih, W_00, if_neg (show ¬ (i + 1 = 0 ∧ m = 0) by omega)]; omega
theorem Zc_step (s : Int) (k : Nat) (m : Int) (i : Nat) : Zc s (k + 1) m (i + 1) = Zc s (k + 1) (m - num s ((k : Int) + 1)) i + Zc s k m (i + 1) := by
  induction i with
  | zero =>
    simp only [Zc, W_kk, W_k0]
    omega
  | succ i ih =>
    rw [Zc, ih, W_kk]
    simp only [Zc]
    omega
theorem Lz_len (s : Int) (k : Nat) : ∀ (i : Nat) (m : Int), (Lz s k i m).length = Zc s k m i := by
  induction k with
  | zero =>
    intro i
    induction i with
    | zero => intro m; rw [Lz_k0, Zc, W_k0]; split <;> rfl
    | succ i ih2 => intro m; rw [Lz, List.length_map, ih2, Zc_zero, Zc_zero]
  | succ k ih =>
    intro i
    induction i with
    | zero => intro m; rw [Lz_k0, Zc, W_k0]; split <;> rfl
    | succ i ih2 => intro m; rw [Lz, List.length_append, List.length_map, ih2, ih, Zc_step]
theorem Zc_small (s : Int) (hs : 3 ≤ s) (k : Nat) (m : Int) (hk : k ≤ 77) (hm : m ≤ 3000) : (Zc s k m 3 : Int) ≤ 4000000000000000000 := by
  have h0 := W_few s hs k 0 m hk (by omega) hm
  have h1 := W_few s hs k 1 m hk (by omega) hm
  have h2 := W_few s hs k 2 m hk (by omega) hm
  have h3 := W_few s hs k 3 m hk (by omega) hm
  have e : Zc s k m 3 = W s k 0 m + W s k 1 m + W s k 2 m + W s k 3 m := rfl
  omega

/-- The first of them. -/
def hd : List (List Int) → List Int
  | [] => []
  | x :: _ => x
theorem hd_app (P Q : List (List Int)) (h : P ≠ []) : hd (P ++ Q) = hd P := by
  cases P with
  | nil => exact absurd rfl h
  | cons x P => rfl
set_option maxHeartbeats 3200000 in
theorem suThree_any (N : Nat) (w : World) (hN : N ≤ 3000) :
    Calls Tryd.prog 37 #[.int .i64 N] w fun e w' => (∃ A c, e = .returned (.tuple #[.slice A (hd (Lz 3 (pl 3 N).toNat 3 N)).length c, .int .i64 (Lz 3 (pl 3 N).toNat 3 N).length]) ∧ Own w' w.heap.size w'.heap.size A (i64s (hd (Lz 3 (pl 3 N).toNat 3 N)))) ∧ Below w.heap.size w w' := by
  have p0 := pl_nn 3 N (by omega) (by omega)
  have p1 := pl_77 3 N (by omega) (by omega) (by omega)
  have hi1 : (0 : Int) ≤ (N : Int) := by omega
  have hi2 : (N : Int) ≤ 3000 := by omega
  have HL : Hid (rem 3 3 N (pl 3 N) = Lz 3 (pl 3 N).toNat 3 N) := by
    have := rem_nat 3 3 N (pl 3 N).toNat
    rw [show (((pl 3 N).toNat : Nat) : Int) = pl 3 N from by omega] at this
    exact Lib.hid this
  have HZ : Hid (((Lz 3 (pl 3 N).toNat 3 N).length : Int) ≤ 4000000000000000000) := by
    rw [Lz_len]
    exact Lib.hid (Zc_small 3 (by omega) _ _ (by omega) (by omega))
  have HPL := Lib.hid (fun k : Int => fits_iff 3 N k (by omega) hi1)
  generalize (Lz 3 (pl 3 N).toNat 3 N) = T at *
  go_enter Tryd.func37, Tryd.ntmps37
  go_wp2_with (go_at_call 51; refine (shBelow_any _ _ _ (by omega) (by omega) hi1 (by omega)).mono ?_; rintro e w' ⟨rfl, rfl⟩)
  go_loopw [4, 5, 6] (fun n v p wr => ∃ (a : Int) (P : List (List Int)) (A : Option Addr) (c : Nat), -1 ≤ a ∧ a ≤ pl 3 N ∧ n = .int .i64 P.length ∧ p = .int .i64 a ∧ v = .slice A (hd P).length c ∧ Hid (P ++ rem 3 3 N a = T) ∧ Hid (Own wr w.heap.size wr.heap.size A (i64s (hd P))) ∧ Below w.heap.size w wr) (fun _ _ p _ => (intOf p + 1).toNat)
  case atStart => exact ⟨_, [], none, 0, by omega, Int.le_refl _, rfl, rfl, rfl, HL, Lib.hid Own.none_, Below.refl _ _⟩
  case round =>
    obtain ⟨a, P, A, c, ha0, ha1, rfl, rfl, rfl, hP, hown, hb⟩ := hrel
    by_cases hge : 0 ≤ a
    · have hfit := (HPL.out a hge).2 ha1
      have hnn := num_nn 3 a (by omega)
      have HS := Lib.hid (rem_step 3 2 N a hge)
      obtain ⟨m, hm⟩ : ∃ m, m = (N : Int) - num 3 a := ⟨_, rfl⟩
      have HM := Lib.hid hm
      have hm0 : 0 ≤ m := by omega
      have hm1 : m ≤ 3000 := by omega
      have q0 := pl_nn 3 m (by omega) hm0
      have q1 := pl_77 3 m (by omega) hm0 hm1
      have HP2 := Lib.hid (fun k : Int => fits_iff 3 m k (by omega) hm0)
      have u0 : (0 : Int) ≤ min a (pl 3 m) := by omega
      have u1 : min a (pl 3 m) ≤ a := by omega
      have u2 : min a (pl 3 m) ≤ pl 3 m := by omega
      have HR : Hid (rem 3 2 m a = rem 3 2 m (min a (pl 3 m))) := by
        refine Lib.hid ?_
        by_cases h : a ≤ pl 3 m
        · rw [show min a (pl 3 m) = a from by omega]
        · rw [show min a (pl 3 m) = pl 3 m from by omega]
          obtain ⟨a', rfl⟩ := Int.eq_ofNat_of_zero_le hge
          obtain ⟨b', hb'⟩ := Int.eq_ofNat_of_zero_le q0
          rw [hb', rem_nat, rem_nat]
          have h2 := rem_down 3 (by omega) 1 m b' (a' - b') (by
            rcases Int.lt_or_le m (num 3 ((b' : Int) + 1)) with h3 | h3
            · exact h3
            · have := (HP2.out ((b' : Int) + 1) (by omega)).1 h3; omega)
          rw [show b' + (a' - b') = a' from by omega] at h2
          exact h2
      have HP3 : Hid (P ++ ((rem 3 2 m (min a (pl 3 m))).map (List.cons a) ++ rem 3 3 N (a - 1)) = T) := by
        rw [← HR.out, HM.out, ← HS.out]
        exact hP
      obtain ⟨t, ht⟩ : ∃ t, t = min a (pl 3 m) := ⟨_, rfl⟩
      rw [← ht] at u0 u1 u2 HP3
      have HT := Lib.hid ht
      have HNA := Lib.hid (fun w => shNumber_any 3 a w (by omega) (by omega) (by omega) (by omega))
      have hsub : (N : Int) - num 3 a = m := hm.symm
      clear ht HS HR hm hP
      go_wp2_with (first
        | (go_at_call 65; refine (HNA.out _).mono ?_; rintro e w' ⟨rfl, rfl⟩)
        | (go_at_call 51; refine (shBelow_any _ _ _ (by omega) (by omega) hm0 (by omega)).mono ?_; rintro e w' ⟨rfl, rfl⟩)
        | (go_at_call 64; refine (l1Least_any _ _ _).mono ?_; rw [← HT.out]; rintro e w' ⟨rfl, rfl⟩))
      go_loopw [4, 5, 7] (fun n v p wr => ∃ (b : Int) (P : List (List Int)) (A : Option Addr) (c : Nat), -1 ≤ b ∧ b ≤ a ∧ b ≤ pl 3 m ∧ n = .int .i64 P.length ∧ p = .int .i64 b ∧ v = .slice A (hd P).length c ∧ Hid (P ++ ((rem 3 2 m b).map (List.cons a) ++ rem 3 3 N (a - 1)) = T) ∧ Hid (Own wr w.heap.size wr.heap.size A (i64s (hd P))) ∧ Below w.heap.size w wr) (fun _ _ p _ => (intOf p + 1).toNat)
      case atStart => exact ⟨t, P, A, c, by omega, u1, u2, rfl, rfl, rfl, HP3, hown, hb⟩
      case round =>
        clear HP3 hown hb
        obtain ⟨b, P, A, c, hb0, hb1, hb2, rfl, rfl, rfl, hP, hown, hb⟩ := hrel
        by_cases hge2 : 0 ≤ b
        · have hfb := (HP2.out b hge2).2 hb2
          have hnb := num_nn 3 b (by omega)
          have HS := Lib.hid (rem_step 3 1 m b hge2)
          obtain ⟨r, hr⟩ : ∃ r, r = m - num 3 b := ⟨_, rfl⟩
          have hr0 : 0 ≤ r := by omega
          have hr1 : r ≤ 3000 := by omega
          have v0 := pl_nn 3 r (by omega) hr0
          have v1 := pl_77 3 r (by omega) hr0 hr1
          have HQ : Hid (rem 3 1 (m - num 3 b) b = if pl 3 r ≤ b ∧ num 3 (pl 3 r) = r then [[pl 3 r]] else []) := by
            refine Lib.hid ?_
            rw [← hr]
            obtain ⟨b', rfl⟩ := Int.eq_ofNat_of_zero_le hge2
            rw [rem_nat, Lz_one 3 (by omega) r hr0]
          have hsub2 : m - num 3 b = r := hr.symm
          have HNB := Lib.hid (fun w => shNumber_any 3 b w (by omega) (by omega) (by omega) (by omega))
          obtain ⟨q, hq⟩ : ∃ q, q = pl 3 r := ⟨_, rfl⟩
          have HBL : Hid (∀ w, Calls Tryd.prog 51 #[.int .i64 3, .int .i64 r] w fun e w' => e = .returned (.int .i64 q) ∧ w = w') := by
            rw [hq]
            exact Lib.hid (fun w => shBelow_any 3 r w (by omega) (by omega) hr0 (by omega))
          rw [← hq] at v0 v1 HQ
          have HNQ := Lib.hid (fun w => shNumber_any 3 q w (by omega) (by omega) (by omega) (by omega))
          have hmeas : (b - 1 + 1).toNat < (b + 1).toNat := by omega
          by_cases hit : q ≤ b ∧ num 3 q = r
          · have hqb := hit.1
            have hqr := hit.2
            have HP5 : Hid ((P ++ [[a, b, q]]) ++ ((rem 3 2 m (b - 1)).map (List.cons a) ++ rem 3 3 N (a - 1)) = T) := by
              refine Lib.hid ?_
              rw [← hP.out, HS.out, HQ.out, if_pos hit]
              simp
            have hlen : (P.length : Int) ≤ 4000000000000000000 := by
              have := HZ.out
              rw [← HP5.out] at this
              simp only [List.length_append] at this
              omega
            clear hit HS HQ hq hr hP
            by_cases hP0 : P = []
            · subst hP0
              go_wp2_with (first
                | (go_at_call 65; refine (shNumber_any _ _ _ (by omega) (by omega) (by omega) (by omega)).mono ?_; rintro e w' ⟨rfl, rfl⟩)
                | (go_at_call 51; refine (HBL.out _).mono ?_; rintro e w' ⟨rfl, rfl⟩))
              go_roundw
              case rel =>
                have hlit := World.ownsRow_lit wr (base := w.heap.size) (e := 3) (size := 1) #[.int .i64 a, .int .i64 b, .int .i64 q] 3 hb.size (by unfold maxLen; omega) rfl
                exact ⟨b - 1, [[a, b, q]], _, _, by omega, by omega, by omega, by simp, rfl, rfl, HP5, Lib.hid (own_of_row hlit), hb.alloc hb.size _⟩
              case measure => simp [intOf]; omega
            · have hPl : ((P.length : Int) == 0) = false := by
                have : P.length ≠ 0 := fun h => hP0 (List.length_eq_zero_iff.1 h)
                simp
                exact hP0
              have HH := Lib.hid (hd_app P [[a, b, q]] hP0)
              clear hP0
              go_wp2_with (first
                | (go_at_call 65; refine (shNumber_any _ _ _ (by omega) (by omega) (by omega) (by omega)).mono ?_; rintro e w' ⟨rfl, rfl⟩)
                | (go_at_call 51; refine (HBL.out _).mono ?_; rintro e w' ⟨rfl, rfl⟩))
              go_roundw
              case rel => exact ⟨b - 1, P ++ [[a, b, q]], A, c, by omega, by omega, by omega, by simp, rfl, by rw [HH.out], HP5, by rw [HH.out]; exact hown, hb⟩
              case measure => simp [intOf]; omega
          · have HP5 : Hid (P ++ ((rem 3 2 m (b - 1)).map (List.cons a) ++ rem 3 3 N (a - 1)) = T) := by
              refine Lib.hid ?_
              rw [← hP.out, HS.out, HQ.out, if_neg hit]
              simp
            clear HS HQ hq hr hP
            by_cases hqb : b < q
            · clear hit
              go_wp2_with (first
                | (go_at_call 65; refine (shNumber_any _ _ _ (by omega) (by omega) (by omega) (by omega)).mono ?_; rintro e w' ⟨rfl, rfl⟩)
                | (go_at_call 51; refine (HBL.out _).mono ?_; rintro e w' ⟨rfl, rfl⟩))
              go_roundw
              case rel => exact ⟨b - 1, P, A, c, by omega, by omega, by omega, rfl, rfl, rfl, HP5, hown, hb⟩
              case measure => simp [intOf]; omega
            · have hqb2 : q ≤ b := by omega
              have hne : (num 3 q != r) = true := by
                have : ¬ num 3 q = r := fun h => hit ⟨hqb2, h⟩
                simpa using this
              clear hit hqb
              go_wp2_with (first
                | (go_at_call 65; refine (shNumber_any _ _ _ (by omega) (by omega) (by omega) (by omega)).mono ?_; rintro e w' ⟨rfl, rfl⟩)
                | (go_at_call 51; refine (HBL.out _).mono ?_; rintro e w' ⟨rfl, rfl⟩))
              go_roundw
              case rel => exact ⟨b - 1, P, A, c, by omega, by omega, by omega, rfl, rfl, rfl, HP5, hown, hb⟩
              case measure => simp [intOf]; omega
        · have hbe : b = -1 := by omega
          have HP4 : Hid (P ++ rem 3 3 N (a - 1) = T) := by
            refine Lib.hid ?_
            have := hP.out
            rw [hbe] at this
            simpa [rem] using this
          clear hP
          go_wp2_with fail
          go_roundw
          case rel => exact ⟨a - 1, P, A, c, by omega, by omega, rfl, rfl, rfl, HP4, hown, hb⟩
          case measure => simp [intOf]; omega
    · have hae : a = -1 := by omega
      have HE : Hid (P = T) := by
        refine Lib.hid ?_
        have := hP.out
        rw [hae] at this
        simpa [rem] using this
      clear hP
      go_wp2_with fail
      go_ret2
      rw [← HE.out]
      first
        | exact ⟨⟨A, c, rfl, hown.out⟩, hb⟩
        | exact ⟨⟨A, ⟨c, rfl⟩, hown.out⟩, hb⟩
end Go.Proofs.YtegbikakfckehaaDoor
