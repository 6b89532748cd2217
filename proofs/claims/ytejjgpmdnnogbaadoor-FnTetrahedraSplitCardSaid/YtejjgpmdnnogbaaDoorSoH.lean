/- The law FnExactCountTetrahedra: the program counts lists of tetrahedra as the specification does, whatever the arguments. No condition. -/
import Derived.Test.YtejjgpmdnnogbaaDoorSoT
namespace Go.Proofs.YtejjgpmdnnogbaaDoor
open Go.ChangeShapes Go.WideShapes Go.ChangeAt Go.RowKit

/-- What so many parts make at most. -/
theorem gW_most (f : Int → Int) (hs : Sq f) (k : Nat) : ∀ (i : Nat) (m : Int), 0 < gW f k i m → m ≤ f (k : Int) * (i : Int) := by
  induction k with
  | zero =>
    intro i m h
    rw [gW_00] at h
    split at h
    · rename_i h1; rw [h1.1, h1.2]; simp
    · omega
  | succ k ih =>
    intro i
    induction i with
    | zero =>
      intro m h
      rw [gW_k0] at h
      split at h
      · omega
      · omega
    | succ i ih2 =>
      intro m h
      rw [gW_kk] at h
      have hu := hs.up (k : Int) (by omega)
      have e : ((k + 1 : Nat) : Int) = (k : Int) + 1 := by omega
      rw [e] at ih2 ⊢
      by_cases h1 : 0 < gW f k (i + 1) m
      · have h2 := ih (i + 1) m h1
        have h3 := Int.mul_le_mul_of_nonneg_right (c := ((i + 1 : Nat) : Int)) (Int.le_of_lt hu) (by omega)
        omega
      · have h2 := ih2 (m - f ((k : Int) + 1)) (by omega)
        have h3 : f ((k : Int) + 1) * ((i + 1 : Nat) : Int) = f ((k : Int) + 1) * (i : Int) + f ((k : Int) + 1) := by
          push_cast
          rw [Int.mul_add, Int.mul_one]
        omega
theorem gW_few (f : Int → Int) (k i : Nat) (m : Int) (hk : k ≤ 30) (hi : i ≤ 5) : gW f k i m ≤ 28629151 := by
  have h1 := gW_bound f k i m
  have h2 : (k + 1) ^ i ≤ 31 ^ i := Nat.pow_le_pow_left (by omega) i
  have h3 : 31 ^ i ≤ 31 ^ 5 := Nat.pow_le_pow_right (by omega) hi
  have h4 : 31 ^ 5 = 28629151 := by decide
  omega
theorem pyr3_few (k : Int) (h3 : 0 ≤ k) (h4 : k ≤ 30) : 0 ≤ pyr 3 k ∧ pyr 3 k ≤ 4960 := by
  have a := sq3.nn h3
  have b := sq3.le h3 h4
  have c : pyr 3 30 = 4960 := by decide
  omega
set_option maxHeartbeats 1600000 in
theorem soCount_any (i : Nat) : ∀ (n : Int) (K : Nat) (w : World), i ≤ 5 → 0 ≤ n → n ≤ 1500 → K ≤ 30 →
    Calls Tryd.prog 30 #[.int .i64 n, .int .i64 i, .int .i64 K] w fun e w' => e = .returned (.int .i64 (gW (pyr 3) K i n)) ∧ w = w' := by
  induction i with
  | zero =>
    intro n K w _ h1 h2 hK
    rw [gW_k0]
    by_cases h : n = 0
    · subst h
      go_enter Tryd.func30, Tryd.ntmps30
      go_wp2
      go_ret
      exact ⟨rfl, rfl⟩
    · have hb : (n == 0) = false := by simpa using h
      rw [if_neg h]
      go_enter Tryd.func30, Tryd.ntmps30
      go_wp2
      go_ret
      exact ⟨rfl, rfl⟩
  | succ i ih =>
    intro n K w hi h1 h2 hK
    have IH := Lib.hid ih
    have hcast : ((i + 1 : Nat) : Int) = (i : Int) + 1 := by omega
    rw [hcast]
    have hib : (((i : Int) + 1) == 0) = false := by simp; omega
    have hiI : (i : Int) + 1 ≤ 5 := by omega
    clear ih hcast
    have hKI : (K : Int) ≤ 30 := by omega
    go_enter Tryd.func30, Tryd.ntmps30
    go_wp2
    go_loop [7, 8, 9] (fun c k _ => ∃ j x : Nat, j ≤ K ∧ k = .int .i64 j ∧ c = .int .i64 x ∧ Hid (x + gW (pyr 3) j (i + 1) n = gW (pyr 3) K (i + 1) n)) (fun _ k _ => (intOf k).toNat)
    case atStart => exact ⟨K, 0, by omega, rfl, rfl, Lib.hid (by omega)⟩
    case round =>
      obtain ⟨j, x, hj, rfl, rfl, hx⟩ := hrel
      have hfew := gW_few (pyr 3) K (i + 1) n hK hi
      by_cases hj0 : j = 0
      · subst hj0
        have e : x = gW (pyr 3) K (i + 1) n := by
          have h := hx.out
          rw [gW_00, if_neg (by omega)] at h
          exact h
        have HE := Lib.hid e
        clear e hfew
        go_wp2
        go_ret
        exact ⟨by rw [← HE.out]; rfl, rfl⟩
      · obtain ⟨j', rfl⟩ : ∃ j', j = j' + 1 := ⟨j - 1, by omega⟩
        have hjc : ((j' + 1 : Nat) : Int) = (j' : Int) + 1 := by omega
        rw [hjc]
        have hjI : (j' : Int) + 1 ≤ 30 := by omega
        obtain ⟨q0, q1⟩ := pyr3_few ((j' : Int) + 1) (by omega) (by omega)
        have HPY := Lib.hid fun w => soPyramid_any 3 ((j' : Int) + 1) w (by omega) (by omega) (by omega) (by omega)
        have HM := Lib.hid (gW_most (pyr 3) sq3 (j' + 1) (i + 1) n)
        have HN := Lib.hid fun h => gW_neg (pyr 3) sq3 (j' + 1) i (n - pyr 3 ((j' : Int) + 1)) h
        have HKK := Lib.hid (gW_kk (pyr 3) j' i n)
        have HI2 := Lib.hid fun h1 h2 w => IH.out (n - pyr 3 ((j' : Int) + 1)) (j' + 1) w (by omega) h1 h2 (by omega)
        have hf2 := gW_few (pyr 3) (j' + 1) i (n - pyr 3 ((j' : Int) + 1)) (by omega) (by omega)
        rw [hjc] at HM HI2
        clear hjc hj0
        generalize pyr 3 ((j' : Int) + 1) = p at *
        have m0 : 0 ≤ p * ((i : Int) + 1) := Int.mul_nonneg q0 (by omega)
        have m1 : p * ((i : Int) + 1) ≤ 4960 * 5 := Int.mul_le_mul q1 hiI (by omega) (by omega)
        by_cases hbr : p * ((i : Int) + 1) < n
        · have e : x = gW (pyr 3) K (i + 1) n := by
            have h := hx.out
            rcases Nat.eq_zero_or_pos (gW (pyr 3) (j' + 1) (i + 1) n) with h2 | h2
            · omega
            · have h3 := HM.out h2
              push_cast at h3
              omega
          have HE := Lib.hid e
          have hge : decide (n ≤ p * ((i : Int) + 1)) = false := by simp; omega
          clear e hfew
          go_wp2_with (go_at_call 39; refine (HPY.out _).mono ?_; rintro e w' ⟨rfl, rfl⟩)
          go_ret
          exact ⟨by rw [← HE.out]; rfl, rfl⟩
        · have hge : n ≤ p * ((i : Int) + 1) := by omega
          clear hbr
          by_cases hl : 0 ≤ n - p
          · have hsum : x + gW (pyr 3) (j' + 1) i (n - p) + gW (pyr 3) j' (i + 1) n = gW (pyr 3) K (i + 1) n := by
              have h := hx.out
              rw [HKK.out] at h
              omega
            have HS := Lib.hid hsum
            have HC := Lib.hid (HI2.out hl (by omega))
            have hxs : (x : Int) + (gW (pyr 3) (j' + 1) i (n - p) : Int) ≤ 28629151 := by omega
            clear hsum hfew
            generalize gW (pyr 3) (j' + 1) i (n - p) = y at *
            go_wp2_with (first
              | (go_at_call 39; refine (HPY.out _).mono ?_; rintro e w' ⟨rfl, rfl⟩)
              | (go_at_call 30; refine (HC.out _).mono ?_; rintro e w' ⟨rfl, rfl⟩))
            go_round
            case rel => exact ⟨j', x + y, by omega, by go_num, by go_num, HS⟩
            case measure => simp [intOf] <;> omega
          · have hl2 : n - p < 0 := by omega
            have hsum : x + gW (pyr 3) j' (i + 1) n = gW (pyr 3) K (i + 1) n := by
              have h := hx.out
              rw [HKK.out, HN.out hl2] at h
              omega
            have HS := Lib.hid hsum
            clear hsum hfew
            go_wp2_with (first
              | (go_at_call 39; refine (HPY.out _).mono ?_; rintro e w' ⟨rfl, rfl⟩))
            go_round
            case rel => exact ⟨j', x, by omega, by go_num, rfl, HS⟩
            case measure => simp [intOf] <;> omega

theorem spec_CountTetrahedra_no (n p : Int) (w : World) (h : (n < 0 ∨ 1500 < n) ∨ (p < 0 ∨ 5 < p)) :
    Calls Tryd.prog 15 #[.int .i64 n, .int .i64 p] w fun e w' => e = .returned (.tuple #[.int .i64 0, .bool false]) ∧ Below w.heap.size w w' := by
  by_cases hs : n < 0 ∨ 1500 < n
  · have H : Hid (n < 0 ∨ 1500 < n) := Lib.hid hs
    clear h hs
    go_enter Tryd.func15, Tryd.ntmps15
    go_wp2_with (first
      | (go_at_call 21; refine (soSplit_no _ _ H.out).mono ?_; rintro e w' ⟨rfl, rfl⟩))
    go_ret2
    exact ⟨rfl, Below.refl _ _⟩
  · skip
    have h1 : 0 ≤ n := by omega
    have h2 : n ≤ 1500 := by omega
    have h' := h
    clear h
    have h : p < 0 ∨ 5 < p := by omega
    clear h' hs
    have H : Hid (p < 0 ∨ 5 < p) := Lib.hid (by omega)
    clear h
    go_enter Tryd.func15, Tryd.ntmps15
    go_wp2_with (first
      | (go_at_call 21; refine (soSplit_yes _ _ h1 h2).mono ?_; rintro e w' ⟨rfl, rfl⟩)
      | (go_at_call 29; refine (in_no _ _ _ _ H.out).mono ?_; rintro e w' ⟨rfl, rfl⟩))
    go_ret2
    exact ⟨rfl, Below.refl _ _⟩
theorem impl_CountTetrahedra_no (n p : Int) (w : World) (h : (n < 0 ∨ 1500 < n) ∨ (p < 0 ∨ 5 < p)) :
    Calls Tryd.prog 13 #[.int .i64 n, .int .i64 p] w fun e w' => e = .returned (.tuple #[.int .i64 0, .bool false]) ∧ Below w.heap.size w w' := by
  by_cases hs : n < 0 ∨ 1500 < n
  · have H : Hid (n < 0 ∨ 1500 < n) := Lib.hid hs
    clear h hs
    go_enter Tryd.func13, Tryd.ntmps13
    go_wp2_with (first
      | (go_at_call 17; refine (isSplit_no _ _ H.out).mono ?_; rintro e w' ⟨rfl, rfl⟩))
    go_ret2
    exact ⟨rfl, Below.refl _ _⟩
  · skip
    have h1 : 0 ≤ n := by omega
    have h2 : n ≤ 1500 := by omega
    have h' := h
    clear h
    have h : p < 0 ∨ 5 < p := by omega
    clear h' hs
    have H : Hid (p < 0 ∨ 5 < p) := Lib.hid (by omega)
    clear h
    go_enter Tryd.func13, Tryd.ntmps13
    go_wp2_with (first
      | (go_at_call 17; refine (isSplit_yes _ _ h1 h2).mono ?_; rintro e w' ⟨rfl, rfl⟩)
      | (go_at_call 25; refine (within_no _ _ _ _ H.out).mono ?_; rintro e w' ⟨rfl, rfl⟩))
    go_ret2
    exact ⟨rfl, Below.refl _ _⟩
theorem spec_CountTetrahedra_yes (N M : Nat) (w : World) (hN : N ≤ 1500) (hM : M ≤ 5) :
    Calls Tryd.prog 15 #[.int .i64 N, .int .i64 M] w fun e w' => e = .returned (.tuple #[.int .i64 (gW (pyr 3) 30 M N), .bool true]) ∧ Below w.heap.size w w' := by
  have i1 : (0 : Int) ≤ (N : Int) := by omega
  have i2 : (N : Int) ≤ 1500 := by omega
  have i3 : (0 : Int) ≤ (M : Int) := by omega
  have i4 : (M : Int) ≤ 5 := by omega
  have HC := Lib.hid fun w => soCount_any M N 30 w hM i1 i2 (by omega)
  go_enter Tryd.func15, Tryd.ntmps15
  go_wp2_with (first
    | (go_at_call 21; refine (soSplit_yes _ _ i1 i2).mono ?_; rintro e w' ⟨rfl, rfl⟩)
    | (go_at_call 29; refine (in_yes _ _ _ _ i3 i4).mono ?_; rintro e w' ⟨rfl, rfl⟩)
    | (go_at_call 30; refine (HC.out _).mono ?_; rintro e w' ⟨rfl, rfl⟩))
  go_ret2
  exact ⟨rfl, Below.refl _ _⟩
theorem impl_CountTetrahedra_yes (N M : Nat) (w : World) (hN : N ≤ 1500) (hM : M ≤ 5) :
    Calls Tryd.prog 13 #[.int .i64 N, .int .i64 M] w fun e w' => e = .returned (.tuple #[.int .i64 (gW (pyr 3) 30 M N), .bool true]) ∧ Below w.heap.size w w' := by
  have i1 : (0 : Int) ≤ (N : Int) := by omega
  have i2 : (N : Int) ≤ 1500 := by omega
  have i3 : (0 : Int) ≤ (M : Int) := by omega
  have i4 : (M : Int) ≤ 5 := by omega
  have p0 := lst_nn sq3 N i1
  have p1 := tet_lst N i1 i2
  have HT := Lib.hid fun w => tetras_any N w hN
  have hKL : lst (pyr 3) N = ((lst (pyr 3) N).toNat : Int) := by omega
  have HE : Hid (gW (pyr 3) 30 M N = gW (pyr 3) (lst (pyr 3) N).toNat M N) := Lib.hid (gW_pl (pyr 3) sq3 M N i1 30 (by omega))
  have hK : (lst (pyr 3) N).toNat ≤ 19 := by omega
  have HKL := Lib.hid hKL
  clear p0 p1 hKL
  generalize (lst (pyr 3) N).toNat = K at *
  have HW := Lib.hid fun (base0 g0 c0 : Nat) (w : World) hnb => waysByParts_any (pyr 3) sq3 N M K base0 g0 c0 w (by omega) (by omega) (by omega) HKL.out (fun k i m hk hi hm => by have := gW_few (pyr 3) k i m (by omega) (by omega); omega) hnb
  go_enter Tryd.func13, Tryd.ntmps13
  go_wp2_with (first
    | (go_at_call 17; refine (isSplit_yes _ _ i1 i2).mono ?_; rintro e w' ⟨rfl, rfl⟩)
    | (go_at_call 25; refine (within_yes _ _ _ _ i3 i4).mono ?_; rintro e w' ⟨rfl, rfl⟩)
    | (go_at_call 18; refine (HT.out _).mono ?_; rintro e w1 ⟨⟨g0, c0, rfl, hr0⟩, hb0⟩; have HR0 := Lib.hid hr0; clear hr0)
    | (go_at_call 26; refine (HW.out _ _ _ _ HR0.out).mono ?_; rintro e w2 ⟨⟨g, rfl, hr⟩, hb⟩; have hc := hr.cell (j := M) (by omega)))
  go_ret2
  exact ⟨by show Ending.returned (.tuple #[.int .i64 (gW (pyr 3) K M N), .bool true]) = _; rw [HE.out], hb0.trans (hb.mono hb0.size)⟩
end Go.Proofs.YtejjgpmdnnogbaaDoor
