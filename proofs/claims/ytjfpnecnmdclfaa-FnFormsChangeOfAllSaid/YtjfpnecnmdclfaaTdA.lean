/- Chapter 8, the program: forms of shapes, ways to choose; walks of these laws. -/
import Derived.Test.YtjfpnecnmdclfaaTbL
import Derived.Test.YtjfpnecnmdclfaaTbR
import Derived.Test.YtjfpnecnmdclfaaImB
namespace Go.Proofs.Ytjfpnecnmdclfaa
open Go.ChangeShapes Go.WideShapes Go.ChangeAt Go.RowKit

set_option maxHeartbeats 800000 in
theorem impl_FormOfShape_no (s : Int) (w : World) (h : s < 3 ∨ 24 < s) :
    Calls Try.prog 22 #[.int .i64 s] w (ResI false [] w) := by
  have HS := Lib.hid fun W => areSides_no s W h
  clear h
  go_enter Try.func22, Try.ntmps22
  go_wp2_with (go_at_call 52; refine (HS.out _).mono ?_; rintro e w' ⟨rfl, rfl⟩)
  go_ret2
  exact resI_nil (Below.refl _ _)
set_option maxHeartbeats 800000 in
theorem impl_FormOfShape_yes (s : Int) (w : World) (h0 : 3 ≤ s) (h1 : s ≤ 24) :
    Calls Try.prog 22 #[.int .i64 s] w (ResI true [0, 1, s - 2] w) := by
  have HS := Lib.hid fun W => areSides_yes s W h0 h1
  have e1 : IntKind.i64.wrap (s - 2) = s - 2 := IntWalk.i64_in _ (by omega)
  clear h0 h1
  go_enter Try.func22, Try.ntmps22
  go_wp2_with (go_at_call 52; refine (HS.out _).mono ?_; rintro e w' ⟨rfl, rfl⟩)
  go_ret2
  have hb := (Below.refl w.heap.size w).alloc (Nat.le_refl _) (.cells #[.int .i64 0, .int .i64 1, .int .i64 (s - 2)] 3)
  refine ⟨some ⟨w.heap.size, 0, none⟩, 3, rfl, fun _ => ⟨w.heap.size, 0, rfl, Nat.le_refl _, by simp, fun j u hu => ?_⟩, hb⟩
  rw [Nat.zero_add]
  match j, hu with
  | 0, hu => simp at hu; subst hu; exact ⟨by simp [go_sem], by simp [go_sem]⟩
  | 1, hu => simp at hu; subst hu; exact ⟨by simp [go_sem], by simp [go_sem]⟩
  | 2, hu => simp at hu; subst hu; exact ⟨by simp [go_sem], by simp [go_sem]⟩
  | _ + 3, hu => simp at hu
theorem t60_all : ∀ i, i < 61 → t60 (i + 1) * (i + 1) ≤ 9000000000000000000 := by decide
theorem chs_all60 {n i : Nat} (hn : n ≤ 60) (hi : i < 61) : chs n i * (n - i) ≤ 9000000000000000000 := by
  rw [← chs_mul]
  refine Nat.le_trans (Nat.mul_le_mul_right _ (chs_mono hn (i + 1))) ?_
  rw [t60_eq]
  exact t60_all i hi
theorem chs_le60 {n i : Nat} (hn : n ≤ 60) (hi : i < 61) : chs n i ≤ 9000000000000000000 := by
  cases i with
  | zero => rw [chs_zero]; omega
  | succ i =>
    have h1 := chs_all60 (n := 60) (i := i) (Nat.le_refl _) (by omega)
    rw [← chs_mul] at h1
    have h2 := chs_mono hn (i + 1)
    have h3 : chs 60 (i + 1) ≤ chs 60 (i + 1) * (i + 1) := Nat.le_mul_of_pos_right _ (by omega)
    omega
theorem impl_ChooseOf_no (n k : Int) (w : World) (h : (n < 0 ∨ 60 < n) ∨ k < 0) :
    Calls Try.prog 28 #[.int .i64 n, .int .i64 k] w fun e w' => e = .returned (.tuple #[.int .i64 0, .bool false]) ∧ Below w.heap.size w w' := by
  by_cases h1 : n < 0 ∨ 60 < n
  · have H := Lib.hid h1
    clear h h1
    go_enter Try.func28, Try.ntmps28
    go_wp2_with (go_at_call 42; refine (within_no _ _ _ _ H.out).mono ?_; rintro e w' ⟨rfl, rfl⟩)
    go_ret2
    exact ⟨rfl, Below.refl _ _⟩
  · have h2 : 0 ≤ n := by omega
    have h3 : n ≤ 60 := by omega
    have h4 : k < 0 := by omega
    clear h h1
    go_enter Try.func28, Try.ntmps28
    go_wp2_with (go_at_call 42; refine (within_yes _ _ _ _ h2 h3).mono ?_; rintro e w' ⟨rfl, rfl⟩)
    go_ret2
    exact ⟨rfl, Below.refl _ _⟩
set_option maxHeartbeats 1600000 in
theorem impl_ChooseOf_yes (n : Nat) (k : Int) (w : World) (hn : n ≤ 60) (hk : 0 ≤ k) :
    Calls Try.prog 28 #[.int .i64 (n : Int), .int .i64 k] w fun e w' => e = .returned (.tuple #[.int .i64 (chs n k.toNat : Int), .bool true]) ∧ Below w.heap.size w w' := by
  obtain ⟨k, rfl⟩ := Int.eq_ofNat_of_zero_le hk
  rw [Int.toNat_natCast]
  have h2 : (0 : Int) ≤ (n : Int) := by omega
  have h3 : (n : Int) ≤ 60 := by omega
  have hk1 : ¬ (k : Int) < 0 := by omega
  obtain ⟨N1, hN1⟩ : ∃ N1, N1 = n + 1 := ⟨_, rfl⟩
  have e1 : IntKind.i64.wrap ((n : Int) + 1) = (N1 : Int) := by rw [IntWalk.i64_in _ (by omega)]; omega
  have HS := Lib.hid fun i => chs_step n i
  have HB := Lib.hid fun i h => chs_all60 (n := n) (i := i) hn h
  have HL := Lib.hid fun i h => chs_le60 (n := n) (i := i) hn h
  have H0 := Lib.hid (chs_zero n)
  by_cases hkn : ¬ (N1 : Int) < (k : Int)
  · have hkn3 : ¬ (k : Int) > (N1 : Int) := by omega
    have HC : Hid (chs n k = chs n k) := Lib.hid (rfl)
    have hm61 : k ≤ n + 1 := by omega
    clear hk hN1
    go_enter Try.func28, Try.ntmps28
    go_wp2_with (go_at_call 42; refine (within_yes _ _ _ _ h2 h3).mono ?_; rintro e w' ⟨rfl, rfl⟩)
    go_loopw [6, 19] (fun v i wr => ∃ j : Nat, j ≤ k ∧ i = .int .i64 (j : Int) ∧ v = .int .i64 (chs n j : Int) ∧ wr = w) (fun _ i _ => k - (intOf i).toNat)
    case atStart => exact ⟨0, by omega, by simp, by rw [H0.out]; rfl, rfl⟩
    case round =>
      obtain ⟨j, hj, rfl, rfl, rfl⟩ := hrel
      by_cases hlt : j < k
      · have hlt2 : (j : Int) < (k : Int) := by omega
        have hs := HS.out j
        have hb := HB.out j (by omega)
        have hl := HL.out j (by omega)
        obtain ⟨q, hq⟩ : ∃ q, q = n - j := ⟨_, rfl⟩
        rw [← hq] at hs hb
        have f1 : IntKind.i64.wrap ((n : Int) - j) = (q : Int) := by rw [IntWalk.i64_in _ (by omega)]; omega
        have hx : (chs n j : Int) * (q : Int) = ((chs n j * q : Nat) : Int) := by rw [Int.natCast_mul]
        have f2 : IntKind.i64.wrap ((chs n j : Int) * (q : Int)) = ((chs n j * q : Nat) : Int) := by rw [hx, IntWalk.i64_in _ (by omega)]
        have f3 : IntKind.i64.wrap ((j : Int) + 1) = (j : Int) + 1 := IntWalk.i64_in _ (by omega)
        have hd : ((chs n j * q : Nat) : Int) / ((j : Int) + 1) = (chs n (j + 1) : Int) := by
          rw [← hs, show (j : Int) + 1 = ((j + 1 : Nat) : Int) from by omega]
          rfl
        have hc : chs n (j + 1) ≤ 9000000000000000000 := by
          rw [← hs]
          exact Nat.le_trans (Nat.div_le_self _ _) hb
        have HQ := Lib.hid hd
        have hne : ¬ (j : Int) + 1 = 0 := by omega
        generalize chs n j * q = x at *
        clear hs hb hq hx hd
        go_wp2
        refine ⟨⟨j + 1, by omega, by go_num, ?_, trivial⟩, by simp [intOf]; omega⟩
        rw [HQ.out, ← IntWalk.i64_left, IntWalk.i64_in _ (by omega)]
      · obtain rfl : j = k := by omega
        go_wp2
        go_ret2
        exact ⟨rfl, Below.refl _ _⟩
  · have hkn2 : (N1 : Int) < (k : Int) := by omega
    clear hkn
    have HC : Hid (chs n N1 = chs n k) := Lib.hid (by rw [hN1, chs_none n (n + 1) (by omega), chs_none n k (by omega)])
    have hm61 : N1 ≤ n + 1 := by omega
    clear hk hN1
    go_enter Try.func28, Try.ntmps28
    go_wp2_with (go_at_call 42; refine (within_yes _ _ _ _ h2 h3).mono ?_; rintro e w' ⟨rfl, rfl⟩)
    go_loopw [6, 19] (fun v i wr => ∃ j : Nat, j ≤ N1 ∧ i = .int .i64 (j : Int) ∧ v = .int .i64 (chs n j : Int) ∧ wr = w) (fun _ i _ => N1 - (intOf i).toNat)
    case atStart => exact ⟨0, by omega, by simp, by rw [H0.out]; rfl, rfl⟩
    case round =>
      obtain ⟨j, hj, rfl, rfl, rfl⟩ := hrel
      by_cases hlt : j < N1
      · have hlt2 : (j : Int) < (N1 : Int) := by omega
        have hs := HS.out j
        have hb := HB.out j (by omega)
        have hl := HL.out j (by omega)
        obtain ⟨q, hq⟩ : ∃ q, q = n - j := ⟨_, rfl⟩
        rw [← hq] at hs hb
        have f1 : IntKind.i64.wrap ((n : Int) - j) = (q : Int) := by rw [IntWalk.i64_in _ (by omega)]; omega
        have hx : (chs n j : Int) * (q : Int) = ((chs n j * q : Nat) : Int) := by rw [Int.natCast_mul]
        have f2 : IntKind.i64.wrap ((chs n j : Int) * (q : Int)) = ((chs n j * q : Nat) : Int) := by rw [hx, IntWalk.i64_in _ (by omega)]
        have f3 : IntKind.i64.wrap ((j : Int) + 1) = (j : Int) + 1 := IntWalk.i64_in _ (by omega)
        have hd : ((chs n j * q : Nat) : Int) / ((j : Int) + 1) = (chs n (j + 1) : Int) := by
          rw [← hs, show (j : Int) + 1 = ((j + 1 : Nat) : Int) from by omega]
          rfl
        have hc : chs n (j + 1) ≤ 9000000000000000000 := by
          rw [← hs]
          exact Nat.le_trans (Nat.div_le_self _ _) hb
        have HQ := Lib.hid hd
        have hne : ¬ (j : Int) + 1 = 0 := by omega
        generalize chs n j * q = x at *
        clear hs hb hq hx hd
        go_wp2
        refine ⟨⟨j + 1, by omega, by go_num, ?_, trivial⟩, by simp [intOf]; omega⟩
        rw [HQ.out, ← IntWalk.i64_left, IntWalk.i64_in _ (by omega)]
      · obtain rfl : j = N1 := by omega
        go_wp2
        go_ret2
        exact ⟨by rw [HC.out]; rfl, Below.refl _ _⟩
end Go.Proofs.Ytjfpnecnmdclfaa
