/- The laws FnExactSimplexNumber, FnExactSimplexPlace: the program's simplices are the specification's, whatever the arguments. No condition. -/
import Derived.Test.YtppdjjdejggjaaaSoA
import Derived.Test.YtppdjjdejggjaaaImC
import Derived.Test.YtppdjjdejggjaaaSx
namespace Go.Proofs.Ytppdjjdejggjaaa
open Go.ChangeShapes Go.WideShapes Go.ChangeAt Go.RowKit

/-- What one step of a simplex asks. -/
theorem sx_bds (k : Int) (h3 : 0 ≤ k) (h4 : k ≤ 2000) (j : Nat) (hj : j < 8) : 0 ≤ sx k j * (k + ((j : Int) + 1) - 1) ∧ sx k j * (k + ((j : Int) + 1) - 1) ≤ 3000000000000000 := by
  have a0 := sx_nn k h3 j
  have a1 := sx_le k j
  refine ⟨Int.mul_nonneg a0 (by omega), ?_⟩
  have := Int.mul_le_mul (a := sx k j) (b := k + ((j : Int) + 1) - 1) (c := 1000000000001) (d := 2008) a1 (by omega) (by omega) (by omega)
  omega

set_option maxHeartbeats 800000 in
theorem soSimplex_any (D : Nat) (k : Int) (w : World) (h1 : 1 ≤ D) (h2 : D ≤ 8) (h3 : 0 ≤ k) (h4 : k ≤ 2000) :
    Calls Try.prog 154 #[.int .i64 D, .int .i64 k] w fun e w' => e = .returned (.int .i64 (sx k D)) ∧ w = w' := by
  by_cases hk : k = 0
  · subst hk
    obtain ⟨d, rfl⟩ : ∃ d, D = d + 1 := ⟨D - 1, by omega⟩
    rw [sx_zero]
    go_enter Try.func154, Try.ntmps154
    go_wp2
    go_ret
    exact ⟨rfl, rfl⟩
  · have hkb : (k == 0) = false := by simpa using hk
    have hk1 : 1 ≤ k := by omega
    clear hk
    go_enter Try.func154, Try.ntmps154
    go_wp2
    go_loop [5, 6] (fun o i => ∃ j : Nat, j ≤ D ∧ i = .int .i64 ((j : Int) + 1) ∧ o = .int .i64 (sx k j) ∧ sx k j ≤ 1000000000000) (fun _ i => D + 1 - (intOf i).toNat)
    case atStart => exact ⟨0, by omega, rfl, rfl, by simp [sx]⟩
    case round =>
      obtain ⟨j, hj, rfl, rfl, hc⟩ := hrel
      by_cases hlt : j < D
      · obtain ⟨b0, b1⟩ := sx_bds k h3 h4 j (by omega)
        have hs := sx_succ k j
        have hq0 : 0 ≤ sx k j * (k + ((j : Int) + 1) - 1) / ((j : Int) + 1) := Int.ediv_nonneg b0 (by omega)
        have hq1 := Int.ediv_le_self ((j : Int) + 1) b0
        have HS := Lib.hid hs
        have hjD : (j : Int) + 1 ≤ (D : Int) := by omega
        have a0 := sx_nn k h3 j
        generalize sx k j = a at *
        obtain ⟨q, hq⟩ : ∃ q, q = a * (k + ((j : Int) + 1) - 1) / ((j : Int) + 1) := ⟨_, rfl⟩
        have HQ := Lib.hid hq
        rw [← hq] at hq0 hq1
        by_cases hg : 1000000000000 < q
        · have hst : sx k (D : Nat) = 1000000000001 := by
            have e := sx_stays k hk1 (j + 1) (D - (j + 1)) (by rw [HS.out, ← HQ.out]; exact cutOff_of_gt hg)
            rwa [show j + 1 + (D - (j + 1)) = D from by omega] at e
          rw [hq] at hg
          have HST := Lib.hid hst.symm
          clear hs hq hst
          go_wp2
          go_ret
          exact ⟨ret_int HST.out, rfl⟩
        · have hle : q ≤ 1000000000000 := by omega
          have hv : sx k (j + 1) = q := by rw [HS.out, ← HQ.out]; exact cutOff_of_le hle
          have HV := Lib.hid hv
          rw [hq] at hle
          clear hs hq hv hg
          go_wp2
          go_round
          case rel => exact ⟨j + 1, by omega, by go_num, by rw [HV.out, HQ.out], by rw [HV.out]; have := HQ.out; omega⟩
          case measure => simp [intOf]; omega
      · obtain rfl : j = D := by omega
        go_wp2
        go_ret
        exact ⟨rfl, rfl⟩

set_option maxHeartbeats 800000 in
theorem simplexOf_any (D : Nat) (k : Int) (w : World) (h2 : D ≤ 8) (h3 : 0 ≤ k) (h4 : k ≤ 2000) :
    Calls Try.prog 152 #[.int .i64 D, .int .i64 k] w fun e w' => e = .returned (.int .i64 (sx k D)) ∧ w = w' := by
  go_enter Try.func152, Try.ntmps152
  go_wp2
  go_loop [5, 6] (fun o i => ∃ j : Nat, j ≤ D ∧ i = .int .i64 ((j : Int) + 1) ∧ o = .int .i64 (sx k j)) (fun _ i => D + 1 - (intOf i).toNat)
  case atStart => exact ⟨0, by omega, rfl, rfl⟩
  case round =>
    obtain ⟨j, hj, rfl, rfl⟩ := hrel
    by_cases hlt : j < D
    · obtain ⟨b0, b1⟩ := sx_bds k h3 h4 j (by omega)
      have HS := Lib.hid (sx_succ k j)
      have hq0 : 0 ≤ sx k j * (k + ((j : Int) + 1) - 1) / ((j : Int) + 1) := Int.ediv_nonneg b0 (by omega)
      have hjD : (j : Int) + 1 ≤ (D : Int) := by omega
      have a0 := sx_nn k h3 j
      have a1 := sx_le k j
      generalize sx k j = a at *
      go_wp2
      go_round
      case rel => exact ⟨j + 1, by omega, by go_num, by rw [HS.out, cutOff_if]⟩
      case measure => simp [intOf]; omega
    · obtain rfl : j = D := by omega
      go_wp2
      go_ret
      exact ⟨rfl, rfl⟩
theorem spec_SimplexNumber_no (d k : Int) (w : World) (h : (d < 1 ∨ 8 < d) ∨ (k < 0 ∨ 2000 < k)) :
    Calls Try.prog 55 #[.int .i64 d, .int .i64 k] w fun e w' => e = .returned (.tuple #[.int .i64 0, .bool false]) ∧ Below w.heap.size w w' := by
  by_cases hs : d < 1 ∨ 8 < d
  · have H : Hid (d < 1 ∨ 8 < d) := Lib.hid hs
    clear h hs
    go_enter Try.func55, Try.ntmps55
    go_wp2_with (first
      | (go_at_call 153; refine (soDimension_no _ _ H.out).mono ?_; rintro e w' ⟨rfl, rfl⟩))
    go_ret2
    exact ⟨rfl, Below.refl _ _⟩
  · skip
    have g1 : 1 ≤ d := by omega
    have g2 : d ≤ 8 := by omega
    have h' := h
    clear h
    have h : k < 0 ∨ 2000 < k := by omega
    clear h' hs
    have H : Hid (k < 0 ∨ 2000 < k) := Lib.hid (by omega)
    clear h
    go_enter Try.func55, Try.ntmps55
    go_wp2_with (first
      | (go_at_call 153; refine (soDimension_yes _ _ g1 g2).mono ?_; rintro e w' ⟨rfl, rfl⟩)
      | (go_at_call 147; refine (soLayers_no _ _ H.out).mono ?_; rintro e w' ⟨rfl, rfl⟩))
    go_ret2
    exact ⟨rfl, Below.refl _ _⟩
theorem impl_SimplexNumber_no (d k : Int) (w : World) (h : (d < 1 ∨ 8 < d) ∨ (k < 0 ∨ 2000 < k)) :
    Calls Try.prog 54 #[.int .i64 d, .int .i64 k] w fun e w' => e = .returned (.tuple #[.int .i64 0, .bool false]) ∧ Below w.heap.size w w' := by
  by_cases hs : d < 1 ∨ 8 < d
  · have H : Hid (d < 1 ∨ 8 < d) := Lib.hid hs
    clear h hs
    go_enter Try.func54, Try.ntmps54
    go_wp2_with (first
      | (go_at_call 151; refine (isDimension_no _ _ H.out).mono ?_; rintro e w' ⟨rfl, rfl⟩))
    go_ret2
    exact ⟨rfl, Below.refl _ _⟩
  · skip
    have g1 : 1 ≤ d := by omega
    have g2 : d ≤ 8 := by omega
    have h' := h
    clear h
    have h : k < 0 ∨ 2000 < k := by omega
    clear h' hs
    have H : Hid (k < 0 ∨ 2000 < k) := Lib.hid (by omega)
    clear h
    go_enter Try.func54, Try.ntmps54
    go_wp2_with (first
      | (go_at_call 151; refine (isDimension_yes _ _ g1 g2).mono ?_; rintro e w' ⟨rfl, rfl⟩)
      | (go_at_call 146; refine (areLayers_no _ _ _ H.out).mono ?_; rintro e w' ⟨rfl, rfl⟩))
    go_ret2
    exact ⟨rfl, Below.refl _ _⟩
theorem spec_SimplexPlace_no (d n : Int) (w : World) (h : (d < 1 ∨ 8 < d) ∨ (n < 0 ∨ 1000000000000 < n)) :
    Calls Try.prog 57 #[.int .i64 d, .int .i64 n] w fun e w' => e = .returned (.tuple #[.int .i64 0, .bool false]) ∧ Below w.heap.size w w' := by
  by_cases hs : d < 1 ∨ 8 < d
  · have H : Hid (d < 1 ∨ 8 < d) := Lib.hid hs
    clear h hs
    go_enter Try.func57, Try.ntmps57
    go_wp2_with (first
      | (go_at_call 153; refine (soDimension_no _ _ H.out).mono ?_; rintro e w' ⟨rfl, rfl⟩))
    go_ret2
    exact ⟨rfl, Below.refl _ _⟩
  · skip
    have g1 : 1 ≤ d := by omega
    have g2 : d ≤ 8 := by omega
    have h' := h
    clear h
    have h : n < 0 ∨ 1000000000000 < n := by omega
    clear h' hs
    have H : Hid (n < 0 ∨ 1000000000000 < n) := Lib.hid (by omega)
    clear h
    go_enter Try.func57, Try.ntmps57
    go_wp2_with (first
      | (go_at_call 153; refine (soDimension_yes _ _ g1 g2).mono ?_; rintro e w' ⟨rfl, rfl⟩)
      | (go_at_call 158; refine (soStacked_no _ _ H.out).mono ?_; rintro e w' ⟨rfl, rfl⟩))
    go_ret2
    exact ⟨rfl, Below.refl _ _⟩
theorem spec_SimplexNumber_yes (D : Nat) (k : Int) (w : World) (h1 : 1 ≤ D) (h2 : D ≤ 8) (h3 : 0 ≤ k) (h4 : k ≤ 2000) (hc : sx k D ≤ 1000000000000) :
    Calls Try.prog 55 #[.int .i64 D, .int .i64 k] w fun e w' => e = .returned (.tuple #[.int .i64 (sx k D), .bool true]) ∧ Below w.heap.size w w' := by
  have g1 : (1 : Int) ≤ (D : Int) := by omega
  have g2 : (D : Int) ≤ 8 := by omega
  go_enter Try.func55, Try.ntmps55
  go_wp2_with (first
    | (go_at_call 153; refine (soDimension_yes _ _ g1 g2).mono ?_; rintro e w' ⟨rfl, rfl⟩)
    | (go_at_call 147; refine (soLayers_yes _ _ h3 h4).mono ?_; rintro e w' ⟨rfl, rfl⟩)
    | (go_at_call 154; refine (soSimplex_any D k _ h1 h2 h3 h4).mono ?_; rintro e w' ⟨rfl, rfl⟩))
  go_ret2
  exact ⟨rfl, Below.refl _ _⟩
theorem impl_SimplexNumber_yes (D : Nat) (k : Int) (w : World) (h1 : 1 ≤ D) (h2 : D ≤ 8) (h3 : 0 ≤ k) (h4 : k ≤ 2000) (hc : sx k D ≤ 1000000000000) :
    Calls Try.prog 54 #[.int .i64 D, .int .i64 k] w fun e w' => e = .returned (.tuple #[.int .i64 (sx k D), .bool true]) ∧ Below w.heap.size w w' := by
  have g1 : (1 : Int) ≤ (D : Int) := by omega
  have g2 : (D : Int) ≤ 8 := by omega
  go_enter Try.func54, Try.ntmps54
  go_wp2_with (first
    | (go_at_call 151; refine (isDimension_yes _ _ g1 g2).mono ?_; rintro e w' ⟨rfl, rfl⟩)
    | (go_at_call 146; refine (areLayers_yes _ _ _ h3 h4).mono ?_; rintro e w' ⟨rfl, rfl⟩)
    | (go_at_call 152; refine (simplexOf_any D k _ h2 h3 h4).mono ?_; rintro e w' ⟨rfl, rfl⟩))
  go_ret2
  exact ⟨rfl, Below.refl _ _⟩
theorem spec_SimplexNumber_miss (D : Nat) (k : Int) (w : World) (h1 : 1 ≤ D) (h2 : D ≤ 8) (h3 : 0 ≤ k) (h4 : k ≤ 2000) (hc : 1000000000000 < sx k D) :
    Calls Try.prog 55 #[.int .i64 D, .int .i64 k] w fun e w' => e = .returned (.tuple #[.int .i64 0, .bool false]) ∧ Below w.heap.size w w' := by
  have g1 : (1 : Int) ≤ (D : Int) := by omega
  have g2 : (D : Int) ≤ 8 := by omega
  go_enter Try.func55, Try.ntmps55
  go_wp2_with (first
    | (go_at_call 153; refine (soDimension_yes _ _ g1 g2).mono ?_; rintro e w' ⟨rfl, rfl⟩)
    | (go_at_call 147; refine (soLayers_yes _ _ h3 h4).mono ?_; rintro e w' ⟨rfl, rfl⟩)
    | (go_at_call 154; refine (soSimplex_any D k _ h1 h2 h3 h4).mono ?_; rintro e w' ⟨rfl, rfl⟩))
  go_ret2
  exact ⟨rfl, Below.refl _ _⟩
theorem impl_SimplexNumber_miss (D : Nat) (k : Int) (w : World) (h1 : 1 ≤ D) (h2 : D ≤ 8) (h3 : 0 ≤ k) (h4 : k ≤ 2000) (hc : 1000000000000 < sx k D) :
    Calls Try.prog 54 #[.int .i64 D, .int .i64 k] w fun e w' => e = .returned (.tuple #[.int .i64 0, .bool false]) ∧ Below w.heap.size w w' := by
  have g1 : (1 : Int) ≤ (D : Int) := by omega
  have g2 : (D : Int) ≤ 8 := by omega
  go_enter Try.func54, Try.ntmps54
  go_wp2_with (first
    | (go_at_call 151; refine (isDimension_yes _ _ g1 g2).mono ?_; rintro e w' ⟨rfl, rfl⟩)
    | (go_at_call 146; refine (areLayers_yes _ _ _ h3 h4).mono ?_; rintro e w' ⟨rfl, rfl⟩)
    | (go_at_call 152; refine (simplexOf_any D k _ h2 h3 h4).mono ?_; rintro e w' ⟨rfl, rfl⟩))
  go_ret2
  exact ⟨rfl, Below.refl _ _⟩
/-! ### the place of a simplex -/
theorem impl_SimplexPlace_no (d n : Int) (w : World) (h : (d < 1 ∨ 8 < d) ∨ (n < 0 ∨ 1000000000000 < n)) :
    Calls Try.prog 56 #[.int .i64 d, .int .i64 n] w fun e w' => e = .returned (.tuple #[.int .i64 0, .bool false]) ∧ Below w.heap.size w w' := by
  by_cases hs : d < 1 ∨ 8 < d
  · have H := Lib.hid hs
    clear h hs
    go_enter Try.func56, Try.ntmps56
    go_wp2_with (go_at_call 151; refine (isDimension_no _ _ H.out).mono ?_; rintro e w' ⟨rfl, rfl⟩)
    go_ret2
    exact ⟨rfl, (Below.refl _ _).alloc (Nat.le_refl _) _⟩
  · have g1 : 1 ≤ d := by omega
    have g2 : d ≤ 8 := by omega
    have H : Hid (n < 0 ∨ 1000000000000 < n) := Lib.hid (by omega)
    clear h hs
    go_enter Try.func56, Try.ntmps56
    go_wp2_with (first
      | (go_at_call 151; refine (isDimension_yes _ _ g1 g2).mono ?_; rintro e w' ⟨rfl, rfl⟩)
      | (go_at_call 155; refine (isStacked_no _ _ H.out).mono ?_; rintro e w' ⟨rfl, rfl⟩))
    go_ret2
    exact ⟨rfl, (Below.refl _ _).alloc (Nat.le_refl _) _⟩
theorem sxPlace1_any (D : Nat) (k : Int) (r : Nat) (w : World) (h2 : D ≤ 8) (h3 : 0 ≤ k) (h4 : k ≤ 2000) (c : w.cell? ⟨r, 0, none⟩ = some (.int .i64 D)) :
    Calls Try.prog 157 #[.int .i64 k, .pointer (some ⟨r, 0, none⟩)] w fun e w' => e = .returned (.int .i64 (sx k D)) ∧ w = w' := by
  go_enter Try.func157, Try.ntmps157
  go_wp2_with (go_at_call 152; refine (simplexOf_any _ _ _ h2 h3 h4).mono ?_; rintro e w' ⟨rfl, rfl⟩)
  go_ret
  exact ⟨rfl, rfl⟩
theorem cf_sxPlace1 : ∀ (args : Array Value) (W : World), (callFunc 157 args).run Try.prog W = .ok (.enter 157 args) W := fun _ _ => by kernel_rfl
theorem sx_tells (i : Nat) (n : Int) (r : Nat) (w : World) (h2 : i + 1 ≤ 8) (c : w.cell? ⟨r, 0, none⟩ = some (.int .i64 (i + 1 : Nat))) (hr : r < w.heap.size) :
    Tells w 2001 n (sl i n 2000 : Nat) 157 #[] #[.pointer (some ⟨r, 0, none⟩)] (fun k => sx k (i + 1)) where
  cf := cf_sxPlace1
  num := fun k W hb h0 h1' => (sxPlace1_any (i + 1) k r W h2 h0 (by omega) ((hb.cell (p := ⟨r, 0, none⟩) hr).trans c)).mono fun e W' ⟨he, hw⟩ => ⟨he, hw ▸ Below.refl _ _⟩
  b0 := by omega
  b1 := by omega
  l0 := by omega
  l1 := by have := (sl_is i n 2000 (by omega)).1; omega
  iff := fun k hk hk2 => by
    obtain ⟨m, rfl⟩ := Int.eq_ofNat_of_zero_le (show 0 ≤ k by omega)
    have := (sl_is i n 2000 (by omega)).2 m (by omega) (by omega)
    omega
theorem impl_SimplexPlace_yes (i : Nat) (n : Int) (w : World) (h2 : i + 1 ≤ 8) (h3 : 0 ≤ n) (h4 : n ≤ 1000000000000) (hv : sx (sl i n 2000 : Nat) (i + 1) = n) :
    Calls Try.prog 56 #[.int .i64 (i + 1 : Nat), .int .i64 n] w fun e w' => e = .returned (.tuple #[.int .i64 (sl i n 2000 : Nat), .bool true]) ∧ Below w.heap.size w w' := by
  have hmf : ∀ (fn : Fn) (first cap : Array Value) (w : World), (Instr.makeFunc fn first cap).run Try.prog w = .ok (.func fn first cap) w := fun _ _ _ _ => rfl
  have HP : ∀ W : World, Hid (W.cell? ⟨w.heap.size, 0, none⟩ = some (.int .i64 (i + 1 : Nat)) → w.heap.size < W.heap.size → Calls Try.prog 156 #[.int .i64 2001, .int .i64 n, .func (.func 157) #[] #[.pointer (some ⟨w.heap.size, 0, none⟩)]] W fun e w' => e = .returned (.tuple #[.int .i64 (sl i n 2000 : Nat), .bool true]) ∧ Below W.heap.size W w') := fun W =>
    Lib.hid fun c hr => placeBelow_yes 2001 n _ _ _ _ _ W (sx_tells i n _ W h2 c hr) hv
  clear hv
  have g1 : (1 : Int) ≤ ((i + 1 : Nat) : Int) := by omega
  have g2 : ((i + 1 : Nat) : Int) ≤ 8 := by omega
  generalize ((i + 1 : Nat) : Int) = d at *
  go_enter Try.func56, Try.ntmps56
  go_wp2_with (first
    | (go_at_call 151; refine (isDimension_yes _ _ g1 g2).mono ?_; rintro e w' ⟨rfl, rfl⟩)
    | (go_at_call 155; refine (isStacked_yes _ _ h3 h4).mono ?_; rintro e w' ⟨rfl, rfl⟩)
    | (go_at_call 156; refine ((HP _).out ?_ ?_).mono ?_; simp [go_sem]; simp; rintro e w1 ⟨rfl, hb1⟩))
  go_ret2
  exact ⟨rfl, ((Below.refl _ _).alloc (Nat.le_refl _) _).trans (hb1.mono (by simp))⟩
theorem impl_SimplexPlace_miss (i : Nat) (n : Int) (w : World) (h2 : i + 1 ≤ 8) (h3 : 0 ≤ n) (h4 : n ≤ 1000000000000) (hv : sx (sl i n 2000 : Nat) (i + 1) ≠ n) :
    Calls Try.prog 56 #[.int .i64 (i + 1 : Nat), .int .i64 n] w fun e w' => e = .returned (.tuple #[.int .i64 0, .bool false]) ∧ Below w.heap.size w w' := by
  have hmf : ∀ (fn : Fn) (first cap : Array Value) (w : World), (Instr.makeFunc fn first cap).run Try.prog w = .ok (.func fn first cap) w := fun _ _ _ _ => rfl
  have HP : ∀ W : World, Hid (W.cell? ⟨w.heap.size, 0, none⟩ = some (.int .i64 (i + 1 : Nat)) → w.heap.size < W.heap.size → Calls Try.prog 156 #[.int .i64 2001, .int .i64 n, .func (.func 157) #[] #[.pointer (some ⟨w.heap.size, 0, none⟩)]] W fun e w' => e = .returned (.tuple #[.int .i64 0, .bool false]) ∧ Below W.heap.size W w') := fun W =>
    Lib.hid fun c hr => placeBelow_no 2001 n _ _ _ _ _ W (sx_tells i n _ W h2 c hr) hv
  clear hv
  have g1 : (1 : Int) ≤ ((i + 1 : Nat) : Int) := by omega
  have g2 : ((i + 1 : Nat) : Int) ≤ 8 := by omega
  generalize ((i + 1 : Nat) : Int) = d at *
  go_enter Try.func56, Try.ntmps56
  go_wp2_with (first
    | (go_at_call 151; refine (isDimension_yes _ _ g1 g2).mono ?_; rintro e w' ⟨rfl, rfl⟩)
    | (go_at_call 155; refine (isStacked_yes _ _ h3 h4).mono ?_; rintro e w' ⟨rfl, rfl⟩)
    | (go_at_call 156; refine ((HP _).out ?_ ?_).mono ?_; simp [go_sem]; simp; rintro e w1 ⟨rfl, hb1⟩))
  go_ret2
  exact ⟨rfl, ((Below.refl _ _).alloc (Nat.le_refl _) _).trans (hb1.mono (by simp))⟩
set_option maxHeartbeats 800000 in
theorem spec_SimplexPlace_yes (i : Nat) (n : Int) (w : World) (h2 : i + 1 ≤ 8) (h3 : 0 ≤ n) (h4 : n ≤ 1000000000000) (hv : sx (sl i n 2000 : Nat) (i + 1) = n) :
    Calls Try.prog 57 #[.int .i64 (i + 1 : Nat), .int .i64 n] w fun e w' => e = .returned (.tuple #[.int .i64 (sl i n 2000 : Nat), .bool true]) ∧ Below w.heap.size w w' := by
  have HF := Lib.hid fun (k : Nat) hk => sl_first i n h3 h4 k hk
  have hL := (sl_is i n 2000 (by omega)).1
  have HS : ∀ (k : Int) (w : World), Hid (0 ≤ k → k ≤ 2000 → Calls Try.prog 154 #[.int .i64 (i + 1 : Nat), .int .i64 k] w fun e w' => e = .returned (.int .i64 (sx k (i + 1))) ∧ w = w') := fun k w => Lib.hid fun a b => soSimplex_any (i + 1) k w (by omega) h2 a b
  have HV := Lib.hid hv
  clear hv
  generalize sl i n 2000 = L at *
  have g1 : (1 : Int) ≤ ((i + 1 : Nat) : Int) := by omega
  have g2 : ((i + 1 : Nat) : Int) ≤ 8 := by omega
  generalize ((i + 1 : Nat) : Int) = d at *
  go_enter Try.func57, Try.ntmps57
  go_wp2_with (first
    | (go_at_call 153; refine (soDimension_yes _ _ g1 g2).mono ?_; rintro e w' ⟨rfl, rfl⟩)
    | (go_at_call 158; refine (soStacked_yes _ _ h3 h4).mono ?_; rintro e w' ⟨rfl, rfl⟩))
  go_loop [6] (fun k => ∃ j : Nat, j ≤ L ∧ k = .int .i64 j) (fun k => 2001 - (intOf k).toNat)
  case atStart => exact ⟨0, by omega, rfl⟩
  case round =>
    obtain ⟨j, hj, rfl⟩ := hrel
    have hj2 : (j : Int) ≤ 2000 := by omega
    by_cases he : j = L
    · have hb : (sx (j : Int) (i + 1) == n) = true := by rw [he]; simpa using HV.out
      have HE := Lib.hid he
      clear he
      go_wp2_with (go_at_call 154; refine ((HS _ _).out (by omega) (by omega)).mono ?_; rintro e w' ⟨rfl, rfl⟩)
      go_ret2
      obtain rfl := HE.out
      exact ⟨rfl, Below.refl _ _⟩
    · have hb : (sx (j : Int) (i + 1) == n) = false := by
        have := HF.out j (by omega)
        simp
        omega
      go_wp2_with (go_at_call 154; refine ((HS _ _).out (by omega) (by omega)).mono ?_; rintro e w' ⟨rfl, rfl⟩)
      go_round
      case rel => exact ⟨j + 1, by omega, by go_num⟩
      case measure => simp [intOf]; omega
set_option maxHeartbeats 800000 in
theorem spec_SimplexPlace_miss (i : Nat) (n : Int) (w : World) (h2 : i + 1 ≤ 8) (h3 : 0 ≤ n) (h4 : n ≤ 1000000000000) (hv : sx (sl i n 2000 : Nat) (i + 1) ≠ n) :
    Calls Try.prog 57 #[.int .i64 (i + 1 : Nat), .int .i64 n] w fun e w' => e = .returned (.tuple #[.int .i64 0, .bool false]) ∧ Below w.heap.size w w' := by
  have HF : Hid (∀ k : Nat, k ≤ 2000 → sx (k : Int) (i + 1) ≠ n) := Lib.hid fun k hk h => hv (by rw [← sl_first i n h3 h4 k hk h]; exact h)
  have HS : ∀ (k : Int) (w : World), Hid (0 ≤ k → k ≤ 2000 → Calls Try.prog 154 #[.int .i64 (i + 1 : Nat), .int .i64 k] w fun e w' => e = .returned (.int .i64 (sx k (i + 1))) ∧ w = w') := fun k w => Lib.hid fun a b => soSimplex_any (i + 1) k w (by omega) h2 a b
  clear hv
  have g1 : (1 : Int) ≤ ((i + 1 : Nat) : Int) := by omega
  have g2 : ((i + 1 : Nat) : Int) ≤ 8 := by omega
  generalize ((i + 1 : Nat) : Int) = d at *
  go_enter Try.func57, Try.ntmps57
  go_wp2_with (first
    | (go_at_call 153; refine (soDimension_yes _ _ g1 g2).mono ?_; rintro e w' ⟨rfl, rfl⟩)
    | (go_at_call 158; refine (soStacked_yes _ _ h3 h4).mono ?_; rintro e w' ⟨rfl, rfl⟩))
  go_loop [6] (fun k => ∃ j : Nat, j ≤ 2001 ∧ k = .int .i64 j) (fun k => 2001 - (intOf k).toNat)
  case atStart => exact ⟨0, by omega, rfl⟩
  case round =>
    obtain ⟨j, hj, rfl⟩ := hrel
    by_cases hlt : j ≤ 2000
    · have hj2 : (j : Int) ≤ 2000 := by omega
      have hb : (sx (j : Int) (i + 1) == n) = false := by
        have := HF.out j (by omega)
        simpa using this
      go_wp2_with (go_at_call 154; refine ((HS _ _).out (by omega) (by omega)).mono ?_; rintro e w' ⟨rfl, rfl⟩)
      go_round
      case rel => exact ⟨j + 1, by omega, by go_num⟩
      case measure => simp [intOf]; omega
    · have hj2 : 2000 < (j : Int) := by omega
      go_wp2
      go_ret2
      exact ⟨rfl, Below.refl _ _⟩
end Go.Proofs.Ytppdjjdejggjaaa
