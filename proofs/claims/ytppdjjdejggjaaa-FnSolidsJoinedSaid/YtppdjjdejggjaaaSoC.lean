/- The laws FnExactLayersOfPyramid, FnExactIsPyramidal: the program finds layers as the specification does, whatever the arguments. No condition. -/
import Derived.Test.YtppdjjdejggjaaaSoA
import Derived.Test.YtppdjjdejggjaaaImC
namespace Go.Proofs.Ytppdjjdejggjaaa
open Go.ChangeShapes Go.WideShapes Go.ChangeAt Go.RowKit

set_option maxHeartbeats 800000 in
theorem soFind_any (s n : Int) (yes : Bool) (w : World) (h1 : 3 ≤ s) (h2 : s ≤ 24) (h3 : 0 ≤ n) (h4 : n ≤ 1000000000000) (hy : (pyr s (lst (pyr s) n) == n) = yes) :
    Calls Try.prog 164 #[.int .i64 s, .int .i64 n] w fun e w' => e = .returned (.int .i64 (if yes then lst (pyr s) n else -1)) ∧ w = w' := by
  have p0 := lst_nn (sq_pyr s h1) n h3
  have p1 := pyl_lt s n h1 h3 h4
  have HI := Lib.hid fun k hk => lst_iff (sq_pyr s h1) n k h3 hk
  generalize lst (pyr s) n = L at *
  have hne : (pyr s L != n) = !yes := by rw [← hy]; rfl
  have HNE := Lib.hid hne
  clear hy hne
  go_enter Try.func164, Try.ntmps164
  go_wp2
  go_loop [5, 6, 7] (fun l h _ => ∃ a b : Int, l = .int .i64 a ∧ h = .int .i64 b ∧ 0 ≤ a ∧ a ≤ L ∧ L ≤ b ∧ b ≤ 20000) (fun l h _ => (intOf h - intOf l).toNat)
  case atStart => exact ⟨0, 20000, rfl, rfl, by omega, by omega, by omega, by omega⟩
  case round =>
    obtain ⟨a, b, rfl, rfl, ha0, ha1, hb0, hb1⟩ := hrel
    by_cases hlt : a < b
    · have hm := HI.out ((a + b + 1) / 2) (by omega)
      by_cases hf : (a + b + 1) / 2 ≤ L
      · have hn := hm.2 hf
        clear hm
        go_wp2_with (go_at_call 148; refine (soPyramid_any _ _ _ h1 h2 (by omega) (by omega)).mono ?_; rintro e w' ⟨rfl, rfl⟩)
        go_round
        case rel => exact ⟨_, _, rfl, rfl, by omega, hf, by omega, by omega⟩
        case measure => simp [intOf]; omega
      · have hn : n < pyr s ((a + b + 1) / 2) := by
          rcases Int.lt_or_le n (pyr s ((a + b + 1) / 2)) with h | h
          · exact h
          · exact absurd (hm.1 h) hf
        clear hm
        go_wp2_with (go_at_call 148; refine (soPyramid_any _ _ _ h1 h2 (by omega) (by omega)).mono ?_; rintro e w' ⟨rfl, rfl⟩)
        go_round
        case rel => exact ⟨_, _, rfl, rfl, by omega, by omega, by omega, by omega⟩
        case measure => simp [intOf]; omega
    · have he : a = L := by omega
      subst he
      have hne := HNE.out
      cases yes
      · have hc : (pyr s a != n) = true := by simpa using hne
        clear hne
        go_wp2_with (go_at_call 148; refine (soPyramid_any _ _ _ h1 h2 (by omega) (by omega)).mono ?_; rintro e w' ⟨rfl, rfl⟩)
        go_ret
        exact ⟨rfl, rfl⟩
      · have hc : (pyr s a != n) = false := by simpa using hne
        clear hne
        go_wp2_with (go_at_call 148; refine (soPyramid_any _ _ _ h1 h2 (by omega) (by omega)).mono ?_; rintro e w' ⟨rfl, rfl⟩)
        go_ret
        exact ⟨rfl, rfl⟩

/-! ### the program's search -/
theorem layersWith1_any (s k : Int) (r : Nat) (w : World) (h1 : 3 ≤ s) (h2 : s ≤ 24) (h3 : 0 ≤ k) (h4 : k ≤ 32768) (c : w.cell? ⟨r, 0, none⟩ = some (.int .i64 s)) :
    Calls Try.prog 193 #[.int .i64 k, .pointer (some ⟨r, 0, none⟩)] w fun e w' => e = .returned (.int .i64 (pyr s k)) ∧ w = w' := by
  go_enter Try.func193, Try.ntmps193
  go_wp2_with (go_at_call 150; refine (pyramidOf_any _ _ _ h1 h2 h3 h4).mono ?_; rintro e w' ⟨rfl, rfl⟩)
  go_ret
  exact ⟨rfl, rfl⟩
theorem cf_layersWith1 : ∀ (args : Array Value) (W : World), (callFunc 193 args).run Try.prog W = .ok (.enter 193 args) W := fun _ _ => by kernel_rfl
theorem layers_tells (s n : Int) (r : Nat) (w : World) (h1 : 3 ≤ s) (h2 : s ≤ 24) (h3 : 0 ≤ n) (h4 : n ≤ 1000000000000) (c : w.cell? ⟨r, 0, none⟩ = some (.int .i64 s)) (hr : r < w.heap.size) :
    Tells w 32768 n (lst (pyr s) n) 193 #[] #[.pointer (some ⟨r, 0, none⟩)] (pyr s) where
  cf := cf_layersWith1
  num := fun k W hb h0 h1' => (layersWith1_any s k r W h1 h2 h0 (by omega) ((hb.cell (p := ⟨r, 0, none⟩) hr).trans c)).mono fun e W' ⟨he, hw⟩ => ⟨he, hw ▸ Below.refl _ _⟩
  b0 := by omega
  b1 := by omega
  l0 := lst_nn (sq_pyr s h1) n h3
  l1 := by have := pyl_lt s n h1 h3 h4; omega
  iff := fun k hk _ => lst_iff (sq_pyr s h1) n k h3 (by omega)
theorem layersWith_yes (s n : Int) (w : World) (h1 : 3 ≤ s) (h2 : s ≤ 24) (h3 : 0 ≤ n) (h4 : n ≤ 1000000000000) (hv : pyr s (lst (pyr s) n) = n) :
    Calls Try.prog 162 #[.int .i64 s, .int .i64 n] w fun e w' => e = .returned (.tuple #[.int .i64 (lst (pyr s) n), .bool true]) ∧ Below w.heap.size w w' := by
  have hmf : ∀ (fn : Fn) (first cap : Array Value) (w : World), (Instr.makeFunc fn first cap).run Try.prog w = .ok (.func fn first cap) w := fun _ _ _ _ => rfl
  have HP : ∀ W : World, Hid (W.cell? ⟨w.heap.size, 0, none⟩ = some (.int .i64 s) → w.heap.size < W.heap.size → Calls Try.prog 156 #[.int .i64 32768, .int .i64 n, .func (.func 193) #[] #[.pointer (some ⟨w.heap.size, 0, none⟩)]] W fun e w' => e = .returned (.tuple #[.int .i64 (lst (pyr s) n), .bool true]) ∧ Below W.heap.size W w') := fun W =>
    Lib.hid fun c hr => placeBelow_yes 32768 n _ _ _ _ _ W (layers_tells s n _ W h1 h2 h3 h4 c hr) hv
  clear hv
  go_enter Try.func162, Try.ntmps162
  go_wp2_with (go_at_call 156; refine ((HP _).out ?_ ?_).mono ?_; simp [go_sem]; simp; rintro e w1 ⟨rfl, hb1⟩)
  go_ret2
  exact ⟨rfl, ((Below.refl _ _).alloc (Nat.le_refl _) _).trans (hb1.mono (by simp))⟩
theorem layersWith_no (s n : Int) (w : World) (h1 : 3 ≤ s) (h2 : s ≤ 24) (h3 : 0 ≤ n) (h4 : n ≤ 1000000000000) (hv : pyr s (lst (pyr s) n) ≠ n) :
    Calls Try.prog 162 #[.int .i64 s, .int .i64 n] w fun e w' => e = .returned (.tuple #[.int .i64 0, .bool false]) ∧ Below w.heap.size w w' := by
  have hmf : ∀ (fn : Fn) (first cap : Array Value) (w : World), (Instr.makeFunc fn first cap).run Try.prog w = .ok (.func fn first cap) w := fun _ _ _ _ => rfl
  have HP : ∀ W : World, Hid (W.cell? ⟨w.heap.size, 0, none⟩ = some (.int .i64 s) → w.heap.size < W.heap.size → Calls Try.prog 156 #[.int .i64 32768, .int .i64 n, .func (.func 193) #[] #[.pointer (some ⟨w.heap.size, 0, none⟩)]] W fun e w' => e = .returned (.tuple #[.int .i64 0, .bool false]) ∧ Below W.heap.size W w') := fun W =>
    Lib.hid fun c hr => placeBelow_no 32768 n _ _ _ _ _ W (layers_tells s n _ W h1 h2 h3 h4 c hr) hv
  clear hv
  go_enter Try.func162, Try.ntmps162
  go_wp2_with (go_at_call 156; refine ((HP _).out ?_ ?_).mono ?_; simp [go_sem]; simp; rintro e w1 ⟨rfl, hb1⟩)
  go_ret2
  exact ⟨rfl, ((Below.refl _ _).alloc (Nat.le_refl _) _).trans (hb1.mono (by simp))⟩
theorem spec_LayersOfPyramid_no (s n : Int) (w : World) (h : (s < 3 ∨ 24 < s) ∨ (n < 0 ∨ 1000000000000 < n)) :
    Calls Try.prog 66 #[.int .i64 s, .int .i64 n] w fun e w' => e = .returned (.tuple #[.int .i64 0, .bool false]) ∧ Below w.heap.size w w' := by
  by_cases hs : s < 3 ∨ 24 < s
  · have H : Hid (s < 3 ∨ 24 < s) := Lib.hid hs
    clear h hs
    go_enter Try.func66, Try.ntmps66
    go_wp2_with (first
      | (go_at_call 160; refine (shSides_no _ _ H.out).mono ?_; rintro e w' ⟨rfl, rfl⟩))
    go_ret2
    exact ⟨rfl, Below.refl _ _⟩
  · skip
    have h1 : 3 ≤ s := by omega
    have h2 : s ≤ 24 := by omega
    have h' := h
    clear h
    have h : n < 0 ∨ 1000000000000 < n := by omega
    clear h' hs
    have H : Hid (n < 0 ∨ 1000000000000 < n) := Lib.hid (by omega)
    clear h
    go_enter Try.func66, Try.ntmps66
    go_wp2_with (first
      | (go_at_call 160; refine (shSides_yes _ _ h1 h2).mono ?_; rintro e w' ⟨rfl, rfl⟩)
      | (go_at_call 158; refine (soStacked_no _ _ H.out).mono ?_; rintro e w' ⟨rfl, rfl⟩))
    go_ret2
    exact ⟨rfl, Below.refl _ _⟩
theorem impl_LayersOfPyramid_no (s n : Int) (w : World) (h : (s < 3 ∨ 24 < s) ∨ (n < 0 ∨ 1000000000000 < n)) :
    Calls Try.prog 62 #[.int .i64 s, .int .i64 n] w fun e w' => e = .returned (.tuple #[.int .i64 0, .bool false]) ∧ Below w.heap.size w w' := by
  by_cases hs : s < 3 ∨ 24 < s
  · have H : Hid (s < 3 ∨ 24 < s) := Lib.hid hs
    clear h hs
    go_enter Try.func62, Try.ntmps62
    go_wp2_with (first
      | (go_at_call 161; refine (areSides_no _ _ H.out).mono ?_; rintro e w' ⟨rfl, rfl⟩))
    go_ret2
    exact ⟨rfl, Below.refl _ _⟩
  · skip
    have h1 : 3 ≤ s := by omega
    have h2 : s ≤ 24 := by omega
    have h' := h
    clear h
    have h : n < 0 ∨ 1000000000000 < n := by omega
    clear h' hs
    have H : Hid (n < 0 ∨ 1000000000000 < n) := Lib.hid (by omega)
    clear h
    go_enter Try.func62, Try.ntmps62
    go_wp2_with (first
      | (go_at_call 161; refine (areSides_yes _ _ h1 h2).mono ?_; rintro e w' ⟨rfl, rfl⟩)
      | (go_at_call 155; refine (isStacked_no _ _ H.out).mono ?_; rintro e w' ⟨rfl, rfl⟩))
    go_ret2
    exact ⟨rfl, Below.refl _ _⟩
theorem spec_LayersOfPyramid_yes (s n : Int) (w : World) (h1 : 3 ≤ s) (h2 : s ≤ 24) (h3 : 0 ≤ n) (h4 : n ≤ 1000000000000) (hc : pyr s (lst (pyr s) n) = n) :
    Calls Try.prog 66 #[.int .i64 s, .int .i64 n] w fun e w' => e = .returned (.tuple #[.int .i64 (lst (pyr s) n), .bool true]) ∧ Below w.heap.size w w' := by
  have p0 := lst_nn (sq_pyr s h1) n h3
  have HF : ∀ w : World, Hid (Calls Try.prog 164 #[.int .i64 s, .int .i64 n] w fun e w' => e = .returned (.int .i64 (lst (pyr s) n)) ∧ w = w') := fun w => Lib.hid ((soFind_any s n true w h1 h2 h3 h4 (by simpa using hc)).mono fun e w' h => by simpa using h)
  clear hc
  generalize lst (pyr s) n = L at *
  go_enter Try.func66, Try.ntmps66
  go_wp2_with (first
    | (go_at_call 160; refine (shSides_yes _ _ h1 h2).mono ?_; rintro e w' ⟨rfl, rfl⟩)
    | (go_at_call 158; refine (soStacked_yes _ _ h3 h4).mono ?_; rintro e w' ⟨rfl, rfl⟩)
    | (go_at_call 164; refine ((HF _).out).mono ?_; rintro e w' ⟨rfl, rfl⟩))
  go_ret2
  exact ⟨rfl, Below.refl _ _⟩
theorem impl_LayersOfPyramid_yes (s n : Int) (w : World) (h1 : 3 ≤ s) (h2 : s ≤ 24) (h3 : 0 ≤ n) (h4 : n ≤ 1000000000000) (hc : pyr s (lst (pyr s) n) = n) :
    Calls Try.prog 62 #[.int .i64 s, .int .i64 n] w fun e w' => e = .returned (.tuple #[.int .i64 (lst (pyr s) n), .bool true]) ∧ Below w.heap.size w w' := by
  have HF := Lib.hid fun w => layersWith_yes s n w h1 h2 h3 h4 hc
  clear hc
  go_enter Try.func62, Try.ntmps62
  go_wp2_with (first
    | (go_at_call 161; refine (areSides_yes _ _ h1 h2).mono ?_; rintro e w' ⟨rfl, rfl⟩)
    | (go_at_call 155; refine (isStacked_yes _ _ h3 h4).mono ?_; rintro e w' ⟨rfl, rfl⟩)
    | (go_at_call 162; refine (HF.out _).mono ?_; rintro e w1 ⟨rfl, hb1⟩))
  go_ret2
  exact ⟨rfl, hb1⟩
theorem spec_LayersOfPyramid_miss (s n : Int) (w : World) (h1 : 3 ≤ s) (h2 : s ≤ 24) (h3 : 0 ≤ n) (h4 : n ≤ 1000000000000) (hc : ¬ pyr s (lst (pyr s) n) = n) :
    Calls Try.prog 66 #[.int .i64 s, .int .i64 n] w fun e w' => e = .returned (.tuple #[.int .i64 0, .bool false]) ∧ Below w.heap.size w w' := by
  have p0 := lst_nn (sq_pyr s h1) n h3
  have HF : ∀ w : World, Hid (Calls Try.prog 164 #[.int .i64 s, .int .i64 n] w fun e w' => e = .returned (.int .i64 (-1)) ∧ w = w') := fun w => Lib.hid ((soFind_any s n false w h1 h2 h3 h4 (by simpa using hc)).mono fun e w' h => by simpa using h)
  clear hc
  generalize lst (pyr s) n = L at *
  go_enter Try.func66, Try.ntmps66
  go_wp2_with (first
    | (go_at_call 160; refine (shSides_yes _ _ h1 h2).mono ?_; rintro e w' ⟨rfl, rfl⟩)
    | (go_at_call 158; refine (soStacked_yes _ _ h3 h4).mono ?_; rintro e w' ⟨rfl, rfl⟩)
    | (go_at_call 164; refine ((HF _).out).mono ?_; rintro e w' ⟨rfl, rfl⟩))
  go_ret2
  exact ⟨rfl, Below.refl _ _⟩
theorem impl_LayersOfPyramid_miss (s n : Int) (w : World) (h1 : 3 ≤ s) (h2 : s ≤ 24) (h3 : 0 ≤ n) (h4 : n ≤ 1000000000000) (hc : ¬ pyr s (lst (pyr s) n) = n) :
    Calls Try.prog 62 #[.int .i64 s, .int .i64 n] w fun e w' => e = .returned (.tuple #[.int .i64 0, .bool false]) ∧ Below w.heap.size w w' := by
  have HF := Lib.hid fun w => layersWith_no s n w h1 h2 h3 h4 hc
  clear hc
  go_enter Try.func62, Try.ntmps62
  go_wp2_with (first
    | (go_at_call 161; refine (areSides_yes _ _ h1 h2).mono ?_; rintro e w' ⟨rfl, rfl⟩)
    | (go_at_call 155; refine (isStacked_yes _ _ h3 h4).mono ?_; rintro e w' ⟨rfl, rfl⟩)
    | (go_at_call 162; refine (HF.out _).mono ?_; rintro e w1 ⟨rfl, hb1⟩))
  go_ret2
  exact ⟨rfl, hb1⟩
theorem spec_IsPyramidal_no (s n : Int) (w : World) (h : (s < 3 ∨ 24 < s) ∨ (n < 0 ∨ 1000000000000 < n)) :
    Calls Try.prog 67 #[.int .i64 s, .int .i64 n] w fun e w' => e = .returned (.tuple #[.bool false, .bool false]) ∧ Below w.heap.size w w' := by
  by_cases hs : s < 3 ∨ 24 < s
  · have H : Hid (s < 3 ∨ 24 < s) := Lib.hid hs
    clear h hs
    go_enter Try.func67, Try.ntmps67
    go_wp2_with (first
      | (go_at_call 160; refine (shSides_no _ _ H.out).mono ?_; rintro e w' ⟨rfl, rfl⟩))
    go_ret2
    exact ⟨rfl, Below.refl _ _⟩
  · skip
    have h1 : 3 ≤ s := by omega
    have h2 : s ≤ 24 := by omega
    have h' := h
    clear h
    have h : n < 0 ∨ 1000000000000 < n := by omega
    clear h' hs
    have H : Hid (n < 0 ∨ 1000000000000 < n) := Lib.hid (by omega)
    clear h
    go_enter Try.func67, Try.ntmps67
    go_wp2_with (first
      | (go_at_call 160; refine (shSides_yes _ _ h1 h2).mono ?_; rintro e w' ⟨rfl, rfl⟩)
      | (go_at_call 158; refine (soStacked_no _ _ H.out).mono ?_; rintro e w' ⟨rfl, rfl⟩))
    go_ret2
    exact ⟨rfl, Below.refl _ _⟩
theorem impl_IsPyramidal_no (s n : Int) (w : World) (h : (s < 3 ∨ 24 < s) ∨ (n < 0 ∨ 1000000000000 < n)) :
    Calls Try.prog 63 #[.int .i64 s, .int .i64 n] w fun e w' => e = .returned (.tuple #[.bool false, .bool false]) ∧ Below w.heap.size w w' := by
  by_cases hs : s < 3 ∨ 24 < s
  · have H : Hid (s < 3 ∨ 24 < s) := Lib.hid hs
    clear h hs
    go_enter Try.func63, Try.ntmps63
    go_wp2_with (first
      | (go_at_call 161; refine (areSides_no _ _ H.out).mono ?_; rintro e w' ⟨rfl, rfl⟩))
    go_ret2
    exact ⟨rfl, Below.refl _ _⟩
  · skip
    have h1 : 3 ≤ s := by omega
    have h2 : s ≤ 24 := by omega
    have h' := h
    clear h
    have h : n < 0 ∨ 1000000000000 < n := by omega
    clear h' hs
    have H : Hid (n < 0 ∨ 1000000000000 < n) := Lib.hid (by omega)
    clear h
    go_enter Try.func63, Try.ntmps63
    go_wp2_with (first
      | (go_at_call 161; refine (areSides_yes _ _ h1 h2).mono ?_; rintro e w' ⟨rfl, rfl⟩)
      | (go_at_call 155; refine (isStacked_no _ _ H.out).mono ?_; rintro e w' ⟨rfl, rfl⟩))
    go_ret2
    exact ⟨rfl, Below.refl _ _⟩
theorem spec_IsPyramidal_yes (s n : Int) (w : World) (h1 : 3 ≤ s) (h2 : s ≤ 24) (h3 : 0 ≤ n) (h4 : n ≤ 1000000000000) (hc : pyr s (lst (pyr s) n) = n) :
    Calls Try.prog 67 #[.int .i64 s, .int .i64 n] w fun e w' => e = .returned (.tuple #[.bool true, .bool true]) ∧ Below w.heap.size w w' := by
  have p0 := lst_nn (sq_pyr s h1) n h3
  have HF : ∀ w : World, Hid (Calls Try.prog 164 #[.int .i64 s, .int .i64 n] w fun e w' => e = .returned (.int .i64 (lst (pyr s) n)) ∧ w = w') := fun w => Lib.hid ((soFind_any s n true w h1 h2 h3 h4 (by simpa using hc)).mono fun e w' h => by simpa using h)
  clear hc
  generalize lst (pyr s) n = L at *
  go_enter Try.func67, Try.ntmps67
  go_wp2_with (first
    | (go_at_call 160; refine (shSides_yes _ _ h1 h2).mono ?_; rintro e w' ⟨rfl, rfl⟩)
    | (go_at_call 158; refine (soStacked_yes _ _ h3 h4).mono ?_; rintro e w' ⟨rfl, rfl⟩)
    | (go_at_call 164; refine ((HF _).out).mono ?_; rintro e w' ⟨rfl, rfl⟩))
  go_ret2
  exact ⟨rfl, Below.refl _ _⟩
theorem impl_IsPyramidal_yes (s n : Int) (w : World) (h1 : 3 ≤ s) (h2 : s ≤ 24) (h3 : 0 ≤ n) (h4 : n ≤ 1000000000000) (hc : pyr s (lst (pyr s) n) = n) :
    Calls Try.prog 63 #[.int .i64 s, .int .i64 n] w fun e w' => e = .returned (.tuple #[.bool true, .bool true]) ∧ Below w.heap.size w w' := by
  have HF := Lib.hid fun w => layersWith_yes s n w h1 h2 h3 h4 hc
  clear hc
  go_enter Try.func63, Try.ntmps63
  go_wp2_with (first
    | (go_at_call 161; refine (areSides_yes _ _ h1 h2).mono ?_; rintro e w' ⟨rfl, rfl⟩)
    | (go_at_call 155; refine (isStacked_yes _ _ h3 h4).mono ?_; rintro e w' ⟨rfl, rfl⟩)
    | (go_at_call 162; refine (HF.out _).mono ?_; rintro e w1 ⟨rfl, hb1⟩))
  go_ret2
  exact ⟨rfl, hb1⟩
theorem spec_IsPyramidal_miss (s n : Int) (w : World) (h1 : 3 ≤ s) (h2 : s ≤ 24) (h3 : 0 ≤ n) (h4 : n ≤ 1000000000000) (hc : ¬ pyr s (lst (pyr s) n) = n) :
    Calls Try.prog 67 #[.int .i64 s, .int .i64 n] w fun e w' => e = .returned (.tuple #[.bool false, .bool true]) ∧ Below w.heap.size w w' := by
  have p0 := lst_nn (sq_pyr s h1) n h3
  have HF : ∀ w : World, Hid (Calls Try.prog 164 #[.int .i64 s, .int .i64 n] w fun e w' => e = .returned (.int .i64 (-1)) ∧ w = w') := fun w => Lib.hid ((soFind_any s n false w h1 h2 h3 h4 (by simpa using hc)).mono fun e w' h => by simpa using h)
  clear hc
  generalize lst (pyr s) n = L at *
  go_enter Try.func67, Try.ntmps67
  go_wp2_with (first
    | (go_at_call 160; refine (shSides_yes _ _ h1 h2).mono ?_; rintro e w' ⟨rfl, rfl⟩)
    | (go_at_call 158; refine (soStacked_yes _ _ h3 h4).mono ?_; rintro e w' ⟨rfl, rfl⟩)
    | (go_at_call 164; refine ((HF _).out).mono ?_; rintro e w' ⟨rfl, rfl⟩))
  go_ret2
  exact ⟨rfl, Below.refl _ _⟩
theorem impl_IsPyramidal_miss (s n : Int) (w : World) (h1 : 3 ≤ s) (h2 : s ≤ 24) (h3 : 0 ≤ n) (h4 : n ≤ 1000000000000) (hc : ¬ pyr s (lst (pyr s) n) = n) :
    Calls Try.prog 63 #[.int .i64 s, .int .i64 n] w fun e w' => e = .returned (.tuple #[.bool false, .bool true]) ∧ Below w.heap.size w w' := by
  have HF := Lib.hid fun w => layersWith_no s n w h1 h2 h3 h4 hc
  clear hc
  go_enter Try.func63, Try.ntmps63
  go_wp2_with (first
    | (go_at_call 161; refine (areSides_yes _ _ h1 h2).mono ?_; rintro e w' ⟨rfl, rfl⟩)
    | (go_at_call 155; refine (isStacked_yes _ _ h3 h4).mono ?_; rintro e w' ⟨rfl, rfl⟩)
    | (go_at_call 162; refine (HF.out _).mono ?_; rintro e w1 ⟨rfl, hb1⟩))
  go_ret2
  exact ⟨rfl, hb1⟩
end Go.Proofs.Ytppdjjdejggjaaa
