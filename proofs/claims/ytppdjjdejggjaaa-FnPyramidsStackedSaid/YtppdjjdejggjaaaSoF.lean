/- The laws FnExactLayerList, FnExactFrustumNumber: the program's layers are the specification's, whatever the arguments. No condition. -/
import Derived.Test.YtppdjjdejggjaaaSoE
namespace Go.Proofs.Ytppdjjdejggjaaa
open Go.ChangeShapes Go.WideShapes Go.ChangeAt Go.RowKit

set_option maxRecDepth 4000 in
theorem spec_LayerList_no (s k : Int) (w : World) (h : (s < 3 ∨ 24 < s) ∨ (k < 0 ∨ 200 < k)) :
    Calls Try.prog 70 #[.int .i64 s, .int .i64 k] w (ResI false [] w) := by
  by_cases hs : s < 3 ∨ 24 < s
  · have H : Hid (s < 3 ∨ 24 < s) := Lib.hid hs
    clear h hs
    go_enter Try.func70, Try.ntmps70
    go_wp2_with (first
      | (go_at_call 160; refine (shSides_no _ _ H.out).mono ?_; rintro e w' ⟨rfl, rfl⟩))
    go_ret2
    exact resI_nil (Below.refl _ _)
  · skip
    have h1 : 3 ≤ s := by omega
    have h2 : s ≤ 24 := by omega
    have h' := h
    clear h
    have h : k < 0 ∨ 200 < k := by omega
    clear h' hs
    have H : Hid (k < 0 ∨ 200 < k) := Lib.hid (by omega)
    clear h
    go_enter Try.func70, Try.ntmps70
    go_wp2_with (first
      | (go_at_call 160; refine (shSides_yes _ _ h1 h2).mono ?_; rintro e w' ⟨rfl, rfl⟩)
      | (go_at_call 137; refine (in_no _ _ _ _ H.out).mono ?_; rintro e w' ⟨rfl, rfl⟩))
    go_ret2
    exact resI_nil (Below.refl _ _)
set_option maxRecDepth 4000 in
theorem impl_LayerList_no (s k : Int) (w : World) (h : (s < 3 ∨ 24 < s) ∨ (k < 0 ∨ 200 < k)) :
    Calls Try.prog 64 #[.int .i64 s, .int .i64 k] w (ResI false [] w) := by
  by_cases hs : s < 3 ∨ 24 < s
  · have H : Hid (s < 3 ∨ 24 < s) := Lib.hid hs
    clear h hs
    go_enter Try.func64, Try.ntmps64
    go_wp2_with (first
      | (go_at_call 161; refine (areSides_no _ _ H.out).mono ?_; rintro e w' ⟨rfl, rfl⟩))
    go_ret2
    exact resI_nil (Below.refl _ _)
  · skip
    have h1 : 3 ≤ s := by omega
    have h2 : s ≤ 24 := by omega
    have h' := h
    clear h
    have h : k < 0 ∨ 200 < k := by omega
    clear h' hs
    have H : Hid (k < 0 ∨ 200 < k) := Lib.hid (by omega)
    clear h
    go_enter Try.func64, Try.ntmps64
    go_wp2_with (first
      | (go_at_call 161; refine (areSides_yes _ _ h1 h2).mono ?_; rintro e w' ⟨rfl, rfl⟩)
      | (go_at_call 132; refine (within_no _ _ _ _ H.out).mono ?_; rintro e w' ⟨rfl, rfl⟩))
    go_ret2
    exact resI_nil (Below.refl _ _)

set_option maxRecDepth 4000 in
set_option maxHeartbeats 800000 in
theorem spec_LayerList_yes (s : Int) (N : Nat) (w : World) (h1 : 3 ≤ s) (h2 : s ≤ 24) (hN : N ≤ 200) :
    Calls Try.prog 70 #[.int .i64 s, .int .i64 N] w (ResI true (nums s N) w) := by
  obtain ⟨i0, hi0, hz0, hz1, hz2⟩ := info_parts infoInt
  have i1 : (0 : Int) ≤ (N : Int) := by omega
  have i2 : (N : Int) ≤ 200 := by omega
  go_enter Try.func70, Try.ntmps70
  go_wp2_with (first
    | (go_at_call 160; refine (shSides_yes _ _ h1 h2).mono ?_; rintro e w' ⟨rfl, rfl⟩)
    | (go_at_call 137; refine (in_yes _ _ _ _ i1 i2).mono ?_; rintro e w' ⟨rfl, rfl⟩))
  go_loopw [6, 7] (fun v i wr => ∃ k : Nat, k ≤ N ∧ i = .int .i64 ((k : Int) + 1) ∧ Hid (wr.ownsRow w.heap.size 3 1 v k (i64s (nums s k))) ∧ Below w.heap.size w wr) (fun _ i _ => N + 1 - (intOf i).toNat)
  case atStart => exact ⟨0, by omega, rfl, Lib.hid (World.ownsRow_nil _ _ _ _), Below.refl _ _⟩
  case round =>
    obtain ⟨k, hk, rfl, hown, hb⟩ := hrel
    by_cases hlt : k < N
    · have hkI : (k : Int) + 1 ≤ (N : Int) := by omega
      go_wp2_with (first
        | (go_at_call 126; refine (shNumber_any _ _ _ h1 h2 (by omega) (by omega)).mono ?_; rintro e w' ⟨rfl, rfl⟩)
        | (at_builtin; refine wpList_append_own _ rfl _ _ 39 rfl w.heap.size 3 i0 (.int .i64 0) 1 8 Try.underlying39 hi0 hz0 hz1 hz2 rfl (by decide) _ _ _ rfl (hown.out.alloc _) ⟨wr.heap.size, 0, none⟩ 1 1 [.int .i64 (num s ((k : Int) + 1))] rfl rfl ?c1 ?c2 ?c3 ?c4 ?c5 ?_))
      case c1 =>
        intro j u hj
        match j, hj with
        | 0, hj => simp at hj; subst hj; simp [Addr.add]
      case c2 => intro u hu; simp at hu; subst hu; rfl
      case c3 => unfold maxLen; omega
      case c4 => omega
      case c5 => have := hb.size; simp; omega
      · intro v' w1 hown' hgrow _
        rw [nums_app] at hown'
        have hb1 : Below w.heap.size w w1 := (hb.alloc hb.size _).grown hgrow (by have := hb.size; simp; omega) fun g hg => (hown.out.lt g hg).1
        have HO := Lib.hid hown'
        clear hown' hown hgrow hb
        go_wp2
        go_roundw
        case rel => exact ⟨k + 1, by omega, by go_num, HO, hb1⟩
        case measure => simp [intOf]; omega
    · obtain rfl : k = N := by omega
      obtain ⟨A, c, rfl⟩ := row_form hown.out
      have hnk : decide ((k : Int) + 1 ≤ (k : Int)) = false := by simp; omega
      go_wp2
      go_ret2
      exact ⟨A, c, by rw [nums_len]; rfl, (own_of_row hown.out), hb⟩
set_option maxRecDepth 4000 in
theorem impl_LayerList_yes (s : Int) (N : Nat) (w : World) (h1 : 3 ≤ s) (h2 : s ≤ 24) (hN : N ≤ 200) :
    Calls Try.prog 64 #[.int .i64 s, .int .i64 N] w (ResI true (nums s N) w) := by
  have i1 : (0 : Int) ≤ (N : Int) := by omega
  have i2 : (N : Int) ≤ 200 := by omega
  have HB : ∀ w : World, Hid (Calls Try.prog 163 #[.int .i64 s, .int .i64 1, .int .i64 N] w fun e w' => (∃ A, e = .returned (.slice A N N) ∧ Own w' w.heap.size w'.heap.size A (i64s (nums s N))) ∧ Below w.heap.size w w') := fun w => Lib.hid (by
    have h := layersBetween_any s 1 N w h1 h2 (by omega) (by omega)
    rw [show N + 1 - 1 = N by omega, nr_one] at h
    exact h)
  go_enter Try.func64, Try.ntmps64
  go_wp2_with (first
    | (go_at_call 161; refine (areSides_yes _ _ h1 h2).mono ?_; rintro e w' ⟨rfl, rfl⟩)
    | (go_at_call 132; refine (within_yes _ _ _ _ i1 i2).mono ?_; rintro e w' ⟨rfl, rfl⟩)
    | (go_at_call 163; refine ((HB _).out).mono ?_; rintro e w1 ⟨⟨A, rfl, ho⟩, hb⟩; have HO := Lib.hid ho; clear ho))
  go_ret2
  exact ⟨A, N, by rw [nums_len]; rfl, HO.out, hb⟩
/-! ### frustums -/
set_option maxRecDepth 4000 in
theorem num_few (s k : Int) (h1 : 3 ≤ s) (h2 : s ≤ 24) (h3 : 0 ≤ k) (h4 : k ≤ 2000) : 0 ≤ num s k ∧ num s k ≤ 100000000 := by
  have a := num_nn s k h1
  have b := num_mono_le s h1 h3 h4
  have c := num_twice s 2000
  omega
set_option maxRecDepth 4000 in
theorem sum_nr (s : Int) (a m k : Nat) (hk : k ≤ m) : sumTo (nr s a m) k = pyr s ((a : Int) + k - 1) - pyr s ((a : Int) - 1) := by
  induction k with
  | zero => simp [sumTo]
  | succ k ih =>
    have h1 := ih (by omega)
    have h2 := pyr_succ s ((a : Int) + k - 1)
    rw [sumTo, nr_getD _ _ _ _ (by omega), h1]
    have e1 : (a : Int) + k - 1 + 1 = ((a + k : Nat) : Int) := by omega
    have e2 : (a : Int) + ((k + 1 : Nat) : Int) - 1 = ((a + k : Nat) : Int) := by omega
    rw [e1] at h2
    rw [e2]
    omega
set_option maxRecDepth 4000 in
theorem spec_FrustumNumber_no0 (s f t : Int) (w : World) (h : (s < 3 ∨ 24 < s) ∨ ((f < 0 ∨ 2000 < f) ∨ ((f < 1) ∨ (t < 0 ∨ 2000 < t)))) :
    Calls Try.prog 69 #[.int .i64 s, .int .i64 f, .int .i64 t] w fun e w' => e = .returned (.tuple #[.int .i64 0, .bool false]) ∧ Below w.heap.size w w' := by
  by_cases hs : s < 3 ∨ 24 < s
  · have H : Hid (s < 3 ∨ 24 < s) := Lib.hid hs
    clear h hs
    go_enter Try.func69, Try.ntmps69
    go_wp2_with (first
      | (go_at_call 160; refine (shSides_no _ _ H.out).mono ?_; rintro e w' ⟨rfl, rfl⟩))
    go_ret2
    exact ⟨rfl, Below.refl _ _⟩
  · skip
    have h1 : 3 ≤ s := by omega
    have h2 : s ≤ 24 := by omega
    have h' := h
    clear h
    have h : (f < 0 ∨ 2000 < f) ∨ ((f < 1) ∨ (t < 0 ∨ 2000 < t)) := by omega
    clear h' hs
    by_cases hs : f < 0 ∨ 2000 < f
    · have H : Hid (f < 0 ∨ 2000 < f) := Lib.hid hs
      clear h hs
      go_enter Try.func69, Try.ntmps69
      go_wp2_with (first
        | (go_at_call 160; refine (shSides_yes _ _ h1 h2).mono ?_; rintro e w' ⟨rfl, rfl⟩)
        | (go_at_call 147; refine (soLayers_no _ _ H.out).mono ?_; rintro e w' ⟨rfl, rfl⟩))
      go_ret2
      exact ⟨rfl, Below.refl _ _⟩
    · skip
      have g3 : 0 ≤ f := by omega
      have g4 : f ≤ 2000 := by omega
      have h' := h
      clear h
      have h : (f < 1) ∨ (t < 0 ∨ 2000 < t) := by omega
      clear h' hs
      by_cases hs : f < 1
      · clear h
        go_enter Try.func69, Try.ntmps69
        go_wp2_with (first
          | (go_at_call 160; refine (shSides_yes _ _ h1 h2).mono ?_; rintro e w' ⟨rfl, rfl⟩)
          | (go_at_call 147; refine (soLayers_yes _ _ g3 g4).mono ?_; rintro e w' ⟨rfl, rfl⟩))
        go_ret2
        exact ⟨rfl, Below.refl _ _⟩
      · skip
        have g5 : 1 ≤ f := by omega
        have h' := h
        clear h
        have h : t < 0 ∨ 2000 < t := by omega
        clear h' hs
        have H : Hid (t < 0 ∨ 2000 < t) := Lib.hid (by omega)
        clear h
        go_enter Try.func69, Try.ntmps69
        go_wp2_with (first
          | (go_at_call 160; refine (shSides_yes _ _ h1 h2).mono ?_; rintro e w' ⟨rfl, rfl⟩)
          | (go_at_call 147; refine (soLayers_yes _ _ g3 g4).mono ?_; rintro e w' ⟨rfl, rfl⟩)
          | (go_at_call 147; refine (soLayers_no _ _ H.out).mono ?_; rintro e w' ⟨rfl, rfl⟩))
        go_ret2
        exact ⟨rfl, Below.refl _ _⟩
set_option maxRecDepth 4000 in
theorem impl_FrustumNumber_no0 (s f t : Int) (w : World) (h : ((s < 3 ∨ 24 < s) ∨ (t < 0 ∨ 2000 < t)) ∨ (f < 1 ∨ 2000 < f)) :
    Calls Try.prog 68 #[.int .i64 s, .int .i64 f, .int .i64 t] w fun e w' => e = .returned (.tuple #[.int .i64 0, .bool false]) ∧ Below w.heap.size w w' := by
  by_cases hs : (s < 3 ∨ 24 < s) ∨ (t < 0 ∨ 2000 < t)
  · have H : Hid ((s < 3 ∨ 24 < s) ∨ (t < 0 ∨ 2000 < t)) := Lib.hid hs
    clear h hs
    go_enter Try.func68, Try.ntmps68
    go_wp2_with (first
      | (go_at_call 149; refine (asal_no _ _ _ H.out).mono ?_; rintro e w' ⟨rfl, rfl⟩))
    go_ret2
    exact ⟨rfl, Below.refl _ _⟩
  · skip
    have h1 : 3 ≤ s := by omega
    have h2 : s ≤ 24 := by omega
    have h3 : 0 ≤ t := by omega
    have h4 : t ≤ 2000 := by omega
    have h' := h
    clear h
    have h : f < 1 ∨ 2000 < f := by omega
    clear h' hs
    have H : Hid (f < 1 ∨ 2000 < f) := Lib.hid (by omega)
    clear h
    go_enter Try.func68, Try.ntmps68
    go_wp2_with (first
      | (go_at_call 149; refine (asal_yes _ _ _ h1 h2 h3 h4).mono ?_; rintro e w' ⟨rfl, rfl⟩)
      | (go_at_call 146; refine (areLayers_no _ _ _ H.out).mono ?_; rintro e w' ⟨rfl, rfl⟩))
    go_ret2
    exact ⟨rfl, Below.refl _ _⟩
set_option maxRecDepth 4000 in
theorem spec_FrustumNumber_none (s f t : Int) (w : World) (h1 : 3 ≤ s) (h2 : s ≤ 24) (h3 : 0 ≤ t) (h4 : t ≤ 2000) (g5 : 1 ≤ f) (g4 : f ≤ 2000) (hc : t < f) :
    Calls Try.prog 69 #[.int .i64 s, .int .i64 f, .int .i64 t] w fun e w' => e = .returned (.tuple #[.int .i64 0, .bool true]) ∧ Below w.heap.size w w' := by
  have g3 : 0 ≤ f := by omega
  go_enter Try.func69, Try.ntmps69
  go_wp2_with (first
    | (go_at_call 160; refine (shSides_yes _ _ h1 h2).mono ?_; rintro e w' ⟨rfl, rfl⟩)
    | (go_at_call 147; refine (soLayers_yes _ _ g3 g4).mono ?_; rintro e w' ⟨rfl, rfl⟩)
    | (go_at_call 147; refine (soLayers_yes _ _ h3 h4).mono ?_; rintro e w' ⟨rfl, rfl⟩)
    | (go_at_call 148; refine (soPyramid_any _ _ _ h1 h2 (by omega) (by omega)).mono ?_; rintro e w' ⟨rfl, rfl⟩))
  go_ret2
  exact ⟨rfl, Below.refl _ _⟩
set_option maxRecDepth 4000 in
theorem spec_FrustumNumber_yes (s f t : Int) (w : World) (h1 : 3 ≤ s) (h2 : s ≤ 24) (h3 : 0 ≤ t) (h4 : t ≤ 2000) (g5 : 1 ≤ f) (g4 : f ≤ 2000) (hc : f ≤ t) :
    Calls Try.prog 69 #[.int .i64 s, .int .i64 f, .int .i64 t] w fun e w' => e = .returned (.tuple #[.int .i64 (pyr s t - pyr s (f - 1)), .bool true]) ∧ Below w.heap.size w w' := by
  have g3 : 0 ≤ f := by omega
  have b1 := pyr_bds s t h1 h2 h3 (by omega)
  have b2 := pyr_bds s (f - 1) h1 h2 (by omega) (by omega)
  have c1 := pyr_six s t
  have c2 := pyr_six s (f - 1)
  have u0 := (sq_pyr s h1).nn h3
  have u1 := (sq_pyr s h1).nn (k := f - 1) (by omega)
  have u2 : pyr s t ≤ 1000000000000000 := by have := b1.c1; omega
  have u3 : pyr s (f - 1) ≤ 1000000000000000 := by have := b2.c1; omega
  clear b1 b2 c1 c2
  go_enter Try.func69, Try.ntmps69
  go_wp2_with (first
    | (go_at_call 160; refine (shSides_yes _ _ h1 h2).mono ?_; rintro e w' ⟨rfl, rfl⟩)
    | (go_at_call 147; refine (soLayers_yes _ _ g3 g4).mono ?_; rintro e w' ⟨rfl, rfl⟩)
    | (go_at_call 147; refine (soLayers_yes _ _ h3 h4).mono ?_; rintro e w' ⟨rfl, rfl⟩)
    | (go_at_call 148; refine (soPyramid_any _ _ _ h1 h2 (by omega) (by omega)).mono ?_; rintro e w' ⟨rfl, rfl⟩))
  go_ret2
  exact ⟨rfl, Below.refl _ _⟩
set_option maxRecDepth 4000 in
theorem impl_FrustumNumber_none (s f t : Int) (w : World) (h1 : 3 ≤ s) (h2 : s ≤ 24) (h3 : 0 ≤ t) (h4 : t ≤ 2000) (g5 : 1 ≤ f) (g4 : f ≤ 2000) (hc : t < f) :
    Calls Try.prog 68 #[.int .i64 s, .int .i64 f, .int .i64 t] w fun e w' => e = .returned (.tuple #[.int .i64 0, .bool true]) ∧ Below w.heap.size w w' := by
  go_enter Try.func68, Try.ntmps68
  go_wp2_with (first
    | (go_at_call 149; refine (asal_yes _ _ _ h1 h2 h3 h4).mono ?_; rintro e w' ⟨rfl, rfl⟩)
    | (go_at_call 146; refine (areLayers_yes _ _ _ g5 g4).mono ?_; rintro e w' ⟨rfl, rfl⟩))
  go_ret2
  exact ⟨rfl, Below.refl _ _⟩
set_option maxRecDepth 4000 in
set_option maxHeartbeats 800000 in
theorem impl_FrustumNumber_yes (s : Int) (f t : Nat) (w : World) (h1 : 3 ≤ s) (h2 : s ≤ 24) (h4 : t ≤ 2000) (g5 : 1 ≤ f) (hc : f ≤ t) :
    Calls Try.prog 68 #[.int .i64 s, .int .i64 f, .int .i64 t] w fun e w' => e = .returned (.tuple #[.int .i64 (pyr s t - pyr s ((f : Int) - 1)), .bool true]) ∧ Below w.heap.size w w' := by
  have hcf := cf_pile
  have i3 : (0 : Int) ≤ (t : Int) := by omega
  have i4 : (t : Int) ≤ 2000 := by omega
  have i5 : (1 : Int) ≤ (f : Int) := by omega
  have i6 : (f : Int) ≤ 2000 := by omega
  have i7 : (f : Int) ≤ (t : Int) := by omega
  have HL := Lib.hid fun w => layersBetween_any s f t w h1 h2 (by omega) h4
  have HE : Hid (sumTo (nr s f (t + 1 - f)) (t + 1 - f) = pyr s t - pyr s ((f : Int) - 1)) := Lib.hid (by
    rw [sum_nr s f _ _ (Nat.le_refl _), show (f : Int) + ((t + 1 - f : Nat) : Int) - 1 = (t : Int) by omega])
  have HX : Hid (∀ k, k < t + 1 - f → 0 ≤ (nr s f (t + 1 - f)).getD k 0 ∧ (nr s f (t + 1 - f)).getD k 0 ≤ 1000000000000) := Lib.hid fun k hk => by
    rw [nr_getD _ _ _ _ hk]
    have := num_few s ((f + k : Nat) : Int) h1 h2 (by omega) (by omega)
    omega
  have HNR := Lib.hid (nr_len s f (t + 1 - f))
  have hm : t + 1 - f ≤ 100000 := by omega
  have hm0 : 0 < t + 1 - f := by omega
  generalize nr s f (t + 1 - f) = xs at *
  generalize t + 1 - f = m at *
  go_enter Try.func68, Try.ntmps68
  go_wp2_with (first
    | (go_at_call 149; refine (asal_yes _ _ _ h1 h2 i3 i4).mono ?_; rintro e w' ⟨rfl, rfl⟩)
    | (go_at_call 146; refine (areLayers_yes _ _ _ i5 i6).mono ?_; rintro e w' ⟨rfl, rfl⟩)
    | (go_at_call 165; refine (newPile_any _).mono ?_; rintro e w1 ⟨rfl, c1, f1, z1, b1⟩)
    | (go_at_call 163; refine (HL.out _).mono ?_; rintro e w2 ⟨⟨A, rfl, ho⟩, b2⟩; have c2 := (b2.cell (p := ⟨w.heap.size, 0, none⟩) (by simp; omega)).trans c1; have f2 := (b2.frozen (p := ⟨w.heap.size, 0, none⟩) (by simp; omega)).trans f1; have HO := Lib.hid ho; clear ho c1 f1)
    | (go_at_call 194; refine (pile_any A m m w.heap.size w2.heap.size xs 0 _ HNR.out hm HO.out.rd ?_ (Nat.le_refl _) HX.out (by omega) (by omega) c2 f2).mono ?_; (· intro a ha hab; obtain ⟨g, o, e, h5, h6, _⟩ := HO.out (by simp [HNR.out]; exact hm0); rw [ha] at e; injection e with e; subst e; simp at hab; omega); rintro e w3 ⟨rfl, c3, f3, g3⟩))
  go_ret2
  exact ⟨by show Ending.returned (.tuple #[.int .i64 (sumTo xs m), .bool true]) = _; rw [HE.out], (b1.trans (b2.mono b1.size)).grown g3 (Nat.le_trans b1.size b2.size) (fun k hk => by cases hk; exact Nat.le_refl _)⟩
end Go.Proofs.Ytppdjjdejggjaaa
