/- Chapter 6: the specification's rings, spots and numbers. -/
import Derived.Test.YtkhjeleoppdjgacRuA
import Derived.Test.YtkhjeleoppdjgacSiN
import Derived.BigQuiet
namespace Go.Proofs.Ytkhjeleoppdjgac
open Go.ChangeShapes Go.WideShapes Go.ChangeAt Go.RowKit

theorem siMost_any (a b : Int) (w : World) :
    Calls Try.prog 155 #[.int .i64 a, .int .i64 b] w fun e w' => e = .returned (.int .i64 (max a b)) ∧ w = w' := by
  by_cases h : a > b
  · have e : max a b = a := by omega
    have H := Lib.hid e
    clear e
    go_enter Try.func155, Try.ntmps155
    go_wp2
    go_ret
    exact ⟨by rw [H.out]; rfl, rfl⟩
  · have e : max a b = b := by omega
    have H := Lib.hid e
    clear e
    go_enter Try.func155, Try.ntmps155
    go_wp2
    go_ret
    exact ⟨by rw [H.out]; rfl, rfl⟩
theorem siLeast_any (a b : Int) (w : World) :
    Calls Try.prog 148 #[.int .i64 a, .int .i64 b] w fun e w' => e = .returned (.int .i64 (min a b)) ∧ w = w' := by
  by_cases h : a < b
  · have e : min a b = a := by omega
    have H := Lib.hid e
    clear e
    go_enter Try.func148, Try.ntmps148
    go_wp2
    go_ret
    exact ⟨by rw [H.out]; rfl, rfl⟩
  · have e : min a b = b := by omega
    have H := Lib.hid e
    clear e
    go_enter Try.func148, Try.ntmps148
    go_wp2
    go_ret
    exact ⟨by rw [H.out]; rfl, rfl⟩
theorem siAbs_any (a : Int) (w : World) (h0 : -1000000000000 ≤ a) (h1 : a ≤ 1000000000000) :
    Calls Try.prog 106 #[.int .i64 a] w fun e w' => e = .returned (.int .i64 (ab a)) ∧ w = w' := by
  go_enter Try.func106, Try.ntmps106
  go_wp2_with (go_at_call 155; refine (siMost_any _ _ _).mono ?_; rintro e w' ⟨rfl, rfl⟩)
  go_ret
  exact ⟨rfl, rfl⟩
theorem spGood_any (n : Int) (w : World) : Calls Try.prog 87 #[.int .i64 n] w fun e w' => e = .returned (.bool (betr n 0 1000000)) ∧ w = w' := by
  go_enter Try.func87, Try.ntmps87
  go_wp2_with (go_at_call 104; refine (rin_any _ _ _ _).mono ?_; rintro e w' ⟨rfl, rfl⟩)
  go_ret
  exact ⟨rfl, rfl⟩
/-- Whether there is a spot. -/
def isSpot (x y : Int) : Bool := betr x (-400) 400 && betr y (-400) 400
theorem spIs_any (x y : Int) (w : World) : Calls Try.prog 100 #[.agg #[.int .i64 x, .int .i64 y]] w fun e w' => e = .returned (.bool (isSpot x y)) ∧ Below w.heap.size w w' := by
  have H : Hid (isSpot x y = (betr x (-400) 400 && betr y (-400) 400)) := Lib.hid rfl
  cases hx : betr x (-400) 400
  · rw [hx] at H
    have HX := Lib.hid hx
    clear hx
    go_enter Try.func100, Try.ntmps100
    go_wp2_with (go_at_call 104; refine (rin_any _ _ _ _).mono ?_; rw [HX.out]; rintro e w' ⟨rfl, rfl⟩)
    go_ret
    exact ⟨ret_bool H.out.symm, (Below.refl _ _).alloc (Nat.le_refl _) _⟩
  · rw [hx] at H
    have HX := Lib.hid hx
    clear hx
    obtain ⟨b, hb⟩ : ∃ b, b = betr y (-400) 400 := ⟨_, rfl⟩
    rw [← hb] at H
    have HB := Lib.hid hb.symm
    clear hb
    go_enter Try.func100, Try.ntmps100
    go_wp2_with (go_at_call 104; refine (rin_any _ _ _ _).mono ?_; (first | rw [HX.out] | rw [HB.out]); rintro e w' ⟨rfl, rfl⟩)
    go_ret
    exact ⟨ret_bool H.out.symm, (Below.refl _ _).alloc (Nat.le_refl _) _⟩
set_option maxHeartbeats 400000 in
theorem shRoot6_any (n : Int) (w : World) (h3 : 0 ≤ n) (h4 : n ≤ 4000000000000000000) :
    Calls Try.prog 153 #[.int .i64 n] w fun e w' => e = .returned (.int .i64 (rt n)) ∧ w = w' := by
  go_enter Try.func153, Try.ntmps153
  go_wp2
  go_loop [3, 4] (fun r b => ∃ x t : Int, r = .int .i64 x ∧ b = .int .i64 (t / 2) ∧ P2 t ∧ 0 ≤ x ∧ x + t ≤ 2147483648 ∧ x * x ≤ n ∧ Hid (n < (x + t) * (x + t))) (fun _ b => (intOf b).toNat)
  case atStart => exact ⟨0, 2147483648, rfl, rfl, P2.start, by omega, by omega, by omega, Lib.hid (by omega)⟩
  case round =>
    obtain ⟨x, t, rfl, rfl, ht, hx0, hx1, hx2, HX⟩ := hrel
    have t1 := ht.pos
    by_cases h1 : t = 1
    · subst h1
      have hr := rt_uniq n x h3 hx0 hx2 HX.out
      have HR := Lib.hid hr
      clear hr
      go_wp2
      go_ret
      exact ⟨ret_int HR.out, rfl⟩
    · obtain ⟨hp, he⟩ := ht.half h1
      obtain ⟨u, hu⟩ : ∃ u, u = t / 2 := ⟨_, rfl⟩
      rw [← hu] at hp he ⊢
      clear hu h1
      subst he
      clear ht
      have u1 := hp.pos
      have s0 : 0 ≤ (x + u) * (x + u) := sq_nn _
      have s1 : (x + u) * (x + u) ≤ 2147483648 * 2147483648 := sq_le _ _ (by omega) (by omega)
      by_cases hf : (x + u) * (x + u) ≤ n
      · go_wp2
        go_round
        case rel => exact ⟨x + u, u, rfl, rfl, hp, by omega, by omega, hf, Lib.hid (by rw [show x + u + u = x + 2 * u from by omega]; exact HX.out)⟩
        case measure => simp [intOf]; omega
      · go_wp2
        go_round
        case rel => exact ⟨x, u, rfl, rfl, hp, by omega, by omega, by omega, Lib.hid (by omega)⟩
        case measure => simp [intOf]; omega
theorem spRing_any (n : Int) (w : World) (h0 : 0 ≤ n) (h1 : n ≤ 2000000) :
    Calls Try.prog 90 #[.int .i64 n] w fun e w' => e = .returned (.int .i64 (rg n)) ∧ w = w' := by
  have r0 := rt_nn n h0
  have r1 := rt_le n h0 (by omega)
  have H : Hid (rg n = (rt n + 1) / 2) := Lib.hid rfl
  have HT := fun W => shRoot6_any n W h0 (by omega)
  have HT := Lib.hid HT
  generalize rt n = r at *
  go_enter Try.func90, Try.ntmps90
  go_wp2_with (go_at_call 153; refine (HT.out _).mono ?_; rintro e w' ⟨rfl, rfl⟩)
  go_ret
  exact ⟨ret_int H.out.symm, rfl⟩
set_option maxHeartbeats 800000 in
theorem spSpot_any (n : Int) (w : World) (h0 : 0 ≤ n) (h1 : n ≤ 2000000) :
    Calls Try.prog 88 #[.int .i64 n] w fun e w' => e = .returned (.agg #[.int .i64 (sp n).1, .int .i64 (sp n).2]) ∧ Below w.heap.size w w' := by
  have hr := rg_is n h0
  have hz := ring_zero hr h0
  have hle := rg_le n h0 h1
  have hnn := hr.nn
  have HT := Lib.hid fun W => spRing_any n W h0 h1
  by_cases hr0 : rg n = 0
  · have HS : Hid (sp n = (0, 0)) := Lib.hid (by unfold sp; rw [if_pos hr0])
    rw [hr0] at HT
    clear hr hz hle hnn hr0
    go_enter Try.func88, Try.ntmps88
    go_wp2_with (go_at_call 90; refine (HT.out _).mono ?_; rintro e w' ⟨rfl, rfl⟩)
    rw [HS.out]
    exact bodyPost_ret (v := .agg #[.int .i64 0, .int .i64 0]) (by simp [results, Try.results88, go_sem]) rfl ⟨rfl, (Below.refl _ _).alloc (Nat.le_refl _) _⟩
  · have hr1 : 1 ≤ rg n := by omega
    obtain ⟨b1, b2⟩ := off_bds hr hr1
    have hs1 := sq_nn (2 * rg n - 1)
    have hs2 := sq_le (2 * rg n - 1) 2000 (by omega) (by omega)
    have HC := Lib.hid (at_cases (r := rg n) (k := off n (rg n)) hr1)
    have HS : Hid (sp n = at_ (rg n) (off n (rg n))) := Lib.hid (by unfold sp; rw [if_neg hr0])
    have HO : Hid (off n (rg n) = n - (2 * rg n - 1) * (2 * rg n - 1) + 1) := Lib.hid rfl
    generalize off n (rg n) = k at *
    clear hr hz hr0 hnn
    generalize rg n = r at *
    rcases HC.out with ⟨a, e⟩ | ⟨a, c, e⟩ | ⟨a, c, e⟩ | ⟨a, e⟩
    · have HE := Lib.hid (HS.out.trans e)
      clear e HC HS
      have hk := HO.out
      clear HO
      subst hk
      go_enter Try.func88, Try.ntmps88
      go_wp2_with (go_at_call 90; refine (HT.out _).mono ?_; rintro e w' ⟨rfl, rfl⟩)
      rw [HE.out]
      exact bodyPost_ret (v := .agg #[.int .i64 (r), .int .i64 ((n - (2 * r - 1) * (2 * r - 1) + 1) - r)]) (by simp [results, Try.results88, go_sem]) rfl ⟨by rfl, (Below.refl _ _).alloc (Nat.le_refl _) _⟩
    · have HE := Lib.hid (HS.out.trans e)
      clear e HC HS
      have hk := HO.out
      clear HO
      subst hk
      go_enter Try.func88, Try.ntmps88
      go_wp2_with (go_at_call 90; refine (HT.out _).mono ?_; rintro e w' ⟨rfl, rfl⟩)
      rw [HE.out]
      exact bodyPost_ret (v := .agg #[.int .i64 (3 * r - (n - (2 * r - 1) * (2 * r - 1) + 1)), .int .i64 (r)]) (by simp [results, Try.results88, go_sem]) rfl ⟨by rfl, (Below.refl _ _).alloc (Nat.le_refl _) _⟩
    · have HE := Lib.hid (HS.out.trans e)
      clear e HC HS
      have hk := HO.out
      clear HO
      subst hk
      go_enter Try.func88, Try.ntmps88
      go_wp2_with (go_at_call 90; refine (HT.out _).mono ?_; rintro e w' ⟨rfl, rfl⟩)
      rw [HE.out]
      exact bodyPost_ret (v := .agg #[.int .i64 (-r), .int .i64 (5 * r - (n - (2 * r - 1) * (2 * r - 1) + 1))]) (by simp [results, Try.results88, go_sem]) rfl ⟨by rfl, (Below.refl _ _).alloc (Nat.le_refl _) _⟩
    · have HE := Lib.hid (HS.out.trans e)
      clear e HC HS
      have hk := HO.out
      clear HO
      subst hk
      go_enter Try.func88, Try.ntmps88
      go_wp2_with (go_at_call 90; refine (HT.out _).mono ?_; rintro e w' ⟨rfl, rfl⟩)
      rw [HE.out]
      exact bodyPost_ret (v := .agg #[.int .i64 ((n - (2 * r - 1) * (2 * r - 1) + 1) - 7 * r), .int .i64 (-r)]) (by simp [results, Try.results88, go_sem]) rfl ⟨by rfl, (Below.refl _ _).alloc (Nat.le_refl _) _⟩
end Go.Proofs.Ytkhjeleoppdjgac
