/- The law FnExactAllSums: the program's lists of parts are the specification's, in order, and their memory is their own, whatever the arguments. No condition. -/
import Derived.Test.YtnciehnjmhlehaaSuV
namespace Go.Proofs.Ytnciehnjmhlehaa
open Go.ChangeShapes Go.WideShapes Go.ChangeAt Go.RowKit

theorem impl_AllSums_no (s n p : Int) (w : World) (h : ((s < 3 ∨ 24 < s) ∨ (n < 0 ∨ 3000 < n)) ∨ (p < 0 ∨ 24 < p)) :
    Calls Try.prog 35 #[.int .i64 s, .int .i64 n, .int .i64 p] w (ResSS false [] w) := by
  have H := Lib.hid h
  clear h
  go_enter Try.func35, Try.ntmps35
  go_wp2_with (go_at_call 62; refine (assp_no _ _ _ _ H.out).mono ?_; rintro e w' ⟨rfl, rfl⟩)
  go_ret2
  exact resSS_nil (Below.refl _ _)
set_option maxHeartbeats 1600000 in
theorem impl_AllSums_much (s : Int) (N M : Nat) (w : World) (h1 : 3 ≤ s) (h2 : s ≤ 24) (hN : N ≤ 3000) (hM : M ≤ 24) (hW : 300 < W s (pl s N).toNat M N) :
    Calls Try.prog 35 #[.int .i64 s, .int .i64 N, .int .i64 M] w (ResSS false [] w) := by
  have i1 : (0 : Int) ≤ (N : Int) := by omega
  have i2 : (N : Int) ≤ 3000 := by omega
  have i3 : (0 : Int) ≤ (M : Int) := by omega
  have i4 : (M : Int) ≤ 24 := by omega
  have HS : ∀ w : World, Hid (Calls Try.prog 67 #[.int .i64 s, .int .i64 N, .int .i64 M] w fun e w' => (∃ (A : Option Addr) (n c : Nat), e = .returned (.slice A n c) ∧ 300 < n) ∧ Below w.heap.size w w') := fun w => Lib.hid ((sumsInOrder_any s N M w h1 h2 hN hM).mono fun e w' ⟨⟨V, rs, zss, he, hL, hz⟩, hb⟩ => by
    obtain ⟨A, c, rfl⟩ := row_form hL.2.1
    refine ⟨⟨A, rs.length, c, he, ?_⟩, hb⟩
    rw [hL.1]
    rcases hz with rfl | hz
    · rw [Lw_len]; exact hW
    · exact hz.1)
  clear hW
  go_enter Try.func35, Try.ntmps35
  go_wp2_with (first
    | (go_at_call 62; refine (assp_yes _ _ _ _ h1 h2 i1 i2 i3 i4).mono ?_; rintro e w' ⟨rfl, rfl⟩)
    | (go_at_call 67; refine ((HS _).out).mono ?_; rintro e w1 ⟨⟨A, n, c, rfl, hn⟩, hb⟩; have hnI : (300 : Int) < (n : Int) := by omega))
  go_ret2
  exact resSS_nil hb
set_option maxHeartbeats 1600000 in
theorem impl_AllSums_yes (s : Int) (N M : Nat) (w : World) (h1 : 3 ≤ s) (h2 : s ≤ 24) (hN : N ≤ 3000) (hM : M ≤ 24) (hW : W s (pl s N).toNat M N ≤ 300) :
    Calls Try.prog 35 #[.int .i64 s, .int .i64 N, .int .i64 M] w (ResSS true (Lw s (pl s N).toNat M N) w) := by
  have i1 : (0 : Int) ≤ (N : Int) := by omega
  have i2 : (N : Int) ≤ 3000 := by omega
  have i3 : (0 : Int) ≤ (M : Int) := by omega
  have i4 : (M : Int) ≤ 24 := by omega
  have HS : ∀ w : World, Hid (Calls Try.prog 67 #[.int .i64 s, .int .i64 N, .int .i64 M] w fun e w' => (∃ V rs, e = .returned V ∧ Lists w' w.heap.size V rs (Lw s (pl s N).toNat M N)) ∧ Below w.heap.size w w') := fun w => Lib.hid ((sumsInOrder_any s N M w h1 h2 hN hM).mono fun e w' ⟨⟨V, rs, zss, he, hL, hz⟩, hb⟩ => by
    rcases hz with rfl | hz
    · exact ⟨⟨V, rs, he, hL⟩, hb⟩
    · omega)
  have HLN : Hid ((Lw s (pl s N).toNat M N).length ≤ 300) := Lib.hid (by rw [Lw_len]; exact hW)
  clear hW
  generalize Lw s (pl s N).toNat M N = L at *
  go_enter Try.func35, Try.ntmps35
  go_wp2_with (first
    | (go_at_call 62; refine (assp_yes _ _ _ _ h1 h2 i1 i2 i3 i4).mono ?_; rintro e w' ⟨rfl, rfl⟩)
    | (go_at_call 67; refine ((HS _).out).mono ?_; rintro e w1 ⟨⟨V, rs, rfl, hL⟩, hb⟩; obtain ⟨A, c, Af, cf, rfl, hO⟩ := hL.ownL; have HO := Lib.hid hO; have hlI : (L.length : Int) ≤ 300 := (by have := HLN.out; omega); have hgd : decide ((300 : Int) < (L.length : Int)) = false := (by simp; omega); clear hL hO))
  go_ret2
  exact ⟨A, c, Af, cf, rfl, HO.out, hb⟩
set_option maxHeartbeats 1600000 in
theorem lawL_AllSums (s n p : Int) (ok : Bool) (xss : List (List Int)) (hl : xss.length ≤ 1000000000) (hp : pre (rowsOf xss) xss.length ≤ 1000000000) 
    (hs : ∀ w : World, Calls Try.prog 34 #[.int .i64 s, .int .i64 n, .int .i64 p] w (ResSS ok xss w))
    (hi : ∀ w : World, Calls Try.prog 35 #[.int .i64 s, .int .i64 n, .int .i64 p] w (ResSS ok xss w)) (w : World) :
    Calls Try.prog 12 #[.int .i64 s, .int .i64 n, .int .i64 p] w fun e w' => e = .returned (.bool true) ∧ Below w.heap.size w w' := by
  have HS := Lib.hid hs
  have HI := Lib.hid hi
  clear hs hi
  obtain ⟨n, hn⟩ : ∃ n, n = xss.length := ⟨_, rfl⟩
  have HN := Lib.hid hn.symm
  rw [← hn] at hl hp
  clear hn
  have HP := Lib.hid hp
  obtain ⟨F, hF⟩ : ∃ F, F = rowsOf xss := ⟨_, rfl⟩
  rw [← hF] at HP
  have HF := Lib.hid hF.symm
  clear hp hF
  go_enter Try.func12, Try.ntmps12
  go_wp2_with fail
  refine (HS.out _).mono ?_
  rintro e w1 ⟨A1, c1, Af1, cf1, rfl, o1, b1⟩
  rw [HN.out]
  rw [HF.out, HN.out] at o1
  go_wp2_with fail
  refine (HI.out _).mono ?_
  rintro e w2 ⟨A2, c2, Af2, cf2, rfl, o2, b2⟩
  rw [HN.out]
  rw [HF.out, HN.out] at o2
  have o1a : OwnL w2 w.heap.size w1.heap.size A1 n F Af1 cf1 := o1.below b2 (Nat.le_refl _)
  clear o1
  go_wp2_with fail
  refine (eqIntSS_same A2 A1 n c2 c1 _ _ _ _ F _ _ _ _ _ hl HP.out o2 o1a).mono ?_
  rintro e w3 ⟨rfl, q3, rfl⟩
  go_wp2_with fail
  refine (markIntSS_any A2 n c2 _ _ F _ _ 1 _ hl HP.out (by omega) (by omega) (Nat.le_refl _) (o2.drewN _)).mono ?_
  rintro e w4 ⟨rfl, o3, b4⟩
  have o1b : OwnL w4 w.heap.size w1.heap.size A1 n F Af1 cf1 := (o1a.drewN _).below b4 (Nat.le_refl _)
  clear o1a o2
  go_wp2_with fail
  refine (heldIntSS_any A2 n c2 _ _ F _ _ 1 _ hl HP.out (by omega) (by omega) o3).mono ?_
  rintro e w5 ⟨rfl, rfl⟩
  go_wp2_with fail
  refine (HI.out _).mono ?_
  rintro e w6 ⟨A6, c6, Af6, cf6, rfl, o6, b6⟩
  rw [HN.out]
  rw [HF.out, HN.out] at o6
  have o1c : OwnL w6 w.heap.size w1.heap.size A1 n F Af1 cf1 := o1b.below b6 (Nat.le_trans b2.size b4.size)
  have o3c : OwnL w6 w1.heap.size w2.heap.size A2 n (mixL F 1 n) Af2 cf2 := o3.below b6 b4.size
  clear o1b o3
  go_wp2_with fail
  refine (eqIntSS_same A6 A1 n c6 c1 _ _ _ _ F _ _ _ _ _ hl HP.out o6 o1c).mono ?_
  rintro e w7 ⟨rfl, q7, rfl⟩
  go_wp2_with fail
  refine (heldIntSS_any A2 n c2 _ _ F _ _ 1 _ hl HP.out (by omega) (by omega) (o3c.drewN _)).mono ?_
  rintro e w8 ⟨rfl, rfl⟩
  go_wp2
  go_ret
  have s2 : w.heap.size ≤ w1.heap.size := b1.size
  have s4 : w.heap.size ≤ w4.heap.size := Nat.le_trans (Nat.le_trans b1.size b2.size) b4.size
  exact ⟨rfl, below_drewN ((b1.trans (b2.mono s2)).trans ((below_drewN (Below.refl _ _) _).trans ((b4.mono s2).trans (b6.mono s4)))) _⟩
theorem Lw_mem_len (s : Int) (k : Nat) : ∀ (i : Nat) (m : Int), ∀ x ∈ Lw s k i m, x.length = i := by
  induction k with
  | zero =>
    intro i m x hx
    cases i with
    | zero => rw [Lw_k0] at hx; split at hx <;> simp at hx; subst hx; rfl
    | succ i => rw [Lw_0] at hx; simp at hx
  | succ k ih =>
    intro i
    induction i with
    | zero => intro m x hx; rw [Lw_k0] at hx; split at hx <;> simp at hx; subst hx; rfl
    | succ i ih2 =>
      intro m x hx
      rw [Lw_kk, List.mem_append] at hx
      rcases hx with hx | hx
      · obtain ⟨y, hy, rfl⟩ := List.mem_map.1 hx
        simp [ih2 _ y hy]
      · exact ih _ _ x hx
theorem walk_AllSums (s n p : Int) (w : World) :
    Calls Try.prog 12 #[.int .i64 s, .int .i64 n, .int .i64 p] w fun e w' => e = .returned (.bool true) ∧ Below w.heap.size w w' := by
  by_cases h : ((s < 3 ∨ 24 < s) ∨ (n < 0 ∨ 3000 < n)) ∨ (p < 0 ∨ 24 < p)
  · exact lawL_AllSums s n p false [] (by simp) (by simp [pre]) (fun w => spec_AllSums_no s n p w h) (fun w => impl_AllSums_no s n p w h) w
  · obtain ⟨N, rfl⟩ := Int.eq_ofNat_of_zero_le (show 0 ≤ n by omega)
    obtain ⟨M, rfl⟩ := Int.eq_ofNat_of_zero_le (show 0 ≤ p by omega)
    by_cases hW : W s (pl s N).toNat M N ≤ 300
    · exact lawL_AllSums s N M true (Lw s (pl s N).toNat M N) (by rw [Lw_len]; omega) (by
        have h5 := pre_le (rowsOf (Lw s (pl s N).toNat M N)) (Lw s (pl s N).toNat M N).length 24 (fun i hi => by
          simp only [rowsOf, List.getD_eq_getElem?_getD]
          rw [List.getElem?_eq_getElem hi]
          simp only [Option.getD_some]
          rw [Lw_mem_len s _ M _ _ (List.getElem_mem hi)]
          omega)
        rw [Lw_len] at h5 ⊢
        omega) (fun w => spec_AllSums_yes s N M w (by omega) (by omega) (by omega) (by omega) hW) (fun w => impl_AllSums_yes s N M w (by omega) (by omega) (by omega) (by omega) hW) w
    · exact lawL_AllSums s N M false [] (by simp) (by simp [pre]) (fun w => spec_AllSums_much s N M w (by omega) (by omega) (by omega) (by omega) (by omega)) (fun w => impl_AllSums_much s N M w (by omega) (by omega) (by omega) (by omega) (by omega)) w
end Go.Proofs.Ytnciehnjmhlehaa
