/- The law FnExactAllSums: the program's lists of parts are the specification's, in order, and their memory is their own, whatever the arguments. No condition. -/
import Derived.Test.YtiloljldefodkaaDoorSuV
namespace Go.Proofs.YtiloljldefodkaaDoor
open Go.ChangeShapes Go.WideShapes Go.ChangeAt Go.RowKit

theorem impl_AllSums_no (s n p : Int) (w : World) (h : ((s < 3 ∨ 24 < s) ∨ (n < 0 ∨ 3000 < n)) ∨ (p < 0 ∨ 24 < p)) :
    Calls Tryd.prog 22 #[.int .i64 s, .int .i64 n, .int .i64 p] w (ResSS false [] w) := by
  have H := Lib.hid h
  clear h
  go_enter Tryd.func22, Tryd.ntmps22
  go_wp2_with (go_at_call 47; refine (assp_no _ _ _ _ H.out).mono ?_; rintro e w' ⟨rfl, rfl⟩)
  go_ret2
  exact resSS_nil (Below.refl _ _)
set_option maxHeartbeats 1600000 in
theorem impl_AllSums_much (s : Int) (N M : Nat) (w : World) (h1 : 3 ≤ s) (h2 : s ≤ 24) (hN : N ≤ 3000) (hM : M ≤ 24) (hW : 300 < W s (pl s N).toNat M N) :
    Calls Tryd.prog 22 #[.int .i64 s, .int .i64 N, .int .i64 M] w (ResSS false [] w) := by
  have i1 : (0 : Int) ≤ (N : Int) := by omega
  have i2 : (N : Int) ≤ 3000 := by omega
  have i3 : (0 : Int) ≤ (M : Int) := by omega
  have i4 : (M : Int) ≤ 24 := by omega
  have HS : ∀ w : World, Hid (Calls Tryd.prog 54 #[.int .i64 s, .int .i64 N, .int .i64 M] w fun e w' => (∃ (A : Option Addr) (n c : Nat), e = .returned (.slice A n c) ∧ 300 < n) ∧ Below w.heap.size w w') := fun w => Lib.hid ((sumsInOrder_any s N M w h1 h2 hN hM).mono fun e w' ⟨⟨V, rs, zss, he, hL, hz⟩, hb⟩ => by
    obtain ⟨A, c, rfl⟩ := row_form hL.2.1
    refine ⟨⟨A, rs.length, c, he, ?_⟩, hb⟩
    rw [hL.1]
    rcases hz with rfl | hz
    · rw [Lw_len]; exact hW
    · exact hz.1)
  clear hW
  go_enter Tryd.func22, Tryd.ntmps22
  go_wp2_with (first
    | (go_at_call 47; refine (assp_yes _ _ _ _ h1 h2 i1 i2 i3 i4).mono ?_; rintro e w' ⟨rfl, rfl⟩)
    | (go_at_call 54; refine ((HS _).out).mono ?_; rintro e w1 ⟨⟨A, n, c, rfl, hn⟩, hb⟩; have hnI : (300 : Int) < (n : Int) := by omega))
  go_ret2
  exact resSS_nil hb
set_option maxHeartbeats 1600000 in
theorem impl_AllSums_yes (s : Int) (N M : Nat) (w : World) (h1 : 3 ≤ s) (h2 : s ≤ 24) (hN : N ≤ 3000) (hM : M ≤ 24) (hW : W s (pl s N).toNat M N ≤ 300) :
    Calls Tryd.prog 22 #[.int .i64 s, .int .i64 N, .int .i64 M] w (ResSS true (Lw s (pl s N).toNat M N) w) := by
  have i1 : (0 : Int) ≤ (N : Int) := by omega
  have i2 : (N : Int) ≤ 3000 := by omega
  have i3 : (0 : Int) ≤ (M : Int) := by omega
  have i4 : (M : Int) ≤ 24 := by omega
  have HS : ∀ w : World, Hid (Calls Tryd.prog 54 #[.int .i64 s, .int .i64 N, .int .i64 M] w fun e w' => (∃ V rs, e = .returned V ∧ Lists w' w.heap.size V rs (Lw s (pl s N).toNat M N)) ∧ Below w.heap.size w w') := fun w => Lib.hid ((sumsInOrder_any s N M w h1 h2 hN hM).mono fun e w' ⟨⟨V, rs, zss, he, hL, hz⟩, hb⟩ => by
    rcases hz with rfl | hz
    · exact ⟨⟨V, rs, he, hL⟩, hb⟩
    · omega)
  have HLN : Hid ((Lw s (pl s N).toNat M N).length ≤ 300) := Lib.hid (by rw [Lw_len]; exact hW)
  clear hW
  generalize Lw s (pl s N).toNat M N = L at *
  go_enter Tryd.func22, Tryd.ntmps22
  go_wp2_with (first
    | (go_at_call 47; refine (assp_yes _ _ _ _ h1 h2 i1 i2 i3 i4).mono ?_; rintro e w' ⟨rfl, rfl⟩)
    | (go_at_call 54; refine ((HS _).out).mono ?_; rintro e w1 ⟨⟨V, rs, rfl, hL⟩, hb⟩; obtain ⟨A, c, Af, cf, rfl, hO⟩ := hL.ownL; have HO := Lib.hid hO; have hlI : (L.length : Int) ≤ 300 := (by have := HLN.out; omega); have hgd : decide ((300 : Int) < (L.length : Int)) = false := (by simp; omega); clear hL hO))
  go_ret2
  exact ⟨A, c, Af, cf, rfl, HO.out, hb⟩
theorem Lw_mem_len (s : Int) (k : Nat) : ∀ (i : Nat) (m : Int), ∀ x ∈ Lw s k i m, x.length = i := by
  induction k with
  | zero =>
    intro i m x hx
    cases i with
    | zero => rw [Lw_k0] at hx; split at hx <;> simp at hx; subst hx; rfl
    | succ i => rw [Lw_0] at hx; simp at hx
  | succ k ih =>
    intro i
    induction i with
    | zero => intro m x hx; rw [Lw_k0] at hx; split at hx <;> simp at hx; subst hx; rfl
    | succ i ih2 =>
      intro m x hx
      rw [Lw_kk, List.mem_append] at hx
      rcases hx with hx | hx
      · obtain ⟨y, hy, rfl⟩ := List.mem_map.1 hx
        simp [ih2 _ y hy]
      · exact ih _ _ x hx
end Go.Proofs.YtiloljldefodkaaDoor
