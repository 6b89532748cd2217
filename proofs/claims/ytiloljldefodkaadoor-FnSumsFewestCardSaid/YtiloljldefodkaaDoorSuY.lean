/- AllSums: the specification's answer. -/
import Derived.Test.YtiloljldefodkaaDoorSuX
namespace Go.Proofs.YtiloljldefodkaaDoor
open Go.ChangeShapes Go.WideShapes Go.ChangeAt Go.RowKit

theorem spec_AllSums_no (s n p : Int) (w : World) (h : ((s < 3 ∨ 24 < s) ∨ (n < 0 ∨ 3000 < n)) ∨ (p < 0 ∨ 24 < p)) :
    Calls Tryd.prog 23 #[.int .i64 s, .int .i64 n, .int .i64 p] w (ResSS false [] w) := by
  have H := Lib.hid h
  clear h
  go_enter Tryd.func23, Tryd.ntmps23
  go_wp2_with (go_at_call 55; refine (suParts_no _ _ _ _ H.out).mono ?_; rintro e w' ⟨rfl, rfl⟩)
  go_ret2
  exact resSS_nil (Below.refl _ _)
set_option maxHeartbeats 1600000 in
theorem spec_AllSums_much (s : Int) (N M : Nat) (w : World) (h1 : 3 ≤ s) (h2 : s ≤ 24) (hN : N ≤ 3000) (hM : M ≤ 24) (hW : 300 < W s (pl s N).toNat M N) :
    Calls Tryd.prog 23 #[.int .i64 s, .int .i64 N, .int .i64 M] w (ResSS false [] w) := by
  have i1 : (0 : Int) ≤ (N : Int) := by omega
  have i2 : (N : Int) ≤ 3000 := by omega
  have i3 : (0 : Int) ≤ (M : Int) := by omega
  have i4 : (M : Int) ≤ 24 := by omega
  have HC := Lib.hid (fun w => suCount_any s N M w h1 h2 hN hM)
  have hWI : (300 : Int) < (W s (pl s N).toNat M N : Int) := by omega
  generalize (W s (pl s N).toNat M N : Int) = x at *
  clear hW
  go_enter Tryd.func23, Tryd.ntmps23
  go_wp2_with (first
    | (go_at_call 55; refine (suParts_yes _ _ _ _ h1 h2 i1 i2 i3 i4).mono ?_; rintro e w' ⟨rfl, rfl⟩)
    | (go_at_call 56; refine (HC.out _).mono ?_; rintro e w1 ⟨rfl, hb⟩))
  go_ret2
  exact resSS_nil hb
set_option maxHeartbeats 1600000 in
theorem spec_AllSums_yes (s : Int) (N M : Nat) (w : World) (h1 : 3 ≤ s) (h2 : s ≤ 24) (hN : N ≤ 3000) (hM : M ≤ 24) (hW : W s (pl s N).toNat M N ≤ 300) :
    Calls Tryd.prog 23 #[.int .i64 s, .int .i64 N, .int .i64 M] w (ResSS true (Lw s (pl s N).toNat M N) w) := by
  have i1 : (0 : Int) ≤ (N : Int) := by omega
  have i2 : (N : Int) ≤ 3000 := by omega
  have i3 : (0 : Int) ≤ (M : Int) := by omega
  have i4 : (M : Int) ≤ 24 := by omega
  have HC := Lib.hid (fun w => suCount_any s N M w h1 h2 hN hM)
  have HSL : Hid (∀ (base b : Nat) (w : World), base ≤ b → Boxed w b 40 (.slice none 0 0) → Calls Tryd.prog 57 #[.int .i64 s, .int .i64 N, .int .i64 M, .int .i64 3000, .slice none 0 0, .pointer (some ⟨b, 0, none⟩)] w (Listed w base b (Lw s (pl s N).toNat M N))) := Lib.hid (fun base b w hbb hB => by
    have h9 := suList_any s h1 h2 base b hbb M N 3000 [] (.slice none 0 0) (.slice none 0 0) [] [] 0 w hM i1 i2 (Nat.le_refl _) (by simpa using hM) (by rw [← Lw_len, lw_3000 s N M h1 hN, Lw_len]; simpa using hW) (World.ownsRow_nil _ _ _ _) hB (Lists.nil _ _)
    simpa [lw_3000 s N M h1 hN] using h9)
  have hWI : (W s (pl s N).toNat M N : Int) ≤ 300 := by omega
  have hW0 : (0 : Int) ≤ (W s (pl s N).toNat M N : Int) := by omega
  have HZ : Hid (¬ (0 : Int) < (W s (pl s N).toNat M N : Int) → Lw s (pl s N).toNat M N = []) := Lib.hid (fun h => Lw_nil _ _ _ _ (by omega))
  generalize (W s (pl s N).toNat M N : Int) = x at *
  generalize Lw s (pl s N).toNat M N = L at *
  clear hW
  have HC1 := HC
  by_cases hx : 0 < x
  · go_enter Tryd.func23, Tryd.ntmps23
    go_wp2_with (first
      | (go_at_call 55; refine (suParts_yes _ _ _ _ h1 h2 i1 i2 i3 i4).mono ?_; rintro e w' ⟨rfl, rfl⟩)
      | (go_at_call 56; refine (HC1.out _).mono ?_; rintro e w1 ⟨rfl, hb⟩; clear HC1)
      | (go_at_call 56; refine (HC.out _).mono ?_; rintro e w2 ⟨rfl, hb2⟩; have HBX := Lib.hid (show Boxed w2 w1.heap.size 40 (.slice none 0 0) from (hb2.block _ (by simp)).trans (Boxed.new w1 _ _)))
      | (go_at_call 57; refine (HSL.out w.heap.size w1.heap.size w2 hb.size HBX.out).mono ?_; rintro e w3 ⟨rfl, ⟨V, rs, hB, hL⟩, hb3, hk⟩; obtain ⟨A, c, Af, cf, rfl, hO⟩ := hL.ownL; have hc3 := hB.cell; have HO := Lib.hid hO; clear hB hL hk hO))
    go_ret2
    have hs := hb.size
    exact ⟨A, c, Af, cf, rfl, HO.out, (hb.alloc hb.size _).trans ((hb2.mono (by simp; omega)).trans hb3)⟩
  · have HE := Lib.hid (HZ.out hx)
    go_enter Tryd.func23, Tryd.ntmps23
    go_wp2_with (first
      | (go_at_call 55; refine (suParts_yes _ _ _ _ h1 h2 i1 i2 i3 i4).mono ?_; rintro e w' ⟨rfl, rfl⟩)
      | (go_at_call 56; refine (HC1.out _).mono ?_; rintro e w1 ⟨rfl, hb⟩; clear HC1)
      | (go_at_call 56; refine (HC.out _).mono ?_; rintro e w2 ⟨rfl, hb2⟩; have hc2 := (show Boxed w2 w1.heap.size 40 (.slice none 0 0) from (hb2.block _ (by simp)).trans (Boxed.new w1 _ _)).cell))
    go_ret2
    have hs := hb.size
    rw [HE.out]
    exact resSS_nil ((hb.alloc hb.size _).trans (hb2.mono (by simp; omega)))

end Go.Proofs.YtiloljldefodkaaDoor
