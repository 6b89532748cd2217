/- The law FnExactCountSums: the program counts the sums of so many parts as the specification does, whatever the arguments. No condition. -/
import Derived.Test.YtiloljldefodkaaDoorMk
namespace Go.Proofs.YtiloljldefodkaaDoor
open Go.ChangeShapes Go.WideShapes Go.ChangeAt Go.RowKit

theorem spec_CountSums_no (s n p : Int) (w : World) (h : ((s < 3 ∨ 24 < s) ∨ (n < 0 ∨ 3000 < n)) ∨ (p < 0 ∨ 24 < p)) :
    Calls Tryd.prog 24 #[.int .i64 s, .int .i64 n, .int .i64 p] w fun e w' => e = .returned (.tuple #[.int .i64 0, .bool false]) ∧ Below w.heap.size w w' := by
  have H := Lib.hid h
  clear h
  go_enter Tryd.func24, Tryd.ntmps24
  go_wp2_with (go_at_call 55; refine (suParts_no _ _ _ _ H.out).mono ?_; rintro e w' ⟨rfl, rfl⟩)
  go_ret2
  exact ⟨rfl, Below.refl _ _⟩
theorem impl_CountSums_no (s n p : Int) (w : World) (h : ((s < 3 ∨ 24 < s) ∨ (n < 0 ∨ 3000 < n)) ∨ (p < 0 ∨ 24 < p)) :
    Calls Tryd.prog 19 #[.int .i64 s, .int .i64 n, .int .i64 p] w fun e w' => e = .returned (.tuple #[.int .i64 0, .bool false]) ∧ Below w.heap.size w w' := by
  have H := Lib.hid h
  clear h
  go_enter Tryd.func19, Tryd.ntmps19
  go_wp2_with (go_at_call 47; refine (assp_no _ _ _ _ H.out).mono ?_; rintro e w' ⟨rfl, rfl⟩)
  go_ret2
  exact ⟨rfl, Below.refl _ _⟩

theorem spec_CountSums_yes (s : Int) (N M : Nat) (w : World) (h1 : 3 ≤ s) (h2 : s ≤ 24) (hN : N ≤ 3000) (hM : M ≤ 24) :
    Calls Tryd.prog 24 #[.int .i64 s, .int .i64 N, .int .i64 M] w fun e w' => e = .returned (.tuple #[.int .i64 (W s (pl s N).toNat M N), .bool true]) ∧ Below w.heap.size w w' := by
  have i1 : (0 : Int) ≤ (N : Int) := by omega
  have i2 : (N : Int) ≤ 3000 := by omega
  have i3 : (0 : Int) ≤ (M : Int) := by omega
  have i4 : (M : Int) ≤ 24 := by omega
  go_enter Tryd.func24, Tryd.ntmps24
  go_wp2_with (first
    | (go_at_call 55; refine (suParts_yes _ _ _ _ h1 h2 i1 i2 i3 i4).mono ?_; rintro e w' ⟨rfl, rfl⟩)
    | (go_at_call 56; refine (suCount_any _ _ _ _ h1 h2 hN hM).mono ?_; rintro e w1 ⟨rfl, hb⟩))
  go_ret2
  exact ⟨rfl, hb⟩
theorem impl_CountSums_yes (s : Int) (N M : Nat) (w : World) (h1 : 3 ≤ s) (h2 : s ≤ 24) (hN : N ≤ 3000) (hM : M ≤ 24) :
    Calls Tryd.prog 19 #[.int .i64 s, .int .i64 N, .int .i64 M] w fun e w' => e = .returned (.tuple #[.int .i64 (W s (pl s N).toNat M N), .bool true]) ∧ Below w.heap.size w w' := by
  have i1 : (0 : Int) ≤ (N : Int) := by omega
  have i2 : (N : Int) ≤ 3000 := by omega
  have i3 : (0 : Int) ≤ (M : Int) := by omega
  have i4 : (M : Int) ≤ 24 := by omega
  have HNP := Lib.hid fun w => numbersByPlace_any s N w h1 h2 hN
  have HW := Lib.hid fun (base0 g0 c0 : Nat) (w : World) hnb => waysNum_any s N M base0 g0 c0 w h1 h2 hN hM hnb
  generalize (pl s N).toNat = K at *
  go_enter Tryd.func19, Tryd.ntmps19
  go_wp2_with (first
    | (go_at_call 47; refine (assp_yes _ _ _ _ h1 h2 i1 i2 i3 i4).mono ?_; rintro e w' ⟨rfl, rfl⟩)
    | (go_at_call 31; refine (HNP.out _).mono ?_; rintro e w0 ⟨⟨g0, c0, rfl, hr0⟩, hb0⟩; have HR0 := Lib.hid hr0; clear hr0)
    | (go_at_call 48; refine (HW.out _ _ _ _ HR0.out).mono ?_; rintro e w1 ⟨⟨g, rfl, hr⟩, hb⟩; have hc := hr.cell (j := M) (by omega)))
  go_ret2
  exact ⟨rfl, hb0.trans (hb.mono hb0.size)⟩
end Go.Proofs.YtiloljldefodkaaDoor
