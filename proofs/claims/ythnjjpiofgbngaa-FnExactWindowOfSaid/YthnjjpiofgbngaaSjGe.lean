/- Chapter 6: walks of the laws. -/
import Derived.Test.YthnjjpiofgbngaaSjF
import Derived.Test.YthnjjpiofgbngaaSiR
namespace Go.Proofs.Ythnjjpiofgbngaa
open Go.ChangeShapes Go.WideShapes Go.ChangeAt Go.RowKit

theorem wnd_lists (yss : List (List Int)) (L : Nat) (hn : yss.length ≤ 100000) (h : ∀ xs ∈ yss, xs.length ≤ L) (hL : L ≤ 1000) : pre (rowsOf yss) yss.length ≤ 1000000000 := by
  have := pre_le (rowsOf yss) yss.length L fun i hi => by
    have e : rowsOf yss i = yss[i] := by simp [rowsOf, List.getD_eq_getElem?_getD, hi]
    rw [e]
    exact h _ (List.getElem_mem hi)
  have h2 := Nat.mul_le_mul hn hL
  omega
theorem wnd_len (x y : Int) (D k : Nat) : (wnd x y D k).length = k := by simp [wnd]
theorem wnd_pre (x y : Int) (D k : Nat) (h : D ≤ 20) (hk : k ≤ 20) : pre (rowsOf (wnd x y D k)) (wnd x y D k).length ≤ 1000000000 :=
  Nat.le_trans (wnd_lists _ 20 (by rw [wnd_len]; omega) (by intro xs hx; obtain ⟨j, _, rfl⟩ := List.mem_map.1 hx; rw [wro_len]; omega) (by omega)) (by omega)
theorem walk_WindowOf (x y wd hg : Int) (w : World) : Calls Try.prog 11 #[.agg #[.int .i64 x, .int .i64 y], .int .i64 wd, .int .i64 hg] w fun e w' => e = .returned (.bool true) ∧ Below w.heap.size w w' := by
  cases h : wnOk x y wd hg with
  | false => exact lawL_WindowOf x y wd hg false [] (by simp) (by simp [pre]) (fun w => spec_WindowOf_no x y wd hg w h) (fun w => impl_WindowOf_no x y wd hg w h) w
  | true =>
    obtain ⟨_, a0, a1, b0, b1⟩ := wnOk_bds h
    exact lawL_WindowOf x y wd hg true (wnd x y wd.toNat hg.toNat) (by rw [wnd_len]; omega) (wnd_pre x y _ _ (by omega) (by omega)) (fun w => spec_WindowOf_yes x y wd hg w h) (fun w => impl_WindowOf_yes x y wd hg w h) w
end Go.Proofs.Ythnjjpiofgbngaa
