/- Chapter 6: numbers at spots in a row, by the program. -/
import Derived.Test.YtmjmjcabmcbemaaSiZ
import Derived.Deep.AppendLies
import Derived.Deep.Onto
namespace Go.Proofs.Ytmjmjcabmcbemaa
open Go.ChangeShapes Go.WideShapes Go.ChangeAt Go.RowKit

theorem sjInfo : (Try.prog.info? 3).map (fun i => (i.zero, i.size, i.bytes)) = some (some (.int .i64 0), 1, 8) := by kernel_rfl
theorem sj_new (w : World) (a : Value) (t : TypeId) : ∀ j u, [a][j]? = some u → (w.alloc (.cells #[a] t)).cell? ((⟨w.heap.size, 0, none⟩ : Addr).add j) = some u := by
  intro j u hj
  match j, hj with
  | 0, hj => simp at hj; subst hj; simp [Addr.add]
/-- The first values of a function. -/
def rl (F : Nat → Int) (k : Nat) : List Int := (List.range k).map F
theorem rl_app (F : Nat → Int) (k : Nat) : i64s (rl F k) ++ [.int .i64 (F k)] = i64s (rl F (k + 1)) := by simp [rl, List.range_succ]
theorem rl_len (F : Nat → Int) (k : Nat) : (rl F k).length = k := by simp [rl]
theorem Box2.pair {W : World} {B : Nat} {a b : Value} (h : Box2 W B a b) : W.cell? ⟨B, 0, none⟩ = some a ∧ W.cell? ⟨B, 1, none⟩ = some b := ⟨h.c0, h.c1⟩
theorem Box2.far {W W' : World} {B : Nat} {a b : Value} {row : Option Nat} (h : Box2 W B a b) (hg : W.grownBy W' row) (hr : some B ≠ row) : Box2 W' B a b :=
  ⟨(hg.cell_far ⟨B, 0, none⟩ h.z hr).trans h.c0, (hg.cell_far ⟨B, 1, none⟩ h.z hr).trans h.c1, Nat.lt_of_lt_of_le h.z hg.size⟩
end Go.Proofs.Ytmjmjcabmcbemaa
