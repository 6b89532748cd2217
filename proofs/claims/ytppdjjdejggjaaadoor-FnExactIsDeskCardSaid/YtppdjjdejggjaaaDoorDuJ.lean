/- Chapter 7: the program's pictures: limits, places. -/
import Derived.Test.YtppdjjdejggjaaaDoorDuD
namespace Go.Proofs.YtppdjjdejggjaaaDoor
open Go.ChangeShapes Go.WideShapes Go.ChangeAt Go.RowKit Go.Maps

/-- A picture of W columns and H rows, its dots in block b. -/
abbrev picV (W H : Int) (b : Nat) : Value := .agg #[.int .i64 W, .int .i64 H, .map (some b)]
def limB (W H : Int) : Bool := betr W 1 24 && betr H 1 24
set_option maxRecDepth 4000 in
theorem limits_any (W H : Int) (b : Nat) (w : World) :
    Calls Tryd.prog 41 #[.agg #[.int .i64 W, .int .i64 H, .map (some b)]] w fun e w' => e = .returned (.bool (limB W H)) ∧ Below w.heap.size w w' := by
  have HL : Hid (limB W H = (betr W 1 24 && betr H 1 24)) := Lib.hid rfl
  rw [HL.out]
  clear HL
  have HB := Lib.hid (show Below w.heap.size w (w.alloc (.cells #[.int .i64 W, .int .i64 H, .map (some b)] 55)) from (Below.refl _ _).alloc (Nat.le_refl _) _)
  cases h1 : betr W 1 24 <;> cases h2 : betr H 1 24
  all_goals
    go_enter Tryd.func41, Tryd.ntmps41
    go_wp2_with (go_at_call 29; refine (rwithin_any _ _ _ _).mono ?_; (first | rw [h1] | rw [h2]); rintro e w1 ⟨rfl, rfl⟩)
    go_ret
    exact ⟨rfl, HB.out⟩

/-- The first n places of a picture of W columns, row by row. -/
def plcs (W n : Nat) : List (Int × Int) := (List.range n).map fun i => (((i % W : Nat) : Int), ((i / W : Nat) : Int))
theorem plcs_len (W n : Nat) : (plcs W n).length = n := by simp [plcs]
theorem plcs_at (W n k : Nat) (h : k < n) : (plcs W n)[k]'(by rw [plcs_len]; exact h) = (((k % W : Nat) : Int), ((k / W : Nat) : Int)) := by simp [plcs]
theorem plcs_succ (W n : Nat) : plcs W (n + 1) = plcs W n ++ [(((n % W : Nat) : Int), ((n / W : Nat) : Int))] := by simp [plcs, List.range_succ]
end Go.Proofs.YtppdjjdejggjaaaDoor
