/- Chapter 7: the program's sets of dots: the key's type; has, add. -/
import Derived.Test.YtppdjjdejggjaaaDoorDuN
import Derived.Test.YtppdjjdejggjaaaDoorRuA
import Derived.Lib.Hide
namespace Go.Proofs.YtppdjjdejggjaaaDoor
open Go.ChangeShapes Go.WideShapes Go.ChangeAt Go.RowKit Go.Maps

theorem akey : WideMaps.ArrKey Tryd.prog 79 3 2 := ⟨Tryd.underlying79, by kernel_rfl, by kernel_rfl, by kernel_rfl⟩
theorem vkey : VKey Tryd.prog 79 :=
  vkey_of akey Tryd.underlying3 ⟨Tryd.prog.types.size - 1, by kernel_rfl⟩ (Keyed.of_law akey.law)
theorem zeroU (w : World) : (zeroValue 96).run Tryd.prog w = .ok (.agg #[]) w := by kernel_rfl
/-- Block b holds the dots of the set S. -/
abbrev Ds (w : World) (b : Nat) (S : Int → Int → Bool) : Prop := Dots Tryd.prog 79 w b S
abbrev Rs (w : World) (b r : Nat) (S L : Int → Int → Bool) : Prop := Rg Tryd.prog 79 w b r S L
theorem add_any (b : Nat) (S : Int → Int → Bool) (x y : Int) (w : World) (h : Ds w b S) (hp : 0 ≤ x ∧ x < 100 ∧ 0 ≤ y ∧ y < 100) :
    Calls Tryd.prog 54 #[.map (some b), .agg #[.int .i64 x, .int .i64 y]] w fun e w' => e = .returned (.tuple #[]) ∧ Ds w' b (aS S x y) ∧ w.grownBy w' (some b) := by
  go_enter Tryd.func54, Tryd.ntmps54
  go_wp2_with (at_mapUpdate; refine dots_add vkey _ rfl _ _ _ 53 96 rfl Tryd.underlying53 b S rfl (h.alloc _) x y rfl rfl hp ?_; intro w1 h1 g1)
  go_end0
  exact ⟨rfl, h1, (World.grownBy_alloc _ _ _).trans g1⟩
end Go.Proofs.YtppdjjdejggjaaaDoor
