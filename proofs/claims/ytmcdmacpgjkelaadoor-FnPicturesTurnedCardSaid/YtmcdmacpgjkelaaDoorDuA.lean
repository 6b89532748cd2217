/- Chapter 7: the program's sets of dots: the key's type; has, add. -/
import Derived.Test.YtmcdmacpgjkelaaDoorDuN
import Derived.Test.YtmcdmacpgjkelaaDoorMb
import Derived.Lib.Hide
namespace Go.Proofs.YtmcdmacpgjkelaaDoor
open Go.ChangeShapes Go.WideShapes Go.ChangeAt Go.RowKit Go.Maps

theorem akey : WideMaps.ArrKey Tryd.prog 68 3 2 := ⟨Tryd.underlying68, by kernel_rfl, by kernel_rfl, by kernel_rfl⟩
theorem vkey : VKey Tryd.prog 68 :=
  vkey_of akey Tryd.underlying3 ⟨Tryd.prog.types.size - 1, by kernel_rfl⟩ (Keyed.of_law akey.law)
theorem zeroU (w : World) : (zeroValue 84).run Tryd.prog w = .ok (.agg #[]) w := by kernel_rfl
/-- Block b holds the dots of the set S. -/
abbrev Ds (w : World) (b : Nat) (S : Int → Int → Bool) : Prop := Dots Tryd.prog 68 w b S
abbrev Rs (w : World) (b r : Nat) (S L : Int → Int → Bool) : Prop := Rg Tryd.prog 68 w b r S L
theorem has_any (b : Nat) (S : Int → Int → Bool) (x y : Int) (w : World) (h : Ds w b S) (hw : wf2 x y) :
    Calls Tryd.prog 54 #[.map (some b), .agg #[.int .i64 x, .int .i64 y]] w fun e w' => e = .returned (.bool (S x y)) ∧ Below w.heap.size w w' := by
  go_enter Tryd.func54, Tryd.ntmps54
  go_wp2_with (at_lookup; refine dots_has vkey _ rfl _ _ 40 84 rfl Tryd.underlying40 (zeroU _) b S rfl (h.alloc _) x y rfl hw ?_)
  go_ret
  exact ⟨rfl, ((Below.refl _ _).alloc (Nat.le_refl _) _).alloc (by simp) _⟩
theorem add_any (b : Nat) (S : Int → Int → Bool) (x y : Int) (w : World) (h : Ds w b S) (hp : 0 ≤ x ∧ x < 100 ∧ 0 ≤ y ∧ y < 100) :
    Calls Tryd.prog 70 #[.map (some b), .agg #[.int .i64 x, .int .i64 y]] w fun e w' => e = .returned (.tuple #[]) ∧ Ds w' b (aS S x y) ∧ w.grownBy w' (some b) := by
  go_enter Tryd.func70, Tryd.ntmps70
  go_wp2_with (at_mapUpdate; refine dots_add vkey _ rfl _ _ _ 40 84 rfl Tryd.underlying40 b S rfl (h.alloc _) x y rfl rfl hp ?_; intro w1 h1 g1)
  go_end0
  exact ⟨rfl, h1, (World.grownBy_alloc _ _ _).trans g1⟩
end Go.Proofs.YtmcdmacpgjkelaaDoor
