/- Chapter 7: the specification's pieces. -/
import Derived.Test.YtmcdmacpgjkelaaDoorDtX
import Derived.Test.YtmcdmacpgjkelaaDoorDtWg
namespace Go.Proofs.YtmcdmacpgjkelaaDoor
open Go.ChangeShapes Go.WideShapes Go.ChangeAt Go.RowKit

/-- What a function hands back that answers texts: the slice of texts is its own. -/
def ResT (ok : Bool) (xs : List (List UInt8)) (w : World) (e : Ending) (w' : World) : Prop :=
  ∃ A c, e = .returned (.tuple #[.slice A xs.length c, .bool ok]) ∧ Own w' w.heap.size w'.heap.size A (strs xs) ∧ Below w.heap.size w w'
theorem app_text {ops : Array Oper} {rest : List Oper} {o : Oper} {a : Act} {X : Exit → Act → World → Prop} (base : Nat) (w : World) (hgd : o.guard = none) (s x : Operand)
    (ho : o.op = .call { callee := .builtin .append, args := #[s, x], argTypes := #[43, 43] }) (v : Value) (xs : List (List UInt8)) (hs : a.eval s = v) (hG : w.ownsRow base 9 1 v xs.length (strs xs)) (hB : base ≤ w.heap.size) (z : List UInt8)
    (hx : a.eval x = .slice (some ⟨w.heap.size, 0, none⟩) 1 1) (hl : xs.length ≤ 100000)
    (h : ∀ v' w', w'.ownsRow base 9 1 v' (xs ++ [z]).length (strs (xs ++ [z])) → w.grownBy w' v.ownBlock → wpList Tryd.prog ops X rest (a.put o.dst v') w') : wpList Tryd.prog ops X (o :: rest) a (w.alloc (.cells #[.string (bt z)] 9)) := by
  obtain ⟨i0, hi0, hz0, hz1, hz2⟩ := info_parts infoStr
  refine wpList_append_own _ hgd s x 43 ho base 9 i0 (.string ⟨#[]⟩) 1 16 Tryd.underlying43 hi0 hz0 hz1 hz2 rfl (by decide) v _ _ hs (hG.alloc _) ⟨w.heap.size, 0, none⟩ 1 1 [.string (bt z)] hx rfl ?c1 ?c2 ?c3 ?c4 ?c5 ?_
  case c1 =>
    intro j u hj
    match j, hj with
    | 0, hj => simp at hj; subst hj; simp [Addr.add]
  case c2 => intro u hu; simp at hu; subst hu; rfl
  case c3 => unfold maxLen; omega
  case c4 => omega
  case c5 => simp; omega
  · intro v' w4 hown' hgrow _
    refine h v' w4 ?_ (grownBy_trans (World.grownBy_alloc w _ _) hgrow)
    rw [List.length_append, ← strs_app]
    exact hown'
end Go.Proofs.YtmcdmacpgjkelaaDoor
