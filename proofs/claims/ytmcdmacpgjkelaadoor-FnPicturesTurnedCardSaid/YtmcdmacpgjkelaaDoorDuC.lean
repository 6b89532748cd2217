/- Chapter 7: the program's vectors: led by steps; the four places beside one. -/
import Derived.Test.YtmcdmacpgjkelaaDoorDuB
import Derived.Deep.RegionHeld3
import Derived.Deep.AppendLies
import Derived.BigRegion
import Derived.Laws.EntriesVeiled
namespace Go.Proofs.YtmcdmacpgjkelaaDoor
open Go.ChangeShapes Go.WideShapes Go.ChangeAt Go.RowKit Go.Maps

theorem infoVec : (Tryd.prog.info? 68).map (fun i => (i.zero, i.size, i.bytes)) = some (some (.agg #[.int .i64 0, .int .i64 0]), 2, 16) := by kernel_rfl
theorem dbl3 (w : World) (o p q : Obj) : Below w.heap.size w (((w.alloc o).alloc p).alloc q) := (((Below.refl _ _).alloc (Nat.le_refl _) _).alloc (by simp) _).alloc (by simp; omega) _
/-- The four steps, the four places beside one. -/
def stp : List (Int × Int) := [(1, 0), (0, 1), (-1, 0), (0, -1)]
def bsd (x y : Int) : List (Int × Int) := stp.map fun s => (x + s.1, y + s.2)
theorem bsd_len (x y : Int) : (bsd x y).length = 4 := rfl
/-- What a place is asked that is led by a vector a number of times, all small. -/
structure Sml (x y u v : Int) : Prop where
  x0 : -1000000 ≤ x
  x1 : x ≤ 1000000
  y0 : -1000000 ≤ y
  y1 : y ≤ 1000000
  u0 : -1000000 ≤ u
  u1 : u ≤ 1000000
  v0 : -1000000 ≤ v
  v1 : v ≤ 1000000
theorem led_any (x y u v : Int) (w : World) (h : Sml x y u v) :
    Calls Tryd.prog 63 #[.agg #[.int .i64 x, .int .i64 y], .agg #[.int .i64 u, .int .i64 v], .int .i64 1] w fun e w' => e = .returned (.agg #[.int .i64 (x + u), .int .i64 (y + v)]) ∧ Below w.heap.size w w' := by
  obtain ⟨x0, x1, y0, y1, a0, a1, b0, b1⟩ := h
  have e1 : IntKind.i64.wrap u = u := IntWalk.i64_in _ (by omega)
  have e2 : IntKind.i64.wrap v = v := IntWalk.i64_in _ (by omega)
  have e3 : IntKind.i64.wrap (x + u) = x + u := IntWalk.i64_in _ (by omega)
  have e4 : IntKind.i64.wrap (y + v) = y + v := IntWalk.i64_in _ (by omega)
  clear x0 x1 y0 y1 a0 a1 b0 b1
  go_enter Tryd.func63, Tryd.ntmps63
  go_wp2
  exact bodyPost_ret (v := .agg #[.int .i64 (x + u), .int .i64 (y + v)]) (by simp [results, Tryd.results63, go_sem]) rfl ⟨rfl, dbl3 _ _ _ _⟩
theorem cell_old {W : World} {p : Addr} {v : Value} (h : W.cell? p = some v) (o : Obj) : (W.alloc o).cell? p = some v := by
  rw [World.cell?_alloc_old _ _ _ (Nat.ne_of_lt (World.block_lt_of_cell? _ _ h))]
  exact h
theorem grown_refl (w : World) (row : Option Nat) : w.grownBy w row := ⟨rfl, rfl, rfl, Nat.le_refl _, fun _ _ _ => rfl⟩
theorem grown_tr {a b c : World} {row : Option Nat} (h : a.grownBy b row) (k : b.grownBy c row) : a.grownBy c row := h.andThen k fun _ e => Or.inr e
/-- A place appended to the call's own row of places. -/
theorem app_vec {ops : Array Oper} {rest : List Oper} {o : Oper} {a : Act} {Q : Exit → Act → World → Prop} (base : Nat) (w : World) (hgd : o.guard = none) (s x : Operand)
    (ho : o.op = .call { callee := .builtin .append, args := #[s, x], argTypes := #[88, 88] }) (v : Value) (n : Nat) (xs : List (Int × Int)) (hs : a.eval s = v) (hG : w.ownsRow base 68 2 v n (prs xs)) (hn : xs.length = n) (hB : base ≤ w.heap.size) (p q : Int)
    (hx : a.eval x = .slice (some ⟨w.heap.size, 0, none⟩) 1 1) (hl : n ≤ 100000)
    (h : ∀ v' w', w'.ownsRow base 68 2 v' (n + 1) (prs (xs ++ [(p, q)])) → w.grownBy w' v.ownBlock → wpList Tryd.prog ops Q rest (a.put o.dst v') w') : wpList Tryd.prog ops Q (o :: rest) a (w.alloc (.cells #[.int .i64 p, .int .i64 q] 68)) := by
  obtain ⟨i0, hi0, hz0, hz1, hz2⟩ := info_parts infoVec
  refine wpList_append_own _ hgd s x 88 ho base 68 i0 (.agg #[.int .i64 0, .int .i64 0]) 2 16 Tryd.underlying88 hi0 hz0 hz1 hz2 rfl (by decide) v _ _ hs (hG.alloc _) ⟨w.heap.size, 0, none⟩ 1 1 [.int .i64 p, .int .i64 q] hx rfl ?c1 ?c2 ?c3 ?c4 ?c5 ?_
  case c1 =>
    intro j u hj
    match j, hj with
    | 0, hj => simp at hj; subst hj; simp [Addr.add]
    | 1, hj => simp at hj; subst hj; simp [Addr.add]
  case c2 => intro u hu; simp at hu; rcases hu with rfl | rfl <;> rfl
  case c3 => unfold maxLen; omega
  case c4 => omega
  case c5 => simp; omega
  · intro v' w4 hown' hgrow _
    refine h v' w4 ?_ (grown_tr (World.grownBy_alloc w _ _) hgrow)
    rw [← prs_app]
    exact hown'
end Go.Proofs.YtmcdmacpgjkelaaDoor
