/- Chapter 6: the number at a spot, by the program: each side offers it over a channel. -/
import Derived.Test.YtmjmjcabmcbemaaSiV
import Derived.Test.YtmjmjcabmcbemaaChA
import Derived.ChangeKeysEq
namespace Go.Proofs.Ytmjmjcabmcbemaa
open Go.ChangeShapes Go.WideShapes Go.ChangeAt Go.RowKit Go.ChangeMaps Go.Conc

theorem vec_one : Try.prog.cellsOf 3 = 1 := by kernel_rfl
theorem vec_key : Try.prog.plainKey 3 = true := by kernel_rfl
theorem vec_info : (Try.prog.info? 3).map (fun i => (i.zero, i.size, i.bytes)) = some (some (.int .i64 0), 1, 8) := by kernel_rfl
/-- A box of two. -/
structure Box2 (W : World) (B : Nat) (a b : Value) : Prop where
  c0 : W.cell? ⟨B, 0, none⟩ = some a
  c1 : W.cell? ⟨B, 1, none⟩ = some b
  z : B < W.heap.size
theorem Box2.under {W W' : World} {B n : Nat} {a b : Value} (h : Box2 W B a b) (hb : Below n W W') (hn : B < n) : Box2 W' B a b :=
  ⟨(hb.cell (p := ⟨B, 0, none⟩) hn).trans h.c0, (hb.cell (p := ⟨B, 1, none⟩) hn).trans h.c1, Nat.lt_of_lt_of_le h.z hb.size⟩
theorem Box2.below {W W' : World} {B : Nat} {a b : Value} (h : Box2 W B a b) (hb : Below W.heap.size W W') : Box2 W' B a b := h.under hb h.z
theorem Box2.drew {W : World} {B : Nat} {a b : Value} (h : Box2 W B a b) : Box2 W.drew B a b := ⟨h.c0, h.c1, h.z⟩
theorem Box2.alloc {W : World} {B : Nat} {a b : Value} (h : Box2 W B a b) (o : Obj) : Box2 (W.alloc o) B a b := h.below ((Below.refl _ _).alloc (Nat.le_refl _) _)
theorem box2_new (w : World) (a b : Value) (t : Nat) : Box2 (w.alloc (.cells #[a, b] t)) w.heap.size a b := ⟨by simp [go_sem], by simp [go_sem], by simp⟩
/-- A box of two that may be written. -/
structure BoxW (W : World) (B : Nat) (a b : Value) : Prop where
  c0 : W.cell? ⟨B, 0, none⟩ = some a
  f0 : W.frozen? ⟨B, 0, none⟩ = false
  c1 : W.cell? ⟨B, 1, none⟩ = some b
  f1 : W.frozen? ⟨B, 1, none⟩ = false
  z : B < W.heap.size
theorem BoxW.under {W W' : World} {B n : Nat} {a b : Value} (h : BoxW W B a b) (hb : Below n W W') (hn : B < n) : BoxW W' B a b :=
  ⟨(hb.cell (p := ⟨B, 0, none⟩) hn).trans h.c0, (hb.frozen (p := ⟨B, 0, none⟩) hn).trans h.f0, (hb.cell (p := ⟨B, 1, none⟩) hn).trans h.c1, (hb.frozen (p := ⟨B, 1, none⟩) hn).trans h.f1, Nat.lt_of_lt_of_le h.z hb.size⟩
theorem BoxW.below {W W' : World} {B : Nat} {a b : Value} (h : BoxW W B a b) (hb : Below W.heap.size W W') : BoxW W' B a b := h.under hb h.z
theorem BoxW.drew {W : World} {B : Nat} {a b : Value} (h : BoxW W B a b) : BoxW W.drew B a b := ⟨h.c0, h.f0, h.c1, h.f1, h.z⟩
theorem BoxW.alloc {W : World} {B : Nat} {a b : Value} (h : BoxW W B a b) (o : Obj) : BoxW (W.alloc o) B a b := h.below ((Below.refl _ _).alloc (Nat.le_refl _) _)
theorem boxw_new (w : World) (a b : Value) (t : Nat) : BoxW (w.alloc (.cells #[a, b] t)) w.heap.size a b := ⟨by simp [go_sem], by simp [go_sem], by simp [go_sem], by simp [go_sem], by simp⟩
/-- The boxes of a side and a spot, and a channel. -/
structure Desk (W : World) (B : Nat) (cx cy b sx sy l x y : Int) : Prop where
  s : Box6 W B (.int .i64 cx) (.int .i64 cy) (.int .i64 b) (.int .i64 sx) (.int .i64 sy) (.int .i64 l)
  p : Box2 W (B + 1) (.int .i64 x) (.int .i64 y)
  ch : W.heap[B + 1 + 1]? = some (.chan 1 #[] false 0 0 false)
  z : B + 1 + 1 < W.heap.size
theorem Desk.below {W W' : World} {B : Nat} {cx cy b sx sy l x y : Int} (h : Desk W B cx cy b sx sy l x y) (hb : Below W.heap.size W W') : Desk W' B cx cy b sx sy l x y :=
  ⟨h.s.below hb, h.p.below hb, (hb.block _ h.z).trans h.ch, Nat.lt_of_lt_of_le h.z hb.size⟩
theorem Desk.drew {W : World} {B : Nat} {cx cy b sx sy l x y : Int} (h : Desk W B cx cy b sx sy l x y) : Desk W.drew B cx cy b sx sy l x y := ⟨h.s.drew, h.p.drew, h.ch, h.z⟩
theorem Desk.all {W : World} {B : Nat} {cx cy b sx sy l x y : Int} (h : Desk W B cx cy b sx sy l x y) :
    W.cell? ⟨B, 0, none⟩ = some (.int .i64 cx) ∧ W.cell? ⟨B, 1, none⟩ = some (.int .i64 cy) ∧ W.cell? ⟨B, 3, none⟩ = some (.int .i64 sx) ∧ W.cell? ⟨B, 4, none⟩ = some (.int .i64 sy) ∧ W.cell? ⟨B, 5, none⟩ = some (.int .i64 l) ∧
      W.cell? ⟨B + 1, 0, none⟩ = some (.int .i64 x) ∧ W.cell? ⟨B + 1, 1, none⟩ = some (.int .i64 y) := ⟨h.s.c0, h.s.c1, h.s.c3, h.s.c4, h.s.c5, h.p.c0, h.p.c1⟩
theorem desk_new (w : World) (cx cy b sx sy l x y : Int) (t u : Nat) :
    Desk (((w.alloc (.cells #[.int .i64 cx, .int .i64 cy, .int .i64 b, .int .i64 sx, .int .i64 sy, .int .i64 l] t)).alloc (.cells #[.int .i64 x, .int .i64 y] u)).alloc (.chan 1 #[] false 0 0 false)) w.heap.size cx cy b sx sy l x y := by
  refine ⟨((box6_new _ _ _ _ _ _ _ _).alloc _).alloc _, ?_, ?_, by simp⟩
  · have h := (box2_new (w.alloc (.cells #[.int .i64 cx, .int .i64 cy, .int .i64 b, .int .i64 sx, .int .i64 sy, .int .i64 l] t)) (.int .i64 x) (.int .i64 y) u).alloc (.chan 1 #[] false 0 0 false)
    simpa using h
  · have h := heap_alloc_new ((w.alloc (.cells #[.int .i64 cx, .int .i64 cy, .int .i64 b, .int .i64 sx, .int .i64 sy, .int .i64 l] t)).alloc (.cells #[.int .i64 x, .int .i64 y] u)) (.chan 1 #[] false 0 0 false)
    simpa using h
/-- What is asked of a side and a spot. -/
structure SdB (cx cy b sx sy l x y : Int) : Prop where
  a0 : -100000 ≤ cx
  a1 : cx ≤ 100000
  b0 : -100000 ≤ cy
  b1 : cy ≤ 100000
  x0 : -100000 ≤ x
  x1 : x ≤ 100000
  y0 : -100000 ≤ y
  y1 : y ≤ 100000
  u0 : -1 ≤ sx
  u1 : sx ≤ 1
  v0 : -1 ≤ sy
  v1 : sy ≤ 1
  n0 : 0 ≤ b
  n1 : b ≤ 1000000000
end Go.Proofs.Ytmjmjcabmcbemaa
