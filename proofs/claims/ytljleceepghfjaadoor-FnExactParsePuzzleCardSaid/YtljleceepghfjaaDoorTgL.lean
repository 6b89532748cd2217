/- Chapter 9, by the specification: puzzles that are made. -/
import Derived.Test.YtljleceepghfjaaDoorTgH
import Derived.Deep.Cut
namespace Go.Proofs.YtljleceepghfjaaDoor
open Go.ChangeShapes Go.WideShapes Go.ChangeAt Go.RowKit

/-- The next one of the numbers. -/
def nx9 (z : Nat) : Nat := (z * 191 + 2719) % 10007
theorem nx9_lt (z : Nat) : nx9 z ≤ 10006 := by
  unfold nx9
  have := Nat.mod_lt (z * 191 + 2719) (show 0 < 10007 by omega)
  omega
theorem nx9_run (z : Nat) (h : z ≤ 10007) : IntKind.i64.wrap ((z : Int) * 191) = (z : Int) * 191 ∧ IntKind.i64.wrap ((z : Int) * 191 + 2719) = (z : Int) * 191 + 2719 ∧ ((z : Int) * 191 + 2719).tmod 10007 = ((nx9 z : Nat) : Int) ∧ IntKind.i64.wrap ((nx9 z : Nat) : Int) = ((nx9 z : Nat) : Int) := by
  refine ⟨IntWalk.i64_in _ (by omega), IntWalk.i64_in _ (by omega), ?_, IntWalk.i64_in _ (by have := nx9_lt z; omega)⟩
  rw [Int.tmod_eq_emod_of_nonneg (by omega)]
  unfold nx9
  omega
theorem mod9_run (z m : Nat) (h : z ≤ 10007) (_hm : 0 < m) : (z : Int).tmod (m : Int) = ((z % m : Nat) : Int) ∧ IntKind.i64.wrap ((z % m : Nat) : Int) = ((z % m : Nat) : Int) := by
  refine ⟨by rw [Int.tmod_eq_emod_of_nonneg (by omega)]; rfl, IntWalk.i64_in _ (by have := Nat.mod_le z m; omega)⟩
/-- A clue that a number fits, and the number behind it. -/
noncomputable def mkc9 (n z : Nat) : Clu × Nat :=
  if nx9 z % 3 = 0 then (⟨2, ((nx9 (nx9 z) % 11 + 2 : Nat) : Int), ((n % (nx9 (nx9 z) % 11 + 2) : Nat) : Int)⟩, nx9 (nx9 z))
  else if nx9 z % 3 = 1 then (⟨3, ((dig9 n : Nat) : Int), 0⟩, nx9 z)
  else (⟨if shp9 ((nx9 (nx9 z) % 6 + 3 : Nat) : Int) (n : Int) = true then 0 else 1, ((nx9 (nx9 z) % 6 + 3 : Nat) : Int), 0⟩, nx9 (nx9 z))
theorem mkc9_0 (n z : Nat) (h : nx9 z % 3 = 0) : mkc9 n z = (⟨2, ((nx9 (nx9 z) % 11 + 2 : Nat) : Int), ((n % (nx9 (nx9 z) % 11 + 2) : Nat) : Int)⟩, nx9 (nx9 z)) := if_pos h
theorem mkc9_1 (n z : Nat) (h : nx9 z % 3 = 1) : mkc9 n z = (⟨3, ((dig9 n : Nat) : Int), 0⟩, nx9 z) := by
  unfold mkc9
  rw [if_neg (by omega), if_pos h]
theorem mkc9_2 (n z : Nat) (h : nx9 z % 3 = 2) : mkc9 n z = (⟨if shp9 ((nx9 (nx9 z) % 6 + 3 : Nat) : Int) (n : Int) = true then 0 else 1, ((nx9 (nx9 z) % 6 + 3 : Nat) : Int), 0⟩, nx9 (nx9 z)) := by
  unfold mkc9
  rw [if_neg (by omega), if_neg (by omega)]
theorem mkc9_lt (n z : Nat) : (mkc9 n z).2 ≤ 10006 := by
  rcases (by omega : nx9 z % 3 = 0 ∨ nx9 z % 3 = 1 ∨ nx9 z % 3 = 2) with h | h | h
  · rw [mkc9_0 n z h]; exact nx9_lt (nx9 z)
  · rw [mkc9_1 n z h]; exact nx9_lt z
  · rw [mkc9_2 n z h]; exact nx9_lt (nx9 z)
noncomputable def mks9 (n : Nat) : Nat → Nat → List Clu × Nat
  | 0, z => ([], z)
  | k + 1, z => ((mks9 n k z).1 ++ [(mkc9 n (mks9 n k z).2).1], (mkc9 n (mks9 n k z).2).2)
theorem mks9_len (n k z : Nat) : (mks9 n k z).1.length = k := by
  induction k with
  | zero => rfl
  | succ k ih => rw [mks9, List.length_append, ih]; rfl
theorem mks9_lt (n k z : Nat) (h : z ≤ 10006) : (mks9 n k z).2 ≤ 10006 := by
  cases k with
  | zero => exact h
  | succ k => simp only [mks9]; exact mkc9_lt n (mks9 n k z).2
/-- What MakePuzzle hands back. -/
def ResM (ok : Bool) (m : Int) (nn : Int) (ys : List Clu) (w : World) (e : Ending) (w' : World) : Prop :=
  ∃ A c, e = .returned (.tuple #[.agg #[.int .i64 m, .slice A ys.length c], .int .i64 nn, .bool ok]) ∧ Own w' w.heap.size w'.heap.size A (c64 ys) ∧ Below w.heap.size w w'
theorem snoc_c64 (xs : List Clu) (a b c : Int) : c64 xs ++ [.int .i64 a, .int .i64 b, .int .i64 c] = c64 (xs ++ [⟨a, b, c⟩]) := by
  rw [c64_app]
  rfl
/-- A box that holds a puzzle under way. -/
structure Pb9 (w : World) (Q : Nat) (m : Int) (v : Value) (k : Nat) (xs : List Clu) : Prop where
  c0 : w.cell? ⟨Q, 0, none⟩ = some (.int .i64 m)
  c1 : w.cell? ⟨Q, 1, none⟩ = some v
  f1 : w.frozen? ⟨Q, 1, none⟩ = false
  z : Q < w.heap.size
  r : w.ownsRow (Q + 1) 34 3 v k (c64 xs)
theorem Pb9.below {w w' : World} {Q : Nat} {m : Int} {v : Value} {k : Nat} {xs : List Clu} (h : Pb9 w Q m v k xs) (hb : Below w.heap.size w w') : Pb9 w' Q m v k xs :=
  ⟨(hb.cell (p := ⟨Q, 0, none⟩) h.z).trans h.c0, (hb.cell (p := ⟨Q, 1, none⟩) h.z).trans h.c1, (hb.frozen (p := ⟨Q, 1, none⟩) h.z).trans h.f1, Nat.lt_of_lt_of_le h.z hb.size, row_below h.r hb (Nat.le_refl _)⟩
theorem row_set9 {w : World} {base g o n s : Nat} {t : TypeId} {v : Value} {cs : List Value} (h : w.ownsRow base t s v n cs) (hg : g < base) (u : Value) : (w.setCell ⟨g, o, none⟩ u).ownsRow base t s v n cs := by
  have hb : Below g w (w.setCell ⟨g, o, none⟩ u) := (Below.refl g w).setCell (Nat.le_refl _) u
  have hk : w.grownBy (w.setCell ⟨g, o, none⟩ u) (some g) := ⟨hb.os, hb.tape, hb.output, hb.size, fun i hi hne => Below.heap_setCell _ _ _ i (fun e => hne (by rw [e]))⟩
  refine h.kept hk ?_
  cases hv : v.ownBlock with
  | none => exact .inl rfl
  | some j =>
    refine .inr fun e => ?_
    have := (h.lt j hv).1
    injection e with e
    omega
/-- One clue more. -/
theorem Pb9.app {w w2 w3 : World} {Q : Nat} {m : Int} {v v' : Value} {k : Nat} {xs : List Clu} (h : Pb9 w Q m v k xs) (hb : Below w.heap.size w w2) {a b c : Int} (ho : w3.ownsRow (Q + 1) 34 3 v' (k + 1) (c64 xs ++ [.int .i64 a, .int .i64 b, .int .i64 c])) (hg : w2.grownBy w3 v.ownBlock) :
    w3.cell? ⟨Q, 1, none⟩ = some v ∧ w3.frozen? ⟨Q, 1, none⟩ = false ∧ Pb9 (w3.setCell ⟨Q, 1, none⟩ v') Q m v' (k + 1) (xs ++ [⟨a, b, c⟩]) := by
  have h2 := h.below hb
  have hne : some Q ≠ v.ownBlock := fun e => by
    have := (h2.r.lt Q e.symm).1
    omega
  have hgb := hg.block Q h2.z hne
  have c0 : w3.cell? ⟨Q, 0, none⟩ = some (.int .i64 m) := (World.cell?_of_block (a := ⟨Q, 0, none⟩) hgb).trans h2.c0
  have c1 : w3.cell? ⟨Q, 1, none⟩ = some v := (World.cell?_of_block (a := ⟨Q, 1, none⟩) hgb).trans h2.c1
  have f1 : w3.frozen? ⟨Q, 1, none⟩ = false := (World.frozen?_of_block (a := ⟨Q, 1, none⟩) hgb).trans h2.f1
  refine ⟨c1, f1, (World.cell?_setCell_other w3 _ _ _ (fun e => by simp at e)).trans c0, World.cell?_setCell_same w3 _ _ c1, by rw [World.frozen?_setCell]; exact f1, ?_, ?_⟩
  · have := hg.size
    simp [World.setCell]
    exact Nat.lt_of_lt_of_le h2.z this
  · rw [← snoc_c64]
    exact row_set9 ho (Nat.lt_succ_self Q) _
theorem betr_out9 {x lo hi : Int} (h : betr x lo hi = true) : lo ≤ x ∧ x ≤ hi := of_decide_eq_true h
/-! ### made by tgL.py -/
theorem news9 (w : World) (o : Obj) (a b c : Value) (t : TypeId) (f : Nat × Nat) : ∀ j u, [a, b, c][j]? = some u → (((w.alloc o).alloc (.cells #[a, b, c] t f))).cell? ((⟨w.heap.size + 1, 0, none⟩ : Addr).add j) = some u := by
  intro j u hu
  have z : (w.alloc o).heap.size = w.heap.size + 1 := by simp
  rw [← z]
  exact World.news_of_block (heap_alloc_new _ _) j u hu
theorem one9 (a b c : Int) : ∀ u ∈ [Value.int .i64 a, .int .i64 b, .int .i64 c], u.oneCell' = true := by
  intro u hu
  simp at hu
  rcases hu with rfl | rfl | rfl <;> rfl
theorem Rm.grown9 {w0 wr w3 : World} {m : Int} {v : Value} {k : Nat} {xs : List Clu} (h : Rm wr w0.heap.size) (hp : Pb9 wr (w0.heap.size + 1) m v k xs) {o o' : Obj} (hg : ((wr.alloc o).alloc o').grownBy w3 v.ownBlock) : Rm w3 w0.heap.size := by
  have hb := (((Below.refl wr.heap.size wr).alloc (Nat.le_refl _) o).alloc (by simp) o')
  refine (h.below hb (by have := hp.z; omega)).below ((Below.refl (w0.heap.size + 1) _).grown hg (by have := hp.z; simp; omega) fun g e => ?_) (Nat.le_refl _)
  have := (hp.r.lt g e).1
  omega
theorem below_grown9 {w0 wr w3 : World} {m : Int} {v : Value} {k : Nat} {xs : List Clu} (h : Below w0.heap.size w0 wr) (hp : Pb9 wr (w0.heap.size + 1) m v k xs) {o o' : Obj} (hg : ((wr.alloc o).alloc o').grownBy w3 v.ownBlock) : Below w0.heap.size w0 w3 :=
  ((h.alloc h.size o).alloc (by have := h.size; simp; omega) o').grown hg (by have := h.size; simp; omega) fun g e => by
    have := (hp.r.lt g e).1
    omega
theorem app_all9 {w0 wr w3 : World} {m : Int} {v v' : Value} {k : Nat} {xs : List Clu} {a b c : Int} {o o' : Obj} (hp : Pb9 wr (w0.heap.size + 1) m v k xs) (hr : Rm wr w0.heap.size) (hb : Below w0.heap.size w0 wr)
    (ho : w3.ownsRow (w0.heap.size + 1 + 1) 34 3 v' (k + 1) (c64 xs ++ [.int .i64 a, .int .i64 b, .int .i64 c])) (hg : ((wr.alloc o).alloc o').grownBy w3 v.ownBlock) :
    w3.cell? ⟨w0.heap.size + 1, 1, none⟩ = some v ∧ w3.frozen? ⟨w0.heap.size + 1, 1, none⟩ = false ∧ Pb9 (w3.setCell ⟨w0.heap.size + 1, 1, none⟩ v') (w0.heap.size + 1) m v' (k + 1) (xs ++ [⟨a, b, c⟩]) ∧ Rm (w3.setCell ⟨w0.heap.size + 1, 1, none⟩ v') w0.heap.size ∧ Below w0.heap.size w0 (w3.setCell ⟨w0.heap.size + 1, 1, none⟩ v') := by
  obtain ⟨h1, h2, h3⟩ := hp.app (((Below.refl wr.heap.size wr).alloc (Nat.le_refl _) o).alloc (by simp) o') ho hg
  exact ⟨h1, h2, h3, (hr.grown9 hp hg).below ((Below.refl (w0.heap.size + 1) w3).setCell (p := ⟨w0.heap.size + 1, 1, none⟩) (Nat.le_refl _) v') (Nat.le_refl _), (below_grown9 hb hp hg).setCell (p := ⟨w0.heap.size + 1, 1, none⟩) (Nat.le_succ _) v'⟩
end Go.Proofs.YtljleceepghfjaaDoor
