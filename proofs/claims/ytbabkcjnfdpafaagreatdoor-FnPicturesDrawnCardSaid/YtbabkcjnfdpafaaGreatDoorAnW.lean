/- What a law's walk carries from call to call: boxes of two numbers, lists, bytes; the laws' helpers said by 'no old memory changes'. No condition. -/
import Derived.Test.YtbabkcjnfdpafaaGreatDoorMe
import Derived.Test.YtbabkcjnfdpafaaGreatDoorOwL
import Derived.Test.YtbabkcjnfdpafaaGreatDoorMb
namespace Go.Proofs.YtbabkcjnfdpafaaGreatDoor
open Go.RowKit

/-- A box of two numbers at R. -/
structure BoxAt (w : World) (R : Nat) (a b : Int) : Prop where
  z : R < w.heap.size
  c0 : w.cell? ⟨R, 0, none⟩ = some (.int .i64 a)
  c1 : w.cell? ⟨R, 1, none⟩ = some (.int .i64 b)
theorem BoxAt.on {w w' : World} {R : Nat} {a b : Int} (h : BoxAt w R a b) (hb : Below w.heap.size w w') : BoxAt w' R a b :=
  ⟨Nat.lt_of_lt_of_le h.z hb.size, (hb.cell (p := ⟨R, 0, none⟩) h.z).trans h.c0, (hb.cell (p := ⟨R, 1, none⟩) h.z).trans h.c1⟩
theorem BoxAt.drewN {w : World} {R : Nat} {a b : Int} (h : BoxAt w R a b) (q : Nat) : BoxAt (w.drewN q) R a b := ⟨h.z, h.c0, h.c1⟩
theorem box_at (w : World) (a b : Int) (T : TypeId) : BoxAt (w.alloc (.cells #[.int .i64 a, .int .i64 b] T)) w.heap.size a b := ⟨by simp, by simp [go_sem], by simp [go_sem]⟩
theorem below_on {w : World} (o : Obj) : Below w.heap.size w (w.alloc o) := (Below.refl _ _).alloc (Nat.le_refl _) _
theorem Own.on {w w' : World} {lo : Nat} {A : Option Addr} {cs : List Value} (h : Own w lo w.heap.size A cs) (hb : Below w.heap.size w w') : Own w' lo w'.heap.size A cs :=
  (h.below hb (Nat.le_refl _)).wide (Nat.le_refl _) hb.size
theorem OwnL.on {w w' : World} {lo n : Nat} {A : Option Addr} {F : Nat → List Int} {Af : Nat → Option Addr} {cf : Nat → Nat} (h : OwnL w lo w.heap.size A n F Af cf) (hb : Below w.heap.size w w') : OwnL w' lo w'.heap.size A n F Af cf :=
  (h.below hb (Nat.le_refl _)).wide (Nat.le_refl _) hb.size
theorem own_get {w : World} {lo hi g o : Nat} {xs : List Int} (h : Own w lo hi (some ⟨g, o, none⟩) (i64s xs)) {k : Nat} (hk : k < xs.length) : w.cell? ⟨g, o + k, none⟩ = some (.int .i64 (xs.getD k 0)) := by
  obtain ⟨g', o', e, _, _, hc⟩ := h (by simp; omega)
  injection e with e
  injection e with e1 e2 _
  subst e1
  subst e2
  refine (hc k _ ?_).1
  simp [List.getD_eq_getElem?_getD, List.getElem?_eq_getElem hk]
/-- Row k of rows, and its numbers. -/
theorem ownL_get {w : World} {lo hi n : Nat} {A : Option Addr} {F : Nat → List Int} {Af : Nat → Option Addr} {cf : Nat → Nat} (h : OwnL w lo hi A n F Af cf) {k : Nat} (hk : k < n) (h0 : 0 < (F k).length) :
    ∃ g o g' o', A = some ⟨g, o, none⟩ ∧ Af k = some ⟨g', o', none⟩ ∧ w.cell? ⟨g, o + k, none⟩ = some (.slice (some ⟨g', o', none⟩) (F k).length (cf k)) ∧ ∀ j, j < (F k).length → w.cell? ⟨g', o' + j, none⟩ = some (.int .i64 ((F k).getD j 0)) := by
  obtain ⟨g, o, e, hc, ho⟩ := h.at_ hk
  obtain ⟨g', o', e', _, _, hj⟩ := ho (by simpa using h0)
  rw [e'] at ho hc
  exact ⟨g, o, g', o', e, e', hc, fun j hj => own_get ho hj⟩
theorem tmod2_one {x : Int} (h : x % 2 = 1) : (x.tmod 2 == 0) = false := by
  simp only [beq_eq_false_iff_ne, ne_eq]
  intro e
  have := Int.dvd_of_tmod_eq_zero e
  omega
theorem below_go {B : Nat} {a w w' : World} (h : Below B a w) (hs : B ≤ a.heap.size) (hb : Below w.heap.size w w') : Below B a w' := h.trans (hb.mono (Nat.le_trans hs h.size))
theorem hSame_b (A B : Option Addr) (n c d l1 h1 l2 h2 : Nat) (xs : List Int) (w : World) (hn : xs.length = n) (hm : n ≤ 1000000000)
    (ha : Own w l1 h1 A (i64s xs)) (hb : Own w l2 h2 B (i64s xs)) :
    Calls Tryz.prog 33 #[.slice A n c, .slice B n d] w fun e w' => e = .returned (.bool true) ∧ Below w.heap.size w w' :=
  (hSame_same A B n c d l1 h1 l2 h2 xs w hn hm ha hb).mono fun e w' ⟨he, q, hq⟩ => ⟨he, by subst hq; exact below_drewN (Below.refl _ _) _⟩
end Go.Proofs.YtbabkcjnfdpafaaGreatDoor
