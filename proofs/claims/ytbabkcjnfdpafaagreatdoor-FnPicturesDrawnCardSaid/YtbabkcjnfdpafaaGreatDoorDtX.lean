/- Chapter 7: the specification's pieces: what a flood has in memory. -/
import Derived.Test.YtbabkcjnfdpafaaGreatDoorMc
import Derived.Test.YtbabkcjnfdpafaaGreatDoorMa
import Derived.OneCell
import Derived.Deep.AppendLies
namespace Go.Proofs.YtbabkcjnfdpafaaGreatDoor
open Go.ChangeShapes Go.WideShapes Go.ChangeAt Go.RowKit

theorem grownBy_far {w w1 w2 : World} {row : Option Nat} {q : Nat} (h : w.grownBy w1 row) (k : w1.grownBy w2 (some q)) (hq : w.heap.size ≤ q) : w.grownBy w2 row :=
  ⟨k.os.trans h.os, k.tape.trans h.tape, k.output.trans h.output, Nat.le_trans h.size k.size, fun i hi hr => (k.block i (Nat.lt_of_lt_of_le hi h.size) (fun e => by cases e; omega)).trans (h.block i hi hr)⟩
theorem grownBy_set_new {w w1 : World} {row : Option Nat} {p j : Nat} (h : w.grownBy w1 row) (hp : w.heap.size ≤ p) (v : Value) : w.grownBy (w1.setCell ⟨p, j, none⟩ v) row :=
  grownBy_far h (q := p) (grownBy_set ⟨rfl, rfl, rfl, Nat.le_refl _, fun _ _ _ => rfl⟩ v) hp
theorem Marks.other {w : World} {base g n c b j : Nat} {d : Nat → Bool} (h : Marks w base g n c d) (hb : g ≠ b) (v : Value) : Marks (w.setCell ⟨b, j, none⟩ v) base g n c d :=
  ownsRow_setCell_other h (by simpa [Value.ownBlock] using hb) v
/-- What a flood has: the dots left, the piece, the queue; nothing else of what was there is touched. -/
structure Fld (w0 w : World) (g2 c2 B n p q qc : Nat) (rest : Nat → Bool) (Q : List Nat) : Prop where
  dots : Marks w B g2 n c2 (fun i => rest i && !decide (i ∈ Q))
  piece : Marks w p p n n (fun i => decide (i ∈ Q))
  queue : w.ownsRow (p + 1) 3 1 (.slice (some ⟨q, 0, none⟩) Q.length qc) Q.length (i64s (ofN Q))
  far : w0.grownBy w (some g2)
  z0 : w0.heap.size = p
  z1 : g2 < p
  z2 : p + 1 ≤ w.heap.size
theorem Fld.q_lt {w0 w : World} {g2 c2 B n p q qc : Nat} {rest : Nat → Bool} {Q : List Nat} (h : Fld w0 w g2 c2 B n p q qc rest Q) : p + 1 ≤ q ∧ q < w.heap.size := World.ownsRow.lt h.queue q rfl
/-- One place more. -/
theorem Fld.push {w0 w : World} {g2 c2 B n p q qc : Nat} {rest : Nat → Bool} {Q : List Nat} (h : Fld w0 w g2 c2 B n p q qc rest Q) (j : Nat) {q' qc' : Nat} {w' : World}
    (hw : w'.ownsRow (p + 1) 3 1 (.slice (some ⟨q', 0, none⟩) (Q.length + 1) qc') (Q.length + 1) (i64s (ofN Q) ++ [.int .i64 (j : Int)]))
    (hg : ((w.setCell ⟨g2, j, none⟩ (.bool false)).setCell ⟨p, j, none⟩ (.bool true)).grownBy w' (some q)) : Fld w0 w' g2 c2 B n p q' qc' rest (Q ++ [j]) := by
  have hq := h.q_lt
  have d1 := ((h.dots.set j false).other (b := p) (j := j) (by have := h.z1; omega) (.bool true)).kept hg (fun e => by cases e; have := h.z1; omega)
  have p1 := ((h.piece.put (b := g2) (j := j) h.z1 (.bool false)).set j true).kept hg (fun e => by cases e; omega)
  refine ⟨d1.congr fun m _ => ?_, p1.congr fun m _ => ?_, ?_, grownBy_far (grownBy_set_new (grownBy_set h.far _) (by have := h.z0; omega) _) hg (by have := h.z0; omega), h.z0, h.z1, ?_⟩
  · unfold updB
    by_cases e : m = j
    · subst e
      simp
    · rw [if_neg e]
      simp [e]
  · unfold updB
    by_cases e : m = j
    · subst e
      simp
    · rw [if_neg e]
      simp [e]
  · rw [List.length_append]
    rw [show i64s (ofN (Q ++ [j])) = i64s (ofN Q) ++ [.int .i64 (j : Int)] by simp [i64s, ofN]]
    exact hw
  · have := hg.size
    have h2 := h.z2
    simp at this
    omega
/-- The row of the places beside one, apart from what the flood touches. -/
def NRow (w : World) (A : Option Addr) (N : List Nat) (g2 p q : Nat) : Prop :=
  ∀ k, k < N.length → ∃ b o, A = some ⟨b, o, none⟩ ∧ b < w.heap.size ∧ b ≠ g2 ∧ b ≠ p ∧ b ≠ q ∧ w.cell? ⟨b, o + k, none⟩ = some (.int .i64 (N.getD k 0 : Nat))
theorem NRow.push {w w' : World} {A : Option Addr} {N : List Nat} {g2 p q q' j : Nat} (h : NRow w A N g2 p q) (hg : ((w.setCell ⟨g2, j, none⟩ (.bool false)).setCell ⟨p, j, none⟩ (.bool true)).grownBy w' (some q)) (hq : q' = q ∨ w.heap.size ≤ q') : NRow w' A N g2 p q' := by
  intro k hk
  obtain ⟨b, o, hA, b1, b2, b3, b4, b5⟩ := h k hk
  refine ⟨b, o, hA, ?_, b2, b3, ?_, ?_⟩
  · have := hg.size
    simp at this
    omega
  · rcases hq with rfl | hq
    · exact b4
    · omega
  · refine hg.cell ?_ (fun e => b4 (by cases e; rfl))
    rw [World.cell?_setCell_other, World.cell?_setCell_other]
    · exact b5
    · exact fun e => b2 (congrArg Addr.block e).symm
    · exact fun e => b3 (congrArg Addr.block e).symm
theorem NRow.of {w w0 : World} {A : Option Addr} {N : List Nat} {c g2 p q : Nat} (h : w0.ownsRow w.heap.size 3 1 (.slice A (ofN N).length c) (ofN N).length (i64s (ofN N))) (h1 : g2 < w.heap.size) (h2 : p < w.heap.size) (h3 : q < w.heap.size) : NRow w0 A N g2 p q := by
  intro k hk
  obtain ⟨b, o, hA, b1, b2, b3, _⟩ := (own_of_row h).at_ (k := k) (by simp [i64s, ofN]; exact hk)
  refine ⟨b, o, hA, b2, by omega, by omega, by omega, ?_⟩
  rw [b3]
  simp [i64s, ofN, List.getD, hk]
theorem Fld.under {w0 w w' : World} {g2 c2 B n p q qc : Nat} {rest : Nat → Bool} {Q : List Nat} (h : Fld w0 w g2 c2 B n p q qc rest Q) (hb : Below w.heap.size w w') : Fld w0 w' g2 c2 B n p q qc rest Q :=
  ⟨h.dots.below hb (Nat.le_refl _), h.piece.below hb (Nat.le_refl _), row_below h.queue hb (Nat.le_refl _), grownBy_far (q := w.heap.size) h.far (grownBy_of_below hb _) h.far.size, h.z0, h.z1, Nat.le_trans h.z2 hb.size⟩
theorem app_queue {ops : Array Oper} {rest : List Oper} {o : Oper} {a : Act} {X : Exit → Act → World → Prop} (base : Nat) (w : World) (hgd : o.guard = none) (s x : Operand)
    (ho : o.op = .call { callee := .builtin .append, args := #[s, x], argTypes := #[33, 33] }) (q m c : Nat) (Q : List Nat) (hs : a.eval s = .slice (some ⟨q, 0, none⟩) m c) (hG : w.ownsRow base 3 1 (.slice (some ⟨q, 0, none⟩) m c) m (i64s (ofN Q))) (hB : base ≤ w.heap.size) (z : Int)
    (hx : a.eval x = .slice (some ⟨w.heap.size, 0, none⟩) 1 1) (hl : m ≤ 100000)
    (h : ∀ g cap w', w'.ownsRow base 3 1 (.slice (some ⟨g, 0, none⟩) (m + 1) cap) (m + 1) (i64s (ofN Q) ++ [.int .i64 z]) → w.grownBy w' (some q) → (g = q ∨ w.heap.size ≤ g) → wpList Tryz.prog ops X rest (a.put o.dst (.slice (some ⟨g, 0, none⟩) (m + 1) cap)) w') : wpList Tryz.prog ops X (o :: rest) a (w.alloc (.cells #[.int .i64 z] 3)) := by
  obtain ⟨i0, hi0, hz0, hz1, hz2⟩ := info_parts infoInt7
  refine wpList_append_lies _ hgd s x 33 ho base 3 i0 (.int .i64 0) 1 8 Tryz.underlying33 hi0 hz0 hz1 hz2 rfl (by decide) _ _ _ hs (hG.alloc _) ⟨w.heap.size, 0, none⟩ 1 1 [.int .i64 z] hx rfl ?c1 ?c2 (by omega) ?c3 ?c4 ?c5 _ rfl ?_
  case c1 =>
    intro j u hj
    match j, hj with
    | 0, hj => simp at hj; subst hj; simp [Addr.add]
  case c2 => intro u hu; simp at hu; subst hu; rfl
  case c3 => unfold maxLen; omega
  case c4 => omega
  case c5 => simp; omega
  · intro g cap w4 hown' hgrow hat hlt
    refine h g cap w4 hown' (grownBy_trans (World.grownBy_alloc w _ _) hgrow) ?_
    rcases hat with hat | hat
    · left
      have : q = g := by simpa [Value.ownBlock] using hat
      exact this.symm
    · right
      rw [hat]
      simp
theorem alloc_at (w : World) (o : Obj) : (w.alloc o).heap[w.heap.size]? = some o := by
  show (w.heap.push o)[w.heap.size]? = some o
  simp
/-- The flood's begin. -/
theorem Fld.start {w0 wA : World} {g2 c2 B n a : Nat} {rest : Nat → Bool} (hd : Marks w0 B g2 n c2 rest) (hp : Marks wA w0.heap.size w0.heap.size n n (fun _ => false)) (hg : w0.grownBy wA none) :
    Fld w0 (((wA.setCell ⟨w0.heap.size, a, none⟩ (.bool true)).setCell ⟨g2, a, none⟩ (.bool false)).alloc (.cells #[.int .i64 (a : Int)] 3)) g2 c2 B n w0.heap.size wA.heap.size 1 rest [a] := by
  have hl := hd.lt
  have hpl := hp.lt
  have d1 := ((hd.kept hg (by simp)).other (b := w0.heap.size) (j := a) (by omega) (.bool true)).set a false
  have p1 := (hp.set a true).put (b := g2) (j := a) hl.2 (.bool false)
  have hsz : ((wA.setCell ⟨w0.heap.size, a, none⟩ (.bool true)).setCell ⟨g2, a, none⟩ (.bool false)).heap.size = wA.heap.size := by simp
  refine ⟨World.ownsRow.alloc (d1.congr fun m _ => ?_) _, World.ownsRow.alloc (p1.congr fun m _ => ?_) _, ?_, ?_, rfl, hl.2, ?_⟩
  · unfold updB
    by_cases e : m = a
    · subst e
      simp
    · rw [if_neg e]
      simp [e]
  · unfold updB
    by_cases e : m = a
    · subst e
      simp
    · rw [if_neg e]
      simp [e]
  · refine ⟨rfl, .inr ⟨wA.heap.size, 1, #[.int .i64 (a : Int)], rfl, by omega, ?_, Nat.le_refl _, by decide, rfl, rfl⟩⟩
    have k := alloc_at ((wA.setCell ⟨w0.heap.size, a, none⟩ (.bool true)).setCell ⟨g2, a, none⟩ (.bool false)) (.cells #[.int .i64 (a : Int)] 3)
    rw [hsz] at k
    exact k
  · exact grownBy_trans (grownBy_set (grownBy_set_new ⟨hg.os, hg.tape, hg.output, hg.size, fun i hi _ => hg.block i hi (by simp)⟩ (Nat.le_refl _) _) _) (World.grownBy_alloc _ _ _)
  · simp
    omega
end Go.Proofs.YtbabkcjnfdpafaaGreatDoor
