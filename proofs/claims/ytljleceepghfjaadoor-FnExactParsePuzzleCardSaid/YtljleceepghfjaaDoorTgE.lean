/- Chapter 9: the frames of the laws that hand back puzzles: boxes and slices that are carried along. -/
import Derived.Test.YtljleceepghfjaaDoorTfI
namespace Go.Proofs.YtljleceepghfjaaDoor
open Go.ChangeShapes Go.WideShapes Go.ChangeAt Go.RowKit

/-- A box that holds a puzzle. -/
def Bx (w : World) (Q : Nat) (m : Int) (A : Option Addr) (n c : Nat) : Prop := Own w Q (Q + 1) (some ⟨Q, 0, none⟩) [.int .i64 m, .slice A n c]
theorem Bx.new (w : World) (m : Int) (A : Option Addr) (n c : Nat) (t : TypeId) : Bx (w.alloc (.cells #[.int .i64 m, .slice A n c] t)) w.heap.size m A n c := fun _ => by
  refine ⟨w.heap.size, 0, rfl, Nat.le_refl _, Nat.lt_succ_self _, fun j u hu => ?_⟩
  match j, hu with
  | 0, hu => simp at hu; subst hu; exact ⟨by simp [go_sem], by simp [go_sem]⟩
  | 1, hu => simp at hu; subst hu; exact ⟨by simp [go_sem], by simp [go_sem]⟩
  | j + 2, hu => simp at hu
theorem Bx.cells {w : World} {Q : Nat} {m : Int} {A : Option Addr} {n c : Nat} (h : Bx w Q m A n c) : w.cell? ⟨Q, 0, none⟩ = some (.int .i64 m) ∧ w.cell? ⟨Q, 1, none⟩ = some (.slice A n c) := by
  obtain ⟨g, o, e, _, _, hc⟩ := h (by simp)
  injection e with e
  injection e with e1 e2 _
  subst e1 e2
  exact ⟨(hc 0 _ rfl).1, (hc 1 _ rfl).1⟩
theorem Bx.below {w w' : World} {Q B : Nat} {m : Int} {A : Option Addr} {n c : Nat} (h : Bx w Q m A n c) (hb : Below B w w') (hB : Q + 1 ≤ B) : Bx w' Q m A n c := Own.below h hb hB
/-- What a function with a puzzle and a bool hands back. -/
def ResZ (ok : Bool) (m : Int) (ys : List Clu) (w : World) (e : Ending) (w' : World) : Prop :=
  ∃ A c, e = .returned (.tuple #[.agg #[.int .i64 m, .slice A ys.length c], .bool ok]) ∧ Own w' w.heap.size w'.heap.size A (c64 ys) ∧ Below w.heap.size w w'
/-- What the frame of a law holds: the two answers in their boxes. -/
structure G9 (w0 w : World) (L s2 s3 q s5 : Nat) (m' : Int) (p : Nat) (A3 : Option Addr) (c3 : Nat) (A5 : Option Addr) (c5 : Nat) (ys : List Clu) (gcs : List Value) : Prop where
  b : Below L w0 w
  wb : Bx w s3 m' A3 p c3
  wo : Own w s2 s3 A3 (c64 ys)
  gb : Bx w s5 m' A5 p c5
  go : Own w q s5 A5 gcs
  z0 : L ≤ w0.heap.size
  z1 : L ≤ s2
  z2 : s2 ≤ s3
  z3 : s3 < q
  z4 : q ≤ s5
  z5 : s5 < w.heap.size
section
variable {w0 w w' : World} {L s2 s3 q s5 : Nat} {m' : Int} {p : Nat} {A3 : Option Addr} {c3 : Nat} {A5 : Option Addr} {c5 : Nat} {ys : List Clu} {gcs : List Value}
theorem G9.below (h : G9 w0 w L s2 s3 q s5 m' p A3 c3 A5 c5 ys gcs) (hb : Below w.heap.size w w') : G9 w0 w' L s2 s3 q s5 m' p A3 c3 A5 c5 ys gcs := by
  obtain ⟨b, wb, wo, gb, g, z0, z1, z2, z3, z4, z5⟩ := h
  exact ⟨b.trans (hb.mono (Nat.le_trans z0 b.size)), wb.below hb (by omega), wo.below hb (by omega), gb.below hb (by omega), g.below hb (by omega), z0, z1, z2, z3, z4, Nat.lt_of_lt_of_le z5 hb.size⟩
/-- The second answer is marked. -/
theorem G9.mark (h : G9 w0 w L s2 s3 q s5 m' p A3 c3 A5 c5 ys gcs) {gcs' : List Value} (hb : Below q w w') (hk : ∀ l h B ys, Own w l h B ys → h ≤ w.heap.size → (h ≤ q ∨ s5 ≤ l) → Own w' l h B ys) (ho : Own w' q s5 A5 gcs') :
    G9 w0 w' L s2 s3 q s5 m' p A3 c3 A5 c5 ys gcs' := by
  obtain ⟨b, wb, wo, gb, g, z0, z1, z2, z3, z4, z5⟩ := h
  exact ⟨b.trans (hb.mono (by omega)), hk _ _ _ _ wb (by omega) (.inl (by omega)), hk _ _ _ _ wo (by omega) (.inl (by omega)), hk _ _ _ _ gb (by omega) (.inr (by omega)), ho, z0, z1, z2, z3, z4, Nat.lt_of_lt_of_le z5 hb.size⟩
end
/-- .. and the puzzle that was handed in and its copy. -/
structure F9 (w0 w : World) (P s2 s3 s4 s5 : Nat) (m : Int) (n : Nat) (A : Option Addr) (c : Nat) (B4 : Option Addr) (d4 : Nat) (m' : Int) (p : Nat) (A3 : Option Addr) (c3 : Nat) (A5 : Option Addr) (c5 : Nat) (ys : List Clu) (xcs gcs : List Value) : Prop extends G9 w0 w P s2 s3 (s4 + 1) s5 m' p A3 c3 A5 c5 ys gcs where
  pb : Bx w P m A n c
  xb : Bx w s4 m B4 n d4
  xo : Own w (s3 + 1) s4 B4 xcs
  y1 : P < s2
  y2 : s3 < s4
section
variable {w0 w w' : World} {P s2 s3 s4 s5 : Nat} {m m' : Int} {n p : Nat} {A B4 : Option Addr} {c d4 : Nat} {A3 : Option Addr} {c3 : Nat} {A5 : Option Addr} {c5 : Nat} {ys : List Clu} {xcs gcs : List Value}
theorem F9.below (h : F9 w0 w P s2 s3 s4 s5 m n A c B4 d4 m' p A3 c3 A5 c5 ys xcs gcs) (hb : Below w.heap.size w w') : F9 w0 w' P s2 s3 s4 s5 m n A c B4 d4 m' p A3 c3 A5 c5 ys xcs gcs := by
  have h5 := h.z5
  have h4 := h.z4
  have y1 := h.y1
  have y2 := h.y2
  have z2 := h.z2
  exact ⟨h.toG9.below hb, h.pb.below hb (by omega), h.xb.below hb (by omega), h.xo.below hb (by omega), h.y1, h.y2⟩
theorem F9.drew (h : F9 w0 w P s2 s3 s4 s5 m n A c B4 d4 m' p A3 c3 A5 c5 ys xcs gcs) : F9 w0 w.drew P s2 s3 s4 s5 m n A c B4 d4 m' p A3 c3 A5 c5 ys xcs gcs :=
  ⟨⟨h.b.drew, h.wb, h.wo, h.gb, h.go, h.z0, h.z1, h.z2, h.z3, h.z4, h.z5⟩, h.pb, h.xb, h.xo, h.y1, h.y2⟩
theorem F9.markG (h : F9 w0 w P s2 s3 s4 s5 m n A c B4 d4 m' p A3 c3 A5 c5 ys xcs gcs) {gcs' : List Value} (hb : Below (s4 + 1) w w') (hk : ∀ l h B ys, Own w l h B ys → h ≤ w.heap.size → (h ≤ s4 + 1 ∨ s5 ≤ l) → Own w' l h B ys) (ho : Own w' (s4 + 1) s5 A5 gcs') :
    F9 w0 w' P s2 s3 s4 s5 m n A c B4 d4 m' p A3 c3 A5 c5 ys xcs gcs' := by
  have h5 := h.z5
  have h4 := h.z4
  have y1 := h.y1
  have y2 := h.y2
  have z2 := h.z2
  exact ⟨h.toG9.mark hb hk ho, hk _ _ _ _ h.pb (by omega) (.inl (by omega)), hk _ _ _ _ h.xb (by omega) (.inl (by omega)), hk _ _ _ _ h.xo (by omega) (.inl (by omega)), h.y1, h.y2⟩
theorem F9.markX (h : F9 w0 w P s2 s3 s4 s5 m n A c B4 d4 m' p A3 c3 A5 c5 ys xcs gcs) {xcs' : List Value} (hb : Below (s3 + 1) w w') (hk : ∀ l h B ys, Own w l h B ys → h ≤ w.heap.size → (h ≤ s3 + 1 ∨ s4 ≤ l) → Own w' l h B ys) (ho : Own w' (s3 + 1) s4 B4 xcs') :
    F9 w0 w' P s2 s3 s4 s5 m n A c B4 d4 m' p A3 c3 A5 c5 ys xcs' gcs := by
  have h5 := h.z5
  have h4 := h.z4
  have y1 := h.y1
  have y2 := h.y2
  have z2 := h.z2
  exact ⟨⟨h.b.trans (hb.mono (by omega)), hk _ _ _ _ h.wb (by omega) (.inl (by omega)), hk _ _ _ _ h.wo (by omega) (.inl (by omega)), hk _ _ _ _ h.gb (by omega) (.inr (by omega)), hk _ _ _ _ h.go (by omega) (.inr (by omega)), h.z0, h.z1, h.z2, h.z3, h.z4, Nat.lt_of_lt_of_le h.z5 hb.size⟩,
    hk _ _ _ _ h.pb (by omega) (.inl (by omega)), hk _ _ _ _ h.xb (by omega) (.inr (by omega)), ho, h.y1, h.y2⟩
end
end Go.Proofs.YtljleceepghfjaaDoor
