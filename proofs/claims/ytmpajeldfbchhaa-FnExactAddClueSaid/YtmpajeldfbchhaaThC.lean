/- Chapter 9: the frame of the law AddClue. -/
import Derived.Test.YtmpajeldfbchhaaThB
import Derived.Test.YtmpajeldfbchhaaTgF
import Derived.Deep.DeepCutAuto
namespace Go.Proofs.Ytmpajeldfbchhaa
open Go.ChangeShapes Go.WideShapes Go.ChangeAt Go.RowKit

/-- A box that holds a clue. -/
def Bq (w : World) (Q : Nat) (k a b : Int) : Prop := Own w Q (Q + 1) (some ⟨Q, 0, none⟩) [.int .i64 k, .int .i64 a, .int .i64 b]
theorem Bq.new (w : World) (k a b : Int) (t : TypeId) : Bq (w.alloc (.cells #[.int .i64 k, .int .i64 a, .int .i64 b] t)) w.heap.size k a b := fun _ => by
  refine ⟨w.heap.size, 0, rfl, Nat.le_refl _, Nat.lt_succ_self _, fun j u hu => ?_⟩
  match j, hu with
  | 0, hu => simp at hu; subst hu; exact ⟨by simp [go_sem], by simp [go_sem]⟩
  | 1, hu => simp at hu; subst hu; exact ⟨by simp [go_sem], by simp [go_sem]⟩
  | 2, hu => simp at hu; subst hu; exact ⟨by simp [go_sem], by simp [go_sem]⟩
  | j + 3, hu => simp at hu
theorem Bq.cells {w : World} {Q : Nat} {k a b : Int} (h : Bq w Q k a b) : w.cell? ⟨Q, 0, none⟩ = some (.int .i64 k) ∧ w.cell? ⟨Q, 1, none⟩ = some (.int .i64 a) ∧ w.cell? ⟨Q, 2, none⟩ = some (.int .i64 b) := by
  obtain ⟨g, o, e, _, _, hc⟩ := h (by simp)
  injection e with e
  injection e with e1 e2 _
  subst e1 e2
  exact ⟨(hc 0 _ rfl).1, (hc 1 _ rfl).1, (hc 2 _ rfl).1⟩
theorem Bq.below {w w' : World} {Q B : Nat} {k a b : Int} (h : Bq w Q k a b) (hb : Below B w w') (hB : Q + 1 ≤ B) : Bq w' Q k a b := Own.below h hb hB
theorem Bx.put {w : World} {Q : Nat} (h : Rm w Q) (m : Int) (A : Option Addr) (n c : Nat) : Bx ((w.setCell ⟨Q, 0, none⟩ (.int .i64 m)).setCell ⟨Q, 1, none⟩ (.slice A n c)) Q m A n c := fun _ => by
  obtain ⟨r0, r1, f0, f1⟩ := h
  refine ⟨Q, 0, rfl, Nat.le_refl _, Nat.lt_succ_self _, fun j u hu => ?_⟩
  match j, hu with
  | 0, hu => simp at hu; subst hu; exact ⟨by simp [go_sem, r0], by simp [go_sem, f0]⟩
  | 1, hu => simp at hu; subst hu; exact ⟨by simp [go_sem, r1], by simp [go_sem, f1]⟩
  | j + 2, hu => simp at hu
/-- The two boxes that a region reads. -/
structure S9 (w0 w : World) (P C : Nat) (m : Int) (A : Option Addr) (n c : Nat) (qk qa qb : Int) : Prop where
  b : Below w0.heap.size w0 w
  pb : Bx w P m A n c
  qb : Bq w C qk qa qb
  z1 : P < w0.heap.size
  z2 : C < w0.heap.size
/-- Room for an answer. -/
structure K9 (w0 w : World) (Q : Nat) : Prop where
  rm : Rm w Q
  l : w0.heap.size ≤ Q
  z : Q < w.heap.size
/-- A slice that lies in the world. -/
def X9 (w : World) (B : Option Addr) (cs : List Value) : Prop := Own w 0 w.heap.size B cs
/-- An answer in its box. -/
structure A9 (w0 w : World) (P C Q lo hi : Nat) (m : Int) (A : Option Addr) (n c : Nat) (qk qa qb m' : Int) (p : Nat) (A3 : Option Addr) (c3 : Nat) (ys : List Clu) : Prop where
  s : S9 w0 w P C m A n c qk qa qb
  bx : Bx w Q m' A3 p c3
  o : Own w lo hi A3 (c64 ys)
  l1 : w0.heap.size ≤ lo
  l2 : hi ≤ w.heap.size
  l3 : w0.heap.size ≤ Q
  l4 : Q < w.heap.size
  l5 : Q < lo ∨ hi ≤ Q
  l6 : lo ≤ w.heap.size
section
variable {w0 w w' : World} {P C Q lo : Nat} {m : Int} {A : Option Addr} {n c : Nat} {qk qa qb : Int}
theorem S9.below (h : S9 w0 w P C m A n c qk qa qb) (hb : Below w.heap.size w w') : S9 w0 w' P C m A n c qk qa qb :=
  ⟨h.b.trans (hb.mono h.b.size), h.pb.below hb (Nat.le_trans h.z1 h.b.size), h.qb.below hb (Nat.le_trans h.z2 h.b.size), h.z1, h.z2⟩
theorem S9.drew (h : S9 w0 w P C m A n c qk qa qb) : S9 w0 w.drew P C m A n c qk qa qb := ⟨h.b.drew, h.pb, h.qb, h.z1, h.z2⟩
theorem S9.alloc (h : S9 w0 w P C m A n c qk qa qb) (o : Obj) : S9 w0 (w.alloc o) P C m A n c qk qa qb := h.below ((Below.refl _ _).alloc (Nat.le_refl _) o)
theorem S9.put (h : S9 w0 w P C m A n c qk qa qb) (hQ : w0.heap.size ≤ Q) (u v : Value) : S9 w0 ((w.setCell ⟨Q, 0, none⟩ u).setCell ⟨Q, 1, none⟩ v) P C m A n c qk qa qb :=
  ⟨set2_below9 h.b hQ u v, h.pb.below (set2_below9 (Below.refl w0.heap.size w) hQ u v) h.z1, h.qb.below (set2_below9 (Below.refl w0.heap.size w) hQ u v) h.z2, h.z1, h.z2⟩
theorem S9.cells (h : S9 w0 w P C m A n c qk qa qb) : (w.cell? ⟨P, 0, none⟩ = some (.int .i64 m) ∧ w.cell? ⟨P, 1, none⟩ = some (.slice A n c)) ∧ (w.cell? ⟨C, 0, none⟩ = some (.int .i64 qk) ∧ w.cell? ⟨C, 1, none⟩ = some (.int .i64 qa) ∧ w.cell? ⟨C, 2, none⟩ = some (.int .i64 qb)) := ⟨h.pb.cells, h.qb.cells⟩
theorem S9.le_of (h : S9 w0 w P C m A n c qk qa qb) (_ : Below w.heap.size w w') : w0.heap.size ≤ w.heap.size := h.b.size
theorem K9.below (h : K9 w0 w Q) (hb : Below w.heap.size w w') : K9 w0 w' Q := ⟨h.rm.below hb h.z, h.l, Nat.lt_of_lt_of_le h.z hb.size⟩
theorem K9.fresh {t : TypeId} (hz : w0.heap.size ≤ w.heap.size) (hb : Below (w.alloc (.cells #[.int .i64 0, .slice none 0 0] t)).heap.size (w.alloc (.cells #[.int .i64 0, .slice none 0 0] t)) w') : K9 w0 w' w.heap.size :=
  K9.below (w := w.alloc (.cells #[.int .i64 0, .slice none 0 0] t)) ⟨Rm.new w t, hz, by simp⟩ hb
theorem K9.freshd {t : TypeId} (hz : w0.heap.size ≤ w.heap.size) (hb : Below (w.alloc (.cells #[.int .i64 0, .slice none 0 0] t)).drew.heap.size (w.alloc (.cells #[.int .i64 0, .slice none 0 0] t)).drew w') : K9 w0 w' w.heap.size :=
  K9.below (w := (w.alloc (.cells #[.int .i64 0, .slice none 0 0] t)).drew) ⟨Rm.new w t, hz, by simp⟩ hb
theorem fresh_lt {o : Obj} (_ : Below (w.alloc o).heap.size (w.alloc o) w') : w.heap.size < (w.alloc o).heap.size := by simp
theorem X9.below {B : Option Addr} {cs : List Value} (h : X9 w B cs) (hb : Below w.heap.size w w') : X9 w' B cs := (Own.below h hb (Nat.le_refl _)).wide (Nat.le_refl _) hb.size
theorem X9.drew {B : Option Addr} {cs : List Value} (h : X9 w B cs) : X9 w.drew B cs := h
theorem X9.alloc {B : Option Addr} {cs : List Value} (h : X9 w B cs) (o : Obj) : X9 (w.alloc o) B cs := h.below ((Below.refl _ _).alloc (Nat.le_refl _) o)
theorem A9.of_put {m' : Int} {p : Nat} {A3 : Option Addr} {c3 : Nat} {ys : List Clu} (h : S9 w0 w P C m A n c qk qa qb) (hk : K9 w0 w Q) (ho : Own w lo w.heap.size A3 (c64 ys)) (hl : w0.heap.size ≤ lo) (hl2 : lo ≤ w.heap.size) (hd : Q < lo) :
    A9 w0 ((w.setCell ⟨Q, 0, none⟩ (.int .i64 m')).setCell ⟨Q, 1, none⟩ (.slice A3 p c3)) P C Q lo w.heap.size m A n c qk qa qb m' p A3 c3 ys :=
  ⟨h.put hk.l _ _, Bx.put hk.rm m' A3 p c3, own_far9 ho hd _ _, hl, by rw [set2_size9]; exact Nat.le_refl _, hk.l, by rw [set2_size9]; exact hk.z, .inl hd, by rw [set2_size9]; exact hl2⟩
theorem A9.of_alloc {m' : Int} {p : Nat} {A3 : Option Addr} {c3 : Nat} {ys : List Clu} {t : TypeId} (h : S9 w0 w P C m A n c qk qa qb) (ho : Own w lo w.heap.size A3 (c64 ys)) (hl : w0.heap.size ≤ lo) (hl2 : lo ≤ w.heap.size) :
    A9 w0 (w.alloc (.cells #[.int .i64 m', .slice A3 p c3] t)) P C w.heap.size lo w.heap.size m A n c qk qa qb m' p A3 c3 ys :=
  ⟨h.alloc _, Bx.new w m' A3 p c3 t, ho.below ((Below.refl w.heap.size w).alloc (Nat.le_refl _) _) (Nat.le_refl _), hl, by simp, h.b.size, by simp, .inr (Nat.le_refl _), by simp; omega⟩
end
/-- What the frame holds. -/
structure H9 (w0 w : World) (P s3 l3 h3 s4 e3 s5 l5 h5 : Nat) (m : Int) (n : Nat) (A : Option Addr) (c : Nat) (qk qa qb : Int) (B4 : Option Addr) (d4 : Nat) (m' : Int) (p : Nat) (A3 : Option Addr) (c3 : Nat) (A5 : Option Addr) (c5 : Nat) (ys : List Clu) (xcs gcs : List Value) : Prop where
  b : Below P w0 w
  pb : Bx w P m A n c
  qb : Bq w (P + 1) qk qa qb
  wb : Bx w s3 m' A3 p c3
  wo : Own w l3 h3 A3 (c64 ys)
  xb : Bx w s4 m B4 n d4
  xo : Own w e3 s4 B4 xcs
  gb : Bx w s5 m' A5 p c5
  go : Own w l5 h5 A5 gcs
  z0 : P ≤ w0.heap.size
  y0 : P + 2 ≤ l3
  y1 : P + 2 ≤ s3
  y2 : h3 ≤ e3
  y3 : s3 < e3
  y4 : e3 ≤ s4
  y5 : s4 < l5
  y6 : s4 < s5
  y7 : s5 < w.heap.size
  y8 : h5 ≤ w.heap.size
  y9 : s5 < l5 ∨ h5 ≤ s5
  ya : l5 ≤ w.heap.size
section
variable {w0 w w' : World} {P s3 l3 h3 s4 e3 s5 l5 h5 : Nat} {m m' : Int} {n p : Nat} {A B4 : Option Addr} {c d4 : Nat} {qk qa qb : Int} {A3 : Option Addr} {c3 : Nat} {A5 : Option Addr} {c5 : Nat} {ys : List Clu} {xcs gcs : List Value}
theorem H9.below (h : H9 w0 w P s3 l3 h3 s4 e3 s5 l5 h5 m n A c qk qa qb B4 d4 m' p A3 c3 A5 c5 ys xcs gcs) (hb : Below w.heap.size w w') : H9 w0 w' P s3 l3 h3 s4 e3 s5 l5 h5 m n A c qk qa qb B4 d4 m' p A3 c3 A5 c5 ys xcs gcs := by
  obtain ⟨b, pb, qb, wb, wo, xb, xo, gb, g, z0, y0, y1, y2, y3, y4, y5, y6, y7, y8, y9, ya⟩ := h
  exact ⟨b.trans (hb.mono (by omega)), pb.below hb (by omega), qb.below hb (by omega), wb.below hb (by omega), wo.below hb (by omega), xb.below hb (by omega), xo.below hb (by omega), gb.below hb (by omega), g.below hb (by omega), z0, y0, y1, y2, y3, y4, y5, y6, Nat.lt_of_lt_of_le y7 hb.size, Nat.le_trans y8 hb.size, y9, Nat.le_trans ya hb.size⟩
theorem H9.drew (h : H9 w0 w P s3 l3 h3 s4 e3 s5 l5 h5 m n A c qk qa qb B4 d4 m' p A3 c3 A5 c5 ys xcs gcs) : H9 w0 w.drew P s3 l3 h3 s4 e3 s5 l5 h5 m n A c qk qa qb B4 d4 m' p A3 c3 A5 c5 ys xcs gcs :=
  ⟨h.b.drew, h.pb, h.qb, h.wb, h.wo, h.xb, h.xo, h.gb, h.go, h.z0, h.y0, h.y1, h.y2, h.y3, h.y4, h.y5, h.y6, h.y7, h.y8, h.y9, h.ya⟩
theorem H9.markX (h : H9 w0 w P s3 l3 h3 s4 e3 s5 l5 h5 m n A c qk qa qb B4 d4 m' p A3 c3 A5 c5 ys xcs gcs) {xcs' : List Value} (hb : Below e3 w w') (hk : ∀ l h B ys, Own w l h B ys → h ≤ w.heap.size → (h ≤ e3 ∨ s4 ≤ l) → Own w' l h B ys) (ho : Own w' e3 s4 B4 xcs') :
    H9 w0 w' P s3 l3 h3 s4 e3 s5 l5 h5 m n A c qk qa qb B4 d4 m' p A3 c3 A5 c5 ys xcs' gcs := by
  obtain ⟨b, pb, qb, wb, wo, xb, xo, gb, g, z0, y0, y1, y2, y3, y4, y5, y6, y7, y8, y9, ya⟩ := h
  exact ⟨b.trans (hb.mono (by omega)), hk _ _ _ _ pb (by omega) (.inl (by omega)), hk _ _ _ _ qb (by omega) (.inl (by omega)), hk _ _ _ _ wb (by omega) (.inl (by omega)), hk _ _ _ _ wo (by omega) (.inl (by omega)), hk _ _ _ _ xb (by omega) (.inr (by omega)), ho, hk _ _ _ _ gb (by omega) (.inr (by omega)), hk _ _ _ _ g (by omega) (.inr (by omega)), z0, y0, y1, y2, y3, y4, y5, y6, Nat.lt_of_lt_of_le y7 hb.size, Nat.le_trans y8 hb.size, y9, Nat.le_trans ya hb.size⟩
theorem H9.markG (h : H9 w0 w P s3 l3 h3 s4 e3 s5 l5 h5 m n A c qk qa qb B4 d4 m' p A3 c3 A5 c5 ys xcs gcs) {gcs' : List Value} (hb : Below l5 w w') (hk : ∀ l h B ys, Own w l h B ys → h ≤ w.heap.size → (h ≤ l5 ∨ h5 ≤ l) → Own w' l h B ys) (ho : Own w' l5 h5 A5 gcs') :
    H9 w0 w' P s3 l3 h3 s4 e3 s5 l5 h5 m n A c qk qa qb B4 d4 m' p A3 c3 A5 c5 ys xcs gcs' := by
  obtain ⟨b, pb, qb, wb, wo, xb, xo, gb, g, z0, y0, y1, y2, y3, y4, y5, y6, y7, y8, y9, ya⟩ := h
  exact ⟨b.trans (hb.mono (by omega)), hk _ _ _ _ pb (by omega) (.inl (by omega)), hk _ _ _ _ qb (by omega) (.inl (by omega)), hk _ _ _ _ wb (by omega) (.inl (by omega)), hk _ _ _ _ wo (by omega) (.inl (by omega)), hk _ _ _ _ xb (by omega) (.inl (by omega)), hk _ _ _ _ xo (by omega) (.inl (by omega)), hk _ _ _ _ gb (by omega) (by omega), ho, z0, y0, y1, y2, y3, y4, y5, y6, Nat.lt_of_lt_of_le y7 hb.size, Nat.le_trans y8 hb.size, y9, Nat.le_trans ya hb.size⟩
end
set_option maxRecDepth 4000 in
set_option maxHeartbeats 12800000 in
theorem lawZ_AddClue (m : Int) (A : Option Addr) (n c : Nat) (xs : List Clu) (qk qa qb m' : Int) (ys : List Clu) (ok : Bool) (w : World) (hn : xs.length = n) (hm : n ≤ 1048576) (hl : ys.length ≤ 1048577) (ha : Rd w w.heap.size A (c64 xs))
    (hs : ∀ (g : Nat) (w : World), Own w 0 w.heap.size (some ⟨g, 0, none⟩) (c64 xs) → Calls Try.prog 23 #[.agg #[.int .i64 m, .slice (some ⟨g, 0, none⟩) n n], .agg #[.int .i64 qk, .int .i64 qa, .int .i64 qb]] w (ResZ ok m' ys w))
    (hi : ∀ (g : Nat) (w : World), Own w 0 w.heap.size (some ⟨g, 0, none⟩) (c64 xs) → Calls Try.prog 24 #[.agg #[.int .i64 m, .slice (some ⟨g, 0, none⟩) n n], .agg #[.int .i64 qk, .int .i64 qa, .int .i64 qb]] w (ResZ ok m' ys w)) :
    Calls Try.prog 7 #[.agg #[.int .i64 m, .slice A n c], .agg #[.int .i64 qk, .int .i64 qa, .int .i64 qb]] w fun e w' => e = .returned (.bool true) ∧ Below w.heap.size w w' := by
  obtain ⟨p, hp⟩ : ∃ p, p = ys.length := ⟨_, rfl⟩
  have HSP : Hid (∀ (g : Nat) (W : World), X9 W (some ⟨g, 0, none⟩) (c64 xs) → Calls Try.prog 23 #[.agg #[.int .i64 m, .slice (some ⟨g, 0, none⟩) n n], .agg #[.int .i64 qk, .int .i64 qa, .int .i64 qb]] W fun e w' => ∃ A c, e = .returned (.tuple #[.agg #[.int .i64 m', .slice A p c], .bool ok]) ∧ Own w' W.heap.size w'.heap.size A (c64 ys) ∧ Below W.heap.size W w') := Lib.hid fun g W h => by rw [hp]; exact hs g W h
  have HIM : Hid (∀ (g : Nat) (W : World), X9 W (some ⟨g, 0, none⟩) (c64 xs) → Calls Try.prog 24 #[.agg #[.int .i64 m, .slice (some ⟨g, 0, none⟩) n n], .agg #[.int .i64 qk, .int .i64 qa, .int .i64 qb]] W fun e w' => ∃ A c, e = .returned (.tuple #[.agg #[.int .i64 m', .slice A p c], .bool ok]) ∧ Own w' W.heap.size w'.heap.size A (c64 ys) ∧ Below W.heap.size W w') := Lib.hid fun g W h => by rw [hp]; exact hi g W h
  have HA := Lib.hid ha
  have HN := Lib.hid hn
  have HP := Lib.hid hp.symm
  rw [← hp] at hl
  have HZ : Hid (∀ W, Calls Try.prog 12 #[.agg #[.int .i64 m, .slice A n c], .int .i64 1048576] W fun e w' => e = .returned (.int .i64 (1048576 - n)) ∧ Below W.heap.size W w') := Lib.hid fun W => by
    have h := szPuzzle_any m A n c 1048576 W (by omega) (by omega) (by omega)
    rwa [if_neg (by omega)] at h
  clear hs hi ha hn hp
  have hmi : (n : Int) ≤ 1048576 := by omega
  have hpi : (p : Int) ≤ 1048577 := by omega
  have z00 : (w.alloc (.cells #[.int .i64 m, .slice A n c] 30)).heap.size = w.heap.size + 1 := by simp
  have bA : Below (w.heap.size + 1) (w.alloc (.cells #[.int .i64 m, .slice A n c] 30)) ((w.alloc (.cells #[.int .i64 m, .slice A n c] 30)).alloc (.cells #[.int .i64 qk, .int .i64 qa, .int .i64 qb] 23)) := (Below.refl _ _).alloc (by rw [z00]; exact Nat.le_refl _) _
  have q0 := (Bx.new w m A n c 30).below bA (Nat.le_refl _)
  have k0 := Bq.new (w.alloc (.cells #[.int .i64 m, .slice A n c] 30)) qk qa qb 23
  rw [z00] at k0
  have b0 : Below w.heap.size w ((w.alloc (.cells #[.int .i64 m, .slice A n c] 30)).alloc (.cells #[.int .i64 qk, .int .i64 qa, .int .i64 qb] 23)) := ((Below.refl _ _).alloc (Nat.le_refl _) _).alloc (by simp) _
  have s0 : ((w.alloc (.cells #[.int .i64 m, .slice A n c] 30)).alloc (.cells #[.int .i64 qk, .int .i64 qa, .int .i64 qb] 23)).heap.size = w.heap.size + 2 := by simp
  clear bA z00
  go_enter Try.func7, Try.ntmps7
  go_wp2_with fail
  refine (HZ.out _).mono ?_
  rintro e w1 ⟨rfl, b1⟩
  have q1 := q0.below b1 (by omega)
  have k1 := k0.below b1 (by omega)
  have b01 : Below w.heap.size w w1 := b0.trans (b1.mono b0.size)
  have s1 : w.heap.size + 2 ≤ w1.heap.size := by have := b1.size; omega
  clear q0 k0 b0 b1 s0
  have HS0 : Hid (S9 w1 w1 w.heap.size (w.heap.size + 1) m A n c qk qa qb) := Lib.hid ⟨Below.refl _ _, q1, k1, by omega, by omega⟩
  have HS := HS0
  have HB1 := Lib.hid b01
  have HT : Hid (∀ W, S9 w1 W w.heap.size (w.heap.size + 1) m A n c qk qa qb → Calls Try.prog 14 #[.agg #[.int .i64 m, .slice A n c]] W fun e w' => ∃ g, e = .returned (.agg #[.int .i64 m, .slice (some ⟨g, 0, none⟩) n n]) ∧ Own w' W.heap.size w'.heap.size (some ⟨g, 0, none⟩) (c64 xs) ∧ Below W.heap.size W w') := Lib.hid fun W h => toPuzzle_some m A n c xs W HN.out hm (rd_up9 HA.out (HB1.out.trans (h.b.mono HB1.out.size)))
  clear q1 k1 b01
  go_upto_region 5 with fail
  go_cut [6, 7] (fun s6 s7 wx => ∃ Q A3 c3 lo hi, s6 = .pointer (some ⟨Q, 0, none⟩) ∧ s7 = .bool ok ∧ Hid (A9 w1 wx w.heap.size (w.heap.size + 1) Q lo hi m (A) n c qk qa qb m' p A3 c3 ys))
  case first =>
    go_region_held_law (fun W => (W.cell? ⟨w.heap.size, 0, none⟩ = some (.int .i64 m) ∧ W.cell? ⟨w.heap.size, 1, none⟩ = some (.slice (A) n c)) ∧ (W.cell? ⟨(w.heap.size + 1), 0, none⟩ = some (.int .i64 qk) ∧ W.cell? ⟨(w.heap.size + 1), 1, none⟩ = some (.int .i64 qa) ∧ W.cell? ⟨(w.heap.size + 1), 2, none⟩ = some (.int .i64 qb)))
      (first | with_reducible exact HS.out.cells | with_reducible exact HS.out.drew.cells | with_reducible exact (HS.out.alloc _).cells | with_reducible exact (HS.out.alloc _).drew.cells | with_reducible exact (HS.out.put HK.out.l _ _).cells)
      (first
        | (go_at_call 14; refine (HT.out _ (show S9 w1 _ w.heap.size (w.heap.size + 1) m (A) n c qk qa qb from (by first | with_reducible exact HS.out.drew | with_reducible exact (HS.out.alloc _).drew | with_reducible exact HS.out | with_reducible exact (HS.out.alloc _)))).mono ?_; rintro e wp ⟨gx, rfl, ox, bp⟩; (first | (have HK := Lib.hid (HK.out.below bp)) | (have HK := Lib.hid (K9.fresh HS.out.b.size bp)) | (have HK := Lib.hid (K9.freshd HS.out.b.size bp)) | skip); have HX : Hid (X9 wp (some ⟨gx, 0, none⟩) (c64 xs)) := Lib.hid (ox.wide (Nat.zero_le _) (Nat.le_refl _)); have HS := Lib.hid (show S9 w1 wp w.heap.size (w.heap.size + 1) m (A) n c qk qa qb from (by first | with_reducible exact HS.out.drew.below bp | with_reducible exact (HS.out.alloc _).drew.below bp | with_reducible exact HS.out.below bp | with_reducible exact (HS.out.alloc _).below bp)); clear ox bp)
        | (go_at_call 10; refine (toClue_any qk qa qb _).mono ?_; rintro e wc ⟨rfl, bc⟩; (first | (have HK := Lib.hid (HK.out.below bc)) | (have HK := Lib.hid (K9.fresh HS.out.b.size bc)) | (have HK := Lib.hid (K9.freshd HS.out.b.size bc)) | skip); (first | (have HX := Lib.hid (show X9 wc _ (c64 xs) from (by first | with_reducible exact HX.out.drew.below bc | with_reducible exact (HX.out.alloc _).drew.below bc | with_reducible exact HX.out.below bc | with_reducible exact (HX.out.alloc _).below bc))) | skip); have HS := Lib.hid (show S9 w1 wc w.heap.size (w.heap.size + 1) m (A) n c qk qa qb from (by first | with_reducible exact HS.out.drew.below bc | with_reducible exact (HS.out.alloc _).drew.below bc | with_reducible exact HS.out.below bc | with_reducible exact (HS.out.alloc _).below bc)); clear bc)
        | (go_at_call 23; refine (HSP.out _ _ (show X9 _ _ (c64 xs) from (by first | with_reducible exact HX.out.drew | with_reducible exact (HX.out.alloc _).drew | with_reducible exact HX.out | with_reducible exact (HX.out.alloc _)))).mono ?_; rintro e w3 ⟨A3, c3, rfl, g3, b3⟩; (first | (have HD := Lib.hid HK.out.z; have HK := Lib.hid (HK.out.below b3)) | (have HD := Lib.hid (fresh_lt b3); have HK := Lib.hid (K9.fresh HS.out.b.size b3)) | skip); (first | obtain ⟨r0, r1, f0, f1⟩ := HK.out.rm | skip); have HL := Lib.hid (show w1.heap.size ≤ _ from (by first | with_reducible exact HS.out.drew.le_of b3 | with_reducible exact (HS.out.alloc _).drew.le_of b3 | with_reducible exact HS.out.le_of b3 | with_reducible exact (HS.out.alloc _).le_of b3)); have HL2 := Lib.hid b3.size; have HS := Lib.hid (show S9 w1 w3 w.heap.size (w.heap.size + 1) m (A) n c qk qa qb from (by first | with_reducible exact HS.out.drew.below b3 | with_reducible exact (HS.out.alloc _).drew.below b3 | with_reducible exact HS.out.below b3 | with_reducible exact (HS.out.alloc _).below b3)); have HO := Lib.hid g3; clear g3 b3))
    all_goals
      go_wp2_with fail
      go_meet
      first
        | exact ⟨_, _, _, _, _, rfl, rfl, Lib.hid (A9.of_put HS.out HK.out HO.out HL.out HL2.out HD.out)⟩
        | exact ⟨_, _, _, _, _, rfl, rfl, Lib.hid (A9.of_alloc HS.out HO.out HL.out HL2.out)⟩
  case rest =>
  obtain ⟨w2, hw2⟩ : ∃ w2, w2 = wc := ⟨_, rfl⟩
  subst hw2
  obtain ⟨s3, A3, c3, l3, h3, rfl, rfl, hw⟩ := hcut
  obtain ⟨hS, wb, wo, g1, g2, g3, g4, g5, g6⟩ := hw.out
  have b02 : Below w.heap.size w w2 := HB1.out.trans (hS.b.mono HB1.out.size)
  have HB2 := Lib.hid b02
  obtain ⟨c10, c11⟩ := hS.pb.cells
  have HQ := Lib.hid hS
  have HWB := Lib.hid wb
  have HWO := Lib.hid wo
  have hw1 := hS.b.size
  clear hw hS wb wo b02 HS HS0 HB1 HT
  go_wp2_with fail
  refine (toPuzzle_some m A n c xs _ HN.out hm (rd_up9 HA.out HB2.out)).mono ?_
  rintro e w4 ⟨g, rfl, xo, b4⟩
  have q4 := HQ.out.pb.below b4 (by omega)
  have k4 := HQ.out.qb.below b4 (by omega)
  have wb4 := HWB.out.below b4 (by omega)
  have wo4 := HWO.out.below b4 (by omega)
  have z4 := b4.size
  have b04 := HB2.out.trans (b4.mono HB2.out.size)
  clear c10 c11 b4 HQ HWB HWO HB2
  have xb := Bx.new w4 m (some ⟨g, 0, none⟩) n n 35
  have b45 : Below w4.heap.size w4 (w4.alloc (.cells #[.int .i64 m, .slice (some ⟨g, 0, none⟩) n n] 35)) := (Below.refl _ _).alloc (Nat.le_refl _) _
  have z5 : (w4.alloc (.cells #[.int .i64 m, .slice (some ⟨g, 0, none⟩) n n] 35)).heap.size = w4.heap.size + 1 := by simp
  have HXO := Lib.hid (xo.below b45 (Nat.le_refl _))
  have HWB := Lib.hid (wb4.below b45 (by omega))
  have HWO := Lib.hid (wo4.below b45 (by omega))
  have HPB := Lib.hid (q4.below b45 (by omega))
  have k5 := k4.below b45 (by omega)
  have HB5 := Lib.hid (b04.trans (b45.mono b04.size))
  clear b45 xo wb4 wo4 q4 b04 k4
  go_upto_region 7 with fail
  generalize hW5 : w4.alloc (.cells #[.int .i64 m, .slice (some ⟨g, 0, none⟩) n n] 35) = w5 at *
  have HS : Hid (S9 w5 w5 w4.heap.size (w.heap.size + 1) m (some ⟨g, 0, none⟩) n n qk qa qb) := Lib.hid ⟨Below.refl _ _, xb, k5, by omega, by omega⟩
  have HX : Hid (X9 w5 (some ⟨g, 0, none⟩) (c64 xs)) := Lib.hid (HXO.out.wide (Nat.zero_le _) (by omega))
  have HZ5 := Lib.hid z5
  clear xb k5 hW5 z5
  go_cut [9, 10] (fun s6 s7 wx => ∃ Q A3 c3 lo hi, s6 = .pointer (some ⟨Q, 0, none⟩) ∧ s7 = .bool ok ∧ Hid (A9 w5 wx w4.heap.size (w.heap.size + 1) Q lo hi m (some ⟨g, 0, none⟩) n n qk qa qb m' p A3 c3 ys))
  case first =>
    go_region_held_law (fun W => (W.cell? ⟨w4.heap.size, 0, none⟩ = some (.int .i64 m) ∧ W.cell? ⟨w4.heap.size, 1, none⟩ = some (.slice (some ⟨g, 0, none⟩) n n)) ∧ (W.cell? ⟨(w.heap.size + 1), 0, none⟩ = some (.int .i64 qk) ∧ W.cell? ⟨(w.heap.size + 1), 1, none⟩ = some (.int .i64 qa) ∧ W.cell? ⟨(w.heap.size + 1), 2, none⟩ = some (.int .i64 qb)))
      (first | with_reducible exact HS.out.cells | with_reducible exact HS.out.drew.cells | with_reducible exact (HS.out.alloc _).cells | with_reducible exact (HS.out.alloc _).drew.cells | with_reducible exact (HS.out.put HK.out.l _ _).cells)
      (first
        | (go_at_call 10; refine (toClue_any qk qa qb _).mono ?_; rintro e wc ⟨rfl, bc⟩; (first | (have HK := Lib.hid (HK.out.below bc)) | (have HK := Lib.hid (K9.fresh HS.out.b.size bc)) | (have HK := Lib.hid (K9.freshd HS.out.b.size bc)) | skip); (first | (have HX := Lib.hid (show X9 wc _ (c64 xs) from (by first | with_reducible exact HX.out.drew.below bc | with_reducible exact (HX.out.alloc _).drew.below bc | with_reducible exact HX.out.below bc | with_reducible exact (HX.out.alloc _).below bc))) | skip); have HS := Lib.hid (show S9 w5 wc w4.heap.size (w.heap.size + 1) m (some ⟨g, 0, none⟩) n n qk qa qb from (by first | with_reducible exact HS.out.drew.below bc | with_reducible exact (HS.out.alloc _).drew.below bc | with_reducible exact HS.out.below bc | with_reducible exact (HS.out.alloc _).below bc)); clear bc)
        | (go_at_call 24; refine (HIM.out _ _ (show X9 _ _ (c64 xs) from (by first | with_reducible exact HX.out.drew | with_reducible exact (HX.out.alloc _).drew | with_reducible exact HX.out | with_reducible exact (HX.out.alloc _)))).mono ?_; rintro e w3 ⟨A3, c3, rfl, g3, b3⟩; (first | (have HD := Lib.hid HK.out.z; have HK := Lib.hid (HK.out.below b3)) | (have HD := Lib.hid (fresh_lt b3); have HK := Lib.hid (K9.fresh HS.out.b.size b3)) | skip); (first | obtain ⟨r0, r1, f0, f1⟩ := HK.out.rm | skip); have HL := Lib.hid (show w5.heap.size ≤ _ from (by first | with_reducible exact HS.out.drew.le_of b3 | with_reducible exact (HS.out.alloc _).drew.le_of b3 | with_reducible exact HS.out.le_of b3 | with_reducible exact (HS.out.alloc _).le_of b3)); have HL2 := Lib.hid b3.size; have HS := Lib.hid (show S9 w5 w3 w4.heap.size (w.heap.size + 1) m (some ⟨g, 0, none⟩) n n qk qa qb from (by first | with_reducible exact HS.out.drew.below b3 | with_reducible exact (HS.out.alloc _).drew.below b3 | with_reducible exact HS.out.below b3 | with_reducible exact (HS.out.alloc _).below b3)); have HO := Lib.hid g3; clear g3 b3))
    all_goals
      go_wp2_with fail
      go_meet
      first
        | exact ⟨_, _, _, _, _, rfl, rfl, Lib.hid (A9.of_put HS.out HK.out HO.out HL.out HL2.out HD.out)⟩
        | exact ⟨_, _, _, _, _, rfl, rfl, Lib.hid (A9.of_alloc HS.out HO.out HL.out HL2.out)⟩
  case rest =>
  obtain ⟨w9, hw9⟩ : ∃ w9, w9 = wc := ⟨_, rfl⟩
  subst hw9
  obtain ⟨s5, A5, c5, l5, h5, rfl, rfl, hw⟩ := hcut
  have F0 : H9 w w9 w.heap.size s3 l3 h3 w4.heap.size w2.heap.size s5 l5 h5 m n A c qk qa qb (some ⟨g, 0, none⟩) n m' p A3 c3 A5 c5 ys (c64 xs) (c64 ys) := by
    obtain ⟨hS, gb, go, f1, f2, f3, f4, f5, f6⟩ := hw.out
    have hb := hS.b
    have HB5 := HB5.out
    have z5 := HZ5.out
    exact ⟨HB5.trans (hb.mono HB5.size), HPB.out.below hb (by omega), hS.qb, HWB.out.below hb (by omega), HWO.out.below hb (by omega), hS.pb, HXO.out.below hb (by omega), gb, go, Nat.le_refl _, by omega, by omega, by omega, by omega, by omega, by omega, by omega, f4, f2, f5, f6⟩
  generalize hW4 : w4.heap.size = s4 at F0
  generalize hW2 : w2.heap.size = e3 at F0
  clear hw HS HX HB5 HPB HXO HWB HWO
  obtain ⟨c10, c11⟩ := F0.wb.cells
  obtain ⟨x10, x11⟩ := F0.gb.cells
  clear hW2 g1 g2 g3 g4 g5 g6 hw1 z4 HZ5 s1
  clear hW4
  go_wp2_with fail
  refine (eqPuzzle_same m' A5 A3 p c5 c3 _ _ _ _ ys _ HP.out (by omega) F0.go F0.wo F0.y8 (by have := F0.y2; have := F0.y4; have := F0.y6; have := F0.y7; omega)).mono ?_
  rintro e w7 ⟨rfl, b7⟩
  have F1 := F0.below b7
  clear F0 b7 c10 c11 x10 x11
  go_wp2_with fail
  obtain ⟨c10, c11⟩ := F1.pb.cells
  obtain ⟨x10, x11⟩ := F1.xb.cells
  have HF := Lib.hid F1.drew
  have z1 : w.heap.size < w7.drew.heap.size := by have := F1.drew.y1; have := F1.drew.y3; have := F1.drew.y4; have := F1.drew.y6; have := F1.drew.y7; omega
  have z2 : s4 < w7.drew.heap.size := by have := F1.drew.y6; have := F1.drew.y7; omega
  have z3 : s4 ≤ w7.drew.heap.size := Nat.le_of_lt z2
  have r6 : Rd w7.drew w7.drew.heap.size A (c64 xs) := rd_up9 HA.out F1.drew.b
  have HO6 : Hid (∀ w8, Below w7.drew.heap.size w7.drew w8 → Own w8 _ _ (some ⟨g, 0, none⟩) (c64 xs)) := Lib.hid fun w8 b8 => Own.below (w := w7.drew) F1.drew.xo b8 z3
  clear F1
  go_region_held3 (fun w' => w'.cell? ⟨w.heap.size, 0, none⟩ = some (.int .i64 m) ∧ w'.cell? ⟨w.heap.size, 1, none⟩ = some (.slice A n c) ∧ w'.cell? ⟨s4, 0, none⟩ = some (.int .i64 m) ∧ w'.cell? ⟨s4, 1, none⟩ = some (.slice (some ⟨g, 0, none⟩) n n))
    (first | exact ⟨c10, c11, x10, x11⟩ | exact ⟨(b8.cell (p := ⟨w.heap.size, 0, none⟩) z1).trans c10, (b8.cell (p := ⟨w.heap.size, 1, none⟩) z1).trans c11, (b8.cell (p := ⟨s4, 0, none⟩) z2).trans x10, (b8.cell (p := ⟨s4, 1, none⟩) z2).trans x11⟩ | exact ⟨(b9.cell (p := ⟨w.heap.size, 0, none⟩) (Nat.lt_of_lt_of_le z1 b8.size)).trans ((b8.cell (p := ⟨w.heap.size, 0, none⟩) z1).trans c10), (b9.cell (p := ⟨w.heap.size, 1, none⟩) (Nat.lt_of_lt_of_le z1 b8.size)).trans ((b8.cell (p := ⟨w.heap.size, 1, none⟩) z1).trans c11), (b9.cell (p := ⟨s4, 0, none⟩) (Nat.lt_of_lt_of_le z2 b8.size)).trans ((b8.cell (p := ⟨s4, 0, none⟩) z2).trans x10), (b9.cell (p := ⟨s4, 1, none⟩) (Nat.lt_of_lt_of_le z2 b8.size)).trans ((b8.cell (p := ⟨s4, 1, none⟩) z2).trans x11)⟩)
    (first
      | (go_at_call 14; refine (toPuzzle_cap m A n c xs _ HN.out hm r6).mono ?_; rintro e w8 ⟨B8, rfl, o8, b8⟩)
      | (go_at_call 16; refine (eqPuzzle_same m (some ⟨g, 0, none⟩) B8 n n n _ _ _ _ xs _ HN.out (by omega) (HO6.out _ b8) o8 (Nat.le_trans z3 b8.size) (Nat.le_refl _)).mono ?_; rintro e w9 ⟨rfl, b9⟩))
  have F2 := (HF.out.below b8).below b9
  clear HF HO6 b8 b9 r6 c10 c11 x10 x11 z1 z2 z3 o8
  obtain ⟨c10, c11⟩ := F2.xb.cells
  go_wp2_with fail
  refine (markPuzzle_any m (some ⟨g, 0, none⟩) n n e3 s4 (c64 xs) 1 w9 (by rw [c64_len, HN.out]) (by omega) (by omega) (by omega) F2.xo (by have := F2.y4; have := F2.y6; have := F2.y7; omega) (by have := F2.y6; have := F2.y7; omega)).mono ?_
  rintro e w10 ⟨rfl, x10, b10, k10⟩
  have F3 := F2.markX b10 k10 x10
  clear F2 x10 b10 k10 c10 c11
  obtain ⟨c10, c11⟩ := F3.wb.cells
  obtain ⟨x10, x11⟩ := F3.gb.cells
  go_wp2_with fail
  refine (eqPuzzle_same m' A5 A3 p c5 c3 _ _ _ _ ys _ HP.out (by omega) F3.go F3.wo F3.y8 (by have := F3.y2; have := F3.y4; have := F3.y6; have := F3.y7; omega)).mono ?_
  rintro e w11 ⟨rfl, b11⟩
  have F4 := F3.below b11
  clear F3 b11 c10 c11 x10 x11
  obtain ⟨x10, x11⟩ := F4.gb.cells
  go_wp2_with fail
  refine (markPuzzle_any m' A5 p c5 l5 h5 (c64 ys) 1 w11 (by rw [c64_len, HP.out]) (by omega) (by omega) (by omega) F4.go F4.ya F4.y8).mono ?_
  rintro e w12 ⟨rfl, y12, b12, k12⟩
  have F5 := F4.markG b12 k12 y12
  clear F4 b12 k12 y12 x10 x11
  obtain ⟨x10, x11⟩ := F5.gb.cells
  go_wp2_with fail
  refine (heldPuzzle_any m' A5 p c5 _ _ 1 _ (by omega) (by omega) (by omega) F5.go F5.y8).mono ?_
  rintro e w13 ⟨rfl, b13⟩
  have F6 := F5.below b13
  clear F5 b13 x10 x11
  have HF := Lib.hid F6
  have HS : Hid (S9 w13 w13 w.heap.size (w.heap.size + 1) m A n c qk qa qb) := Lib.hid ⟨Below.refl _ _, F6.pb, F6.qb, by have := F6.y1; have := F6.y3; have := F6.y4; have := F6.y6; have := F6.y7; omega, by have := F6.y1; have := F6.y3; have := F6.y4; have := F6.y6; have := F6.y7; omega⟩
  have HT : Hid (∀ W, S9 w13 W w.heap.size (w.heap.size + 1) m A n c qk qa qb → Calls Try.prog 14 #[.agg #[.int .i64 m, .slice A n c]] W fun e w' => ∃ g, e = .returned (.agg #[.int .i64 m, .slice (some ⟨g, 0, none⟩) n n]) ∧ Own w' W.heap.size w'.heap.size (some ⟨g, 0, none⟩) (c64 xs) ∧ Below W.heap.size W w') := Lib.hid fun W h => toPuzzle_some m A n c xs W HN.out hm (rd_up9 HA.out (HF.out.b.trans (h.b.mono HF.out.b.size)))
  clear F6
  go_upto_region 24 with fail
  go_cut [14, 15] (fun s6 s7 wx => ∃ Q A3 c3 lo hi, s6 = .pointer (some ⟨Q, 0, none⟩) ∧ s7 = .bool ok ∧ Hid (A9 w13 wx w.heap.size (w.heap.size + 1) Q lo hi m (A) n c qk qa qb m' p A3 c3 ys))
  case first =>
    go_region_held_law (fun W => (W.cell? ⟨w.heap.size, 0, none⟩ = some (.int .i64 m) ∧ W.cell? ⟨w.heap.size, 1, none⟩ = some (.slice (A) n c)) ∧ (W.cell? ⟨(w.heap.size + 1), 0, none⟩ = some (.int .i64 qk) ∧ W.cell? ⟨(w.heap.size + 1), 1, none⟩ = some (.int .i64 qa) ∧ W.cell? ⟨(w.heap.size + 1), 2, none⟩ = some (.int .i64 qb)))
      (first | with_reducible exact HS.out.cells | with_reducible exact HS.out.drew.cells | with_reducible exact (HS.out.alloc _).cells | with_reducible exact (HS.out.alloc _).drew.cells | with_reducible exact (HS.out.put HK.out.l _ _).cells)
      (first
        | (go_at_call 14; refine (HT.out _ (show S9 w13 _ w.heap.size (w.heap.size + 1) m (A) n c qk qa qb from (by first | with_reducible exact HS.out.drew | with_reducible exact (HS.out.alloc _).drew | with_reducible exact HS.out | with_reducible exact (HS.out.alloc _)))).mono ?_; rintro e wp ⟨gx, rfl, ox, bp⟩; (first | (have HK := Lib.hid (HK.out.below bp)) | (have HK := Lib.hid (K9.fresh HS.out.b.size bp)) | (have HK := Lib.hid (K9.freshd HS.out.b.size bp)) | skip); have HX : Hid (X9 wp (some ⟨gx, 0, none⟩) (c64 xs)) := Lib.hid (ox.wide (Nat.zero_le _) (Nat.le_refl _)); have HS := Lib.hid (show S9 w13 wp w.heap.size (w.heap.size + 1) m (A) n c qk qa qb from (by first | with_reducible exact HS.out.drew.below bp | with_reducible exact (HS.out.alloc _).drew.below bp | with_reducible exact HS.out.below bp | with_reducible exact (HS.out.alloc _).below bp)); clear ox bp)
        | (go_at_call 10; refine (toClue_any qk qa qb _).mono ?_; rintro e wc ⟨rfl, bc⟩; (first | (have HK := Lib.hid (HK.out.below bc)) | (have HK := Lib.hid (K9.fresh HS.out.b.size bc)) | (have HK := Lib.hid (K9.freshd HS.out.b.size bc)) | skip); (first | (have HX := Lib.hid (show X9 wc _ (c64 xs) from (by first | with_reducible exact HX.out.drew.below bc | with_reducible exact (HX.out.alloc _).drew.below bc | with_reducible exact HX.out.below bc | with_reducible exact (HX.out.alloc _).below bc))) | skip); have HS := Lib.hid (show S9 w13 wc w.heap.size (w.heap.size + 1) m (A) n c qk qa qb from (by first | with_reducible exact HS.out.drew.below bc | with_reducible exact (HS.out.alloc _).drew.below bc | with_reducible exact HS.out.below bc | with_reducible exact (HS.out.alloc _).below bc)); clear bc)
        | (go_at_call 24; refine (HIM.out _ _ (show X9 _ _ (c64 xs) from (by first | with_reducible exact HX.out.drew | with_reducible exact (HX.out.alloc _).drew | with_reducible exact HX.out | with_reducible exact (HX.out.alloc _)))).mono ?_; rintro e w3 ⟨A3, c3, rfl, g3, b3⟩; (first | (have HD := Lib.hid HK.out.z; have HK := Lib.hid (HK.out.below b3)) | (have HD := Lib.hid (fresh_lt b3); have HK := Lib.hid (K9.fresh HS.out.b.size b3)) | skip); (first | obtain ⟨r0, r1, f0, f1⟩ := HK.out.rm | skip); have HL := Lib.hid (show w13.heap.size ≤ _ from (by first | with_reducible exact HS.out.drew.le_of b3 | with_reducible exact (HS.out.alloc _).drew.le_of b3 | with_reducible exact HS.out.le_of b3 | with_reducible exact (HS.out.alloc _).le_of b3)); have HL2 := Lib.hid b3.size; have HS := Lib.hid (show S9 w13 w3 w.heap.size (w.heap.size + 1) m (A) n c qk qa qb from (by first | with_reducible exact HS.out.drew.below b3 | with_reducible exact (HS.out.alloc _).drew.below b3 | with_reducible exact HS.out.below b3 | with_reducible exact (HS.out.alloc _).below b3)); have HO := Lib.hid g3; clear g3 b3))
    all_goals
      go_wp2_with fail
      go_meet
      first
        | exact ⟨_, _, _, _, _, rfl, rfl, Lib.hid (A9.of_put HS.out HK.out HO.out HL.out HL2.out HD.out)⟩
        | exact ⟨_, _, _, _, _, rfl, rfl, Lib.hid (A9.of_alloc HS.out HO.out HL.out HL2.out)⟩
  case rest =>
  obtain ⟨w15, hw15⟩ : ∃ w15, w15 = wc := ⟨_, rfl⟩
  subst hw15
  obtain ⟨s15, A15, c15, l15, h15, rfl, rfl, hw⟩ := hcut
  obtain ⟨hS, hb, ho, _, g2, _, _, _, _⟩ := hw.out
  have F7 := HF.out.below hS.b
  clear HF HS HT hw hS
  obtain ⟨c10, c11⟩ := F7.wb.cells
  obtain ⟨x10, x11⟩ := hb.cells
  go_wp2_with fail
  refine (eqPuzzle_same m' A15 A3 p c15 c3 _ _ _ _ ys _ HP.out (by omega) ho F7.wo g2 (by have := F7.y2; have := F7.y4; have := F7.y6; have := F7.y7; omega)).mono ?_
  rintro e w17 ⟨rfl, b17⟩
  have F8 := F7.below b17
  clear F7 b17 ho hb g2 c10 c11 x10 x11
  obtain ⟨x10, x11⟩ := F8.gb.cells
  go_wp2_with fail
  refine (heldPuzzle_any m' A5 p c5 _ _ 1 _ (by omega) (by omega) (by omega) F8.go F8.y8).mono ?_
  rintro e w18 ⟨rfl, b18⟩
  have F9 := F8.below b18
  clear F8 b18 x10 x11
  go_wp2
  go_ret
  exact ⟨rfl, F9.b⟩
end Go.Proofs.Ytmpajeldfbchhaa
