/- Chapter 6: the sides of a ring, by the program. -/
import Derived.Test.YtmjmjcabmcbemaaSiU
import Derived.Deep.DeepCutAuto
namespace Go.Proofs.Ytmjmjcabmcbemaa
open Go.ChangeShapes Go.WideShapes Go.ChangeAt Go.RowKit

/-- A side as cells; the first sides of a ring. -/
def sd6 (K : Kd) (r b l : Int) (t : Nat) : List Value := [.int .i64 (cor K r l t).1, .int .i64 (cor K r l t).2, .int .i64 (b + t * l), .int .i64 (sst K t).1, .int .i64 (sst K t).2, .int .i64 l]
def sds (K : Kd) (r b l : Int) (k : Nat) : List Value := (List.range k).flatMap fun t => sd6 K r b l t
theorem sds_succ (K : Kd) (r b l : Int) (k : Nat) : sds K r b l (k + 1) = sds K r b l k ++ sd6 K r b l k := by simp [sds, List.range_succ]
theorem sds_len (K : Kd) (r b l : Int) (k : Nat) : (sds K r b l k).length = 6 * k := by
  induction k with
  | zero => rfl
  | succ k ih => rw [sds_succ, List.length_append, ih]; simp [sd6]; omega
theorem sds_get (K : Kd) (r b l : Int) (k t : Nat) (h : t < k) (i : Nat) (hi : i < 6) : (sds K r b l k)[6 * t + i]? = (sd6 K r b l t)[i]? := by
  induction k with
  | zero => omega
  | succ k ih =>
    rw [sds_succ]
    rcases Nat.lt_or_ge t k with ht | ht
    · rw [List.getElem?_append_left (by rw [sds_len]; omega)]
      exact ih ht
    · obtain rfl : t = k := by omega
      rw [List.getElem?_append_right (by rw [sds_len]; omega), sds_len]
      congr 1
      omega
theorem Own.six_ {w : World} {lo hi : Nat} {A : Option Addr} {K : Kd} {r b l : Int} {k : Nat} (h : Own w lo hi A (sds K r b l k)) {t : Nat} (ht : t < k) :
    ∃ g o, A = some ⟨g, o, none⟩ ∧ lo ≤ g ∧ g < hi ∧ w.cell? ⟨g, o + t * 6, none⟩ = some (.int .i64 (cor K r l t).1) ∧ w.cell? ⟨g, o + t * 6 + 1, none⟩ = some (.int .i64 (cor K r l t).2) ∧
      w.cell? ⟨g, o + t * 6 + 2, none⟩ = some (.int .i64 (b + t * l)) ∧ w.cell? ⟨g, o + t * 6 + 3, none⟩ = some (.int .i64 (sst K t).1) ∧ w.cell? ⟨g, o + t * 6 + 4, none⟩ = some (.int .i64 (sst K t).2) ∧ w.cell? ⟨g, o + t * 6 + 5, none⟩ = some (.int .i64 l) := by
  obtain ⟨g, o, e, h1, h2, hc⟩ := h (by rw [sds_len]; omega)
  have q := fun (i : Nat) (hi : i < 6) (v : Value) (hv : (sd6 K r b l t)[i]? = some v) => (hc (6 * t + i) v (by rw [sds_get K r b l k t ht i hi, hv])).1
  refine ⟨g, o, e, h1, h2, ?_, ?_, ?_, ?_, ?_, ?_⟩
  · have := q 0 (by omega) _ rfl
    rwa [show o + (6 * t + 0) = o + t * 6 by omega] at this
  · have := q 1 (by omega) _ rfl
    rwa [show o + (6 * t + 1) = o + t * 6 + 1 by omega] at this
  · have := q 2 (by omega) _ rfl
    rwa [show o + (6 * t + 2) = o + t * 6 + 2 by omega] at this
  · have := q 3 (by omega) _ rfl
    rwa [show o + (6 * t + 3) = o + t * 6 + 3 by omega] at this
  · have := q 4 (by omega) _ rfl
    rwa [show o + (6 * t + 4) = o + t * 6 + 4 by omega] at this
  · have := q 5 (by omega) _ rfl
    rwa [show o + (6 * t + 5) = o + t * 6 + 5 by omega] at this
/-- A box of six that was made last stands behind a call. -/
structure Box6 (W : World) (B : Nat) (a b c d e f : Value) : Prop where
  c0 : W.cell? ⟨B, 0, none⟩ = some a
  f0 : W.frozen? ⟨B, 0, none⟩ = false
  c1 : W.cell? ⟨B, 1, none⟩ = some b
  f1 : W.frozen? ⟨B, 1, none⟩ = false
  c2 : W.cell? ⟨B, 2, none⟩ = some c
  f2 : W.frozen? ⟨B, 2, none⟩ = false
  c3 : W.cell? ⟨B, 3, none⟩ = some d
  f3 : W.frozen? ⟨B, 3, none⟩ = false
  c4 : W.cell? ⟨B, 4, none⟩ = some e
  f4 : W.frozen? ⟨B, 4, none⟩ = false
  c5 : W.cell? ⟨B, 5, none⟩ = some f
  f5 : W.frozen? ⟨B, 5, none⟩ = false
  z : B < W.heap.size
theorem box6_new (w : World) (a b c d e f : Value) (t : Nat) : Box6 (w.alloc (.cells #[a, b, c, d, e, f] t)) w.heap.size a b c d e f :=
  ⟨by simp [go_sem], by simp [go_sem], by simp [go_sem], by simp [go_sem], by simp [go_sem], by simp [go_sem], by simp [go_sem], by simp [go_sem], by simp [go_sem], by simp [go_sem], by simp [go_sem], by simp [go_sem], by simp⟩
theorem Box6.below {W W' : World} {B : Nat} {a b c d e f : Value} (h : Box6 W B a b c d e f) (hb : Below W.heap.size W W') : Box6 W' B a b c d e f :=
  ⟨(hb.cell (p := ⟨B, 0, none⟩) h.z).trans h.c0, (hb.frozen (p := ⟨B, 0, none⟩) h.z).trans h.f0, (hb.cell (p := ⟨B, 1, none⟩) h.z).trans h.c1, (hb.frozen (p := ⟨B, 1, none⟩) h.z).trans h.f1,
    (hb.cell (p := ⟨B, 2, none⟩) h.z).trans h.c2, (hb.frozen (p := ⟨B, 2, none⟩) h.z).trans h.f2, (hb.cell (p := ⟨B, 3, none⟩) h.z).trans h.c3, (hb.frozen (p := ⟨B, 3, none⟩) h.z).trans h.f3,
    (hb.cell (p := ⟨B, 4, none⟩) h.z).trans h.c4, (hb.frozen (p := ⟨B, 4, none⟩) h.z).trans h.f4, (hb.cell (p := ⟨B, 5, none⟩) h.z).trans h.c5, (hb.frozen (p := ⟨B, 5, none⟩) h.z).trans h.f5, Nat.lt_of_lt_of_le h.z hb.size⟩
theorem Box6.drew {W : World} {B : Nat} {a b c d e f : Value} (h : Box6 W B a b c d e f) : Box6 W.drew B a b c d e f := ⟨h.c0, h.f0, h.c1, h.f1, h.c2, h.f2, h.c3, h.f3, h.c4, h.f4, h.c5, h.f5, h.z⟩
theorem Box6.alloc {W : World} {B : Nat} {a b c d e f : Value} (h : Box6 W B a b c d e f) (o : Obj) : Box6 (W.alloc o) B a b c d e f := h.below ((Below.refl _ _).alloc (Nat.le_refl _) _)
theorem Box6.s0 {W : World} {B : Nat} {a b c d e f p : Value} (h : Box6 W B a b c d e f) : Box6 (W.setCell ⟨B, 0, none⟩ p) B p b c d e f :=
  ⟨World.cell?_setCell_same _ _ _ h.c0, (World.frozen?_setCell _ _ _ _).trans h.f0, put_far h.c1 (by omega), (World.frozen?_setCell _ _ _ _).trans h.f1, put_far h.c2 (by omega), (World.frozen?_setCell _ _ _ _).trans h.f2, put_far h.c3 (by omega), (World.frozen?_setCell _ _ _ _).trans h.f3, put_far h.c4 (by omega), (World.frozen?_setCell _ _ _ _).trans h.f4, put_far h.c5 (by omega), (World.frozen?_setCell _ _ _ _).trans h.f5, by simpa using h.z⟩
theorem Box6.s1 {W : World} {B : Nat} {a b c d e f p : Value} (h : Box6 W B a b c d e f) : Box6 (W.setCell ⟨B, 1, none⟩ p) B a p c d e f :=
  ⟨put_far h.c0 (by omega), (World.frozen?_setCell _ _ _ _).trans h.f0, World.cell?_setCell_same _ _ _ h.c1, (World.frozen?_setCell _ _ _ _).trans h.f1, put_far h.c2 (by omega), (World.frozen?_setCell _ _ _ _).trans h.f2, put_far h.c3 (by omega), (World.frozen?_setCell _ _ _ _).trans h.f3, put_far h.c4 (by omega), (World.frozen?_setCell _ _ _ _).trans h.f4, put_far h.c5 (by omega), (World.frozen?_setCell _ _ _ _).trans h.f5, by simpa using h.z⟩
theorem Box6.s2 {W : World} {B : Nat} {a b c d e f p : Value} (h : Box6 W B a b c d e f) : Box6 (W.setCell ⟨B, 2, none⟩ p) B a b p d e f :=
  ⟨put_far h.c0 (by omega), (World.frozen?_setCell _ _ _ _).trans h.f0, put_far h.c1 (by omega), (World.frozen?_setCell _ _ _ _).trans h.f1, World.cell?_setCell_same _ _ _ h.c2, (World.frozen?_setCell _ _ _ _).trans h.f2, put_far h.c3 (by omega), (World.frozen?_setCell _ _ _ _).trans h.f3, put_far h.c4 (by omega), (World.frozen?_setCell _ _ _ _).trans h.f4, put_far h.c5 (by omega), (World.frozen?_setCell _ _ _ _).trans h.f5, by simpa using h.z⟩
theorem Box6.s3 {W : World} {B : Nat} {a b c d e f p : Value} (h : Box6 W B a b c d e f) : Box6 (W.setCell ⟨B, 3, none⟩ p) B a b c p e f :=
  ⟨put_far h.c0 (by omega), (World.frozen?_setCell _ _ _ _).trans h.f0, put_far h.c1 (by omega), (World.frozen?_setCell _ _ _ _).trans h.f1, put_far h.c2 (by omega), (World.frozen?_setCell _ _ _ _).trans h.f2, World.cell?_setCell_same _ _ _ h.c3, (World.frozen?_setCell _ _ _ _).trans h.f3, put_far h.c4 (by omega), (World.frozen?_setCell _ _ _ _).trans h.f4, put_far h.c5 (by omega), (World.frozen?_setCell _ _ _ _).trans h.f5, by simpa using h.z⟩
theorem Box6.s4 {W : World} {B : Nat} {a b c d e f p : Value} (h : Box6 W B a b c d e f) : Box6 (W.setCell ⟨B, 4, none⟩ p) B a b c d p f :=
  ⟨put_far h.c0 (by omega), (World.frozen?_setCell _ _ _ _).trans h.f0, put_far h.c1 (by omega), (World.frozen?_setCell _ _ _ _).trans h.f1, put_far h.c2 (by omega), (World.frozen?_setCell _ _ _ _).trans h.f2, put_far h.c3 (by omega), (World.frozen?_setCell _ _ _ _).trans h.f3, World.cell?_setCell_same _ _ _ h.c4, (World.frozen?_setCell _ _ _ _).trans h.f4, put_far h.c5 (by omega), (World.frozen?_setCell _ _ _ _).trans h.f5, by simpa using h.z⟩
theorem Box6.s5 {W : World} {B : Nat} {a b c d e f p : Value} (h : Box6 W B a b c d e f) : Box6 (W.setCell ⟨B, 5, none⟩ p) B a b c d e p :=
  ⟨put_far h.c0 (by omega), (World.frozen?_setCell _ _ _ _).trans h.f0, put_far h.c1 (by omega), (World.frozen?_setCell _ _ _ _).trans h.f1, put_far h.c2 (by omega), (World.frozen?_setCell _ _ _ _).trans h.f2, put_far h.c3 (by omega), (World.frozen?_setCell _ _ _ _).trans h.f3, put_far h.c4 (by omega), (World.frozen?_setCell _ _ _ _).trans h.f4, World.cell?_setCell_same _ _ _ h.c5, (World.frozen?_setCell _ _ _ _).trans h.f5, by simpa using h.z⟩
theorem below6 {w W : World} {n R : Nat} {a b c d e f : Value} (h : Below n w W) (hn : n ≤ R) :
    Below n w ((((((W.setCell ⟨R, 0, none⟩ a).setCell ⟨R, 1, none⟩ b).setCell ⟨R, 2, none⟩ c).setCell ⟨R, 3, none⟩ d).setCell ⟨R, 4, none⟩ e).setCell ⟨R, 5, none⟩ f) :=
  (((((h.setCell hn _).setCell hn _).setCell hn _).setCell hn _).setCell hn _).setCell hn _
theorem kept6 {W w1 : World} {a b c d e f : Value} {t R : Nat} (hb : Below (W.alloc (.cells #[a, b, c, d, e, f] t)).heap.size (W.alloc (.cells #[a, b, c, d, e, f] t)) w1) (hR : W.heap.size = R) : Box6 w1 R a b c d e f := by
  subst hR
  exact (box6_new W a b c d e f t).below hb
theorem kept6d {W w1 : World} {a b c d e f : Value} {t R : Nat} (hb : Below (W.alloc (.cells #[a, b, c, d, e, f] t)).drew.heap.size (W.alloc (.cells #[a, b, c, d, e, f] t)).drew w1) (hR : W.heap.size = R) : Box6 w1 R a b c d e f := by
  subst hR
  exact (box6_new W a b c d e f t).drew.below hb
/-- The box of a spiral's value. -/
structure Box3 (W : World) (B : Nat) (a b c : Value) : Prop where
  c0 : W.cell? ⟨B, 0, none⟩ = some a
  c1 : W.cell? ⟨B, 1, none⟩ = some b
  c2 : W.cell? ⟨B, 2, none⟩ = some c
  z : B < W.heap.size
theorem Box3.below {W W' : World} {B : Nat} {a b c : Value} (h : Box3 W B a b c) (hb : Below W.heap.size W W') : Box3 W' B a b c :=
  ⟨(hb.cell (p := ⟨B, 0, none⟩) h.z).trans h.c0, (hb.cell (p := ⟨B, 1, none⟩) h.z).trans h.c1, (hb.cell (p := ⟨B, 2, none⟩) h.z).trans h.c2, Nat.lt_of_lt_of_le h.z hb.size⟩
theorem Box3.alloc {W : World} {B : Nat} {a b c : Value} (h : Box3 W B a b c) (o : Obj) : Box3 (W.alloc o) B a b c := h.below ((Below.refl _ _).alloc (Nat.le_refl _) _)
theorem Box3.drew {W : World} {B : Nat} {a b c : Value} (h : Box3 W B a b c) : Box3 W.drew B a b c := ⟨h.c0, h.c1, h.c2, h.z⟩
theorem Box3.all {W : World} {B : Nat} {a b c : Value} (h : Box3 W B a b c) : W.cell? ⟨B, 0, none⟩ = some a ∧ W.cell? ⟨B, 1, none⟩ = some b ∧ W.cell? ⟨B, 2, none⟩ = some c := ⟨h.c0, h.c1, h.c2⟩
theorem Box3.put {W : World} {B Q o : Nat} {a b c v : Value} (h : Box3 W B a b c) (hne : B ≠ Q) : Box3 (W.setCell ⟨Q, o, none⟩ v) B a b c :=
  ⟨put_far h.c0 (fun e => hne e.1), put_far h.c1 (fun e => hne e.1), put_far h.c2 (fun e => hne e.1), by simpa using h.z⟩
theorem box3_new (w : World) (a b c : Value) (t : Nat) : Box3 (w.alloc (.cells #[a, b, c] t)) w.heap.size a b c := ⟨by simp [go_sem], by simp [go_sem], by simp [go_sem], by simp⟩
/-- What is known of a spiral's value. -/
structure IsSp (K : Kd) (R m : Nat) (u s : Int) (w : World) (lo hi : Nat) : Prop where
  good : Good K
  hm : K.m = m
  hu : K.u = u
  hs : (m : Int) * u = s
  s1 : 3 ≤ s
  s2 : s ≤ 24
  own : Own w lo hi (some ⟨R, 0, none⟩) (prs K.ss)
  hi : hi ≤ w.heap.size
/-- What is known of a ring: b the last number of the ring before. -/
structure IsRg (s r b : Int) : Prop where
  bds : RuleBds 2 (-s) s r (b + 1)
  r0 : 0 ≤ r
  r1 : r ≤ 2000
  b0 : 0 ≤ b
  b1 : b ≤ 100000000
theorem Box6.under {W W' : World} {B n : Nat} {a b c d e f : Value} (h : Box6 W B a b c d e f) (hb : Below n W W') (hn : B < n) : Box6 W' B a b c d e f :=
  ⟨(hb.cell (p := ⟨B, 0, none⟩) hn).trans h.c0, (hb.frozen (p := ⟨B, 0, none⟩) hn).trans h.f0, (hb.cell (p := ⟨B, 1, none⟩) hn).trans h.c1, (hb.frozen (p := ⟨B, 1, none⟩) hn).trans h.f1,
    (hb.cell (p := ⟨B, 2, none⟩) hn).trans h.c2, (hb.frozen (p := ⟨B, 2, none⟩) hn).trans h.f2, (hb.cell (p := ⟨B, 3, none⟩) hn).trans h.c3, (hb.frozen (p := ⟨B, 3, none⟩) hn).trans h.f3,
    (hb.cell (p := ⟨B, 4, none⟩) hn).trans h.c4, (hb.frozen (p := ⟨B, 4, none⟩) hn).trans h.f4, (hb.cell (p := ⟨B, 5, none⟩) hn).trans h.c5, (hb.frozen (p := ⟨B, 5, none⟩) hn).trans h.f5, Nat.lt_of_lt_of_le h.z hb.size⟩
theorem Box3.under {W W' : World} {B n : Nat} {a b c : Value} (h : Box3 W B a b c) (hb : Below n W W') (hn : B < n) : Box3 W' B a b c :=
  ⟨(hb.cell (p := ⟨B, 0, none⟩) hn).trans h.c0, (hb.cell (p := ⟨B, 1, none⟩) hn).trans h.c1, (hb.cell (p := ⟨B, 2, none⟩) hn).trans h.c2, Nat.lt_of_lt_of_le h.z hb.size⟩
theorem one_le {l v : Int} (h0 : 0 ≤ l) (h1 : -1 ≤ v) (h2 : v ≤ 1) : -l ≤ l * v ∧ l * v ≤ l := by
  rcases (show v = -1 ∨ v = 0 ∨ v = 1 by omega) with rfl | rfl | rfl <;> omega
theorem cor_b {K : Kd} (hK : Good K) (r l : Int) (r0 : 0 ≤ r) (l0 : 0 ≤ l) (t : Nat) :
    -(r + t * l) ≤ (cor K r l t).1 ∧ (cor K r l t).1 ≤ r + t * l ∧ -(r + t * l) ≤ (cor K r l t).2 ∧ (cor K r l t).2 ≤ r + t * l := by
  induction t with
  | zero => simp [cor]; omega
  | succ t ih =>
    obtain ⟨a, b, c, d⟩ := hK.st ((t + 1) % K.m)
    have e : (((t + 1 : Nat) : Int)) * l = t * l + l := by push_cast; grind
    have p := one_le l0 a b
    have q := one_le l0 c d
    rw [e]
    simp only [cor, sst]
    omega
theorem tl_b {l : Int} (l0 : 0 ≤ l) (l1 : l ≤ 4000) (t : Nat) (ht : t ≤ 6) : 0 ≤ (t : Int) * l ∧ (t : Int) * l ≤ 24000 := by
  refine ⟨Int.mul_nonneg (by omega) l0, ?_⟩
  have := Int.mul_le_mul (a := (t : Int)) (b := l) (c := 6) (d := 4000) (by omega) l1 l0 (by omega)
  omega
theorem tmod_step {t m : Nat} (_h : 1 ≤ m) : ((t : Int) + 1).tmod (m : Int) = (((t + 1) % m : Nat) : Int) := by
  rw [Int.tmod_eq_emod_of_nonneg (by omega)]
  simp
theorem sst_at {K : Kd} {m t : Nat} (hm : K.m = m) (h : (t + 1) % m < K.ss.length) : sst K t = K.ss[(t + 1) % m] := by
  subst hm
  unfold sst Kd.st
  simp [List.getD, h]
end Go.Proofs.Ytmjmjcabmcbemaa
