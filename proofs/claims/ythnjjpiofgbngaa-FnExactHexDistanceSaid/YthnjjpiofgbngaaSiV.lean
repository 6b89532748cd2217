/- Chapter 6: the sides of a ring, by the program. -/
import Derived.Test.YthnjjpiofgbngaaSiU
import Derived.Deep.DeepCutAuto
namespace Go.Proofs.Ythnjjpiofgbngaa
open Go.ChangeShapes Go.WideShapes Go.ChangeAt Go.RowKit

theorem infoSide : (Try.prog.info? 77).map (fun i => (i.zero, i.size, i.bytes)) = some (some (.agg #[.int .i64 0, .int .i64 0, .int .i64 0, .int .i64 0, .int .i64 0, .int .i64 0]), 6, 48) := by kernel_rfl
/-- A side as cells; the first sides of a ring. -/
def sd6 (K : Kd) (r b l : Int) (t : Nat) : List Value := [.int .i64 (cor K r l t).1, .int .i64 (cor K r l t).2, .int .i64 (b + t * l), .int .i64 (sst K t).1, .int .i64 (sst K t).2, .int .i64 l]
def sds (K : Kd) (r b l : Int) (k : Nat) : List Value := (List.range k).flatMap fun t => sd6 K r b l t
theorem sds_succ (K : Kd) (r b l : Int) (k : Nat) : sds K r b l (k + 1) = sds K r b l k ++ sd6 K r b l k := by simp [sds, List.range_succ]
theorem sds_len (K : Kd) (r b l : Int) (k : Nat) : (sds K r b l k).length = 6 * k := by
  induction k with
  | zero => rfl
  | succ k ih => rw [sds_succ, List.length_append, ih]; simp [sd6]; omega
theorem sds_get (K : Kd) (r b l : Int) (k t : Nat) (h : t < k) (i : Nat) (hi : i < 6) : (sds K r b l k)[6 * t + i]? = (sd6 K r b l t)[i]? := by
  induction k with
  | zero => omega
  | succ k ih =>
    rw [sds_succ]
    rcases Nat.lt_or_ge t k with ht | ht
    · rw [List.getElem?_append_left (by rw [sds_len]; omega)]
      exact ih ht
    · obtain rfl : t = k := by omega
      rw [List.getElem?_append_right (by rw [sds_len]; omega), sds_len]
      congr 1
      omega
theorem Own.six_ {w : World} {lo hi : Nat} {A : Option Addr} {K : Kd} {r b l : Int} {k : Nat} (h : Own w lo hi A (sds K r b l k)) {t : Nat} (ht : t < k) :
    ∃ g o, A = some ⟨g, o, none⟩ ∧ lo ≤ g ∧ g < hi ∧ w.cell? ⟨g, o + t * 6, none⟩ = some (.int .i64 (cor K r l t).1) ∧ w.cell? ⟨g, o + t * 6 + 1, none⟩ = some (.int .i64 (cor K r l t).2) ∧
      w.cell? ⟨g, o + t * 6 + 2, none⟩ = some (.int .i64 (b + t * l)) ∧ w.cell? ⟨g, o + t * 6 + 3, none⟩ = some (.int .i64 (sst K t).1) ∧ w.cell? ⟨g, o + t * 6 + 4, none⟩ = some (.int .i64 (sst K t).2) ∧ w.cell? ⟨g, o + t * 6 + 5, none⟩ = some (.int .i64 l) := by
  obtain ⟨g, o, e, h1, h2, hc⟩ := h (by rw [sds_len]; omega)
  have q := fun (i : Nat) (hi : i < 6) (v : Value) (hv : (sd6 K r b l t)[i]? = some v) => (hc (6 * t + i) v (by rw [sds_get K r b l k t ht i hi, hv])).1
  refine ⟨g, o, e, h1, h2, ?_, ?_, ?_, ?_, ?_, ?_⟩
  · have := q 0 (by omega) _ rfl
    rwa [show o + (6 * t + 0) = o + t * 6 by omega] at this
  · have := q 1 (by omega) _ rfl
    rwa [show o + (6 * t + 1) = o + t * 6 + 1 by omega] at this
  · have := q 2 (by omega) _ rfl
    rwa [show o + (6 * t + 2) = o + t * 6 + 2 by omega] at this
  · have := q 3 (by omega) _ rfl
    rwa [show o + (6 * t + 3) = o + t * 6 + 3 by omega] at this
  · have := q 4 (by omega) _ rfl
    rwa [show o + (6 * t + 4) = o + t * 6 + 4 by omega] at this
  · have := q 5 (by omega) _ rfl
    rwa [show o + (6 * t + 5) = o + t * 6 + 5 by omega] at this
/-- A box of six that was made last stands behind a call. -/
structure Box6 (W : World) (B : Nat) (a b c d e f : Value) : Prop where
  c0 : W.cell? ⟨B, 0, none⟩ = some a
  f0 : W.frozen? ⟨B, 0, none⟩ = false
  c1 : W.cell? ⟨B, 1, none⟩ = some b
  f1 : W.frozen? ⟨B, 1, none⟩ = false
  c2 : W.cell? ⟨B, 2, none⟩ = some c
  f2 : W.frozen? ⟨B, 2, none⟩ = false
  c3 : W.cell? ⟨B, 3, none⟩ = some d
  f3 : W.frozen? ⟨B, 3, none⟩ = false
  c4 : W.cell? ⟨B, 4, none⟩ = some e
  f4 : W.frozen? ⟨B, 4, none⟩ = false
  c5 : W.cell? ⟨B, 5, none⟩ = some f
  f5 : W.frozen? ⟨B, 5, none⟩ = false
  z : B < W.heap.size
theorem box6_new (w : World) (a b c d e f : Value) (t : Nat) : Box6 (w.alloc (.cells #[a, b, c, d, e, f] t)) w.heap.size a b c d e f :=
  ⟨by simp [go_sem], by simp [go_sem], by simp [go_sem], by simp [go_sem], by simp [go_sem], by simp [go_sem], by simp [go_sem], by simp [go_sem], by simp [go_sem], by simp [go_sem], by simp [go_sem], by simp [go_sem], by simp⟩
theorem Box6.below {W W' : World} {B : Nat} {a b c d e f : Value} (h : Box6 W B a b c d e f) (hb : Below W.heap.size W W') : Box6 W' B a b c d e f :=
  ⟨(hb.cell (p := ⟨B, 0, none⟩) h.z).trans h.c0, (hb.frozen (p := ⟨B, 0, none⟩) h.z).trans h.f0, (hb.cell (p := ⟨B, 1, none⟩) h.z).trans h.c1, (hb.frozen (p := ⟨B, 1, none⟩) h.z).trans h.f1,
    (hb.cell (p := ⟨B, 2, none⟩) h.z).trans h.c2, (hb.frozen (p := ⟨B, 2, none⟩) h.z).trans h.f2, (hb.cell (p := ⟨B, 3, none⟩) h.z).trans h.c3, (hb.frozen (p := ⟨B, 3, none⟩) h.z).trans h.f3,
    (hb.cell (p := ⟨B, 4, none⟩) h.z).trans h.c4, (hb.frozen (p := ⟨B, 4, none⟩) h.z).trans h.f4, (hb.cell (p := ⟨B, 5, none⟩) h.z).trans h.c5, (hb.frozen (p := ⟨B, 5, none⟩) h.z).trans h.f5, Nat.lt_of_lt_of_le h.z hb.size⟩
theorem Box6.drew {W : World} {B : Nat} {a b c d e f : Value} (h : Box6 W B a b c d e f) : Box6 W.drew B a b c d e f := ⟨h.c0, h.f0, h.c1, h.f1, h.c2, h.f2, h.c3, h.f3, h.c4, h.f4, h.c5, h.f5, h.z⟩
theorem Box6.alloc {W : World} {B : Nat} {a b c d e f : Value} (h : Box6 W B a b c d e f) (o : Obj) : Box6 (W.alloc o) B a b c d e f := h.below ((Below.refl _ _).alloc (Nat.le_refl _) _)
theorem Box6.s0 {W : World} {B : Nat} {a b c d e f p : Value} (h : Box6 W B a b c d e f) : Box6 (W.setCell ⟨B, 0, none⟩ p) B p b c d e f :=
  ⟨World.cell?_setCell_same _ _ _ h.c0, (World.frozen?_setCell _ _ _ _).trans h.f0, put_far h.c1 (by omega), (World.frozen?_setCell _ _ _ _).trans h.f1, put_far h.c2 (by omega), (World.frozen?_setCell _ _ _ _).trans h.f2, put_far h.c3 (by omega), (World.frozen?_setCell _ _ _ _).trans h.f3, put_far h.c4 (by omega), (World.frozen?_setCell _ _ _ _).trans h.f4, put_far h.c5 (by omega), (World.frozen?_setCell _ _ _ _).trans h.f5, by simpa using h.z⟩
theorem Box6.s1 {W : World} {B : Nat} {a b c d e f p : Value} (h : Box6 W B a b c d e f) : Box6 (W.setCell ⟨B, 1, none⟩ p) B a p c d e f :=
  ⟨put_far h.c0 (by omega), (World.frozen?_setCell _ _ _ _).trans h.f0, World.cell?_setCell_same _ _ _ h.c1, (World.frozen?_setCell _ _ _ _).trans h.f1, put_far h.c2 (by omega), (World.frozen?_setCell _ _ _ _).trans h.f2, put_far h.c3 (by omega), (World.frozen?_setCell _ _ _ _).trans h.f3, put_far h.c4 (by omega), (World.frozen?_setCell _ _ _ _).trans h.f4, put_far h.c5 (by omega), (World.frozen?_setCell _ _ _ _).trans h.f5, by simpa using h.z⟩
theorem Box6.s2 {W : World} {B : Nat} {a b c d e f p : Value} (h : Box6 W B a b c d e f) : Box6 (W.setCell ⟨B, 2, none⟩ p) B a b p d e f :=
  ⟨put_far h.c0 (by omega), (World.frozen?_setCell _ _ _ _).trans h.f0, put_far h.c1 (by omega), (World.frozen?_setCell _ _ _ _).trans h.f1, World.cell?_setCell_same _ _ _ h.c2, (World.frozen?_setCell _ _ _ _).trans h.f2, put_far h.c3 (by omega), (World.frozen?_setCell _ _ _ _).trans h.f3, put_far h.c4 (by omega), (World.frozen?_setCell _ _ _ _).trans h.f4, put_far h.c5 (by omega), (World.frozen?_setCell _ _ _ _).trans h.f5, by simpa using h.z⟩
theorem Box6.s3 {W : World} {B : Nat} {a b c d e f p : Value} (h : Box6 W B a b c d e f) : Box6 (W.setCell ⟨B, 3, none⟩ p) B a b c p e f :=
  ⟨put_far h.c0 (by omega), (World.frozen?_setCell _ _ _ _).trans h.f0, put_far h.c1 (by omega), (World.frozen?_setCell _ _ _ _).trans h.f1, put_far h.c2 (by omega), (World.frozen?_setCell _ _ _ _).trans h.f2, World.cell?_setCell_same _ _ _ h.c3, (World.frozen?_setCell _ _ _ _).trans h.f3, put_far h.c4 (by omega), (World.frozen?_setCell _ _ _ _).trans h.f4, put_far h.c5 (by omega), (World.frozen?_setCell _ _ _ _).trans h.f5, by simpa using h.z⟩
theorem Box6.s4 {W : World} {B : Nat} {a b c d e f p : Value} (h : Box6 W B a b c d e f) : Box6 (W.setCell ⟨B, 4, none⟩ p) B a b c d p f :=
  ⟨put_far h.c0 (by omega), (World.frozen?_setCell _ _ _ _).trans h.f0, put_far h.c1 (by omega), (World.frozen?_setCell _ _ _ _).trans h.f1, put_far h.c2 (by omega), (World.frozen?_setCell _ _ _ _).trans h.f2, put_far h.c3 (by omega), (World.frozen?_setCell _ _ _ _).trans h.f3, World.cell?_setCell_same _ _ _ h.c4, (World.frozen?_setCell _ _ _ _).trans h.f4, put_far h.c5 (by omega), (World.frozen?_setCell _ _ _ _).trans h.f5, by simpa using h.z⟩
theorem Box6.s5 {W : World} {B : Nat} {a b c d e f p : Value} (h : Box6 W B a b c d e f) : Box6 (W.setCell ⟨B, 5, none⟩ p) B a b c d e p :=
  ⟨put_far h.c0 (by omega), (World.frozen?_setCell _ _ _ _).trans h.f0, put_far h.c1 (by omega), (World.frozen?_setCell _ _ _ _).trans h.f1, put_far h.c2 (by omega), (World.frozen?_setCell _ _ _ _).trans h.f2, put_far h.c3 (by omega), (World.frozen?_setCell _ _ _ _).trans h.f3, put_far h.c4 (by omega), (World.frozen?_setCell _ _ _ _).trans h.f4, World.cell?_setCell_same _ _ _ h.c5, (World.frozen?_setCell _ _ _ _).trans h.f5, by simpa using h.z⟩
theorem below6 {w W : World} {n R : Nat} {a b c d e f : Value} (h : Below n w W) (hn : n ≤ R) :
    Below n w ((((((W.setCell ⟨R, 0, none⟩ a).setCell ⟨R, 1, none⟩ b).setCell ⟨R, 2, none⟩ c).setCell ⟨R, 3, none⟩ d).setCell ⟨R, 4, none⟩ e).setCell ⟨R, 5, none⟩ f) :=
  (((((h.setCell hn _).setCell hn _).setCell hn _).setCell hn _).setCell hn _).setCell hn _
theorem kept6 {W w1 : World} {a b c d e f : Value} {t R : Nat} (hb : Below (W.alloc (.cells #[a, b, c, d, e, f] t)).heap.size (W.alloc (.cells #[a, b, c, d, e, f] t)) w1) (hR : W.heap.size = R) : Box6 w1 R a b c d e f := by
  subst hR
  exact (box6_new W a b c d e f t).below hb
theorem kept6d {W w1 : World} {a b c d e f : Value} {t R : Nat} (hb : Below (W.alloc (.cells #[a, b, c, d, e, f] t)).drew.heap.size (W.alloc (.cells #[a, b, c, d, e, f] t)).drew w1) (hR : W.heap.size = R) : Box6 w1 R a b c d e f := by
  subst hR
  exact (box6_new W a b c d e f t).drew.below hb
/-- The box of a spiral's value. -/
structure Box3 (W : World) (B : Nat) (a b c : Value) : Prop where
  c0 : W.cell? ⟨B, 0, none⟩ = some a
  c1 : W.cell? ⟨B, 1, none⟩ = some b
  c2 : W.cell? ⟨B, 2, none⟩ = some c
  z : B < W.heap.size
theorem Box3.below {W W' : World} {B : Nat} {a b c : Value} (h : Box3 W B a b c) (hb : Below W.heap.size W W') : Box3 W' B a b c :=
  ⟨(hb.cell (p := ⟨B, 0, none⟩) h.z).trans h.c0, (hb.cell (p := ⟨B, 1, none⟩) h.z).trans h.c1, (hb.cell (p := ⟨B, 2, none⟩) h.z).trans h.c2, Nat.lt_of_lt_of_le h.z hb.size⟩
theorem Box3.alloc {W : World} {B : Nat} {a b c : Value} (h : Box3 W B a b c) (o : Obj) : Box3 (W.alloc o) B a b c := h.below ((Below.refl _ _).alloc (Nat.le_refl _) _)
theorem Box3.drew {W : World} {B : Nat} {a b c : Value} (h : Box3 W B a b c) : Box3 W.drew B a b c := ⟨h.c0, h.c1, h.c2, h.z⟩
theorem Box3.all {W : World} {B : Nat} {a b c : Value} (h : Box3 W B a b c) : W.cell? ⟨B, 0, none⟩ = some a ∧ W.cell? ⟨B, 1, none⟩ = some b ∧ W.cell? ⟨B, 2, none⟩ = some c := ⟨h.c0, h.c1, h.c2⟩
theorem Box3.put {W : World} {B Q o : Nat} {a b c v : Value} (h : Box3 W B a b c) (hne : B ≠ Q) : Box3 (W.setCell ⟨Q, o, none⟩ v) B a b c :=
  ⟨put_far h.c0 (fun e => hne e.1), put_far h.c1 (fun e => hne e.1), put_far h.c2 (fun e => hne e.1), by simpa using h.z⟩
theorem box3_new (w : World) (a b c : Value) (t : Nat) : Box3 (w.alloc (.cells #[a, b, c] t)) w.heap.size a b c := ⟨by simp [go_sem], by simp [go_sem], by simp [go_sem], by simp⟩
/-- What is known of a spiral's value. -/
structure IsSp (K : Kd) (R m : Nat) (u s : Int) (w : World) (lo hi : Nat) : Prop where
  good : Good K
  hm : K.m = m
  hu : K.u = u
  hs : (m : Int) * u = s
  s1 : 3 ≤ s
  s2 : s ≤ 24
  own : Own w lo hi (some ⟨R, 0, none⟩) (prs K.ss)
  hi : hi ≤ w.heap.size
/-- What is known of a ring: b the last number of the ring before. -/
structure IsRg (s r b : Int) : Prop where
  bds : RuleBds 2 (-s) s r (b + 1)
  r0 : 0 ≤ r
  r1 : r ≤ 2000
  b0 : 0 ≤ b
  b1 : b ≤ 100000000
theorem Box6.under {W W' : World} {B n : Nat} {a b c d e f : Value} (h : Box6 W B a b c d e f) (hb : Below n W W') (hn : B < n) : Box6 W' B a b c d e f :=
  ⟨(hb.cell (p := ⟨B, 0, none⟩) hn).trans h.c0, (hb.frozen (p := ⟨B, 0, none⟩) hn).trans h.f0, (hb.cell (p := ⟨B, 1, none⟩) hn).trans h.c1, (hb.frozen (p := ⟨B, 1, none⟩) hn).trans h.f1,
    (hb.cell (p := ⟨B, 2, none⟩) hn).trans h.c2, (hb.frozen (p := ⟨B, 2, none⟩) hn).trans h.f2, (hb.cell (p := ⟨B, 3, none⟩) hn).trans h.c3, (hb.frozen (p := ⟨B, 3, none⟩) hn).trans h.f3,
    (hb.cell (p := ⟨B, 4, none⟩) hn).trans h.c4, (hb.frozen (p := ⟨B, 4, none⟩) hn).trans h.f4, (hb.cell (p := ⟨B, 5, none⟩) hn).trans h.c5, (hb.frozen (p := ⟨B, 5, none⟩) hn).trans h.f5, Nat.lt_of_lt_of_le h.z hb.size⟩
theorem Box3.under {W W' : World} {B n : Nat} {a b c : Value} (h : Box3 W B a b c) (hb : Below n W W') (hn : B < n) : Box3 W' B a b c :=
  ⟨(hb.cell (p := ⟨B, 0, none⟩) hn).trans h.c0, (hb.cell (p := ⟨B, 1, none⟩) hn).trans h.c1, (hb.cell (p := ⟨B, 2, none⟩) hn).trans h.c2, Nat.lt_of_lt_of_le h.z hb.size⟩
theorem one_le {l v : Int} (h0 : 0 ≤ l) (h1 : -1 ≤ v) (h2 : v ≤ 1) : -l ≤ l * v ∧ l * v ≤ l := by
  rcases (show v = -1 ∨ v = 0 ∨ v = 1 by omega) with rfl | rfl | rfl <;> omega
theorem cor_b {K : Kd} (hK : Good K) (r l : Int) (r0 : 0 ≤ r) (l0 : 0 ≤ l) (t : Nat) :
    -(r + t * l) ≤ (cor K r l t).1 ∧ (cor K r l t).1 ≤ r + t * l ∧ -(r + t * l) ≤ (cor K r l t).2 ∧ (cor K r l t).2 ≤ r + t * l := by
  induction t with
  | zero => simp [cor]; omega
  | succ t ih =>
    obtain ⟨a, b, c, d⟩ := hK.st ((t + 1) % K.m)
    have e : (((t + 1 : Nat) : Int)) * l = t * l + l := by push_cast; grind
    have p := one_le l0 a b
    have q := one_le l0 c d
    rw [e]
    simp only [cor, sst]
    omega
theorem tl_b {l : Int} (l0 : 0 ≤ l) (l1 : l ≤ 4000) (t : Nat) (ht : t ≤ 6) : 0 ≤ (t : Int) * l ∧ (t : Int) * l ≤ 24000 := by
  refine ⟨Int.mul_nonneg (by omega) l0, ?_⟩
  have := Int.mul_le_mul (a := (t : Int)) (b := l) (c := 6) (d := 4000) (by omega) l1 l0 (by omega)
  omega
theorem tmod_step {t m : Nat} (h : 1 ≤ m) : ((t : Int) + 1).tmod (m : Int) = (((t + 1) % m : Nat) : Int) := by
  rw [Int.tmod_eq_emod_of_nonneg (by omega)]
  simp
theorem sst_at {K : Kd} {m t : Nat} (hm : K.m = m) (h : (t + 1) % m < K.ss.length) : sst K t = K.ss[(t + 1) % m] := by
  subst hm
  unfold sst Kd.st
  simp [List.getD, h]
set_option maxRecDepth 4000 in
set_option maxHeartbeats 1600000 in
theorem sidesOf_any (K : Kd) (R F m : Nat) (u s r b l : Int) (w : World) (lo hi : Nat) (h : IsSp K R m u s w lo hi) (hr : IsRg s r b) (hl : u * r = l) :
    Calls Try.prog 97 #[.agg #[.slice (some ⟨R, 0, none⟩) m m, .int .i64 u, .func (.func F) #[] #[]], .int .i64 r] w fun e w' => (∃ A c, e = .returned (.slice A m c) ∧ Own w' w.heap.size w'.heap.size A (sds K r b l m)) ∧ Below w.heap.size w w' := by
  obtain ⟨hbd, r0, r1, b0, b1⟩ := hr
  have HL := Lib.hid fun W => lastOfRing_any R F m u s (r - 1) b W h.hs h.s1 h.s2 (by rw [show r - 1 + 1 = r by omega]; exact hbd) (by omega) (by omega) (by omega) (by omega)
  clear hbd
  have hu := h.good.u0
  rw [h.hu] at hu
  have l0 : 0 ≤ l := by rw [← hl]; exact Int.mul_nonneg (by omega) r0
  have l1 : l ≤ 4000 := by
    rw [← hl]
    rcases (show u = 1 ∨ u = 2 by omega) with rfl | rfl <;> omega
  have e1 : IntKind.i64.wrap (u * r) = l := by rw [hl]; exact IntWalk.i64_in _ (by omega)
  have e2 : IntKind.i64.wrap (r - 1) = r - 1 := IntWalk.i64_in _ (by omega)
  have e3 : IntKind.i64.wrap (-r) = -r := IntWalk.i64_in _ (by omega)
  have HH := Lib.hid h
  clear h hl hu
  go_enter Try.func97, Try.ntmps97
  go_upto_region 1 with fail
  have hB : Below w.heap.size w (w.alloc (.cells #[.slice (some ⟨R, 0, none⟩) m m, .int .i64 u, .func (.func F) #[] #[]] 57)) := (Below.refl _ _).alloc (Nat.le_refl _) _
  have hT : Box3 (w.alloc (.cells #[.slice (some ⟨R, 0, none⟩) m m, .int .i64 u, .func (.func F) #[] #[]] 57)) w.heap.size (.slice (some ⟨R, 0, none⟩) m m) (.int .i64 u) (.func (.func F) #[] #[]) := box3_new _ _ _ _ _
  generalize w.alloc (.cells #[.slice (some ⟨R, 0, none⟩) m m, .int .i64 u, .func (.func F) #[] #[]] 57) = wa at *
  have HB := Lib.hid hB
  have HT := Lib.hid hT
  have HN := Lib.hid (Nat.ne_of_lt hT.z)
  clear hB hT
  go_cut [5] (fun s5 wx => ∃ Q, s5 = .pointer (some ⟨Q, 0, none⟩) ∧ Hid (w.heap.size < Q ∧ Below w.heap.size w wx ∧ Box3 wx w.heap.size (.slice (some ⟨R, 0, none⟩) m m) (.int .i64 u) (.func (.func F) #[] #[]) ∧ Box6 wx Q (.int .i64 r) (.int .i64 (-r)) (.int .i64 b) (.int .i64 0) (.int .i64 0) (.int .i64 l)))
  case first =>
    go_region_held3 (fun w' => w'.cell? ⟨w.heap.size, 0, none⟩ = some (.slice (some ⟨R, 0, none⟩) m m) ∧ w'.cell? ⟨w.heap.size, 1, none⟩ = some (.int .i64 u) ∧ w'.cell? ⟨w.heap.size, 2, none⟩ = some (.func (.func F) #[] #[]))
      (first | with_reducible exact HT.out.all | with_reducible exact HT.out.drew.all | with_reducible exact (HT.out.alloc _).all | with_reducible exact (HT.out.alloc _).drew.all | with_reducible exact ((((((HT.out.put HN.out).put HN.out).put HN.out).put HN.out).put HN.out).put HN.out).all)
      (first
        | (go_at_call 77; refine (HL.out _).mono ?_; rintro e w1 ⟨rfl, hb1⟩;
            have HT := Lib.hid (show Box3 w1 _ _ _ _ from (by first | with_reducible exact HT.out.drew.below hb1 | with_reducible exact (HT.out.alloc _).drew.below hb1));
            have HB1 := Lib.hid (show Below w.heap.size w w1 from (by first | with_reducible exact HB.out.drew.trans (hb1.mono HB.out.drew.size) | with_reducible exact (HB.out.alloc HB.out.size _).drew.trans (hb1.mono (HB.out.alloc HB.out.size _).drew.size)));
            (first | (have HK := kept6d (R := wa.heap.size) hb1 rfl; have HK6 := Lib.hid HK; obtain ⟨k0, g0, k1, g1, k2, g2, k3, g3, k4, g4, k5, g5, kz⟩ := HK) | skip)))
    · go_wp2_with fail
      go_meet
      exact ⟨w1.heap.size, rfl, Lib.hid ⟨Nat.lt_of_lt_of_le (Nat.lt_of_le_of_ne HB.out.size HN.out) (by have := hb1.size; simpa using this), HB1.out.alloc HB1.out.size _, HT.out.alloc _, box6_new _ _ _ _ _ _ _ _⟩⟩
    · go_wp2_with fail
      go_meet
      exact ⟨wa.heap.size, rfl, Lib.hid ⟨Nat.lt_of_le_of_ne HB.out.size HN.out, below6 HB1.out HB.out.size, (((((HT.out.put HN.out).put HN.out).put HN.out).put HN.out).put HN.out).put HN.out, HK6.out.s0.s1.s2.s3.s4.s5⟩⟩
  case rest =>
  obtain ⟨Q, rfl, hw⟩ := hcut
  obtain ⟨i0, hi0, hz0, hz1, hz2⟩ := info_parts infoSide
  have c0 := hw.out.2.2.1.c0
  have hm := HH.out.good.m0
  rw [HH.out.hm] at hm
  obtain ⟨m4, m6⟩ := hm
  have HQ := Lib.hid hw.out.2.2.2.z
  have HW := Lib.hid hw.out.2.2.1.z
  have HQ1 := Lib.hid hw.out.1
  clear e1 e2 e3 HB HT HN HL
  go_wp2_with fail
  go_loopw [24, 6] (fun i v wr => ∃ t : Nat, t ≤ m ∧ i = .int .i64 (t : Int) ∧ Hid (wr.ownsRow wc.heap.size 77 6 v t (sds K r b l t)) ∧ Hid (Below w.heap.size w wr ∧ wc.heap.size ≤ wr.heap.size ∧ Box3 wr w.heap.size (.slice (some ⟨R, 0, none⟩) m m) (.int .i64 u) (.func (.func F) #[] #[]) ∧ ∃ p q, Box6 wr Q (.int .i64 (cor K r l t).1) (.int .i64 (cor K r l t).2) (.int .i64 (b + t * l)) (.int .i64 p) (.int .i64 q) (.int .i64 l)))
    (fun i _ _ => m - (intOf i).toNat)
  case atStart => exact ⟨0, by omega, by simp, Lib.hid (World.ownsRow_nil _ _ _ _), Lib.hid ⟨hw.out.2.1, Nat.le_refl _, hw.out.2.2.1, 0, 0, by simpa [cor] using hw.out.2.2.2⟩⟩
  case round =>
    obtain ⟨t, ht, rfl, hown, hf⟩ := hrel
    by_cases hlt : t < m
    · have hlt2 : (t : Int) < (m : Int) := by omega
      obtain ⟨hb, hsz, h3, p, q, h6⟩ := hf.out
      have d0 := h3.c0
      have k3 := h6.c3
      have g3 := h6.f3
      have k4 := h6.c4
      have g4 := h6.f4
      have HB := Lib.hid hb
      have HZ := Lib.hid hsz
      have H3 := Lib.hid h3
      have H6 := Lib.hid h6
      clear hf hb hsz h3 h6
      go_upto_region 6 with fail
      have hj : (t + 1) % m < K.ss.length := by
        have := HH.out.hm
        unfold Kd.m at this
        rw [this]
        exact Nat.mod_lt _ (by omega)
      have hrem := tmod_step (t := t) (m := m) (by omega)
      have hst := sst_at HH.out.hm hj
      obtain ⟨g, o, hA, hg1, hg2, q0, q1⟩ := (HH.out.own.below HB.out HH.out.hi).pair_ hj
      obtain ⟨eg, rfl⟩ : g = R ∧ o = 0 := by simp at hA; omega
      rw [Nat.zero_add, eg] at q0 q1
      rw [← hst] at q0 q1
      have hj1 : (0 : Int) ≤ (((t + 1) % m : Nat) : Int) := by omega
      have hj2 : (((t + 1) % m : Nat) : Int) < (m : Int) := by have := Nat.mod_lt (t + 1) (show m > 0 by omega); omega
      clear hA hg1 hg2 hst hj eg
      generalize (t + 1) % m = j at *
      have hrw : IntKind.i64.wrap ((t : Int) + 1) = (t : Int) + 1 := IntWalk.i64_in _ (by omega)
      obtain ⟨y0, y1, y2, y3⟩ := cor_b HH.out.good r l r0 l0 t
      obtain ⟨v0, v1⟩ := tl_b l0 l1 t (by omega)
      obtain ⟨s0, s1, s2, s3⟩ := HH.out.good.st ((t + 1) % K.m)
      obtain ⟨cx', hcx⟩ : ∃ q, q = (cor K r l (t + 1)).1 := ⟨_, rfl⟩
      obtain ⟨cy', hcy⟩ : ∃ q, q = (cor K r l (t + 1)).2 := ⟨_, rfl⟩
      have HLD := Lib.hid fun W => ledBy_any (cor K r l t).1 (cor K r l t).2 (sst K t).1 (sst K t).2 l cx' cy' W (led_small _ _ _ _ _ (by omega) (by omega) (by omega) (by omega) s0 s1 s2 s3 (by omega) (by omega)) (by rw [hcx]; rfl) (by rw [hcy]; rfl)
      have HSU := Lib.hid (sds_succ K r b l t)
      have eb : b + ((t + 1 : Nat) : Int) * l = b + t * l + l := by push_cast; grind
      have HEB := Lib.hid eb
      have ew : IntKind.i64.wrap (b + t * l + l) = b + t * l + l := IntWalk.i64_in _ (by omega)
      have HCX := Lib.hid hcx
      have HCY := Lib.hid hcy
      clear s0 s1 s2 s3 y0 y1 y2 y3 eb v0 v1 hcx hcy
      unfold sd6 at HSU
      generalize (cor K r l t).1 = cx at *
      generalize (cor K r l t).2 = cy at *
      generalize (sst K t).1 = sx at *
      generalize (sst K t).2 = sy at *
      generalize b + t * l = nb at *
      go_region
      have h62 : Box6 ((wr.setCell ⟨Q, 3, none⟩ (.int .i64 sx)).setCell ⟨Q, 4, none⟩ (.int .i64 sy)).drew Q (.int .i64 cx) (.int .i64 cy) (.int .i64 nb) (.int .i64 sx) (.int .i64 sy) (.int .i64 l) := H6.out.s3.s4.drew
      have h32 : Box3 ((wr.setCell ⟨Q, 3, none⟩ (.int .i64 sx)).setCell ⟨Q, 4, none⟩ (.int .i64 sy)).drew w.heap.size (.slice (some ⟨R, 0, none⟩) m m) (.int .i64 u) (.func (.func F) #[] #[]) := ((H3.out.put (Nat.ne_of_lt HQ1.out)).put (Nat.ne_of_lt HQ1.out)).drew
      have hb2 : Below w.heap.size w ((wr.setCell ⟨Q, 3, none⟩ (.int .i64 sx)).setCell ⟨Q, 4, none⟩ (.int .i64 sy)).drew := ((HB.out.setCell (Nat.le_of_lt HQ1.out) _).setCell (Nat.le_of_lt HQ1.out) _).drew
      have hne : u6.ownBlock ≠ some Q := fun e => by have := (hown.out.lt Q e).1; have := HQ.out; omega
      have ho2 : World.ownsRow ((wr.setCell ⟨Q, 3, none⟩ (.int .i64 sx)).setCell ⟨Q, 4, none⟩ (.int .i64 sy)).drew wc.heap.size 77 6 u6 t (sds K r b l t) := row_below (ownsRow_setCell_other (ownsRow_setCell_other hown.out (a := ⟨Q, 3, none⟩) hne _) (a := ⟨Q, 4, none⟩) hne _) (Below.refl _ _).drew (Nat.le_refl _)
      have hz2 : wc.heap.size ≤ (((wr.setCell ⟨Q, 3, none⟩ (.int .i64 sx)).setCell ⟨Q, 4, none⟩ (.int .i64 sy)).drew).heap.size := by simpa using HZ.out
      generalize ((wr.setCell ⟨Q, 3, none⟩ (.int .i64 sx)).setCell ⟨Q, 4, none⟩ (.int .i64 sy)).drew = w2 at *
      clear hne hown HB H3 H6 HZ k3 g3 k4 g4 d0 q0 q1 hrem hj1 hj2 hrw
      obtain ⟨k0, g0, k1, g1, k2, g2, k3, g3, k4, g4, k5, g5, kz⟩ := h62
      have H62 : Hid (Box6 w2 Q (.int .i64 cx) (.int .i64 cy) (.int .i64 nb) (.int .i64 sx) (.int .i64 sy) (.int .i64 l)) := Lib.hid ⟨k0, g0, k1, g1, k2, g2, k3, g3, k4, g4, k5, g5, kz⟩
      clear g0 g1 g2 g3 g4 g5 kz
      have H32 := Lib.hid h32
      have HB2 := Lib.hid hb2
      have HO2 := Lib.hid ho2
      have HZ2 := Lib.hid hz2
      clear h32 hb2 ho2 hz2
      go_wp2_with (first
        | (at_builtin; refine wpList_append_own _ rfl _ _ 74 rfl wc.heap.size 77 i0 (.agg #[.int .i64 0, .int .i64 0, .int .i64 0, .int .i64 0, .int .i64 0, .int .i64 0]) 6 48 Try.underlying74 hi0 hz0 hz1 hz2 rfl (by decide) _ _ _ rfl (HO2.out.alloc _) ⟨w2.heap.size, 0, none⟩ 1 1 [.int .i64 cx, .int .i64 cy, .int .i64 nb, .int .i64 sx, .int .i64 sy, .int .i64 l] rfl rfl ?c1 ?c2 ?c3 ?c4 ?c5 ?_))
      case c1 =>
        intro j u hj
        match j, hj with
        | 0, hj => simp at hj; subst hj; simp [Addr.add]
        | 1, hj => simp at hj; subst hj; simp [Addr.add]
        | 2, hj => simp at hj; subst hj; simp [Addr.add]
        | 3, hj => simp at hj; subst hj; simp [Addr.add]
        | 4, hj => simp at hj; subst hj; simp [Addr.add]
        | 5, hj => simp at hj; subst hj; simp [Addr.add]
      case c2 => intro u hu; simp at hu; rcases hu with rfl | rfl | rfl | rfl | rfl | rfl <;> rfl
      case c3 => unfold maxLen; omega
      case c4 => omega
      case c5 => have := HZ2.out; simp; omega
      · intro v' w4 hown' hgrow _
        rw [← HSU.out] at hown'
        have hb4 : Below wc.heap.size w2 w4 := ((Below.refl _ _).alloc HZ2.out _).grown hgrow (by have := HZ2.out; simp; omega) fun g hg => (HO2.out.lt g hg).1
        have HO4 := Lib.hid hown'
        have HB4 := Lib.hid (HB2.out.trans (hb4.mono (by have := HQ1.out; have := HQ.out; omega)))
        have H34 := Lib.hid (H32.out.under hb4 HW.out)
        have h64 := H62.out.under hb4 HQ.out
        have HZ4 := Lib.hid (Nat.le_trans HZ2.out hb4.size)
        clear hown' hgrow hb4 k0 k1 k2 k3 k4 k5 H62 HO2 HB2 H32 HZ2
        obtain ⟨k0, g0, k1, g1, k2, g2, k3, g3, k4, g4, k5, g5, kz⟩ := h64
        have H64 : Hid (Box6 w4 Q (.int .i64 cx) (.int .i64 cy) (.int .i64 nb) (.int .i64 sx) (.int .i64 sy) (.int .i64 l)) := Lib.hid ⟨k0, g0, k1, g1, k2, g2, k3, g3, k4, g4, k5, g5, kz⟩
        clear g0 g1 g2 g3 g4 g5 kz
        go_wp2_with (first
          | (go_at_call 84; refine (HLD.out _).mono ?_; rintro e w5 ⟨rfl, hb5⟩; have H65 := Lib.hid (H64.out.below hb5); have j0 := H65.out.c0; have e0 := H65.out.f0; have j1 := H65.out.c1; have e1 := H65.out.f1; have j2 := H65.out.c2; have e2 := H65.out.f2; have j5 := H65.out.c5))
        have hne : v'.ownBlock ≠ some Q := fun e => by have := (HO4.out.lt Q e).1; have := HQ.out; omega
        have hn3 := Nat.ne_of_lt HQ1.out
        have hn4 := Nat.le_of_lt HQ1.out
        have hn5 : w.heap.size ≤ w4.heap.size := HB4.out.size
        go_roundw
        case rel =>
          refine ⟨t + 1, by omega, by go_num, Lib.hid ?_, Lib.hid ⟨?_, ?_, ?_, sx, sy, ?_⟩⟩
          · exact ownsRow_setCell_other (ownsRow_setCell_other (ownsRow_setCell_other (row_below HO4.out hb5 (Nat.le_refl _)) (a := ⟨Q, 0, none⟩) hne _) (a := ⟨Q, 1, none⟩) hne _) (a := ⟨Q, 2, none⟩) hne _
          · exact (((HB4.out.trans (hb5.mono hn5)).setCell hn4 _).setCell hn4 _).setCell hn4 _
          · have := HZ4.out
            have := hb5.size
            simp
            omega
          · exact (((H34.out.below hb5).put hn3).put hn3).put hn3
          · rw [← HCX.out, ← HCY.out, HEB.out]
            exact H65.out.s0.s1.s2
        case measure => simp [intOf]; omega
    · obtain rfl : t = m := by omega
      obtain ⟨A, c, rfl⟩ := row_form hown.out
      go_wp2
      go_ret
      exact ⟨⟨A, c, rfl, (own_of_row hown.out).wide hw.out.2.1.size (Nat.le_refl _)⟩, hf.out.1⟩
end Go.Proofs.Ythnjjpiofgbngaa
