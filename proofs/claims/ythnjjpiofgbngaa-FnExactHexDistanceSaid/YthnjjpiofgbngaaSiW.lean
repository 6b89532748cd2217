/- Chapter 6: the number at a spot, by the program: each side offers it over a channel. -/
import Derived.Test.YthnjjpiofgbngaaSiV
import Derived.Test.YthnjjpiofgbngaaChA
import Derived.ChangeKeysEq
namespace Go.Proofs.Ythnjjpiofgbngaa
open Go.ChangeShapes Go.WideShapes Go.ChangeAt Go.RowKit Go.ChangeMaps Go.Conc

theorem vec_one : Try.prog.cellsOf 3 = 1 := by kernel_rfl
theorem vec_key : Try.prog.plainKey 3 = true := by kernel_rfl
theorem vec_info : (Try.prog.info? 3).map (fun i => (i.zero, i.size, i.bytes)) = some (some (.int .i64 0), 1, 8) := by kernel_rfl
theorem eq_vec (a b c d : Int) (w : World) : (Op.equalIn 10000 53 (.agg #[.int .i64 a, .int .i64 b]) (.agg #[.int .i64 c, .int .i64 d])).run Try.prog w = .ok (a == c && b == d) w := by
  obtain ⟨i0, hi0, hz0, hz1, hz2⟩ := info_parts vec_info
  rw [run_equalIn_array w 9999 (t := 53) (e := 3) (n := 2) _ _ Try.underlying53 hi0, vec_one]
  have p : ∀ (x y : Int) (i : Nat) (v : Int) (_ : (#[Value.int .i64 x, Value.int .i64 y] : Array Value)[i]? = some (.int .i64 v)), (part 3 #[.int .i64 x, .int .i64 y] i).run Try.prog w = .ok (.int .i64 v) w := fun x y i v h => run_part_plain w vec_key h
  have q : ∀ x y : Int, (Op.equalIn 9999 3 (.int .i64 x) (.int .i64 y)).run Try.prog w = .ok (x == y) w := fun x y => run_equalIn_int w 9998 3 .i64 .i64 x y Try.underlying3
  have e : List.range 2 = [0, 1] := rfl
  rw [e]
  simp only [Op.eqItems, Sem.run_bind, Nat.mul_one, p a b 0 a rfl, p c d 0 c rfl, p a b 1 b rfl, p c d 1 d rfl, q, Result.andThen_ok]
  cases h1 : a == c <;> cases h2 : b == d <;> simp [p a b 1 b rfl, p c d 1 d rfl, q, h2]
theorem mk_chan (w : World) : (Instr.makeChan 86 (.int .i64 1)).run Try.prog w = .ok (.chan (some w.heap.size)) (w.alloc (.chan 1 #[] false 0 0 false)) := by
  obtain ⟨i0, hi0, hz0, hz1, hz2⟩ := info_parts vec_info
  simpa using run_makeChan (P := Try.prog) (w := w) Try.underlying86 hi0 .i64 1 (by omega) (by rw [hz2]; omega)
/-- A box of two. -/
structure Box2 (W : World) (B : Nat) (a b : Value) : Prop where
  c0 : W.cell? ⟨B, 0, none⟩ = some a
  c1 : W.cell? ⟨B, 1, none⟩ = some b
  z : B < W.heap.size
theorem Box2.under {W W' : World} {B n : Nat} {a b : Value} (h : Box2 W B a b) (hb : Below n W W') (hn : B < n) : Box2 W' B a b :=
  ⟨(hb.cell (p := ⟨B, 0, none⟩) hn).trans h.c0, (hb.cell (p := ⟨B, 1, none⟩) hn).trans h.c1, Nat.lt_of_lt_of_le h.z hb.size⟩
theorem Box2.below {W W' : World} {B : Nat} {a b : Value} (h : Box2 W B a b) (hb : Below W.heap.size W W') : Box2 W' B a b := h.under hb h.z
theorem Box2.drew {W : World} {B : Nat} {a b : Value} (h : Box2 W B a b) : Box2 W.drew B a b := ⟨h.c0, h.c1, h.z⟩
theorem Box2.alloc {W : World} {B : Nat} {a b : Value} (h : Box2 W B a b) (o : Obj) : Box2 (W.alloc o) B a b := h.below ((Below.refl _ _).alloc (Nat.le_refl _) _)
theorem box2_new (w : World) (a b : Value) (t : Nat) : Box2 (w.alloc (.cells #[a, b] t)) w.heap.size a b := ⟨by simp [go_sem], by simp [go_sem], by simp⟩
/-- A box of two that may be written. -/
structure BoxW (W : World) (B : Nat) (a b : Value) : Prop where
  c0 : W.cell? ⟨B, 0, none⟩ = some a
  f0 : W.frozen? ⟨B, 0, none⟩ = false
  c1 : W.cell? ⟨B, 1, none⟩ = some b
  f1 : W.frozen? ⟨B, 1, none⟩ = false
  z : B < W.heap.size
theorem BoxW.under {W W' : World} {B n : Nat} {a b : Value} (h : BoxW W B a b) (hb : Below n W W') (hn : B < n) : BoxW W' B a b :=
  ⟨(hb.cell (p := ⟨B, 0, none⟩) hn).trans h.c0, (hb.frozen (p := ⟨B, 0, none⟩) hn).trans h.f0, (hb.cell (p := ⟨B, 1, none⟩) hn).trans h.c1, (hb.frozen (p := ⟨B, 1, none⟩) hn).trans h.f1, Nat.lt_of_lt_of_le h.z hb.size⟩
theorem BoxW.below {W W' : World} {B : Nat} {a b : Value} (h : BoxW W B a b) (hb : Below W.heap.size W W') : BoxW W' B a b := h.under hb h.z
theorem BoxW.drew {W : World} {B : Nat} {a b : Value} (h : BoxW W B a b) : BoxW W.drew B a b := ⟨h.c0, h.f0, h.c1, h.f1, h.z⟩
theorem BoxW.alloc {W : World} {B : Nat} {a b : Value} (h : BoxW W B a b) (o : Obj) : BoxW (W.alloc o) B a b := h.below ((Below.refl _ _).alloc (Nat.le_refl _) _)
theorem boxw_new (w : World) (a b : Value) (t : Nat) : BoxW (w.alloc (.cells #[a, b] t)) w.heap.size a b := ⟨by simp [go_sem], by simp [go_sem], by simp [go_sem], by simp [go_sem], by simp⟩
/-- The boxes of a side and a spot, and a channel. -/
structure Desk (W : World) (B : Nat) (cx cy b sx sy l x y : Int) : Prop where
  s : Box6 W B (.int .i64 cx) (.int .i64 cy) (.int .i64 b) (.int .i64 sx) (.int .i64 sy) (.int .i64 l)
  p : Box2 W (B + 1) (.int .i64 x) (.int .i64 y)
  ch : W.heap[B + 1 + 1]? = some (.chan 1 #[] false 0 0 false)
  z : B + 1 + 1 < W.heap.size
theorem Desk.below {W W' : World} {B : Nat} {cx cy b sx sy l x y : Int} (h : Desk W B cx cy b sx sy l x y) (hb : Below W.heap.size W W') : Desk W' B cx cy b sx sy l x y :=
  ⟨h.s.below hb, h.p.below hb, (hb.block _ h.z).trans h.ch, Nat.lt_of_lt_of_le h.z hb.size⟩
theorem Desk.drew {W : World} {B : Nat} {cx cy b sx sy l x y : Int} (h : Desk W B cx cy b sx sy l x y) : Desk W.drew B cx cy b sx sy l x y := ⟨h.s.drew, h.p.drew, h.ch, h.z⟩
theorem Desk.all {W : World} {B : Nat} {cx cy b sx sy l x y : Int} (h : Desk W B cx cy b sx sy l x y) :
    W.cell? ⟨B, 0, none⟩ = some (.int .i64 cx) ∧ W.cell? ⟨B, 1, none⟩ = some (.int .i64 cy) ∧ W.cell? ⟨B, 3, none⟩ = some (.int .i64 sx) ∧ W.cell? ⟨B, 4, none⟩ = some (.int .i64 sy) ∧ W.cell? ⟨B, 5, none⟩ = some (.int .i64 l) ∧
      W.cell? ⟨B + 1, 0, none⟩ = some (.int .i64 x) ∧ W.cell? ⟨B + 1, 1, none⟩ = some (.int .i64 y) := ⟨h.s.c0, h.s.c1, h.s.c3, h.s.c4, h.s.c5, h.p.c0, h.p.c1⟩
theorem desk_new (w : World) (cx cy b sx sy l x y : Int) (t u : Nat) :
    Desk (((w.alloc (.cells #[.int .i64 cx, .int .i64 cy, .int .i64 b, .int .i64 sx, .int .i64 sy, .int .i64 l] t)).alloc (.cells #[.int .i64 x, .int .i64 y] u)).alloc (.chan 1 #[] false 0 0 false)) w.heap.size cx cy b sx sy l x y := by
  refine ⟨((box6_new _ _ _ _ _ _ _ _).alloc _).alloc _, ?_, ?_, by simp⟩
  · have h := (box2_new (w.alloc (.cells #[.int .i64 cx, .int .i64 cy, .int .i64 b, .int .i64 sx, .int .i64 sy, .int .i64 l] t)) (.int .i64 x) (.int .i64 y) u).alloc (.chan 1 #[] false 0 0 false)
    simpa using h
  · have h := heap_alloc_new ((w.alloc (.cells #[.int .i64 cx, .int .i64 cy, .int .i64 b, .int .i64 sx, .int .i64 sy, .int .i64 l] t)).alloc (.cells #[.int .i64 x, .int .i64 y] u)) (.chan 1 #[] false 0 0 false)
    simpa using h
/-- What is asked of a side and a spot. -/
structure SdB (cx cy b sx sy l x y : Int) : Prop where
  a0 : -100000 ≤ cx
  a1 : cx ≤ 100000
  b0 : -100000 ≤ cy
  b1 : cy ≤ 100000
  x0 : -100000 ≤ x
  x1 : x ≤ 100000
  y0 : -100000 ≤ y
  y1 : y ≤ 100000
  u0 : -1 ≤ sx
  u1 : sx ≤ 1
  v0 : -1 ≤ sy
  v1 : sy ≤ 1
  n0 : 0 ≤ b
  n1 : b ≤ 1000000000
set_option maxRecDepth 4000 in
set_option maxHeartbeats 1600000 in
theorem side_yes (cx cy b sx sy l x y k : Int) (w : World) (h : SdB cx cy b sx sy l x y) (hk : sz (x - cx) (y - cy) = k) (h1 : 1 ≤ k) (h2 : k ≤ l) (hx : cx + k * sx = x) (hy : cy + k * sy = y) :
    Calls Try.prog 99 #[.agg #[.int .i64 cx, .int .i64 cy, .int .i64 b, .int .i64 sx, .int .i64 sy, .int .i64 l], .agg #[.int .i64 x, .int .i64 y]] w fun e w' =>
      ∃ c, e = .returned (.chan (some c)) ∧ w'.heap[c]? = some (.chan 1 #[.int .i64 (b + k)] false 1 0 false) ∧ w.heap.size ≤ c ∧ c < w'.heap.size ∧ Below w.heap.size w w' := by
  obtain ⟨a0, a1, b0, b1, x0, x1, y0, y1, u0, u1, v0, v1, n0, n1⟩ := h
  have hk2 : k ≤ 1000000 := by rw [← hk]; unfold sz ab; omega
  have HW := Lib.hid fun W => wayTo_any cx cy x y W (by omega) (by omega) (by omega) (by omega) (by omega) (by omega) (by omega) (by omega)
  have HR := Lib.hid fun W => squareRing_any (x - cx) (y - cy) W (by omega) (by omega) (by omega) (by omega)
  rw [hk] at HR
  have HL := Lib.hid fun W => ledBy_any cx cy sx sy k x y W (led_small _ _ _ _ _ (by omega) (by omega) (by omega) (by omega) u0 u1 v0 v1 (by omega) (by omega)) hx hy
  have HI := Lib.hid (betr_yes h1 h2)
  have hq : ∀ W : World, (Op.equalIn 10000 53 (.agg #[.int .i64 x, .int .i64 y]) (.agg #[.int .i64 x, .int .i64 y])).run Try.prog W = .ok true W := fun W => by
    rw [eq_vec]
    simp
  have hw : IntKind.i64.wrap (b + k) = b + k := IntWalk.i64_in _ (by omega)
  have hmc := mk_chan
  clear a0 a1 b0 b1 x0 x1 y0 y1 u0 u1 v0 v1 hx hy hk h1 h2 n0 n1 hk2
  go_enter Try.func99, Try.ntmps99
  go_wp2_with fail
  have hD := desk_new w cx cy b sx sy l x y 77 53
  have hB := bl3 w (.cells #[.int .i64 cx, .int .i64 cy, .int .i64 b, .int .i64 sx, .int .i64 sy, .int .i64 l] 77) (.cells #[.int .i64 x, .int .i64 y] 53) (.chan 1 #[] false 0 0 false)
  generalize ((w.alloc (.cells #[.int .i64 cx, .int .i64 cy, .int .i64 b, .int .i64 sx, .int .i64 sy, .int .i64 l] 77)).alloc (.cells #[.int .i64 x, .int .i64 y] 53)).alloc (.chan 1 #[] false 0 0 false) = wb at *
  have HD := Lib.hid hD
  have HB := Lib.hid hB
  clear hD hB hmc
  go_wp2_with (first
    | (go_at_call 104; refine (HW.out _).mono ?_; rintro e w1 ⟨rfl, hb1⟩; have HD1 := Lib.hid (HD.out.below hb1); have HB1 := Lib.hid (HB.out.trans (hb1.mono HB.out.size)))
    | (go_at_call 96; refine (HR.out _).mono ?_; rintro e w2 ⟨rfl, hb2⟩; have HD2 := Lib.hid (HD1.out.below hb2); have HB2 := Lib.hid (HB1.out.trans (hb2.mono HB1.out.size))))
  clear HD HB HD1 HB1 hb1 hb2
  have HD := HD2
  have HB := HB2
  clear HD2 HB2
  go_region_held3 (fun w' => w'.cell? ⟨w.heap.size, 0, none⟩ = some (.int .i64 cx) ∧ w'.cell? ⟨w.heap.size, 1, none⟩ = some (.int .i64 cy) ∧ w'.cell? ⟨w.heap.size, 3, none⟩ = some (.int .i64 sx) ∧ w'.cell? ⟨w.heap.size, 4, none⟩ = some (.int .i64 sy) ∧ w'.cell? ⟨w.heap.size, 5, none⟩ = some (.int .i64 l) ∧ w'.cell? ⟨w.heap.size + 1, 0, none⟩ = some (.int .i64 x) ∧ w'.cell? ⟨w.heap.size + 1, 1, none⟩ = some (.int .i64 y))
    (first | with_reducible exact HD.out.all | with_reducible exact HD.out.drew.all)
    (first
      | (go_at_call 76; refine (rwithin_any _ _ _ _).mono ?_; rw [HI.out]; rintro e w3 ⟨rfl, rfl⟩)
      | (go_at_call 84; refine (HL.out _).mono ?_; rintro e w4 ⟨rfl, hb4⟩; have HD := Lib.hid (HD.out.drew.below hb4); have HB := Lib.hid (HB.out.drew.trans (hb4.mono HB.out.drew.size)); clear hb4))
  go_upto_region 4 with fail
  have k2 := HD.out.s.c2
  refine OpsTo.region ?_
  simp only [List.size_toArray, List.length_cons, List.length_nil, Nat.reduceAdd, Nat.zero_add, List.range, List.range.loop]
  refine OpsTo.val (v := .chan (some (w.heap.size + 1 + 1))) (w' := w4) rfl rfl rfl (by simp [go_sem, execOp, Act.eval]) ?_
  simp only [List.setIfInBounds_toArray, List.set_cons_zero, List.set_cons_succ]
  refine OpsTo.val (v := .pointer (some ⟨w.heap.size, 2, none⟩)) (w' := w4) rfl rfl rfl (by simp [go_sem, execOp, Act.eval]) ?_
  simp only [List.setIfInBounds_toArray, List.set_cons_zero, List.set_cons_succ]
  refine OpsTo.val (v := .int .i64 b) (w' := w4) rfl rfl rfl (by simp [go_sem, execOp, Act.eval, k2]) ?_
  simp only [List.setIfInBounds_toArray, List.set_cons_zero, List.set_cons_succ]
  refine OpsTo.val (v := .int .i64 k) (w' := w4) rfl rfl rfl (by simp [go_sem, execOp, Act.eval]) ?_
  simp only [List.setIfInBounds_toArray, List.set_cons_zero, List.set_cons_succ]
  refine OpsTo.val (v := .int .i64 (b + k)) (w' := w4) rfl rfl rfl (by simp [go_sem, execOp, Act.eval, hw]) ?_
  simp only [List.setIfInBounds_toArray, List.set_cons_zero, List.set_cons_succ]
  refine OpsTo.send_ (c := w.heap.size + 1 + 1) (v := .int .i64 (b + k)) (z := .tuple #[]) (w' := w4) rfl rfl rfl (by simp [go_sem, execOp, Act.eval, scase]) HD.out.ch (by simp) ?_
  refine OpsTo.done ?_
  have hB := below_setChan HB.out (c := w.heap.size + 1 + 1) (by omega) 1 #[.int .i64 (b + k)] false 1 0 false
  have hC := heap_setChan w4 (w.heap.size + 1 + 1) 1 #[.int .i64 (b + k)] false 1 0 false HD.out.z
  have hS := size_setChan w4 (w.heap.size + 1 + 1) 1 #[.int .i64 (b + k)] false 1 0 false
  have hz := HD.out.z
  simp only [List.push_toArray, List.nil_append, Nat.zero_add]
  generalize w4.setChan (w.heap.size + 1 + 1) 1 #[.int .i64 (b + k)] false 1 0 false = w5 at *
  go_wp2
  go_ret
  exact ⟨_, rfl, hC, by omega, by omega, hB⟩
set_option maxRecDepth 4000 in
set_option maxHeartbeats 1600000 in
theorem side_no (cx cy b sx sy l x y k : Int) (w : World) (h : SdB cx cy b sx sy l x y) (hk : sz (x - cx) (y - cy) = k) (hno : ¬ (1 ≤ k ∧ k ≤ l ∧ cx + k * sx = x ∧ cy + k * sy = y)) :
    Calls Try.prog 99 #[.agg #[.int .i64 cx, .int .i64 cy, .int .i64 b, .int .i64 sx, .int .i64 sy, .int .i64 l], .agg #[.int .i64 x, .int .i64 y]] w fun e w' =>
      ∃ c, e = .returned (.chan (some c)) ∧ w'.heap[c]? = some (.chan 1 #[] false 0 0 false) ∧ w.heap.size ≤ c ∧ c < w'.heap.size ∧ Below w.heap.size w w' := by
  obtain ⟨a0, a1, b0, b1, x0, x1, y0, y1, u0, u1, v0, v1, n0, n1⟩ := h
  have hk2 : k ≤ 1000000 := by rw [← hk]; unfold sz ab; omega
  have hk0 : 0 ≤ k := by rw [← hk]; exact sz_nn _ _
  have HW := Lib.hid fun W => wayTo_any cx cy x y W (by omega) (by omega) (by omega) (by omega) (by omega) (by omega) (by omega) (by omega)
  have HR := Lib.hid fun W => squareRing_any (x - cx) (y - cy) W (by omega) (by omega) (by omega) (by omega)
  rw [hk] at HR
  have HL := Lib.hid fun W => ledBy_any cx cy sx sy k _ _ W (led_small _ _ _ _ _ (by omega) (by omega) (by omega) (by omega) u0 u1 v0 v1 (by omega) (by omega)) rfl rfl
  have hmc := mk_chan
  by_cases hin : k < 1 ∨ l < k
  · have HI := Lib.hid (betr_no hin)
    clear a0 a1 b0 b1 x0 x1 y0 y1 u0 u1 v0 v1 hk n0 n1 hk2 hk0 hin hno
    go_enter Try.func99, Try.ntmps99
    go_wp2_with fail
    have hD := desk_new w cx cy b sx sy l x y 77 53
    have hB := bl3 w (.cells #[.int .i64 cx, .int .i64 cy, .int .i64 b, .int .i64 sx, .int .i64 sy, .int .i64 l] 77) (.cells #[.int .i64 x, .int .i64 y] 53) (.chan 1 #[] false 0 0 false)
    generalize ((w.alloc (.cells #[.int .i64 cx, .int .i64 cy, .int .i64 b, .int .i64 sx, .int .i64 sy, .int .i64 l] 77)).alloc (.cells #[.int .i64 x, .int .i64 y] 53)).alloc (.chan 1 #[] false 0 0 false) = wb at *
    have HD := Lib.hid hD
    have HB := Lib.hid hB
    clear hD hB hmc
    go_wp2_with (first
      | (go_at_call 104; refine (HW.out _).mono ?_; rintro e w1 ⟨rfl, hb1⟩; have HD1 := Lib.hid (HD.out.below hb1); have HB1 := Lib.hid (HB.out.trans (hb1.mono HB.out.size)))
      | (go_at_call 96; refine (HR.out _).mono ?_; rintro e w2 ⟨rfl, hb2⟩; have HD2 := Lib.hid (HD1.out.below hb2); have HB2 := Lib.hid (HB1.out.trans (hb2.mono HB1.out.size))))
    clear HD HB HD1 HB1 hb1 hb2
    have HD := HD2
    have HB := HB2
    clear HD2 HB2
    obtain ⟨k0, k1, k3, k4, k5, m0, m1⟩ := HD.out.all
    go_quiet (first
      | (go_at_call 76; refine (rwithin_any _ _ _ _).mono ?_; rw [HI.out]; rintro e w3 ⟨rfl, rfl⟩; exact ⟨rfl, _, rfl⟩))
    go_wp2
    go_ret
    have hz := HD.out.z
    exact ⟨_, rfl, HD.out.ch, by omega, hz, below_drewN HB.out _⟩
  · have HI := Lib.hid (betr_yes (x := k) (lo := 1) (hi := l) (by omega) (by omega))
    have hne : ¬ (cx + k * sx = x ∧ cy + k * sy = y) := fun e => hno ⟨by omega, by omega, e.1, e.2⟩
    have hq : ∀ W : World, (Op.equalIn 10000 53 (.agg #[.int .i64 (cx + k * sx), .int .i64 (cy + k * sy)]) (.agg #[.int .i64 x, .int .i64 y])).run Try.prog W = .ok false W := fun W => by
      rw [eq_vec]
      have : (cx + k * sx == x && cy + k * sy == y) = false := by
        rw [Bool.and_eq_false_iff]
        by_cases e : cx + k * sx = x
        · exact .inr (by simpa using fun g => hne ⟨e, g⟩)
        · exact .inl (by simpa using e)
      rw [this]
    clear a0 a1 b0 b1 x0 x1 y0 y1 u0 u1 v0 v1 hk n0 n1 hk2 hk0 hin hno hne
    generalize cx + k * sx = xx at *
    generalize cy + k * sy = yy at *
    go_enter Try.func99, Try.ntmps99
    go_wp2_with fail
    have hD := desk_new w cx cy b sx sy l x y 77 53
    have hB := bl3 w (.cells #[.int .i64 cx, .int .i64 cy, .int .i64 b, .int .i64 sx, .int .i64 sy, .int .i64 l] 77) (.cells #[.int .i64 x, .int .i64 y] 53) (.chan 1 #[] false 0 0 false)
    generalize ((w.alloc (.cells #[.int .i64 cx, .int .i64 cy, .int .i64 b, .int .i64 sx, .int .i64 sy, .int .i64 l] 77)).alloc (.cells #[.int .i64 x, .int .i64 y] 53)).alloc (.chan 1 #[] false 0 0 false) = wb at *
    have HD := Lib.hid hD
    have HB := Lib.hid hB
    clear hD hB hmc
    go_wp2_with (first
      | (go_at_call 104; refine (HW.out _).mono ?_; rintro e w1 ⟨rfl, hb1⟩; have HD1 := Lib.hid (HD.out.below hb1); have HB1 := Lib.hid (HB.out.trans (hb1.mono HB.out.size)))
      | (go_at_call 96; refine (HR.out _).mono ?_; rintro e w2 ⟨rfl, hb2⟩; have HD2 := Lib.hid (HD1.out.below hb2); have HB2 := Lib.hid (HB1.out.trans (hb2.mono HB1.out.size))))
    clear HD HB HD1 HB1 hb1 hb2
    have HD := HD2
    have HB := HB2
    clear HD2 HB2
    go_region_held3 (fun w' => w'.cell? ⟨w.heap.size, 0, none⟩ = some (.int .i64 cx) ∧ w'.cell? ⟨w.heap.size, 1, none⟩ = some (.int .i64 cy) ∧ w'.cell? ⟨w.heap.size, 3, none⟩ = some (.int .i64 sx) ∧ w'.cell? ⟨w.heap.size, 4, none⟩ = some (.int .i64 sy) ∧ w'.cell? ⟨w.heap.size, 5, none⟩ = some (.int .i64 l) ∧ w'.cell? ⟨w.heap.size + 1, 0, none⟩ = some (.int .i64 x) ∧ w'.cell? ⟨w.heap.size + 1, 1, none⟩ = some (.int .i64 y))
      (first | with_reducible exact HD.out.all | with_reducible exact HD.out.drew.all)
      (first
        | (go_at_call 76; refine (rwithin_any _ _ _ _).mono ?_; rw [HI.out]; rintro e w3 ⟨rfl, rfl⟩)
        | (go_at_call 84; refine (HL.out _).mono ?_; rintro e w4 ⟨rfl, hb4⟩; have HD := Lib.hid (HD.out.drew.below hb4); have HB := Lib.hid (HB.out.drew.trans (hb4.mono HB.out.drew.size)); clear hb4))
    go_wp2
    go_ret
    have hz := HD.out.z
    exact ⟨_, rfl, HD.out.ch, by omega, by omega, HB.out⟩
end Go.Proofs.Ythnjjpiofgbngaa
