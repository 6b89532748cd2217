/- Chapter 6: the program's small functions: sizes, vectors, bounds. -/
import Derived.Test.YthnjjpiofgbngaaSiS
import Derived.Test.YthnjjpiofgbngaaSiA
import Derived.Test.YthnjjpiofgbngaaRuA
import Derived.Test.YthnjjpiofgbngaaImC
import Derived.Deep.RegionHeld3
import Derived.BigRegion
namespace Go.Proofs.Ythnjjpiofgbngaa
open Go.RowKit

theorem agg2 {a b c d : Int} (h : a = c) (g : b = d) : Ending.returned (.agg #[.int .i64 a, .int .i64 b]) = .returned (.agg #[.int .i64 c, .int .i64 d]) := by rw [h, g]
theorem bl2 (w : World) (o p : Obj) : Below w.heap.size w ((w.alloc o).alloc p) := ((Below.refl _ _).alloc (Nat.le_refl _) _).alloc (by simp) _
theorem bl3 (w : World) (o p q : Obj) : Below w.heap.size w (((w.alloc o).alloc p).alloc q) := (bl2 w o p).alloc (by simp; omega) _
/-- A box of two numbers that was made last stands behind a call. -/
theorem kept2 {W w1 : World} {a b : Value} {t R : Nat} (hb : Below (W.alloc (.cells #[a, b] t)).heap.size (W.alloc (.cells #[a, b] t)) w1) (hR : R = W.heap.size) :
    w1.cell? ⟨R, 0, none⟩ = some a ∧ w1.frozen? ⟨R, 0, none⟩ = false ∧ w1.cell? ⟨R, 1, none⟩ = some b ∧ w1.frozen? ⟨R, 1, none⟩ = false ∧ R < w1.heap.size := by
  subst hR
  have hz := hb.size
  simp at hz
  exact ⟨(hb.cell (p := ⟨W.heap.size, 0, none⟩) (by simp)).trans (by simp [go_sem]), (hb.frozen (p := ⟨W.heap.size, 0, none⟩) (by simp)).trans (by simp [go_sem]),
    (hb.cell (p := ⟨W.heap.size, 1, none⟩) (by simp)).trans (by simp [go_sem]), (hb.frozen (p := ⟨W.heap.size, 1, none⟩) (by simp)).trans (by simp [go_sem]), by omega⟩
theorem put2 {W : World} {R : Nat} {a b : Value} (c0 : W.cell? ⟨R, 0, none⟩ = some a) (c1 : W.cell? ⟨R, 1, none⟩ = some b) (p q : Value) :
    ((W.setCell ⟨R, 0, none⟩ p).setCell ⟨R, 1, none⟩ q).cell? ⟨R, 0, none⟩ = some p ∧ ((W.setCell ⟨R, 0, none⟩ p).setCell ⟨R, 1, none⟩ q).cell? ⟨R, 1, none⟩ = some q := by
  constructor
  · rw [World.cell?_setCell_other _ _ _ _ (by intro e; simp only [Addr.mk.injEq] at e; omega)]
    exact World.cell?_setCell_same W _ _ c0
  · exact World.cell?_setCell_same _ _ _ ((World.cell?_setCell_other W _ _ _ (by intro e; simp only [Addr.mk.injEq] at e; omega)).trans c1)
theorem sizeOf_any (n : Int) (w : World) (h0 : -1000000000 ≤ n) (h1 : n ≤ 1000000000) :
    Calls Try.prog 81 #[.int .i64 n] w fun e w' => e = .returned (.int .i64 (ab n)) ∧ w = w' := by
  have h : ab n = max n (-n) := rfl
  have H := Lib.hid h
  clear h
  go_enter Try.func81, Try.ntmps81
  go_wp2
  all_goals
    go_ret
    refine ⟨ret_int ?_, rfl⟩
    have := H.out
    omega
theorem vectorTo_any (x y : Int) (w : World) :
    Calls Try.prog 72 #[.agg #[.int .i64 x, .int .i64 y]] w fun e w' => e = .returned (.agg #[.int .i64 x, .int .i64 y]) ∧ Below w.heap.size w w' := by
  go_enter Try.func72, Try.ntmps72
  go_wp2
  exact bodyPost_ret (v := .agg #[.int .i64 x, .int .i64 y]) (by simp [results, Try.results72, go_sem]) rfl ⟨rfl, bl2 _ _ _⟩
theorem vspot_any (x y : Int) (w : World) :
    Calls Try.prog 67 #[.agg #[.int .i64 x, .int .i64 y]] w fun e w' => e = .returned (.agg #[.int .i64 x, .int .i64 y]) ∧ Below w.heap.size w w' := by
  go_enter Try.func67, Try.ntmps67
  go_wp2
  exact bodyPost_ret (v := .agg #[.int .i64 x, .int .i64 y]) (by simp [results, Try.results67, go_sem]) rfl ⟨rfl, bl2 _ _ _⟩
/-- What a step is asked for that is made k times. -/
structure Led (x y u v k : Int) : Prop where
  x0 : -1000000000 ≤ x
  x1 : x ≤ 1000000000
  y0 : -1000000000 ≤ y
  y1 : y ≤ 1000000000
  a0 : -1000000000 ≤ k * u
  a1 : k * u ≤ 1000000000
  b0 : -1000000000 ≤ k * v
  b1 : k * v ≤ 1000000000
theorem ledBy_any (x y u v k a b : Int) (w : World) (h : Led x y u v k) (ha : x + k * u = a) (hb : y + k * v = b) :
    Calls Try.prog 84 #[.agg #[.int .i64 x, .int .i64 y], .agg #[.int .i64 u, .int .i64 v], .int .i64 k] w fun e w' => e = .returned (.agg #[.int .i64 a, .int .i64 b]) ∧ Below w.heap.size w w' := by
  subst ha hb
  obtain ⟨x0, x1, y0, y1, a0, a1, b0, b1⟩ := h
  have e1 : IntKind.i64.wrap (k * u) = k * u := IntWalk.i64_in _ (by omega)
  have e2 : IntKind.i64.wrap (k * v) = k * v := IntWalk.i64_in _ (by omega)
  have e3 : IntKind.i64.wrap (x + k * u) = x + k * u := IntWalk.i64_in _ (by omega)
  have e4 : IntKind.i64.wrap (y + k * v) = y + k * v := IntWalk.i64_in _ (by omega)
  clear x0 x1 y0 y1 a0 a1 b0 b1
  go_enter Try.func84, Try.ntmps84
  go_wp2
  exact bodyPost_ret (v := .agg #[.int .i64 (x + k * u), .int .i64 (y + k * v)]) (by simp [results, Try.results84, go_sem]) rfl ⟨rfl, bl3 _ _ _ _⟩
theorem led_small (x y u v k : Int) (x0 : -1000000000 ≤ x) (x1 : x ≤ 1000000000) (y0 : -1000000000 ≤ y) (y1 : y ≤ 1000000000) (u0 : -1 ≤ u) (u1 : u ≤ 1) (v0 : -1 ≤ v) (v1 : v ≤ 1) (k0 : -1000000000 ≤ k) (k1 : k ≤ 1000000000) : Led x y u v k := by
  have hu : u = -1 ∨ u = 0 ∨ u = 1 := by omega
  have hv : v = -1 ∨ v = 0 ∨ v = 1 := by omega
  refine ⟨x0, x1, y0, y1, ?_, ?_, ?_, ?_⟩
  · rcases hu with rfl | rfl | rfl <;> omega
  · rcases hu with rfl | rfl | rfl <;> omega
  · rcases hv with rfl | rfl | rfl <;> omega
  · rcases hv with rfl | rfl | rfl <;> omega
theorem wayTo_any (x y u v : Int) (w : World) (x0 : -1000000 ≤ x) (x1 : x ≤ 1000000) (y0 : -1000000 ≤ y) (y1 : y ≤ 1000000) (u0 : -1000000 ≤ u) (u1 : u ≤ 1000000) (v0 : -1000000 ≤ v) (v1 : v ≤ 1000000) :
    Calls Try.prog 104 #[.agg #[.int .i64 x, .int .i64 y], .agg #[.int .i64 u, .int .i64 v]] w fun e w' => e = .returned (.agg #[.int .i64 (u - x), .int .i64 (v - y)]) ∧ Below w.heap.size w w' := by
  have HL := Lib.hid fun W => ledBy_any u v x y (-1) (u - x) (v - y) W ⟨by omega, by omega, by omega, by omega, by omega, by omega, by omega, by omega⟩ (by omega) (by omega)
  clear x0 x1 y0 y1 u0 u1 v0 v1
  go_enter Try.func104, Try.ntmps104
  go_wp2_with (go_at_call 84; refine (HL.out _).mono ?_; rintro e w1 ⟨rfl, hb1⟩; obtain ⟨c0, f0, c1, f1, hz⟩ := kept2 (R := w.heap.size + 1 + 1) hb1 (by simp))
  have hB : Below w.heap.size w ((w1.setCell ⟨w.heap.size + 1 + 1, 0, none⟩ (.int .i64 (u - x))).setCell ⟨w.heap.size + 1 + 1, 1, none⟩ (.int .i64 (v - y))) := (((bl3 w _ _ _).trans (hb1.mono (by simp; omega))).setCell (by simp; omega) _).setCell (by simp; omega) _
  obtain ⟨d0, d1⟩ := put2 c0 c1 (.int .i64 (u - x)) (.int .i64 (v - y))
  generalize ((w1.setCell ⟨w.heap.size + 1 + 1, 0, none⟩ (.int .i64 (u - x))).setCell ⟨w.heap.size + 1 + 1, 1, none⟩ (.int .i64 (v - y))) = wE at *
  exact bodyPost_ret (v := .agg #[.int .i64 (u - x), .int .i64 (v - y)]) (by simp [results, Try.results104, go_sem, d0, d1]) rfl ⟨rfl, hB⟩
theorem cf_square : ∀ (args : Array Value) (W : World), (callFunc 96 args).run Try.prog W = .ok (.enter 96 args) W := fun _ _ => by kernel_rfl
set_option maxRecDepth 4000 in
theorem squareRing_any (x y : Int) (w : World) (x0 : -1000000 ≤ x) (x1 : x ≤ 1000000) (y0 : -1000000 ≤ y) (y1 : y ≤ 1000000) :
    Calls Try.prog 96 #[.agg #[.int .i64 x, .int .i64 y]] w fun e w' => e = .returned (.int .i64 (sz x y)) ∧ Below w.heap.size w w' := by
  have HA := Lib.hid fun W => sizeOf_any x W (by omega) (by omega)
  have HC := Lib.hid fun W => sizeOf_any y W (by omega) (by omega)
  have hs : sz x y = max (ab x) (ab y) := rfl
  have HS := Lib.hid hs
  clear hs x0 x1 y0 y1
  generalize sz x y = r at *
  generalize ab x = a at *
  generalize ab y = b at *
  go_enter Try.func96, Try.ntmps96
  go_wp2_with fail
  go_region_held3 (fun w' => w' = (w.alloc (.cells #[.int .i64 x, .int .i64 y] 53)).drew)
    (first | rfl)
    (first
      | (go_at_call 81; refine (HA.out _).mono ?_; rintro e w1 ⟨rfl, rfl⟩)
      | (go_at_call 81; refine (HC.out _).mono ?_; rintro e w1 ⟨rfl, rfl⟩))
  all_goals
    go_wp2
    all_goals
      go_ret
      refine ⟨ret_int ?_, (Below.refl _ _).alloc (Nat.le_refl _) _ |>.drew⟩
      have := HS.out
      omega
theorem cf_hexagon : ∀ (args : Array Value) (W : World), (callFunc 90 args).run Try.prog W = .ok (.enter 90 args) W := fun _ _ => by kernel_rfl
set_option maxRecDepth 4000 in
theorem hexagonRing_any (x y : Int) (w : World) (x0 : -1000000 ≤ x) (x1 : x ≤ 1000000) (y0 : -1000000 ≤ y) (y1 : y ≤ 1000000) :
    Calls Try.prog 90 #[.agg #[.int .i64 x, .int .i64 y]] w fun e w' => e = .returned (.int .i64 (hsz x y)) ∧ Below w.heap.size w w' := by
  have HA := Lib.hid fun W => squareRing_any x y W (by omega) (by omega) (by omega) (by omega)
  have HC := Lib.hid fun W => sizeOf_any (x + y) W (by omega) (by omega)
  have hs : hsz x y = max (sz x y) (ab (x + y)) := rfl
  have hp : IntKind.i64.wrap (x + y) = x + y := IntWalk.i64_in _ (by omega)
  have HS := Lib.hid hs
  clear hs x0 x1 y0 y1
  generalize hsz x y = r at *
  generalize sz x y = a at *
  generalize ab (x + y) = b at *
  have hB : Below w.heap.size w (w.alloc (.cells #[.int .i64 x, .int .i64 y] 53)) := (Below.refl _ _).alloc (Nat.le_refl _) _
  have z : w.heap.size < (w.alloc (.cells #[.int .i64 x, .int .i64 y] 53)).heap.size := by simp
  have c0 : (w.alloc (.cells #[.int .i64 x, .int .i64 y] 53)).cell? ⟨w.heap.size, 0, none⟩ = some (.int .i64 x) := by simp [go_sem]
  have c1 : (w.alloc (.cells #[.int .i64 x, .int .i64 y] 53)).cell? ⟨w.heap.size, 1, none⟩ = some (.int .i64 y) := by simp [go_sem]
  go_enter Try.func90, Try.ntmps90
  go_wp2_with fail
  generalize w.alloc (.cells #[.int .i64 x, .int .i64 y] 53) = wa at *
  have HB := Lib.hid hB
  have HZ := Lib.hid z
  clear hB z
  go_region_held3 (fun w' => w'.cell? ⟨w.heap.size, 0, none⟩ = some (.int .i64 x) ∧ w'.cell? ⟨w.heap.size, 1, none⟩ = some (.int .i64 y))
    (first | exact ⟨c0, c1⟩ | exact ⟨(hb1.cell (p := ⟨w.heap.size, 0, none⟩) HZ.out).trans c0, (hb1.cell (p := ⟨w.heap.size, 1, none⟩) HZ.out).trans c1⟩)
    (first
      | (go_at_call 96; refine (HA.out _).mono ?_; rintro e w1 ⟨rfl, hb1⟩; have HB1 := Lib.hid (show Below w.heap.size w w1 from (by first | exact HB.out.trans (hb1.mono HB.out.size) | exact HB.out.drew.trans (hb1.mono HB.out.size))))
      | (go_at_call 81; refine (HC.out _).mono ?_; rintro e w2 ⟨rfl, rfl⟩))
  all_goals
    go_wp2
    all_goals
      go_ret
      refine ⟨ret_int ?_, HB1.out⟩
      have := HS.out
      omega
end Go.Proofs.Ythnjjpiofgbngaa
