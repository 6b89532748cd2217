/- Chapter 6: the program's spirals: their steps, the rule of their rings, rings, the last number of a ring. -/
import Derived.Test.YthnjjpiofgbngaaSiT
import Derived.Laws.EntriesVeiled
namespace Go.Proofs.Ythnjjpiofgbngaa
open Go.ChangeShapes Go.WideShapes Go.ChangeAt Go.RowKit

theorem kept3 {W w1 : World} {a b c : Value} {t R : Nat} (hb : Below (W.alloc (.cells #[a, b, c] t)).heap.size (W.alloc (.cells #[a, b, c] t)) w1) (hR : R = W.heap.size) :
    w1.cell? ⟨R, 0, none⟩ = some a ∧ w1.frozen? ⟨R, 0, none⟩ = false ∧ w1.cell? ⟨R, 1, none⟩ = some b ∧ w1.frozen? ⟨R, 1, none⟩ = false ∧ w1.cell? ⟨R, 2, none⟩ = some c ∧ w1.frozen? ⟨R, 2, none⟩ = false ∧ R < w1.heap.size := by
  subst hR
  have hz := hb.size
  simp at hz
  exact ⟨(hb.cell (p := ⟨W.heap.size, 0, none⟩) (by simp)).trans (by simp [go_sem]), (hb.frozen (p := ⟨W.heap.size, 0, none⟩) (by simp)).trans (by simp [go_sem]),
    (hb.cell (p := ⟨W.heap.size, 1, none⟩) (by simp)).trans (by simp [go_sem]), (hb.frozen (p := ⟨W.heap.size, 1, none⟩) (by simp)).trans (by simp [go_sem]),
    (hb.cell (p := ⟨W.heap.size, 2, none⟩) (by simp)).trans (by simp [go_sem]), (hb.frozen (p := ⟨W.heap.size, 2, none⟩) (by simp)).trans (by simp [go_sem]), by omega⟩
theorem put_far {W : World} {R Q : Nat} {o o' : Nat} {v u : Value} (h : W.cell? ⟨Q, o', none⟩ = some u) (hne : ¬ (Q = R ∧ o' = o)) : (W.setCell ⟨R, o, none⟩ v).cell? ⟨Q, o', none⟩ = some u :=
  (World.cell?_setCell_other W _ _ _ (by intro e; simp only [Addr.mk.injEq] at e; exact hne (by omega))).trans h
theorem put3 {W : World} {R : Nat} {a b c : Value} (c0 : W.cell? ⟨R, 0, none⟩ = some a) (c1 : W.cell? ⟨R, 1, none⟩ = some b) (c2 : W.cell? ⟨R, 2, none⟩ = some c) (p q r : Value) :
    (((W.setCell ⟨R, 0, none⟩ p).setCell ⟨R, 1, none⟩ q).setCell ⟨R, 2, none⟩ r).cell? ⟨R, 0, none⟩ = some p ∧ (((W.setCell ⟨R, 0, none⟩ p).setCell ⟨R, 1, none⟩ q).setCell ⟨R, 2, none⟩ r).cell? ⟨R, 1, none⟩ = some q ∧
    (((W.setCell ⟨R, 0, none⟩ p).setCell ⟨R, 1, none⟩ q).setCell ⟨R, 2, none⟩ r).cell? ⟨R, 2, none⟩ = some r := by
  obtain ⟨d0, d1⟩ := put2 c0 c1 p q
  refine ⟨put_far d0 (by omega), put_far d1 (by omega), ?_⟩
  exact World.cell?_setCell_same _ _ _ (put_far (put_far c2 (by omega)) (by omega))
theorem squareSpiral_any (w : World) :
    Calls Try.prog 65 #[] w fun e w' => (∃ R, e = .returned (.agg #[.slice (some ⟨R, 0, none⟩) 4 4, .int .i64 2, .func (.func 96) #[] #[]]) ∧ Own w' w.heap.size w'.heap.size (some ⟨R, 0, none⟩) (prs sqK.ss)) ∧ Below w.heap.size w w' := by
  go_enter Try.func65, Try.ntmps65
  go_wp2
  exact bodyPost_ret (v := .agg #[.slice (some ⟨w.heap.size + 1, 0, none⟩) 4 4, .int .i64 2, .func (.func 96) #[] #[]]) (by simp [results, Try.results65, go_sem]) rfl
    ⟨⟨_, rfl, fun _ => ⟨w.heap.size + 1, 0, rfl, by omega, by simp, fun j u hu => ⟨by rw [World.cell?_alloc_at _ _ _ _ (by simp)]; simpa [prs, sqK] using hu, by rw [World.frozen?_alloc_at _ _ _ _ (by simp)]⟩⟩⟩, bl2 _ _ _⟩
theorem hexagonSpiral_any (w : World) :
    Calls Try.prog 86 #[] w fun e w' => (∃ R, e = .returned (.agg #[.slice (some ⟨R, 0, none⟩) 6 6, .int .i64 1, .func (.func 90) #[] #[]]) ∧ Own w' w.heap.size w'.heap.size (some ⟨R, 0, none⟩) (prs hxK.ss)) ∧ Below w.heap.size w w' := by
  go_enter Try.func86, Try.ntmps86
  go_wp2
  exact bodyPost_ret (v := .agg #[.slice (some ⟨w.heap.size + 1, 0, none⟩) 6 6, .int .i64 1, .func (.func 90) #[] #[]]) (by simp [results, Try.results86, go_sem]) rfl
    ⟨⟨_, rfl, fun _ => ⟨w.heap.size + 1, 0, rfl, by omega, by simp, fun j u hu => ⟨by rw [World.cell?_alloc_at _ _ _ _ (by simp)]; simpa [prs, hxK] using hu, by rw [World.frozen?_alloc_at _ _ _ _ (by simp)]⟩⟩⟩, bl2 _ _ _⟩
theorem siCentred_any (s : Int) (w : World) (h1 : 3 ≤ s) (h2 : s ≤ 24) :
    Calls Try.prog 108 #[.int .i64 s] w fun e w' => e = .returned (.agg #[.int .i64 2, .int .i64 (-s), .int .i64 s]) ∧ Below w.heap.size w w' := by
  go_enter Try.func108, Try.ntmps108
  go_wp2
  exact bodyPost_ret (v := .agg #[.int .i64 2, .int .i64 (-s), .int .i64 s]) (by simp [results, Try.results108, go_sem]) rfl ⟨rfl, (Below.refl _ _).alloc (Nat.le_refl _) _⟩
theorem ringRule_any (R F m : Nat) (u s : Int) (w : World) (h : (m : Int) * u = s) (h1 : 3 ≤ s) (h2 : s ≤ 24) :
    Calls Try.prog 101 #[.agg #[.slice (some ⟨R, 0, none⟩) m m, .int .i64 u, .func (.func F) #[] #[]]] w fun e w' => e = .returned (.agg #[.int .i64 2, .int .i64 (-s), .int .i64 s]) ∧ Below w.heap.size w w' := by
  have e1 : IntKind.i64.wrap ((m : Int) * u) = s := by rw [h]; exact IntWalk.i64_in _ (by omega)
  have HC := Lib.hid fun W => siCentred_any s W h1 h2
  clear h h1 h2
  go_enter Try.func101, Try.ntmps101
  go_wp2_with (go_at_call 108; refine (HC.out _).mono ?_; rintro e w1 ⟨rfl, hb1⟩; obtain ⟨c0, f0, c1, f1, c2, f2, hz⟩ := kept3 (R := w.heap.size + 1) hb1 (by simp))
  have hB : Below w.heap.size w (((w1.setCell ⟨w.heap.size + 1, 0, none⟩ (.int .i64 2)).setCell ⟨w.heap.size + 1, 1, none⟩ (.int .i64 (-s))).setCell ⟨w.heap.size + 1, 2, none⟩ (.int .i64 s)) := ((((bl2 w _ _).trans (hb1.mono (by simp; omega))).setCell (by simp) _).setCell (by simp) _).setCell (by simp) _
  obtain ⟨d0, d1, d2⟩ := put3 c0 c1 c2 (.int .i64 2) (.int .i64 (-s)) (.int .i64 s)
  generalize (((w1.setCell ⟨w.heap.size + 1, 0, none⟩ (.int .i64 2)).setCell ⟨w.heap.size + 1, 1, none⟩ (.int .i64 (-s))).setCell ⟨w.heap.size + 1, 2, none⟩ (.int .i64 s)) = wE at *
  exact bodyPost_ret (v := .agg #[.int .i64 2, .int .i64 (-s), .int .i64 s]) (by simp [results, Try.results101, go_sem, d0, d1, d2]) rfl ⟨rfl, hB⟩
theorem ringOf_any (R F m : Nat) (u s n L : Int) (V : Int → Int) (w : World) (h : (m : Int) * u = s) (h1 : 3 ≤ s) (h2 : s ≤ 24) (hf : Fits 2 (-s) s n L V) :
    Calls Try.prog 74 #[.agg #[.slice (some ⟨R, 0, none⟩) m m, .int .i64 u, .func (.func F) #[] #[]], .int .i64 n] w fun e w' => e = .returned (.int .i64 L) ∧ Below w.heap.size w w' := by
  have HR := Lib.hid fun W => ringRule_any R F m u s W h h1 h2
  have HL := Lib.hid fun W => lastPlace_any 2 (-s) s n L V W hf
  clear h h1 h2 hf
  go_enter Try.func74, Try.ntmps74
  go_wp2_with (first
    | (go_at_call 101; refine (HR.out _).mono ?_; rintro e w1 ⟨rfl, hb1⟩)
    | (go_at_call 102; refine (HL.out _).mono ?_; rintro e w2 ⟨rfl, hb2⟩))
  go_ret
  have hz := hb1.size
  simp at hz
  exact ⟨rfl, ((Below.refl _ _).alloc (Nat.le_refl _) _).trans ((hb1.mono (by simp)).trans (hb2.mono (by omega)))⟩
theorem lastOfRing_any (R F m : Nat) (u s r v : Int) (w : World) (h : (m : Int) * u = s) (h1 : 3 ≤ s) (h2 : s ≤ 24) (hf : RuleBds 2 (-s) s (r + 1) (v + 1)) (r0 : -1 ≤ r) (r1 : r ≤ 1000000) (v0 : 0 ≤ v) (v1 : v ≤ 1000000000000) :
    Calls Try.prog 77 #[.agg #[.slice (some ⟨R, 0, none⟩) m m, .int .i64 u, .func (.func F) #[] #[]], .int .i64 r] w fun e w' => e = .returned (.int .i64 v) ∧ Below w.heap.size w w' := by
  have HR := Lib.hid fun W => ringRule_any R F m u s W h h1 h2
  have HL := Lib.hid fun W => numberAt_any 2 (-s) s (r + 1) (v + 1) W hf
  have e1 : IntKind.i64.wrap (r + 1) = r + 1 := IntWalk.i64_in _ (by omega)
  have e2 : IntKind.i64.wrap (v + 1 - 1) = v := by rw [IntWalk.i64_in _ (by omega)]; omega
  clear h h1 h2 hf
  go_enter Try.func77, Try.ntmps77
  go_wp2_with (first
    | (go_at_call 101; refine (HR.out _).mono ?_; rintro e w1 ⟨rfl, hb1⟩)
    | (go_at_call 103; refine (HL.out _).mono ?_; rintro e w2 ⟨rfl, hb2⟩))
  go_ret
  have hz := hb1.size
  simp at hz
  exact ⟨ret_int (by omega), ((Below.refl _ _).alloc (Nat.le_refl _) _).trans ((hb1.mono (by simp)).trans (hb2.mono (by omega)))⟩

/-- The rule of the rings of the spiral, of the hexagon spiral. -/
theorem sq_exp (k : Int) : (2 * k - 1) * (2 * k - 1) = 4 * (k * k) - 4 * k + 1 := by grind
theorem kk_le {k : Int} (h0 : 0 ≤ k) (h1 : k < 2097152) : 0 ≤ k * k ∧ k * k ≤ 4398046511104 := by
  have := Int.mul_le_mul (a := k) (b := k) (c := 2097152) (d := 2097152) (by omega) (by omega) h0 (by omega)
  have := Int.mul_nonneg h0 h0
  omega
theorem sq_bds {k : Int} (h0 : 0 ≤ k) (h1 : k < 2097152) : RuleBds 2 (-8) 8 k ((2 * k - 1) * (2 * k - 1)) := by
  obtain ⟨a, b⟩ := kk_le h0 h1
  have e : (8 : Int) * k * k = 8 * (k * k) := by grind
  have e2 := sq_exp k
  have e3 := sq_nn (2 * k - 1)
  constructor <;> omega
theorem hx_bds {k : Int} (h0 : 0 ≤ k) (h1 : k < 2097152) : RuleBds 2 (-6) 6 k (3 * k * (k - 1) + 1) := by
  obtain ⟨a, b⟩ := kk_le h0 h1
  have e : (6 : Int) * k * k = 6 * (k * k) := by grind
  have e2 := (hex_prod k).2
  rcases Int.lt_or_le 0 k with h | h
  · have := Int.mul_le_mul_of_nonneg_right (a := 1) (b := k) (c := k) (by omega) (by omega)
    constructor <;> omega
  · obtain rfl : k = 0 := by omega
    constructor <;> omega
theorem sq_fits (n : Int) (hn : 0 ≤ n) (h1 : n ≤ 1100000) : Fits 2 (-8) 8 n (rg n) (fun k => (2 * k - 1) * (2 * k - 1)) where
  bds := fun k a b => sq_bds a b
  l0 := (rg_is n hn).nn
  l1 := by have := rg_le n hn (by omega); omega
  iff := fun k a b => by
    have h := rg_is n hn
    constructor
    · intro hk
      rcases Int.lt_or_le (rg n) k with hl | hl
      · have := h.hi
        have := h.nn
        have := sq_mono (a := 2 * rg n + 1) (b := 2 * k - 1) (by omega) (by omega)
        omega
      · exact hl
    · intro hk
      have := h.lo (by omega)
      have := sq_mono (a := 2 * k - 1) (b := 2 * rg n - 1) (by omega) (by omega)
      omega
theorem hx_fits (n : Int) (hn : 0 ≤ n) (h1 : n ≤ 1003000) : Fits 2 (-6) 6 n (hx n) (fun k => 3 * k * (k - 1) + 1) where
  bds := fun k a b => hx_bds a b
  l0 := (hx_is n hn).nn
  l1 := by have := hx_le n hn h1; omega
  iff := fun k a b => by
    have h := hx_is n hn
    have e := hex_below k
    constructor
    · intro hk
      rcases Int.lt_or_le (hx n) k with hl | hl
      · have := h.hi
        have := h.nn
        have := hex_mono (a := hx n) (b := k - 1) (by omega) (by omega)
        omega
      · exact hl
    · intro hk
      have := h.lo (by omega)
      have e2 := hex_below (hx n)
      have := hex_mono (a := k - 1) (b := hx n - 1) (by omega) (by omega)
      omega
end Go.Proofs.Ythnjjpiofgbngaa
