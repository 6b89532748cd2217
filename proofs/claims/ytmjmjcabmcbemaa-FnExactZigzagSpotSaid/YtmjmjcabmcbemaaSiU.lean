/- Chapter 6: the program's spirals: their steps, the rule of their rings, rings, the last number of a ring. -/
import Derived.Test.YtmjmjcabmcbemaaSiT
import Derived.Laws.EntriesVeiled
namespace Go.Proofs.Ytmjmjcabmcbemaa
open Go.ChangeShapes Go.WideShapes Go.ChangeAt Go.RowKit

theorem kept3 {W w1 : World} {a b c : Value} {t R : Nat} (hb : Below (W.alloc (.cells #[a, b, c] t)).heap.size (W.alloc (.cells #[a, b, c] t)) w1) (hR : R = W.heap.size) :
    w1.cell? ⟨R, 0, none⟩ = some a ∧ w1.frozen? ⟨R, 0, none⟩ = false ∧ w1.cell? ⟨R, 1, none⟩ = some b ∧ w1.frozen? ⟨R, 1, none⟩ = false ∧ w1.cell? ⟨R, 2, none⟩ = some c ∧ w1.frozen? ⟨R, 2, none⟩ = false ∧ R < w1.heap.size := by
  subst hR
  have hz := hb.size
  simp at hz
  exact ⟨(hb.cell (p := ⟨W.heap.size, 0, none⟩) (by simp)).trans (by simp [go_sem]), (hb.frozen (p := ⟨W.heap.size, 0, none⟩) (by simp)).trans (by simp [go_sem]),
    (hb.cell (p := ⟨W.heap.size, 1, none⟩) (by simp)).trans (by simp [go_sem]), (hb.frozen (p := ⟨W.heap.size, 1, none⟩) (by simp)).trans (by simp [go_sem]),
    (hb.cell (p := ⟨W.heap.size, 2, none⟩) (by simp)).trans (by simp [go_sem]), (hb.frozen (p := ⟨W.heap.size, 2, none⟩) (by simp)).trans (by simp [go_sem]), by omega⟩
theorem put_far {W : World} {R Q : Nat} {o o' : Nat} {v u : Value} (h : W.cell? ⟨Q, o', none⟩ = some u) (hne : ¬ (Q = R ∧ o' = o)) : (W.setCell ⟨R, o, none⟩ v).cell? ⟨Q, o', none⟩ = some u :=
  (World.cell?_setCell_other W _ _ _ (by intro e; simp only [Addr.mk.injEq] at e; exact hne (by omega))).trans h
theorem put3 {W : World} {R : Nat} {a b c : Value} (c0 : W.cell? ⟨R, 0, none⟩ = some a) (c1 : W.cell? ⟨R, 1, none⟩ = some b) (c2 : W.cell? ⟨R, 2, none⟩ = some c) (p q r : Value) :
    (((W.setCell ⟨R, 0, none⟩ p).setCell ⟨R, 1, none⟩ q).setCell ⟨R, 2, none⟩ r).cell? ⟨R, 0, none⟩ = some p ∧ (((W.setCell ⟨R, 0, none⟩ p).setCell ⟨R, 1, none⟩ q).setCell ⟨R, 2, none⟩ r).cell? ⟨R, 1, none⟩ = some q ∧
    (((W.setCell ⟨R, 0, none⟩ p).setCell ⟨R, 1, none⟩ q).setCell ⟨R, 2, none⟩ r).cell? ⟨R, 2, none⟩ = some r := by
  obtain ⟨d0, d1⟩ := put2 c0 c1 p q
  refine ⟨put_far d0 (by omega), put_far d1 (by omega), ?_⟩
  exact World.cell?_setCell_same _ _ _ (put_far (put_far c2 (by omega)) (by omega))
/-- The rule of the rings of the spiral, of the hexagon spiral. -/
theorem sq_exp (k : Int) : (2 * k - 1) * (2 * k - 1) = 4 * (k * k) - 4 * k + 1 := by grind
theorem kk_le {k : Int} (h0 : 0 ≤ k) (h1 : k < 2097152) : 0 ≤ k * k ∧ k * k ≤ 4398046511104 := by
  have := Int.mul_le_mul (a := k) (b := k) (c := 2097152) (d := 2097152) (by omega) (by omega) h0 (by omega)
  have := Int.mul_nonneg h0 h0
  omega
theorem sq_bds {k : Int} (h0 : 0 ≤ k) (h1 : k < 2097152) : RuleBds 2 (-8) 8 k ((2 * k - 1) * (2 * k - 1)) := by
  obtain ⟨a, b⟩ := kk_le h0 h1
  have e : (8 : Int) * k * k = 8 * (k * k) := by grind
  have e2 := sq_exp k
  have e3 := sq_nn (2 * k - 1)
  constructor <;> omega
theorem hx_bds {k : Int} (h0 : 0 ≤ k) (h1 : k < 2097152) : RuleBds 2 (-6) 6 k (3 * k * (k - 1) + 1) := by
  obtain ⟨a, b⟩ := kk_le h0 h1
  have e : (6 : Int) * k * k = 6 * (k * k) := by grind
  have e2 := (hex_prod k).2
  rcases Int.lt_or_le 0 k with h | h
  · have := Int.mul_le_mul_of_nonneg_right (a := 1) (b := k) (c := k) (by omega) (by omega)
    constructor <;> omega
  · obtain rfl : k = 0 := by omega
    constructor <;> omega
theorem sq_fits (n : Int) (hn : 0 ≤ n) (h1 : n ≤ 1100000) : Fits 2 (-8) 8 n (rg n) (fun k => (2 * k - 1) * (2 * k - 1)) where
  bds := fun k a b => sq_bds a b
  l0 := (rg_is n hn).nn
  l1 := by have := rg_le n hn (by omega); omega
  iff := fun k a b => by
    have h := rg_is n hn
    constructor
    · intro hk
      rcases Int.lt_or_le (rg n) k with hl | hl
      · have := h.hi
        have := h.nn
        have := sq_mono (a := 2 * rg n + 1) (b := 2 * k - 1) (by omega) (by omega)
        omega
      · exact hl
    · intro hk
      have := h.lo (by omega)
      have := sq_mono (a := 2 * k - 1) (b := 2 * rg n - 1) (by omega) (by omega)
      omega
theorem hx_fits (n : Int) (hn : 0 ≤ n) (h1 : n ≤ 1003000) : Fits 2 (-6) 6 n (hx n) (fun k => 3 * k * (k - 1) + 1) where
  bds := fun k a b => hx_bds a b
  l0 := (hx_is n hn).nn
  l1 := by have := hx_le n hn h1; omega
  iff := fun k a b => by
    have h := hx_is n hn
    have e := hex_below k
    constructor
    · intro hk
      rcases Int.lt_or_le (hx n) k with hl | hl
      · have := h.hi
        have := h.nn
        have := hex_mono (a := hx n) (b := k - 1) (by omega) (by omega)
        omega
      · exact hl
    · intro hk
      have := h.lo (by omega)
      have e2 := hex_below (hx n)
      have := hex_mono (a := k - 1) (b := hx n - 1) (by omega) (by omega)
      omega
end Go.Proofs.Ytmjmjcabmcbemaa
