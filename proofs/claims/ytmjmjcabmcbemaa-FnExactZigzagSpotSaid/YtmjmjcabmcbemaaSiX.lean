/- Chapter 6: the number at a spot, by the program: the sides are asked one behind the other. -/
import Derived.Test.YtmjmjcabmcbemaaSiW
namespace Go.Proofs.Ytmjmjcabmcbemaa
open Go.ChangeShapes Go.WideShapes Go.ChangeAt Go.RowKit Go.ChangeMaps Go.Conc

theorem sdB_of {K : Kd} {s r b l x y : Int} {t m : Nat} (hK : Good K) (hr : IsRg s r b) (l0 : 0 ≤ l) (l1 : l ≤ 4000) (hm : m ≤ 6) (ht : t < m) (x0 : -100000 ≤ x) (x1 : x ≤ 100000) (y0 : -100000 ≤ y) (y1 : y ≤ 100000) :
    SdB (cor K r l t).1 (cor K r l t).2 (b + t * l) (sst K t).1 (sst K t).2 l x y := by
  obtain ⟨_, r0, r1, b0, b1⟩ := hr
  obtain ⟨p0, p1, p2, p3⟩ := cor_b hK r l r0 l0 t
  obtain ⟨v0, v1⟩ := tl_b l0 l1 t (by omega)
  obtain ⟨s0, s1, s2, s3⟩ := hK.st ((t + 1) % K.m)
  exact ⟨by omega, by omega, by omega, by omega, x0, x1, y0, y1, s0, s1, s2, s3, by omega, by omega⟩
theorem len_of {K : Kd} {R m : Nat} {u s r l : Int} {w : World} {lo hi : Nat} (h : IsSp K R m u s w lo hi) (r0 : 0 ≤ r) (r1 : r ≤ 2000) (hl : u * r = l) : 0 ≤ l ∧ l ≤ 4000 ∧ 4 ≤ m ∧ m ≤ 6 := by
  have hu := h.good.u0
  rw [h.hu] at hu
  have hm := h.good.m0
  rw [h.hm] at hm
  refine ⟨by rw [← hl]; exact Int.mul_nonneg (by omega) r0, ?_, hm.1, hm.2⟩
  rw [← hl]
  rcases (show u = 1 ∨ u = 2 by omega) with rfl | rfl <;> omega
end Go.Proofs.Ytmjmjcabmcbemaa
