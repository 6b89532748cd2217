/- Chapter 7: rows of a picture in memory; CountDots, SizeOfPicture, by the specification. -/
import Derived.Test.YtbcgidgjdedkiaaDtC
namespace Go.Proofs.Ytbcgidgjdedkiaa
open Go.ChangeShapes Go.WideShapes Go.ChangeAt Go.RowKit

/-- Texts that lie in a block of their own. -/
structure RowsAt (w : World) (lo g n : Nat) (R : List (List UInt8)) : Prop where
  cell : ∀ j, j < n → w.cell? ⟨g, j, none⟩ = some (.string (bt (R.getD j [])))
  lo : lo ≤ g
  hi : g < w.heap.size
  n : n = R.length
theorem RowsAt.under {w W : World} {lo g n k : Nat} {R : List (List UInt8)} (h : RowsAt w lo g n R) (hb : Below k w W) (hk : g < k) : RowsAt W lo g n R :=
  ⟨fun j hj => (hb.cell (p := ⟨g, j, none⟩) hk).trans (h.cell j hj), h.lo, Nat.lt_of_lt_of_le h.hi hb.size, h.n⟩
theorem RowsAt.below {w W : World} {lo g n : Nat} {R : List (List UInt8)} (h : RowsAt w lo g n R) (hb : Below w.heap.size w W) : RowsAt W lo g n R := h.under hb h.hi
theorem rows_of_row {w : World} {lo : Nat} {V : Value} {R : List (List UInt8)} (h : w.ownsRow lo 9 1 V R.length (strs R)) (h1 : 1 ≤ R.length) :
    ∃ g c, V = .slice (some ⟨g, 0, none⟩) R.length c ∧ R.length ≤ c ∧ RowsAt w lo g R.length R := by
  have hh := h
  rcases h.2 with ⟨_, h0⟩ | ⟨g, c, cur, rfl, hlo, hcell, hc, hmax, hsz, htk⟩
  · omega
  · refine ⟨g, c, rfl, hc, fun j hj => ?_, hlo, (hh.lt g rfl).2, rfl⟩
    obtain ⟨g', o', hA, _, _, q, _⟩ := (own_of_row hh).at_ (k := j) (by rw [strs_len]; exact hj)
    obtain ⟨rfl, rfl⟩ : g = g' ∧ 0 = o' := by simpa using hA
    rw [Nat.zero_add] at q
    rw [q]
    simp [strs, List.getD, hj]
end Go.Proofs.Ytbcgidgjdedkiaa
