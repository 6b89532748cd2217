/- Chapter 7: shapes counted, two triangles joined; a list's rest. No program is walked here. -/
import Derived.Test.YtbabkcjnfdpafaaGreatDoorPdB
namespace Go.Proofs.YtbabkcjnfdpafaaGreatDoor
open Go.RowKit

theorem tri_num : ∀ m : Nat, m ≤ 24 → (cnt (shD 116 m) (m * m) : Int) = num 3 m := by decide +kernel
theorem squ_num : ∀ m : Nat, m ≤ 24 → (cnt (shD 115 m) (m * m) : Int) = num 4 m := by decide +kernel
theorem gno_num : ∀ m : Nat, m ≤ 24 → 1 ≤ m → (cnt (shD 103 m) (m * m) : Int) = (4 - 2) * ((m : Int) - 1) + 1 := by decide +kernel
theorem dia_num : ∀ m : Nat, m ≤ 12 → 1 ≤ m → (cnt (shD 100 (2 * m - 1)) ((2 * m - 1) * (2 * m - 1)) : Int) = cen 4 m := by decide +kernel
theorem hex_num : ∀ m : Nat, m ≤ 12 → 1 ≤ m → (cnt (shD 104 (2 * m - 1)) ((2 * m - 1) * (2 * m - 1)) : Int) = cen 6 m := by decide +kernel
theorem two_num : ∀ m : Nat, m ≤ 24 → cnt (shD 116 m) (m * m) + cnt (tD m m (tD m m (shD 116 m))) (m * m) = m * (m + 1) := by decide +kernel
/-- Triangle, square, gnomon. -/
structure ShE (k : Int) : Prop where
  k0 : 1 ≤ k
  k1 : k ≤ 24
  t : isPic (shL 116 k) = true
  s : isPic (shL 115 k) = true
  g : isPic (shL 103 k) = true
  tv : doV (shL 116 k) = pnV 3 k
  sv : doV (shL 115 k) = pnV 4 k
  gv : doV (shL 103 k) = gnV 4 k
  p3 : pnB 3 k = true
  p4 : pnB 4 k = true
  g4 : gnB 4 k = true
  u : isPic (tuL (shL 116 k)) = true
  v : isPic (tuL (tuL (shL 116 k))) = true
  both : blB (shL 116 k) (tuL (tuL (shL 116 k))) = decide (2 * k ≤ 24)
  ok : 2 * k ≤ 24 → isPic (blL (shL 116 k) (tuL (tuL (shL 116 k)))) = true
  dots : 2 * k ≤ 24 → doV (blL (shL 116 k) (tuL (tuL (shL 116 k)))) = k * (k + 1)
theorem shE_of {k : Int} (h : trB k = true) : ShE k := by
  have h0 : 1 ≤ k ∧ k ≤ 24 := by simpa only [trB, decide_eq_true_eq] using h
  obtain ⟨k0, k1⟩ := h0
  obtain ⟨m, rfl⟩ := Int.eq_ofNat_of_zero_le (show 0 ≤ k by omega)
  have m0 : 1 ≤ m := by omega
  have m1 : m ≤ 24 := by omega
  have e : ∀ c, shL c (m : Int) = gText m m (shD c m) := fun c => by rw [shL, h, cond_true, Int.toNat_natCast]
  have pk : ∀ c, isPic (shL c (m : Int)) = true := fun c => by rw [e]; exact gText_pic _ _ _ m0 m1 m0 m1
  have dv : ∀ c, doV (shL c (m : Int)) = (cnt (shD c m) (m * m) : Int) := fun c => by rw [doV, pk c, cond_true, e, cnt_text _ _ _ m0]
  have p3 : pnB 3 (m : Int) = true := by simp only [pnB, decide_eq_true_eq]; omega
  have p4 : pnB 4 (m : Int) = true := by simp only [pnB, decide_eq_true_eq]; omega
  have g4 : gnB 4 (m : Int) = true := by simp only [gnB, decide_eq_true_eq]; omega
  have hT : tuL (shL 116 (m : Int)) = gText m m (tD m m (shD 116 m)) := by
    rw [tuL, pk, cond_true]
    have a : pW (shL 116 (m : Int)) = m := by rw [e, gText_W _ _ _ m0]
    have b : pH (shL 116 (m : Int)) = m := by rw [e, gText_H _ _ _ m0]
    rw [a, b]
    exact gText_congr fun i hi => tD_congr (fun j hj => by rw [e, gText_D _ _ _ m0 j hj]) i hi
  have ku : isPic (tuL (shL 116 (m : Int))) = true := (tuE_of (pk 116)).ok
  have hU : tuL (tuL (shL 116 (m : Int))) = gText m m (tD m m (tD m m (shD 116 m))) := by
    rw [tuL, ku, cond_true]
    have a : pW (tuL (shL 116 (m : Int))) = m := by rw [hT, gText_W _ _ _ m0]
    have b : pH (tuL (shL 116 (m : Int))) = m := by rw [hT, gText_H _ _ _ m0]
    rw [a, b]
    exact gText_congr fun i hi => tD_congr (fun j hj => by rw [hT, gText_D _ _ _ m0 j hj]) i hi
  have kv : isPic (tuL (tuL (shL 116 (m : Int)))) = true := (tuE_of ku).ok
  have hb : blB (shL 116 (m : Int)) (tuL (tuL (shL 116 (m : Int)))) = decide (2 * (m : Int) ≤ 24) := by
    rw [blB, pk, kv, Bool.true_and, Bool.true_and, decide_eq_decide, hU, e, gText_W _ _ _ m0, gText_W _ _ _ m0, gText_H _ _ _ m0, gText_H _ _ _ m0]
    omega
  have hok : 2 * (m : Int) ≤ 24 → BlE (shL 116 (m : Int)) (tuL (tuL (shL 116 (m : Int)))) := fun hk => blE_of (by rw [hb, decide_eq_true_eq]; exact hk)
  refine ⟨k0, k1, pk _, pk _, pk _, by rw [dv, pnV, p3, cond_true]; exact tri_num m m1, by rw [dv, pnV, p4, cond_true]; exact squ_num m m1, by rw [dv, gnV, g4, cond_true]; exact gno_num m m1 m0, p3, p4, g4, ku, kv, hb, fun hk => (hok hk).ok, fun hk => ?_⟩
  rw [doV, (hok hk).ok, cond_true, (hok hk).sum, hU, e, cnt_text _ _ _ m0, cnt_text _ _ _ m0, two_num m m1]
  rw [Int.natCast_mul, Int.natCast_add]
  rfl
/-- Diamond, hexagon. -/
structure DhE (k : Int) : Prop where
  tr : trB k = true
  d : isPic (dhL 100 k) = true
  h : isPic (dhL 104 k) = true
  dv : doV (dhL 100 k) = cnV 4 k
  hv : doV (dhL 104 k) = cnV 6 k
  g4 : gnB 4 k = true
  g6 : gnB 6 k = true
theorem dhE_of {k : Int} (h : dmB k = true) : DhE k := by
  have h0 : 1 ≤ k ∧ k ≤ 12 := by simpa only [dmB, decide_eq_true_eq] using h
  obtain ⟨k0, k1⟩ := h0
  obtain ⟨m, rfl⟩ := Int.eq_ofNat_of_zero_le (show 0 ≤ k by omega)
  have m0 : 1 ≤ m := by omega
  have m1 : m ≤ 12 := by omega
  have e : ∀ c, dhL c (m : Int) = gText (2 * m - 1) (2 * m - 1) (shD c (2 * m - 1)) := fun c => by rw [dhL, h, cond_true, Int.toNat_natCast]
  have pk : ∀ c, isPic (dhL c (m : Int)) = true := fun c => by rw [e]; exact gText_pic _ _ _ (by omega) (by omega) (by omega) (by omega)
  have dv : ∀ c, doV (dhL c (m : Int)) = (cnt (shD c (2 * m - 1)) ((2 * m - 1) * (2 * m - 1)) : Int) := fun c => by rw [doV, pk c, cond_true, e, cnt_text _ _ _ (by omega)]
  have g4 : gnB 4 (m : Int) = true := by simp only [gnB, decide_eq_true_eq]; omega
  have g6 : gnB 6 (m : Int) = true := by simp only [gnB, decide_eq_true_eq]; omega
  exact ⟨by rw [trB, decide_eq_true_eq]; omega, pk _, pk _, by rw [dv, cnV, g4, cond_true]; exact dia_num m m1 m0, by rw [dv, cnV, g6, cond_true]; exact hex_num m m1 m0, g4, g6⟩
theorem own_tail {w : World} {lo hi g o : Nat} {x : Int} {xs : List Int} (h : Own w lo hi (some ⟨g, o, none⟩) (i64s (x :: xs))) : Own w lo hi (some ⟨g, o + 1, none⟩) (i64s xs) := fun hn => by
  obtain ⟨g', o', e, h1, h2, hc⟩ := h (by simp [i64s])
  injection e with e
  injection e with e1 e2 _
  subst e1
  subst e2
  refine ⟨_, _, rfl, h1, h2, fun k v hv => ?_⟩
  have := hc (k + 1) v (by simpa [i64s] using hv)
  rw [show o + 1 + k = o + (k + 1) by omega]
  exact this
theorem sumF_all (xs : List Int) : sumF xs xs.length = xs.sum := by
  have key : ∀ k, k ≤ xs.length → sumF xs k = (xs.take k).sum := by
    intro k
    induction k with
    | zero => intro _; simp [sumF]
    | succ k ih =>
      intro hk
      rw [sumF, ih (by omega), List.take_succ_eq_append_getElem (by omega), List.sum_append]
      simp [List.getD, List.getElem?_eq_getElem (show k < xs.length by omega)]
  rw [key _ (Nat.le_refl _), List.take_length]
theorem sumF_pos {xs : List Int} (h : ∀ x ∈ xs, 0 ≤ x ∧ x ≤ 1000) (k : Nat) : 0 ≤ sumF xs k ∧ sumF xs k ≤ 1000 * k := by
  induction k with
  | zero => simp [sumF]
  | succ k ih =>
    rw [sumF]
    have hx : 0 ≤ xs.getD k 0 ∧ xs.getD k 0 ≤ 1000 := by
      rcases Nat.lt_or_ge k xs.length with hk | hk
      · rw [List.getD, List.getElem?_eq_getElem hk]
        exact h _ (List.getElem_mem hk)
      · rw [List.getD, List.getElem?_eq_none hk]
        decide
    omega
theorem ly_pos {l : List UInt8} : ∀ x ∈ lyL l, 0 ≤ x ∧ x ≤ 1000 := fun x hx => by
  rcases Bool.eq_false_or_eq_true (isPic l) with h | h
  · have b := pic_b h
    rw [lyL, h, cond_true] at hx
    have := lys_pos _ x hx
    have hm := Nat.mul_le_mul b.w1 b.h1
    omega
  · rw [lyL, h, cond_false] at hx
    simp at hx
end Go.Proofs.YtbabkcjnfdpafaaGreatDoor
