/- Chapter 7: the specification's pictures beside and below each other. -/
import Derived.Test.YtbcgidgjdedkiaaDtS
import Derived.Deep.RegionHeld3
namespace Go.Proofs.Ytbcgidgjdedkiaa
open Go.ChangeShapes Go.WideShapes Go.ChangeAt Go.RowKit

theorem gText_len (W H : Nat) (d : Nat → Bool) (h : 1 ≤ H) : (gText W H d).length + 1 = H * (W + 1) := by
  have hr : ∀ r ∈ gRows W H d, r.length = W := by
    intro r hr
    obtain ⟨y, _, rfl⟩ := List.mem_map.1 hr
    exact gRow_len _ _ _
  have hn := gRows_len W H d
  unfold gText
  cases hg : gRows W H d with
  | nil => rw [hg] at hn; simp at hn; omega
  | cons r rs =>
    rw [hg] at hn hr
    simp only [joinP]
    rw [join_len 47 W rs r (fun x hx => hr x (by simp [hx])), hr r (by simp)]
    simp at hn
    rw [← hn, Nat.succ_mul]
    omega
theorem gText_no (W H : Nat) (d : Nat → Bool) (h0 : 1 ≤ H) (h : 24 < W ∨ 24 < H) : isPic (gText W H d) = false := by
  unfold isPic rowsOk
  rw [gText_parts W H d h0, gRows_head W H d h0, gRows_len, gRow_len]
  rcases h with h | h
  · rw [decide_eq_false (show ¬ W ≤ 24 by omega)]
    simp
  · rw [decide_eq_false (show ¬ H ≤ 24 by omega)]
    simp
theorem fold_app (b : UInt8) (xs : List (List UInt8)) : ∀ acc y : List UInt8, xs.foldl (fun acc x => acc ++ (b :: x)) (acc ++ y) = acc ++ xs.foldl (fun acc x => acc ++ (b :: x)) y := by
  induction xs with
  | nil => intro acc y; rfl
  | cons x xs ih =>
    intro acc y
    rw [List.foldl_cons, List.foldl_cons, List.append_assoc, ih]
theorem joinP_app (b : UInt8) (A B : List (List UInt8)) (ha : A ≠ []) (hb : B ≠ []) : joinP b (A ++ B) = joinP b A ++ (b :: joinP b B) := by
  cases A with
  | nil => exact absurd rfl ha
  | cons r rs =>
    cases B with
    | nil => exact absurd rfl hb
    | cons x xs =>
      simp only [List.cons_append, joinP, List.foldl_append, List.foldl_cons]
      rw [fold_app, show b :: x = [b] ++ x from rfl, fold_app]
      rfl
theorem gText_below (W H G : Nat) (d e : Nat → Bool) (h : 1 ≤ H) (g : 1 ≤ G) : gText W H d ++ (47 :: gText W G e) = gText W (H + G) (uD W H d e) := by
  unfold gText
  rw [← rows_below, joinP_app]
  · intro q
    have := gRows_len W H d
    rw [q] at this
    simp at this
    omega
  · intro q
    have := gRows_len W G e
    rw [q] at this
    simp at this
    omega
theorem beside_at (W V H : Nat) (d e : Nat → Bool) (y : Nat) (h : y < H) : gRow W d y ++ gRow V e y = gRow (W + V) (bD W V d e) y := by
  have k : (List.zipWith (· ++ ·) (gRows W H d) (gRows V H e)).getD y [] = (gRows (W + V) H (bD W V d e)).getD y [] := by rw [rows_beside W V H d e]
  rw [gRows_at _ _ _ _ h] at k
  rw [← k]
  simp [List.getD, gRows, h]
theorem text_wide {W H c g lo : Nat} {d : Nat → Bool} {w : World} (hr : RowsAt w lo g H (gRows W H d)) (hc : H ≤ c) (w1 : W ≤ 50) (h0 : 1 ≤ H) (h1 : H ≤ 50) :
    Calls Try.prog 37 #[.slice (some ⟨g, 0, none⟩) H c] w fun e w' => e = .returned (.string (bt (gText W H d))) ∧ w = w' :=
  doText_any g 0 H c (gRows W H d) w (gRows_len W H d).symm h0 (by omega) hc (fun r hr => by obtain ⟨y, _, rfl⟩ := List.mem_map.1 hr; rw [gRow_len]; omega) (fun j hj => by rw [Nat.zero_add]; exact hr.cell j hj)
end Go.Proofs.Ytbcgidgjdedkiaa
