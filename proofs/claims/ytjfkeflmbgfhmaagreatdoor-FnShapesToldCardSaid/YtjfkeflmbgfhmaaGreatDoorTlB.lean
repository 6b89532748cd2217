/- Chapter 1's law of shapes told: what every function that it calls answers, one statement a function. Condition, where texts are written or read: the library's table and its two errors lie as the program's text lays them. -/
import Derived.Test.YtjfkeflmbgfhmaaGreatDoorTlA
import Derived.Test.YtjfkeflmbgfhmaaGreatDoorAnA
import Derived.Test.YtjfkeflmbgfhmaaGreatDoorAnW
import Derived.Test.YtjfkeflmbgfhmaaGreatDoorLwE
import Derived.Test.YtjfkeflmbgfhmaaGreatDoorLwF
import Derived.Test.YtjfkeflmbgfhmaaGreatDoorDoD
import Derived.Lib.Hide
import Derived.Deep.QuietTactic
namespace Go.Proofs.YtjfkeflmbgfhmaaGreatDoor
open Go.RowKit

/-- The library's table and its errors. -/
structure Txs (w : World) : Prop where
  tab : Lib.TabIs Tryz.prog w "internal/strconv.uint64pow10" .u64 Lib.pow10Tab
  errs : Errs w
theorem Txs.on {w w1 : World} (h : Txs w) (hb : Below w.heap.size w w1) : Txs w1 := ⟨tab_below h.tab hb, h.errs.below hb⟩

theorem spec_ShapesOf_any (n : Int) (w : World) : Calls Tryz.prog 7 #[.int .i64 n] w (ResP (shB n) (shL n) w) := by
  rcases Bool.eq_false_or_eq_true (shB n) with h | h
  · have h0 : 0 ≤ n ∧ n ≤ 1000000 := by simpa [shB] using h
    rw [shL, h, cond_true]
    exact spec_ShapesOf_yes n w h0.1 h0.2
  · have h0 : ¬ (0 ≤ n ∧ n ≤ 1000000) := by simpa [shB] using h
    rw [shL, h, cond_false]
    exact spec_ShapesOf_no n w (by omega)

theorem spec_PolygonalUpTo_any (s m : Int) (w : World) : Calls Tryz.prog 14 #[.int .i64 s, .int .i64 m] w (ResI (puB s m) (puL s m) w) := by
  rcases Bool.eq_false_or_eq_true (puB s m) with h | h
  · have h0 : (3 ≤ s ∧ s ≤ 24) ∧ 0 ≤ m ∧ m ≤ 100000 := by simpa [puB] using h
    rw [puL, h, cond_true]
    exact spec_PolygonalUpTo_yes s m w h0.1.1 h0.1.2 h0.2.1 h0.2.2
  · have h0 : ¬ ((3 ≤ s ∧ s ≤ 24) ∧ 0 ≤ m ∧ m ≤ 100000) := fun c => by simp [puB, c] at h
    rw [puL, h, cond_false]
    exact spec_PolygonalUpTo_no s m w (by omega)

theorem spec_ShapeText_any (s p : Int) (w : World) : Calls Tryz.prog 25 #[.agg #[.int .i64 s, .int .i64 p]] w (fun e w' => e = .returned (.tuple #[.string (stT s p), .bool (pnB s p)]) ∧ Below w.heap.size w w') := by
  rcases Bool.eq_false_or_eq_true (pnB s p) with h | h
  · have h0 := pn_iff.1 h
    rw [stT, h, cond_true]
    exact spec_ShapeText_yes s p w h0.1.1 h0.1.2 h0.2.1 h0.2.2
  · have h0 : ¬ ((3 ≤ s ∧ s ≤ 24) ∧ 0 ≤ p ∧ p ≤ 100000) := fun c => by rw [pn_iff.2 c] at h; cases h
    rw [stT, h, cond_false]
    exact spec_ShapeText_no s p w (by omega)

theorem impl_ShapesOf_any (n : Int) (w : World) : Calls Tryz.prog 6 #[.int .i64 n] w (ResP (shB n) (shL n) w) := by
  rcases Bool.eq_false_or_eq_true (shB n) with h | h
  · have h0 : 0 ≤ n ∧ n ≤ 1000000 := by simpa [shB] using h
    rw [shL, h, cond_true]
    exact impl_ShapesOf_yes n w h0.1 h0.2
  · have h0 : ¬ (0 ≤ n ∧ n ≤ 1000000) := by simpa [shB] using h
    rw [shL, h, cond_false]
    exact impl_ShapesOf_no n w (by omega)

theorem impl_PolygonalUpTo_any (s m : Int) (w : World) : Calls Tryz.prog 13 #[.int .i64 s, .int .i64 m] w (ResI (puB s m) (puL s m) w) := by
  rcases Bool.eq_false_or_eq_true (puB s m) with h | h
  · have h0 : (3 ≤ s ∧ s ≤ 24) ∧ 0 ≤ m ∧ m ≤ 100000 := by simpa [puB] using h
    rw [puL, h, cond_true]
    exact impl_PolygonalUpTo_yes s m w h0.1.1 h0.1.2 h0.2.1 h0.2.2
  · have h0 : ¬ ((3 ≤ s ∧ s ≤ 24) ∧ 0 ≤ m ∧ m ≤ 100000) := fun c => by simp [puB, c] at h
    rw [puL, h, cond_false]
    exact impl_PolygonalUpTo_no s m w (by omega)

theorem impl_ShapeText_any (s p : Int) (w : World) (ht : Txs w) : Calls Tryz.prog 10 #[.agg #[.int .i64 s, .int .i64 p]] w (fun e w' => e = .returned (.tuple #[.string (stT s p), .bool (pnB s p)]) ∧ Below w.heap.size w w') := by
  rcases Bool.eq_false_or_eq_true (pnB s p) with h | h
  · have h0 := pn_iff.1 h
    rw [stT, h, cond_true]
    exact impl_ShapeText_yes s p w h0.1.1 h0.1.2 h0.2.1 h0.2.2 ht.tab
  · have h0 : ¬ ((3 ≤ s ∧ s ≤ 24) ∧ 0 ≤ p ∧ p ≤ 100000) := fun c => by rw [pn_iff.2 c] at h; cases h
    rw [stT, h, cond_false]
    exact impl_ShapeText_no s p w (by omega)

theorem psB_no {y : ByteArray} (h : psB y = false) (a b : Int) : ¬ Good y a b := fun g => by
  have : psB y = true := by simp only [psB, decide_eq_true_eq]; exact ⟨a, b, g⟩
  rw [h] at this
  cases this
theorem spec_ParseShape_any (y : ByteArray) (w : World) (hy : y.size ≤ 1048576) : Calls Tryz.prog 27 #[.string y] w fun e w' => e = .returned (.tuple #[.agg #[.int .i64 (psX y), .int .i64 (psY y)], .bool (psB y)]) ∧ Below w.heap.size w w' := by
  rcases Bool.eq_false_or_eq_true (psB y) with h | h
  · rw [h]
    exact spec_ParseShape_yes y _ _ w (psE_of h).g
  · rw [psX, psY, h, cond_false, cond_false]
    exact spec_ParseShape_no y w hy (psB_no h)
theorem impl_ParseShape_any (y : ByteArray) (w : World) (hy : y.size ≤ 1048576) (ht : Txs w) : Calls Tryz.prog 11 #[.string y] w fun e w' => e = .returned (.tuple #[.agg #[.int .i64 (psX y), .int .i64 (psY y)], .bool (psB y)]) ∧ Below w.heap.size w w' := by
  obtain ⟨l, r, f, hl, hr, hlr, hcut⟩ := cut_any y hy
  obtain ⟨v, hv, h1⟩ := atoi_any l (by omega)
  obtain ⟨u, hu, h2⟩ := atoi_any r (by omega)
  rcases Bool.eq_false_or_eq_true (psB y) with h | h
  · have hG := (psE_of h).g
    rw [h]
    generalize psX y = a at *
    generalize psY y = b at *
    have hd : y.data.toList = Lib.decDigits a.toNat ++ 58 :: Lib.decDigits b.toNat := by rw [← hG.2]; exact shTxt_data a b
    obtain ⟨e1, e2⟩ := hlr _ _ hd (fun c hc h => by have := dec_digits a.toNat c hc; rw [h] at this; revert this; decide)
    have g := hG.1
    have ev := hv a.toNat (by omega) e1
    have eu := hu b.toNat (by omega) e2
    obtain rfl : v = a := by omega
    obtain rfl : u = b := by omega
    exact impl_ParseShape_run y l r f v u true v u w ht.errs ht.tab hcut h1 h2 (.inl ⟨rfl, rfl, rfl, hG⟩)
  · rw [psX, psY, h, cond_false, cond_false]
    exact impl_ParseShape_run y l r f v u false 0 0 w ht.errs ht.tab hcut h1 h2 (.inr ⟨rfl, rfl, rfl, psB_no h _ _⟩)

/-! ### numbers, said by 'no old memory changes' -/

theorem spec_WideNumber_b (s n : Int) (w : World) : Calls Tryz.prog 17 #[.int .i64 s, .int .i64 n] w fun e w' => e = .returned (.tuple #[.int .i64 (wnV s n), .bool (wnB s n)]) ∧ Below w.heap.size w w' :=
  (spec_WideNumber_any s n w).mono fun e w' ⟨he, hw⟩ => ⟨he, hw ▸ Below.refl _ _⟩

theorem spec_CentredNumber_b (s n : Int) (w : World) : Calls Tryz.prog 20 #[.int .i64 s, .int .i64 n] w fun e w' => e = .returned (.tuple #[.int .i64 (cnV s n), .bool (gnB s n)]) ∧ Below w.heap.size w w' :=
  (spec_CentredNumber_any s n w).mono fun e w' ⟨he, hw⟩ => ⟨he, hw ▸ Below.refl _ _⟩

theorem spec_CentredPlace_b (s n : Int) (w : World) : Calls Tryz.prog 23 #[.int .i64 s, .int .i64 n] w fun e w' => e = .returned (.tuple #[.int .i64 (cpV s n), .bool (cpB s n)]) ∧ Below w.heap.size w w' :=
  (spec_CentredPlace_any s n w).mono fun e w' ⟨he, hw⟩ => ⟨he, hw ▸ Below.refl _ _⟩

theorem oAbs_v (n : Int) (w : World) (h1 : -9000000000000000000 ≤ n) (h2 : n ≤ 9000000000000000000) :
    Calls Tryz.prog 32 #[.int .i64 n] w fun e w' => e = .returned (.int .i64 (abV n)) ∧ Below w.heap.size w w' := by
  by_cases h : n < 0
  · rw [abV, if_pos h]
    have s1 : IntKind.i64.wrap (-n) = -n := IntWalk.i64_in _ (by omega)
    go_enter Tryz.func32, Tryz.ntmps32
    go_wp2
    go_ret
    exact ⟨rfl, Below.refl _ _⟩
  · rw [abV, if_neg h]
    go_enter Tryz.func32, Tryz.ntmps32
    go_wp2
    go_ret
    exact ⟨rfl, Below.refl _ _⟩

set_option maxHeartbeats 800000 in
theorem oShapes_same (A B : Option Addr) (n c d l1 h1 l2 h2 : Nat) (xs : List (Int × Int)) (w : World) (hn : xs.length = n) (hm : n ≤ 1000000000)
    (ha : Own w l1 h1 A (prs xs)) (hb : Own w l2 h2 B (prs xs)) :
    Calls Tryz.prog 8 #[.slice A n c, .slice B n d] w fun e w' => e = .returned (.bool true) ∧ ∃ q, w' = w.drewN q := by
  have HA := Lib.hid ha
  have HB := Lib.hid hb
  have HN := Lib.hid hn
  clear ha hb hn
  go_enter Tryz.func8, Tryz.ntmps8
  go_wp2
  go_loopw [13] (fun i wr => ∃ k q : Nat, k ≤ n ∧ i = .int .i64 k ∧ wr = w.drewN q) (fun i _ => n - (intOf i).toNat)
  case atStart => exact ⟨0, 0, Nat.zero_le _, rfl, rfl⟩
  case round =>
    obtain ⟨k, q, hk, rfl, rfl⟩ := hrel
    by_cases hlt : k < n
    · have hlen : k < xs.length := by rw [HN.out]; exact hlt
      obtain ⟨g, o, rfl, _, hg, hca0, hca1⟩ := HA.out.pair_ hlen
      obtain ⟨g', o', rfl, _, hg', hcb0, hcb1⟩ := HB.out.pair_ hlen
      generalize (xs[k]'hlen).1 = x at hca0 hcb0
      generalize (xs[k]'hlen).2 = y at hca1 hcb1
      have hi : (k : Int) < (n : Int) := by omega
      clear hlen
      go_wp2
      go_quiet (fail)
      go_wp2
      go_roundw
      case rel => exact ⟨k + 1, _, by omega, by go_num, rfl⟩
      case measure => simp [intOf]; omega
    · go_wp2
      go_ret
      exact ⟨rfl, q, rfl⟩
theorem oShapes_b (A B : Option Addr) (n c d l1 h1 l2 h2 : Nat) (xs : List (Int × Int)) (w : World) (hn : xs.length = n) (hm : n ≤ 1000000000)
    (ha : Own w l1 h1 A (prs xs)) (hb : Own w l2 h2 B (prs xs)) :
    Calls Tryz.prog 8 #[.slice A n c, .slice B n d] w fun e w' => e = .returned (.bool true) ∧ Below w.heap.size w w' :=
  (oShapes_same A B n c d l1 h1 l2 h2 xs w hn hm ha hb).mono fun e w' ⟨he, q, hq⟩ => ⟨he, by subst hq; exact below_drewN (Below.refl _ _) _⟩
end Go.Proofs.YtjfkeflmbgfhmaaGreatDoor
