/- The texts XAnH XImB XImC XLwA XLwB XLwC XLwD XAnD XAnA XCapA joined. -/
import Derived.Test.YtbabkcjnfdpafaaGreatDoorMb
import Derived.Lib.Hide
import Derived.Deep.QuietTactic
import Derived.Test.YtbabkcjnfdpafaaGreatDoorMa
import Derived.Deep.RegionHeld3
import Derived.BigQuiet
/- What the laws of promises ask of slices of numbers: the same ones, their sum, whether they rise. No condition. -/
namespace Go.Proofs.YtbabkcjnfdpafaaGreatDoor
open Go.RowKit

set_option maxHeartbeats 400000 in
theorem hSame_same (A B : Option Addr) (n c d l1 h1 l2 h2 : Nat) (xs : List Int) (w : World) (hn : xs.length = n) (hm : n ≤ 1000000000)
    (ha : Own w l1 h1 A (i64s xs)) (hb : Own w l2 h2 B (i64s xs)) :
    Calls Tryz.prog 33 #[.slice A n c, .slice B n d] w fun e w' => e = .returned (.bool true) ∧ ∃ q, w' = w.drewN q := by
  have HA := Lib.hid ha
  have HB := Lib.hid hb
  have HN := Lib.hid hn
  clear ha hb hn
  go_enter Tryz.func33, Tryz.ntmps33
  go_wp2
  go_loopw [13] (fun i wr => ∃ k q : Nat, k ≤ n ∧ i = .int .i64 k ∧ wr = w.drewN q) (fun i _ => n - (intOf i).toNat)
  case atStart => exact ⟨0, 0, Nat.zero_le _, rfl, rfl⟩
  case round =>
    obtain ⟨k, q, hk, rfl, rfl⟩ := hrel
    by_cases hlt : k < n
    · obtain ⟨g, o, rfl, _, _, hca, _⟩ := HA.out.at_ (k := k) (by simp [HN.out]; omega)
      obtain ⟨g', o', rfl, _, _, hcb, _⟩ := HB.out.at_ (k := k) (by simp [HN.out]; omega)
      have hcx : w.cell? ⟨g, o + k, none⟩ = some (.int .i64 (xs[k]'(by rw [HN.out]; exact hlt))) := by simpa using hca
      have hcy : w.cell? ⟨g', o' + k, none⟩ = some (.int .i64 (xs[k]'(by rw [HN.out]; exact hlt))) := by simpa using hcb
      generalize xs[k]'(by rw [HN.out]; exact hlt) = z at hcx hcy
      clear hca hcb
      have hi : (k : Int) < (n : Int) := by omega
      go_wp2
      go_quiet (fail)
      go_wp2
      go_roundw
      case rel => exact ⟨k + 1, _, by omega, by go_num, rfl⟩
      case measure => simp [intOf]; omega
    · go_wp2
      go_ret
      exact ⟨rfl, q, rfl⟩

/-- The sum of the first k numbers. -/
def sumF (xs : List Int) : Nat → Int
  | 0 => 0
  | k + 1 => sumF xs k + xs.getD k 0
set_option maxHeartbeats 400000 in
theorem hSum_any (A : Option Addr) (n c lo hi : Nat) (xs : List Int) (w : World) (hn : xs.length = n) (hm : n ≤ 1000000000)
    (ha : Own w lo hi A (i64s xs)) (hs : ∀ k, k ≤ n → -1000000000000000000 ≤ sumF xs k ∧ sumF xs k ≤ 1000000000000000000) :
    Calls Tryz.prog 37 #[.slice A n c] w fun e w' => e = .returned (.int .i64 (sumF xs n)) ∧ w = w' := by
  have HA := Lib.hid ha
  have HN := Lib.hid hn
  have HS := Lib.hid hs
  clear ha hn hs
  go_enter Tryz.func37, Tryz.ntmps37
  go_wp2
  go_loop [3, 8] (fun v i => ∃ k : Nat, k ≤ n ∧ i = .int .i64 k ∧ v = .int .i64 (sumF xs k)) (fun _ i => n - (intOf i).toNat)
  case atStart => exact ⟨0, Nat.zero_le _, rfl, rfl⟩
  case round =>
    obtain ⟨k, hk, rfl, rfl⟩ := hrel
    by_cases hlt : k < n
    · obtain ⟨g, o, rfl, _, _, hca, _⟩ := HA.out.at_ (k := k) (by simp [HN.out]; exact hlt)
      have hd : xs.getD k 0 = xs[k]'(by rw [HN.out]; exact hlt) := by simp [List.getD, List.getElem?_eq_getElem (show k < xs.length by rw [HN.out]; exact hlt)]
      have hcx : w.cell? ⟨g, o + k, none⟩ = some (.int .i64 (xs.getD k 0)) := by rw [hd]; simpa using hca
      have HE : Hid (sumF xs (k + 1) = sumF xs k + xs.getD k 0) := Lib.hid rfl
      obtain ⟨s0, s1⟩ := HS.out k (by omega)
      obtain ⟨s2, s3⟩ := HS.out (k + 1) (by omega)
      rw [HE.out] at s2 s3
      have HR : Hid (∀ v : Value, v = .int .i64 (sumF xs k + xs.getD k 0) → v = .int .i64 (sumF xs (k + 1))) := Lib.hid fun v h => h
      clear hca hd HE
      generalize xs.getD k 0 = z at *
      generalize sumF xs k = s at *
      have hi : (k : Int) < (n : Int) := by omega
      go_wp2
      go_round
      case rel => exact ⟨k + 1, by omega, by go_num, HR.out _ rfl⟩
      case measure => simp [intOf]; omega
    · obtain rfl : k = n := by omega
      go_wp2
      go_ret
      exact ⟨rfl, rfl⟩
end Go.Proofs.YtbabkcjnfdpafaaGreatDoor

/- Contracts of the program's functions of chapter 1, 2: rules and places. -/
namespace Go.Proofs.YtbabkcjnfdpafaaGreatDoor
open Go.RowKit

theorem areSides_yes (s : Int) (w : World) (h1 : 3 ≤ s) (h2 : s ≤ 24) :
    Calls Tryz.prog 86 #[.int .i64 s] w fun e w' => e = .returned (.bool true) ∧ w = w' := by
  go_enter Tryz.func86, Tryz.ntmps86
  go_wp2_with (go_at_call 79; refine (within_yes _ _ _ _ h1 h2).mono ?_; rintro e w' ⟨rfl, rfl⟩)
  go_ret
  exact ⟨rfl, rfl⟩
theorem areSides_no (s : Int) (w : World) (h : s < 3 ∨ 24 < s) :
    Calls Tryz.prog 86 #[.int .i64 s] w fun e w' => e = .returned (.bool false) ∧ w = w' := by
  have H := Lib.hid h
  clear h
  go_enter Tryz.func86, Tryz.ntmps86
  go_wp2_with (go_at_call 79; refine (within_no _ _ _ _ H.out).mono ?_; rintro e w' ⟨rfl, rfl⟩)
  go_ret
  exact ⟨rfl, rfl⟩
theorem asap_yes (s p l : Int) (w : World) (h1 : 3 ≤ s) (h2 : s ≤ 24) (h3 : l ≤ p) (h4 : p ≤ 100000) :
    Calls Tryz.prog 52 #[.int .i64 s, .int .i64 p, .int .i64 l] w fun e w' => e = .returned (.bool true) ∧ w = w' := by
  go_enter Tryz.func52, Tryz.ntmps52
  go_wp2_with (first
    | (go_at_call 86; refine (areSides_yes _ _ h1 h2).mono ?_; rintro e w' ⟨rfl, rfl⟩)
    | (go_at_call 79; refine (within_yes _ _ _ _ h3 h4).mono ?_; rintro e w' ⟨rfl, rfl⟩))
  go_ret
  exact ⟨rfl, rfl⟩
theorem asap_no (s p l : Int) (w : World) (h : (s < 3 ∨ 24 < s) ∨ (p < l ∨ 100000 < p)) :
    Calls Tryz.prog 52 #[.int .i64 s, .int .i64 p, .int .i64 l] w fun e w' => e = .returned (.bool false) ∧ w = w' := by
  by_cases hs : s < 3 ∨ 24 < s
  · have H := Lib.hid hs
    clear h hs
    go_enter Tryz.func52, Tryz.ntmps52
    go_wp2_with (go_at_call 86; refine (areSides_no _ _ H.out).mono ?_; rintro e w' ⟨rfl, rfl⟩)
    go_ret
    exact ⟨rfl, rfl⟩
  · have h1 : 3 ≤ s := by omega
    have h2 : s ≤ 24 := by omega
    have H : Hid (p < l ∨ 100000 < p) := Lib.hid (by omega)
    clear h hs
    go_enter Tryz.func52, Tryz.ntmps52
    go_wp2_with (first
      | (go_at_call 86; refine (areSides_yes _ _ h1 h2).mono ?_; rintro e w' ⟨rfl, rfl⟩)
      | (go_at_call 79; refine (within_no _ _ _ _ H.out).mono ?_; rintro e w' ⟨rfl, rfl⟩))
    go_ret
    exact ⟨rfl, rfl⟩
theorem polygonRule_any (s : Int) (w : World) (h1 : 3 ≤ s) (h2 : s ≤ 24) :
    Calls Tryz.prog 53 #[.int .i64 s] w fun e w' => e = .returned (.agg #[.int .i64 0, .int .i64 (4 - s), .int .i64 (s - 2)]) ∧ Below w.heap.size w w' := by
  go_enter Tryz.func53, Tryz.ntmps53
  go_wp2
  exact bodyPost_ret (v := .agg #[.int .i64 0, .int .i64 (4 - s), .int .i64 (s - 2)]) (by simp [results, Tryz.results53, go_sem]) rfl ⟨rfl, (Below.refl _ _).alloc (Nat.le_refl _) _⟩

/-- What a rule's walk asks of a place: the doubled number is 2 v. -/
structure RuleBds (a b c k v : Int) : Prop where
  e : a + b * k + c * k * k = 2 * v
  v0 : 0 ≤ v
  v1 : v ≤ 400000000000000
  p0 : -400000000000000 ≤ b * k
  p1 : b * k ≤ 400000000000000
  q0 : -400000000000000 ≤ c * k
  q1 : c * k ≤ 400000000000000
  r0 : -400000000000000 ≤ c * k * k
  r1 : c * k * k ≤ 400000000000000
  a0 : -1000 ≤ a
  a1 : a ≤ 1000

theorem numberAt_any (a b c k v : Int) (w : World) (h : RuleBds a b c k v) :
    Calls Tryz.prog 54 #[.agg #[.int .i64 a, .int .i64 b, .int .i64 c], .int .i64 k] w fun e w' => e = .returned (.int .i64 v) ∧ Below w.heap.size w w' := by
  obtain ⟨he, v0, v1, p0, p1, q0, q1, r0, r1, a0, a1⟩ := h
  have hd : 0 ≤ a + b * k + c * k * k := by omega
  have hv : (a + b * k + c * k * k) / 2 = v := by omega
  have H := Lib.hid hv
  clear he hv
  go_enter Tryz.func54, Tryz.ntmps54
  go_wp2
  go_ret
  exact ⟨ret_int H.out, (Below.refl _ _).alloc (Nat.le_refl _) _⟩

end Go.Proofs.YtbabkcjnfdpafaaGreatDoor

/- Contracts of the program's functions of chapter 1, 3: the last place up to a number, and the place of a number. -/
namespace Go.Proofs.YtbabkcjnfdpafaaGreatDoor
open Go.RowKit

/-- What a rule's numbers V and the greatest place L that fits must keep. -/
structure Fits (a b c n L : Int) (V : Int → Int) : Prop where
  bds : ∀ k, 0 ≤ k → k < 2097152 → RuleBds a b c k (V k)
  l0 : 0 ≤ L
  l1 : L < 2097152
  iff : ∀ k, 1 ≤ k → k < 2097152 → (V k ≤ n ↔ k ≤ L)


end Go.Proofs.YtbabkcjnfdpafaaGreatDoor

/- The laws FnExactPolygonNumber, FnExactWideNumber, FnExactGnomonOf, FnExactSquareTest: the program's number is the specification's, whatever the arguments. No condition. -/
namespace Go.Proofs.YtbabkcjnfdpafaaGreatDoor
open Go.ChangeShapes Go.WideShapes Go.ChangeAt Go.RowKit

theorem polyRule_bds (s k : Int) (h1 : 3 ≤ s) (h2 : s ≤ 24) (h3 : -3000000 ≤ k) (h4 : k ≤ 3000000) : RuleBds 0 (4 - s) (s - 2) k (num s k) := by
  obtain ⟨a0, a1, b0, b1, c0, c1, d0⟩ := num_bds s k h1 h2 h3 h4
  have e1 := num_twice s k
  have e2 : (4 - s) * k = -((s - 4) * k) := by grind
  constructor <;> omega

theorem impl_PolygonNumber_no (s p : Int) (w : World) (h : (s < 3 ∨ 24 < s) ∨ (p < 0 ∨ 100000 < p)) :
    Calls Tryz.prog 18 #[.int .i64 s, .int .i64 p] w fun e w' => e = .returned (.tuple #[.int .i64 0, .bool false]) ∧ w = w' := by
  have H := Lib.hid h
  clear h
  go_enter Tryz.func18, Tryz.ntmps18
  go_wp2_with (first | (go_at_call 52; refine (asap_no _ _ _ _ H.out).mono ?_; rintro e w' ⟨rfl, rfl⟩))
  go_ret2
  exact ⟨rfl, rfl⟩
theorem impl_PolygonNumber_yes (s p : Int) (w : World) (h1 : 3 ≤ s) (h2 : s ≤ 24) (h3 : 0 ≤ p) (h4 : p ≤ 100000) :
    Calls Tryz.prog 18 #[.int .i64 s, .int .i64 p] w fun e w' => e = .returned (.tuple #[.int .i64 (num s p), .bool true]) ∧ Below w.heap.size w w' := by
  go_enter Tryz.func18, Tryz.ntmps18
  go_wp2_with (first
    | (go_at_call 52; refine (asap_yes _ _ _ _ h1 h2 h3 h4).mono ?_; rintro e w' ⟨rfl, rfl⟩)
    | (go_at_call 53; refine (polygonRule_any _ _ h1 h2).mono ?_; rintro e w1 ⟨rfl, hb1⟩)
    | (go_at_call 54; refine (numberAt_any _ _ _ _ _ _ (polyRule_bds s p h1 h2 (by omega) (by omega))).mono ?_; rintro e w2 ⟨rfl, hb2⟩))
  go_ret2
  exact ⟨rfl, hb1.trans (hb2.mono hb1.size)⟩
theorem impl_GnomonOf_no (s p : Int) (w : World) (h : (s < 3 ∨ 24 < s) ∨ (p < 1 ∨ 100000 < p)) :
    Calls Tryz.prog 19 #[.int .i64 s, .int .i64 p] w fun e w' => e = .returned (.tuple #[.int .i64 0, .bool false]) ∧ w = w' := by
  have H := Lib.hid h
  clear h
  go_enter Tryz.func19, Tryz.ntmps19
  go_wp2_with (first | (go_at_call 52; refine (asap_no _ _ _ _ H.out).mono ?_; rintro e w' ⟨rfl, rfl⟩))
  go_ret2
  exact ⟨rfl, rfl⟩
theorem gnomon (s p : Int) : num s p - num s (p - 1) = (s - 2) * (p - 1) + 1 := by
  have := num_succ s (p - 1)
  rw [show p - 1 + 1 = p from by omega] at this
  omega
theorem impl_GnomonOf_yes (s p : Int) (w : World) (h1 : 3 ≤ s) (h2 : s ≤ 24) (h3 : 1 ≤ p) (h4 : p ≤ 100000) :
    Calls Tryz.prog 19 #[.int .i64 s, .int .i64 p] w fun e w' => e = .returned (.tuple #[.int .i64 ((s - 2) * (p - 1) + 1), .bool true]) ∧ Below w.heap.size w w' := by
  obtain ⟨a0, a1, b0, b1, c0, c1, d0⟩ := num_bds s (p - 1) h1 h2 (by omega) (by omega)
  go_enter Tryz.func19, Tryz.ntmps19
  go_wp2_with (first
    | (go_at_call 52; refine (asap_yes _ _ _ _ h1 h2 h3 h4).mono ?_; rintro e w' ⟨rfl, rfl⟩))
  go_ret2
  exact ⟨rfl, Below.refl _ _⟩
end Go.Proofs.YtbabkcjnfdpafaaGreatDoor

/- The laws FnExactPlaceOf, FnExactIsPolygonal, FnExactNextPolygonal, FnExactCountUpTo: the program's answer is the specification's, whatever the arguments. No condition. -/
namespace Go.Proofs.YtbabkcjnfdpafaaGreatDoor
open Go.ChangeShapes Go.WideShapes Go.ChangeAt Go.RowKit

theorem poly_fits (s n : Int) (h1 : 3 ≤ s) (h2 : s ≤ 24) (h3 : 0 ≤ n) (h4 : n ≤ 1000000000000) : Fits 0 (4 - s) (s - 2) n (pl s n) (num s) :=
  ⟨fun k h5 h6 => polyRule_bds s k h1 h2 (by omega) (by omega), pl_nn s n h1 h3, by have := pl_le s n h1 h3 h4; omega, fun k h5 _ => fits_iff s n k h1 h3 (by omega)⟩
end Go.Proofs.YtbabkcjnfdpafaaGreatDoor

/- The laws FnExactCentredNumber, FnExactCentredPlace, FnExactWidePlace, FnExactRootOf: the program's answer is the specification's, whatever the arguments. No condition. -/
namespace Go.Proofs.YtbabkcjnfdpafaaGreatDoor
open Go.ChangeShapes Go.WideShapes Go.ChangeAt Go.RowKit

theorem centredRule_any (s : Int) (w : World) (h1 : 3 ≤ s) (h2 : s ≤ 24) :
    Calls Tryz.prog 60 #[.int .i64 s] w fun e w' => e = .returned (.agg #[.int .i64 2, .int .i64 (-s), .int .i64 s]) ∧ Below w.heap.size w w' := by
  go_enter Tryz.func60, Tryz.ntmps60
  go_wp2
  exact bodyPost_ret (v := .agg #[.int .i64 2, .int .i64 (-s), .int .i64 s]) (by simp [results, Tryz.results60, go_sem]) rfl ⟨rfl, (Below.refl _ _).alloc (Nat.le_refl _) _⟩
theorem cenRule_bds (s k : Int) (h1 : 3 ≤ s) (h2 : s ≤ 24) (h3 : 0 ≤ k) (h4 : k ≤ 3000000) : RuleBds 2 (-s) s k (cen s k) := by
  obtain ⟨a0, a1, b0, b1⟩ := cen_bds s k h1 h2 h3 h4
  have e1 := cen_twice s k
  have e2 : s * (k * (k - 1)) = s * k * k - s * k := by grind
  have e3 : s * k * (k - 1) = s * k * k - s * k := by grind
  have e4 : -s * k = -(s * k) := by grind
  constructor <;> omega
theorem cen_fits (s n : Int) (h1 : 3 ≤ s) (h2 : s ≤ 24) (h3 : 0 ≤ n) (h4 : n ≤ 1000000000000) : Fits 2 (-s) s n (cpl s n) (cen s) :=
  ⟨fun k h5 h6 => cenRule_bds s k h1 h2 h5 (by omega), cpl_nn s n h1 h3, by have := cpl_le s n h1 h3 h4; omega, fun k h5 _ => cfits_iff s n k h1 h3 h5⟩
theorem impl_CentredNumber_no (s p : Int) (w : World) (h : (s < 3 ∨ 24 < s) ∨ (p < 1 ∨ 100000 < p)) :
    Calls Tryz.prog 22 #[.int .i64 s, .int .i64 p] w fun e w' => e = .returned (.tuple #[.int .i64 0, .bool false]) ∧ w = w' := by
  have H := Lib.hid h
  clear h
  go_enter Tryz.func22, Tryz.ntmps22
  go_wp2_with (first | (go_at_call 52; refine (asap_no _ _ _ _ H.out).mono ?_; rintro e w' ⟨rfl, rfl⟩))
  go_ret2
  exact ⟨rfl, rfl⟩
theorem impl_CentredNumber_yes (s p : Int) (w : World) (h1 : 3 ≤ s) (h2 : s ≤ 24) (h3 : 1 ≤ p) (h4 : p ≤ 100000) :
    Calls Tryz.prog 22 #[.int .i64 s, .int .i64 p] w fun e w' => e = .returned (.tuple #[.int .i64 (cen s p), .bool true]) ∧ Below w.heap.size w w' := by
  go_enter Tryz.func22, Tryz.ntmps22
  go_wp2_with (first
    | (go_at_call 52; refine (asap_yes _ _ _ _ h1 h2 h3 h4).mono ?_; rintro e w' ⟨rfl, rfl⟩)
    | (go_at_call 60; refine (centredRule_any _ _ h1 h2).mono ?_; rintro e w1 ⟨rfl, hb1⟩)
    | (go_at_call 54; refine (numberAt_any _ _ _ _ _ _ (cenRule_bds s p h1 h2 (by omega) (by omega))).mono ?_; rintro e w2 ⟨rfl, hb2⟩))
  go_ret2
  exact ⟨rfl, hb1.trans (hb2.mono hb1.size)⟩
end Go.Proofs.YtbabkcjnfdpafaaGreatDoor

/- The laws FnExactWidePlace, FnExactRootOf: the program's answer is the specification's, whatever the arguments. No condition. -/
namespace Go.Proofs.YtbabkcjnfdpafaaGreatDoor
open Go.ChangeShapes Go.WideShapes Go.ChangeAt Go.RowKit

theorem belRule_bds (s k : Int) (h1 : 3 ≤ s) (h2 : s ≤ 24) (h3 : 0 ≤ k) (h4 : k ≤ 3000000) : RuleBds 0 (s - 4) (s - 2) k (num s (-k)) := by
  obtain ⟨a0, a1, b0, b1, c0, c1, d0⟩ := num_bds s k h1 h2 (by omega) h4
  have e1 := neg_twice s k
  have e2 := num_nn s (-k) h1
  constructor <;> omega
theorem bel_fits (s n : Int) (h1 : 3 ≤ s) (h2 : s ≤ 24) (h3 : 0 ≤ n) (h4 : n ≤ 1000000000000) : Fits 0 (s - 4) (s - 2) n (wl s n) (fun k => num s (-k)) :=
  ⟨fun k h5 h6 => belRule_bds s k h1 h2 h5 (by omega), wl_nn s n h1 h3, by have := wl_le s n h1 h3 h4; omega, fun k h5 _ => wfits_iff s n k h1 h3 (by omega)⟩

end Go.Proofs.YtbabkcjnfdpafaaGreatDoor

/- What the functions of chapter 1 that take numbers answer, as plain functions. No program in sight. -/
namespace Go.Proofs.YtbabkcjnfdpafaaGreatDoor

def sdB (s : Int) : Bool := decide (3 ≤ s ∧ s ≤ 24)
def tsB (s n : Int) : Bool := decide ((3 ≤ s ∧ s ≤ 24) ∧ 0 ≤ n ∧ n ≤ 1000000000000)
def pnB (s p : Int) : Bool := decide ((3 ≤ s ∧ s ≤ 24) ∧ 0 ≤ p ∧ p ≤ 100000)
noncomputable def pnV (s p : Int) : Int := bif pnB s p then num s p else 0
noncomputable def poB (s n : Int) : Bool := tsB s n && decide (num s (pl s n) = n)
noncomputable def poV (s n : Int) : Int := bif poB s n then pl s n else 0
noncomputable def npV (s n : Int) : Int := bif tsB s n then num s (pl s n + 1) else 0
noncomputable def cuV (s n : Int) : Int := bif tsB s n then pl s n else 0
def stV (s n : Int) : Int := bif tsB s n then 8 * (s - 2) * n + (s - 4) * (s - 4) else 0
noncomputable def wdB (s n : Int) : Bool := tsB s n && (decide (num s (pl s n) = n) || decide (num s (-wl s n) = n))
noncomputable def wdV (s n : Int) : Int := bif poB s n then pl s n else bif wdB s n then -wl s n else 0
def rtB (n : Int) : Bool := decide (0 ≤ n ∧ n ≤ 4000000000000000000)
noncomputable def rtV (n : Int) : Int := bif rtB n then rt n else 0
def wnB (s p : Int) : Bool := decide ((3 ≤ s ∧ s ≤ 24) ∧ -100000 ≤ p ∧ p ≤ 100000)
def wnV (s p : Int) : Int := bif wnB s p then num s p else 0
def gnB (s p : Int) : Bool := decide ((3 ≤ s ∧ s ≤ 24) ∧ 1 ≤ p ∧ p ≤ 100000)
def gnV (s p : Int) : Int := bif gnB s p then (s - 2) * (p - 1) + 1 else 0
def cnV (s p : Int) : Int := bif gnB s p then cen s p else 0
noncomputable def cpB (s n : Int) : Bool := tsB s n && decide (cen s (cpl s n) = n)
noncomputable def cpV (s n : Int) : Int := bif cpB s n then cpl s n else 0
end Go.Proofs.YtbabkcjnfdpafaaGreatDoor

/- The functions of chapter 1 that take numbers, each with one contract: whatever the arguments, what it answers is said by plain functions. No condition. -/
namespace Go.Proofs.YtbabkcjnfdpafaaGreatDoor
open Go.ChangeShapes Go.WideShapes Go.ChangeAt Go.RowKit


theorem tsB_no {s n : Int} (h : (s < 3 ∨ 24 < s) ∨ (n < 0 ∨ 1000000000000 < n)) : tsB s n = false := by simp [tsB]; omega
theorem tsB_yes {s n : Int} (h : ¬ ((s < 3 ∨ 24 < s) ∨ (n < 0 ∨ 1000000000000 < n))) : tsB s n = true := by simp [tsB]; omega
theorem pnB_no {s n : Int} (h : (s < 3 ∨ 24 < s) ∨ (n < 0 ∨ 100000 < n)) : pnB s n = false := by simp [pnB]; omega
theorem pnB_yes {s n : Int} (h : ¬ ((s < 3 ∨ 24 < s) ∨ (n < 0 ∨ 100000 < n))) : pnB s n = true := by simp [pnB]; omega
theorem wnB_no {s n : Int} (h : (s < 3 ∨ 24 < s) ∨ (n < -100000 ∨ 100000 < n)) : wnB s n = false := by simp [wnB]; omega
theorem wnB_yes {s n : Int} (h : ¬ ((s < 3 ∨ 24 < s) ∨ (n < -100000 ∨ 100000 < n))) : wnB s n = true := by simp [wnB]; omega
theorem gnB_no {s n : Int} (h : (s < 3 ∨ 24 < s) ∨ (n < 1 ∨ 100000 < n)) : gnB s n = false := by simp [gnB]; omega
theorem gnB_yes {s n : Int} (h : ¬ ((s < 3 ∨ 24 < s) ∨ (n < 1 ∨ 100000 < n))) : gnB s n = true := by simp [gnB]; omega
theorem impl_PolygonNumber_any (s n : Int) (w : World) :
    Calls Tryz.prog 18 #[.int .i64 s, .int .i64 n] w fun e w' => e = .returned (.tuple #[.int .i64 (pnV s n), .bool (pnB s n)]) ∧ Below w.heap.size w w' := by
  by_cases h : (s < 3 ∨ 24 < s) ∨ (n < 0 ∨ 100000 < n)
  · have e := pnB_no h
    rw [show pnV s n = 0 from by simp [pnV, e], e]
    first | exact impl_PolygonNumber_no s n w h | exact (impl_PolygonNumber_no s n w h).mono (fun e w' h => ⟨h.1, by rw [← h.2]; exact Below.refl _ _⟩)
  · have e := pnB_yes h
    rw [show pnV s n = num s n from by simp [pnV, e], e]
    first | exact impl_PolygonNumber_yes s n w (by omega) (by omega) (by omega) (by omega) | exact (impl_PolygonNumber_yes s n w (by omega) (by omega) (by omega) (by omega)).mono (fun e w' h => ⟨h.1, by rw [← h.2]; exact Below.refl _ _⟩)
theorem impl_GnomonOf_any (s n : Int) (w : World) :
    Calls Tryz.prog 19 #[.int .i64 s, .int .i64 n] w fun e w' => e = .returned (.tuple #[.int .i64 (gnV s n), .bool (gnB s n)]) ∧ Below w.heap.size w w' := by
  by_cases h : (s < 3 ∨ 24 < s) ∨ (n < 1 ∨ 100000 < n)
  · have e := gnB_no h
    rw [show gnV s n = 0 from by simp [gnV, e], e]
    first | exact impl_GnomonOf_no s n w h | exact (impl_GnomonOf_no s n w h).mono (fun e w' h => ⟨h.1, by rw [← h.2]; exact Below.refl _ _⟩)
  · have e := gnB_yes h
    rw [show gnV s n = (s - 2) * (n - 1) + 1 from by simp [gnV, e], e]
    first | exact impl_GnomonOf_yes s n w (by omega) (by omega) (by omega) (by omega) | exact (impl_GnomonOf_yes s n w (by omega) (by omega) (by omega) (by omega)).mono (fun e w' h => ⟨h.1, by rw [← h.2]; exact Below.refl _ _⟩)
theorem impl_CentredNumber_any (s n : Int) (w : World) :
    Calls Tryz.prog 22 #[.int .i64 s, .int .i64 n] w fun e w' => e = .returned (.tuple #[.int .i64 (cnV s n), .bool (gnB s n)]) ∧ Below w.heap.size w w' := by
  by_cases h : (s < 3 ∨ 24 < s) ∨ (n < 1 ∨ 100000 < n)
  · have e := gnB_no h
    rw [show cnV s n = 0 from by simp [cnV, e], e]
    first | exact impl_CentredNumber_no s n w h | exact (impl_CentredNumber_no s n w h).mono (fun e w' h => ⟨h.1, by rw [← h.2]; exact Below.refl _ _⟩)
  · have e := gnB_yes h
    rw [show cnV s n = cen s n from by simp [cnV, e], e]
    first | exact impl_CentredNumber_yes s n w (by omega) (by omega) (by omega) (by omega) | exact (impl_CentredNumber_yes s n w (by omega) (by omega) (by omega) (by omega)).mono (fun e w' h => ⟨h.1, by rw [← h.2]; exact Below.refl _ _⟩)
end Go.Proofs.YtbabkcjnfdpafaaGreatDoor

/- A list's capacity is at least its length. No condition. -/
namespace Go.Proofs.YtbabkcjnfdpafaaGreatDoor
open Go.RowKit
theorem row_cap {w : World} {base : Nat} {e : TypeId} {size n c : Nat} {A : Option Addr} {cs : List Value} (h : w.ownsRow base e size (.slice A n c) n cs) : n ≤ c := by
  rcases h.2 with ⟨hv, h0⟩ | ⟨g, cap, cur, hv, hg, hh, hnc, _⟩
  · injection hv with _ h1 h2
    omega
  · injection hv with _ h1 h2
    omega
/-- What a function with a slice of numbers and a bool hands back, its capacity, too. -/
def ResC (ok : Bool) (xs : List Int) (w : World) (e : Ending) (w' : World) : Prop :=
  ∃ A c, xs.length ≤ c ∧ e = .returned (.tuple #[.slice A xs.length c, .bool ok]) ∧ Own w' w.heap.size w'.heap.size A (i64s xs) ∧ Below w.heap.size w w'
theorem resC_nil {ok : Bool} {w : World} {e : Ending} {w' : World} (h : ResI ok [] w e w') : ResC ok [] w e w' := by
  obtain ⟨A, c, he, ho, hb⟩ := h
  exact ⟨A, c, Nat.zero_le _, he, ho, hb⟩
end Go.Proofs.YtbabkcjnfdpafaaGreatDoor
