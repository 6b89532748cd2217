/- Chapter 8: the law ShapeOfList. -/
import Derived.Test.YtmjgjdebcmbjeaaTcK
import Derived.Test.YtmjgjdebcmbjeaaTcL
import Derived.Test.YtmjgjdebcmbjeaaTbG
import Derived.Test.YtmjgjdebcmbjeaaSuB
import Derived.BigRegion
namespace Go.Proofs.Ytmjgjdebcmbjeaa
open Go.ChangeShapes Go.WideShapes Go.ChangeAt Go.RowKit

def sd8 (xs : List Int) : Int := xs.getD 2 0 - 2 * xs.getD 1 0 + xs.getD 0 0 + 2
/-- The first k numbers are those of the places from p on. -/
def mt8 (s p : Int) (xs : List Int) : Nat → Bool
  | 0 => true
  | k + 1 => mt8 s p xs k && (num s (p + (k : Int)) == xs.getD k 0)
theorem mt8_no (s p : Int) (xs : List Int) (k : Nat) (h : mt8 s p xs k = false) : ∀ n, k ≤ n → mt8 s p xs n = false
  | 0, hn => by obtain rfl : k = 0 := by omega
                exact h
  | n + 1, hn => by
    rcases Nat.lt_or_ge k (n + 1) with h1 | h1
    · rw [mt8, mt8_no s p xs k h n (by omega), Bool.false_and]
    · obtain rfl : k = n + 1 := by omega
      exact h
abbrev R3 (a b : Int) (ok : Bool) : Ending := .returned (.tuple #[.int .i64 a, .int .i64 b, .bool ok])
/-- What is handed back when the sides are right. -/
def ans3 (r : Bool) (s p : Int) : Ending := if r = true then R3 s p true else R3 0 0 false
theorem spec_ShapeOfList_no (A : Option Addr) (n c lo : Nat) (xs : List Int) (w : World) (hn : xs.length = n) (hm : n ≤ 1048576) (ha : Own w lo w.heap.size A (i64s xs)) (h : gd8 xs = false ∨ n < 3) :
    Calls Try.prog 54 #[.slice A n c] w fun e w' => e = R3 0 0 false ∧ Below w.heap.size w w' := by
  have HG := Lib.hid (dfGood_any A n c lo w.heap.size xs w hn hm ha)
  clear ha hn
  cases hg : gd8 xs with
  | false =>
    rw [hg] at HG
    clear h hg
    go_enter Try.func54, Try.ntmps54
    go_wp2_with (go_at_call 58; refine HG.out.mono ?_; rintro e w' ⟨rfl, rfl⟩)
    go_ret3
    exact ⟨rfl, Below.refl _ _⟩
  | true =>
    rw [hg] at HG
    have h3 : (n : Int) < 3 := by
      rcases h with h | h
      · rw [hg] at h; cases h
      · omega
    clear h hg
    go_enter Try.func54, Try.ntmps54
    go_wp2_with (go_at_call 58; refine HG.out.mono ?_; rintro e w' ⟨rfl, rfl⟩)
    go_ret3
    exact ⟨rfl, Below.refl _ _⟩
theorem impl_ShapeOfList_no (A : Option Addr) (n c lo : Nat) (xs : List Int) (w : World) (hn : xs.length = n) (hm : n ≤ 1048576) (ha : Own w lo w.heap.size A (i64s xs)) (h : gd8 xs = false ∨ n < 3) :
    Calls Try.prog 55 #[.slice A n c] w fun e w' => e = R3 0 0 false ∧ Below w.heap.size w w' := by
  have HG := Lib.hid (isList8_any A n c lo w.heap.size xs w hn hm ha)
  clear ha hn
  cases hg : gd8 xs with
  | false =>
    rw [hg] at HG
    clear h hg
    go_enter Try.func55, Try.ntmps55
    go_wp2_with (go_at_call 60; refine HG.out.mono ?_; rintro e w' ⟨rfl, rfl⟩)
    go_ret3
    exact ⟨rfl, Below.refl _ _⟩
  | true =>
    rw [hg] at HG
    have h3 : (n : Int) < 3 := by
      rcases h with h | h
      · rw [hg] at h; cases h
      · omega
    clear h hg
    go_enter Try.func55, Try.ntmps55
    go_wp2_with (go_at_call 60; refine HG.out.mono ?_; rintro e w' ⟨rfl, rfl⟩)
    go_ret3
    exact ⟨rfl, Below.refl _ _⟩
/-- What stands in the list, as the walks ask it. -/
theorem shape_cells {w : World} {lo hi : Nat} {A : Option Addr} {xs : List Int} (ha : Own w lo hi A (i64s xs)) (h3 : 3 ≤ xs.length) : ∃ g o, A = some ⟨g, o, none⟩ ∧ g < hi ∧
    w.cell? ⟨g, o, none⟩ = some (.int .i64 (xs.getD 0 0)) ∧ w.cell? ⟨g, o + 1, none⟩ = some (.int .i64 (xs.getD 1 0)) ∧ w.cell? ⟨g, o + 2, none⟩ = some (.int .i64 (xs.getD 2 0)) ∧
    ∀ j, j < xs.length → w.cell? ⟨g, o + j, none⟩ = some (.int .i64 (xs.getD j 0)) := by
  obtain ⟨g, o, e, _, h2, hc⟩ := ha (by simp; omega)
  have hj : ∀ j, j < xs.length → w.cell? ⟨g, o + j, none⟩ = some (.int .i64 (xs.getD j 0)) := fun j hj => (hc j _ (by simp [List.getD_eq_getElem?_getD, hj])).1
  exact ⟨g, o, e, h2, hj 0 (by omega), hj 1 (by omega), hj 2 (by omega), hj⟩
set_option maxRecDepth 8000 in
set_option maxHeartbeats 1600000 in
theorem spec_ShapeOfList_out (A : Option Addr) (n c lo : Nat) (xs : List Int) (w : World) (hn : xs.length = n) (ha : Own w lo w.heap.size A (i64s xs)) (h : gd8 xs = true) (h3 : 3 ≤ n) (ho : (sd8 xs < 3 ∨ 24 < sd8 xs) ∨ xs.getD 0 0 < 0) :
    Calls Try.prog 54 #[.slice A n c] w fun e w' => e = R3 0 0 false ∧ Below w.heap.size w w' := by
  have hl := gd8_len h
  rw [hn] at hl
  have HG := Lib.hid (dfGood_any A n c lo w.heap.size xs w hn (by omega) ha)
  rw [h] at HG
  have b0 := gd8_at h 0
  have b1 := gd8_at h 1
  have b2 := gd8_at h 2
  obtain ⟨g, o, rfl, hg, c0, c1, c2, hcs⟩ := shape_cells ha (by omega)
  have hs : sd8 xs = xs.getD 2 0 - 2 * xs.getD 1 0 + xs.getD 0 0 + 2 := rfl
  generalize sd8 xs = s at *
  generalize xs.getD 0 0 = x at *
  generalize xs.getD 1 0 = y at *
  generalize xs.getD 2 0 = z at *
  have e1 : IntKind.i64.wrap (2 * y) = 2 * y := IntWalk.i64_in _ (by omega)
  have e2 : IntKind.i64.wrap (z - 2 * y) = z - 2 * y := IntWalk.i64_in _ (by omega)
  have e3 : IntKind.i64.wrap (z - 2 * y + x) = z - 2 * y + x := IntWalk.i64_in _ (by omega)
  have e4 : IntKind.i64.wrap (z - 2 * y + x + 2) = s := by rw [IntWalk.i64_in _ (by omega), hs]
  have q3 : ¬ (n : Int) < 3 := by omega
  have q0 : (0 : Int) < (n : Int) := by omega
  have q1 : (1 : Int) < (n : Int) := by omega
  have q2 : (2 : Int) < (n : Int) := by omega
  by_cases h1 : s < 3 ∨ 24 < s
  · have HS := Lib.hid fun W => shSides_no s W h1
    clear h1 ho hs ha hn h b0 b1 b2 hcs h3 hl
    go_enter Try.func54, Try.ntmps54
    go_wp2_with (go_at_call 58; refine HG.out.mono ?_; rintro e w' ⟨rfl, rfl⟩)
    go_region
    all_goals
      go_wp2_with (go_at_call 88; refine (HS.out _).mono ?_; rintro e w' ⟨rfl, rfl⟩)
      go_ret3
      exact ⟨rfl, (Below.refl _ _).drew⟩
  · have HS := Lib.hid fun W => shSides_yes s W (by omega) (by omega)
    have hx : x < 0 := by omega
    clear h1 ho hs ha hn h b0 b1 b2 hcs h3 hl
    go_enter Try.func54, Try.ntmps54
    go_wp2_with (go_at_call 58; refine HG.out.mono ?_; rintro e w' ⟨rfl, rfl⟩)
    go_region
    all_goals
      go_wp2_with (go_at_call 88; refine (HS.out _).mono ?_; rintro e w' ⟨rfl, rfl⟩)
      go_ret3
      exact ⟨rfl, (Below.refl _ _).drew⟩
set_option maxRecDepth 8000 in
set_option maxHeartbeats 3200000 in
theorem spec_ShapeOfList_in (A : Option Addr) (n c lo : Nat) (xs : List Int) (w : World) (hn : xs.length = n) (ha : Own w lo w.heap.size A (i64s xs)) (h : gd8 xs = true) (h3 : 3 ≤ n) (hs1 : 3 ≤ sd8 xs) (hs2 : sd8 xs ≤ 24) (hx0 : 0 ≤ xs.getD 0 0) :
    Calls Try.prog 54 #[.slice A n c] w fun e w' => e = ans3 (mt8 (sd8 xs) (pl (sd8 xs) (xs.getD 0 0)) xs n) (sd8 xs) (pl (sd8 xs) (xs.getD 0 0)) ∧ Below w.heap.size w w' := by
  have hl := gd8_len h
  rw [hn] at hl
  have HG := Lib.hid (dfGood_any A n c lo w.heap.size xs w hn (by omega) ha)
  rw [h] at HG
  have b0 := gd8_at h 0
  have b1 := gd8_at h 1
  have b2 := gd8_at h 2
  obtain ⟨g, o, rfl, hg, c0, c1, c2, hcs⟩ := shape_cells ha (by omega)
  have hs : sd8 xs = xs.getD 2 0 - 2 * xs.getD 1 0 + xs.getD 0 0 + 2 := rfl
  have HC := Lib.hid hcs
  rw [hn] at HC
  generalize sd8 xs = s at *
  have HS := Lib.hid fun W => shSides_yes s W hs1 hs2
  have HBl := Lib.hid fun W => shBelow_any s (xs.getD 0 0) W hs1 hs2 hx0 (by omega)
  have p0 := pl_nn s (xs.getD 0 0) hs1 hx0
  have p1 := pl_le s (xs.getD 0 0) hs1 hx0 (by omega)
  have HNm := Lib.hid fun (k : Int) W h5 h6 => shNumber_any s k W hs1 hs2 h5 h6
  generalize pl s (xs.getD 0 0) = p at *
  obtain ⟨r, hr⟩ : ∃ r, r = mt8 s p xs n := ⟨_, rfl⟩
  rw [← hr]
  have HR := Lib.hid hr
  have HM := Lib.hid (show ∀ k, mt8 s p xs (k + 1) = (mt8 s p xs k && (num s (p + (k : Int)) == xs.getD k 0)) from fun _ => rfl)
  have HNo := Lib.hid fun k (h : mt8 s p xs k = false) hk => mt8_no s p xs k h n hk
  have HM0 : Hid (mt8 s p xs 0 = true) := Lib.hid rfl
  obtain ⟨e, he⟩ : ∃ e, e = ans3 r s p := ⟨_, rfl⟩
  rw [← he]
  have HE := Lib.hid he
  generalize hx : xs.getD 0 0 = x at *
  generalize xs.getD 1 0 = y at *
  generalize xs.getD 2 0 = z at *
  have e1 : IntKind.i64.wrap (2 * y) = 2 * y := IntWalk.i64_in _ (by omega)
  have e2 : IntKind.i64.wrap (z - 2 * y) = z - 2 * y := IntWalk.i64_in _ (by omega)
  have e3 : IntKind.i64.wrap (z - 2 * y + x) = z - 2 * y + x := IntWalk.i64_in _ (by omega)
  have e4 : IntKind.i64.wrap (z - 2 * y + x + 2) = s := by rw [IntWalk.i64_in _ (by omega), hs]
  have q3 : ¬ (n : Int) < 3 := by omega
  have q0 : (0 : Int) < (n : Int) := by omega
  have q1 : (1 : Int) < (n : Int) := by omega
  have q2 : (2 : Int) < (n : Int) := by omega
  have hxn : ¬ x < 0 := by omega
  clear hs ha hn h b0 b1 b2 hcs hr he hx
  go_enter Try.func54, Try.ntmps54
  go_wp2_with (go_at_call 58; refine HG.out.mono ?_; rintro e w' ⟨rfl, rfl⟩)
  go_region
  all_goals
    go_wp2_with (first
      | (go_at_call 88; refine (HS.out _).mono ?_; rintro e w' ⟨rfl, rfl⟩)
      | (go_at_call 90; refine (HBl.out _).mono ?_; rintro e w' ⟨rfl, rfl⟩))
    go_loopw [46] (fun i wr => ∃ k : Nat, k ≤ n ∧ i = .int .i64 (k : Int) ∧ Hid (mt8 s p xs k = true) ∧ wr = w.drew) (fun i _ => n - (intOf i).toNat)
    case atStart => exact ⟨0, by omega, by simp, HM0, rfl⟩
    case round =>
      obtain ⟨k, hk, rfl, HP, rfl⟩ := hrel
      by_cases hlt : k < n
      · have hki : (k : Int) < (n : Int) := by omega
        have hk0 : (0 : Int) ≤ (k : Int) := by omega
        have ck : w.drew.cell? ⟨g, o + k, none⟩ = some (.int .i64 (xs.getD k 0)) := HC.out k hlt
        have HMk := Lib.hid (HM.out k)
        rw [HP.out, Bool.true_and] at HMk
        have e5 : IntKind.i64.wrap (p + (k : Int)) = p + (k : Int) := IntWalk.i64_in _ (by omega)
        have HNk := Lib.hid fun W => HNm.out (p + (k : Int)) W (by omega) (by omega)
        generalize xs.getD k 0 = v at *
        generalize num s (p + (k : Int)) = u at *
        by_cases huv : u = v
        · have HP2 : Hid (mt8 s p xs (k + 1) = true) := Lib.hid (by rw [HMk.out, huv]; simp)
          go_wp2_with (go_at_call 91; refine (HNk.out _).mono ?_; rintro e w' ⟨rfl, rfl⟩)
          go_roundw
          case rel => exact ⟨k + 1, by omega, by go_num, HP2, by trivial⟩
          case measure => simp [intOf]; omega
        · have hf : r = false := by rw [HR.out]; exact HNo.out (k + 1) (by rw [HMk.out]; simpa using huv) (by omega)
          have hE : e = R3 0 0 false := by rw [HE.out, hf]; rfl
          subst hE
          clear hf
          go_wp2_with (go_at_call 91; refine (HNk.out _).mono ?_; rintro e w' ⟨rfl, rfl⟩)
          first | (rw [Exit.noGoto_ret]; go_ret3) | go_ret3
          exact ⟨rfl, (Below.refl _ _).drew⟩
      · obtain rfl : k = n := by omega
        have hE : e = R3 s p true := by rw [HE.out, HR.out, HP.out]; rfl
        subst hE
        go_wp2
        go_ret3
        exact ⟨rfl, (Below.refl _ _).drew⟩
theorem neg_fits (s n : Int) (h1 : 3 ≤ s) (h2 : s ≤ 24) (h3 : n < 0) : Fits 0 (4 - s) (s - 2) n 0 (num s) :=
  ⟨fun k h5 h6 => polyRule_bds s k h1 h2 (by omega) (by omega), by omega, by omega, fun k h5 _ => ⟨fun h => by have := num_nn s k h1; omega, fun h => by omega⟩⟩
/-- The place of a number, found or not. -/
theorem placeOf8 (s x : Int) (w : World) (h1 : 3 ≤ s) (h2 : s ≤ 24) (h4 : x ≤ 1000000) :
    Calls Try.prog 93 #[.agg #[.int .i64 0, .int .i64 (4 - s), .int .i64 (s - 2)], .int .i64 x] w fun e w' => (∃ (q : Int) (b : Bool), e = .returned (.tuple #[.int .i64 q, .bool b]) ∧ (b = true → 0 ≤ x ∧ q = pl s x) ∧ (b = false → x < 0 ∨ num s (pl s x) ≠ x) ∧ 0 ≤ q ∧ q ≤ 2000000) ∧ Below w.heap.size w w' := by
  by_cases hx : x < 0
  · refine (placeOf_no _ _ _ _ _ _ w (neg_fits s x h1 h2 hx) (by rw [num_zero]; omega)).mono ?_
    rintro e w' ⟨rfl, hb⟩
    exact ⟨⟨0, false, rfl, (fun h => by cases h), (fun _ => .inl hx), by omega, by omega⟩, hb⟩
  · have p0 := pl_nn s x h1 (by omega)
    have p1 := pl_le s x h1 (by omega) (by omega)
    by_cases hc : num s (pl s x) = x
    · refine (placeOf_yes _ _ _ _ _ _ w (poly_fits s x h1 h2 (by omega) (by omega)) hc).mono ?_
      rintro e w' ⟨rfl, hb⟩
      exact ⟨⟨_, true, rfl, (fun _ => ⟨by omega, rfl⟩), (fun h => by cases h), by omega, by omega⟩, hb⟩
    · refine (placeOf_no _ _ _ _ _ _ w (poly_fits s x h1 h2 (by omega) (by omega)) hc).mono ?_
      rintro e w' ⟨rfl, hb⟩
      exact ⟨⟨0, false, rfl, (fun h => by cases h), (fun _ => .inr hc), by omega, by omega⟩, hb⟩
set_option maxRecDepth 8000 in
set_option maxHeartbeats 1600000 in
theorem impl_ShapeOfList_out (A : Option Addr) (n c lo : Nat) (xs : List Int) (w : World) (hn : xs.length = n) (ha : Own w lo w.heap.size A (i64s xs)) (h : gd8 xs = true) (h3 : 3 ≤ n) (ho : sd8 xs < 3 ∨ 24 < sd8 xs) :
    Calls Try.prog 55 #[.slice A n c] w fun e w' => e = R3 0 0 false ∧ Below w.heap.size w w' := by
  have hl := gd8_len h
  rw [hn] at hl
  have HG := Lib.hid (isList8_any A n c lo w.heap.size xs w hn (by omega) ha)
  rw [h] at HG
  have b0 := gd8_at h 0
  have b1 := gd8_at h 1
  have b2 := gd8_at h 2
  obtain ⟨g, o, rfl, hg, c0, c1, c2, hcs⟩ := shape_cells ha (by omega)
  have hs : sd8 xs = xs.getD 2 0 - 2 * xs.getD 1 0 + xs.getD 0 0 + 2 := rfl
  generalize sd8 xs = s at *
  generalize xs.getD 0 0 = x at *
  generalize xs.getD 1 0 = y at *
  generalize xs.getD 2 0 = z at *
  have e1 : IntKind.i64.wrap (2 * y) = 2 * y := IntWalk.i64_in _ (by omega)
  have e2 : IntKind.i64.wrap (z - 2 * y) = z - 2 * y := IntWalk.i64_in _ (by omega)
  have e3 : IntKind.i64.wrap (z - 2 * y + x) = z - 2 * y + x := IntWalk.i64_in _ (by omega)
  have e4 : IntKind.i64.wrap (z - 2 * y + x + 2) = s := by rw [IntWalk.i64_in _ (by omega), hs]
  have q3 : ¬ (n : Int) < 3 := by omega
  have q0 : (0 : Int) < (n : Int) := by omega
  have q1 : (1 : Int) < (n : Int) := by omega
  have q2 : (2 : Int) < (n : Int) := by omega
  have HS := Lib.hid fun W => areSides_no s W ho
  clear ho hs ha hn h b0 b1 b2 hcs h3 hl
  go_enter Try.func55, Try.ntmps55
  go_wp2_with (go_at_call 60; refine HG.out.mono ?_; rintro e w' ⟨rfl, rfl⟩)
  go_region
  all_goals
    go_wp2_with (go_at_call 89; refine (HS.out _).mono ?_; rintro e w' ⟨rfl, rfl⟩)
    go_ret3
    exact ⟨rfl, (Below.refl _ _).drew⟩
/-- The rule's three numbers in a variable. -/
structure Rule3 (w : World) (B : Nat) (s : Int) : Prop where
  c0 : w.cell? ⟨B, 0, none⟩ = some (.int .i64 0)
  c1 : w.cell? ⟨B, 1, none⟩ = some (.int .i64 (4 - s))
  c2 : w.cell? ⟨B, 2, none⟩ = some (.int .i64 (s - 2))
theorem Rule3.below {w w' : World} {B H : Nat} {s : Int} (h : Rule3 w B s) (hb : Below H w w') (hH : B < H) : Rule3 w' B s :=
  ⟨(hb.cell (p := ⟨B, 0, none⟩) hH).trans h.c0, (hb.cell (p := ⟨B, 1, none⟩) hH).trans h.c1, (hb.cell (p := ⟨B, 2, none⟩) hH).trans h.c2⟩
set_option maxRecDepth 8000 in
set_option maxHeartbeats 3200000 in
theorem impl_ShapeOfList_in (A : Option Addr) (n c lo : Nat) (xs : List Int) (w : World) (hn : xs.length = n) (ha : Own w lo w.heap.size A (i64s xs)) (h : gd8 xs = true) (h3 : 3 ≤ n) (hs1 : 3 ≤ sd8 xs) (hs2 : sd8 xs ≤ 24) (e0 : Ending)
    (he1 : 0 ≤ xs.getD 0 0 → e0 = ans3 (mt8 (sd8 xs) (pl (sd8 xs) (xs.getD 0 0)) xs n) (sd8 xs) (pl (sd8 xs) (xs.getD 0 0))) (he2 : xs.getD 0 0 < 0 → e0 = R3 0 0 false) :
    Calls Try.prog 55 #[.slice A n c] w fun e w' => e = e0 ∧ Below w.heap.size w w' := by
  have hl := gd8_len h
  rw [hn] at hl
  have HG := Lib.hid (isList8_any A n c lo w.heap.size xs w hn (by omega) ha)
  rw [h] at HG
  have b0 := gd8_at h 0
  have b1 := gd8_at h 1
  have b2 := gd8_at h 2
  obtain ⟨g, o, rfl, hg, c0, c1, c2, hcs⟩ := shape_cells ha (by omega)
  have hs : sd8 xs = xs.getD 2 0 - 2 * xs.getD 1 0 + xs.getD 0 0 + 2 := rfl
  have HC := Lib.hid hcs
  rw [hn] at HC
  have HX0 := Lib.hid (show ∀ s p, mt8 s p xs 1 = (num s (p + ((0 : Nat) : Int)) == xs.getD 0 0) from fun _ _ => by rw [mt8, mt8, Bool.true_and])
  generalize sd8 xs = s at *
  have HS := Lib.hid fun W => areSides_yes s W hs1 hs2
  have HPr := Lib.hid fun W => polygonRule_any s W hs1 hs2
  have HPl := Lib.hid fun W => placeOf8 s (xs.getD 0 0) W hs1 hs2 (by omega)
  have HNm := Lib.hid fun (k : Int) W h5 h6 => numberAt_any 0 (4 - s) (s - 2) k (num s k) W (polyRule_bds s k hs1 hs2 h5 h6)
  have HM := Lib.hid (show ∀ p k, mt8 s p xs (k + 1) = (mt8 s p xs k && (num s (p + (k : Int)) == xs.getD k 0)) from fun _ _ => rfl)
  have HNo := Lib.hid fun p k (h : mt8 s p xs k = false) hk => mt8_no s p xs k h n hk
  have HM0 : Hid (∀ p, mt8 s p xs 0 = true) := Lib.hid fun _ => rfl
  have HE1 := Lib.hid he1
  have HE2 := Lib.hid he2
  have HXx : Hid (xs.getD 0 0 = xs.getD 0 0) := Lib.hid rfl
  generalize xs.getD 0 0 = x at *
  generalize xs.getD 1 0 = y at *
  generalize xs.getD 2 0 = z at *
  have e1 : IntKind.i64.wrap (2 * y) = 2 * y := IntWalk.i64_in _ (by omega)
  have e2 : IntKind.i64.wrap (z - 2 * y) = z - 2 * y := IntWalk.i64_in _ (by omega)
  have e3 : IntKind.i64.wrap (z - 2 * y + x) = z - 2 * y + x := IntWalk.i64_in _ (by omega)
  have e4 : IntKind.i64.wrap (z - 2 * y + x + 2) = s := by rw [IntWalk.i64_in _ (by omega), hs]
  have q3 : ¬ (n : Int) < 3 := by omega
  have q0 : (0 : Int) < (n : Int) := by omega
  have q1 : (1 : Int) < (n : Int) := by omega
  have q2 : (2 : Int) < (n : Int) := by omega
  clear hs ha hn h b0 b1 b2 hcs he1 he2 HXx
  go_enter Try.func55, Try.ntmps55
  go_wp2_with (go_at_call 60; refine HG.out.mono ?_; rintro e w' ⟨rfl, rfl⟩)
  go_region
  all_goals
    go_wp2_with (first
      | (go_at_call 89; refine (HS.out _).mono ?_; rintro e w' ⟨rfl, rfl⟩)
      | (go_at_call 92; refine (HPr.out _).mono ?_; rintro e w1 ⟨rfl, hb1⟩; have HB1 := Lib.hid hb1; have d0 : w1.cell? ⟨g, o, none⟩ = some (.int .i64 x) := (hb1.cell (p := ⟨g, o, none⟩) hg).trans c0; clear hb1))
    have HBx : Hid (Rule3 (w1.alloc (.cells #[.int .i64 0, .int .i64 (4 - s), .int .i64 (s - 2)] 64)) w1.heap.size s) := Lib.hid ⟨by simp [go_sem], by simp [go_sem], by simp [go_sem]⟩
    have HW : Hid (Below w.heap.size w (w1.alloc (.cells #[.int .i64 0, .int .i64 (4 - s), .int .i64 (s - 2)] 64))) := Lib.hid ((((Below.refl w.heap.size w).drew).trans HB1.out).alloc HB1.out.size _)
    have hz : w1.heap.size < (w1.alloc (.cells #[.int .i64 0, .int .i64 (4 - s), .int .i64 (s - 2)] 64)).heap.size := by simp
    have HZ1 : Hid (w.heap.size ≤ w1.heap.size) := Lib.hid HB1.out.size
    generalize w1.alloc (.cells #[.int .i64 0, .int .i64 (4 - s), .int .i64 (s - 2)] 64) = w2 at *
    have f0 : w2.drew.cell? ⟨w1.heap.size, 0, none⟩ = some (.int .i64 0) ∧ w2.drew.cell? ⟨w1.heap.size, 1, none⟩ = some (.int .i64 (4 - s)) ∧ w2.drew.cell? ⟨w1.heap.size, 2, none⟩ = some (.int .i64 (s - 2)) ∧ w2.drew.cell? ⟨g, o, none⟩ = some (.int .i64 x) := ⟨HBx.out.c0, HBx.out.c1, HBx.out.c2, (HW.out.cell (p := ⟨g, o, none⟩) hg).trans c0⟩
    have q00 : (0 : Int) < (n : Int) := by omega
    have q0n : 0 < n := by omega
    go_region_held3 (fun w' => w'.cell? ⟨w1.heap.size, 0, none⟩ = some (.int .i64 0) ∧ w'.cell? ⟨w1.heap.size, 1, none⟩ = some (.int .i64 (4 - s)) ∧ w'.cell? ⟨w1.heap.size, 2, none⟩ = some (.int .i64 (s - 2)) ∧ w'.cell? ⟨g, o, none⟩ = some (.int .i64 x))
      (first | with_reducible exact f1 | exact f0)
      (first
        | (go_at_call 93; refine (HPl.out _).mono ?_; rintro e w3 ⟨⟨q, b, rfl, hq1, hq2, hq3, hq4⟩, hb3⟩; have f1 : w3.cell? ⟨w1.heap.size, 0, none⟩ = some (.int .i64 0) ∧ w3.cell? ⟨w1.heap.size, 1, none⟩ = some (.int .i64 (4 - s)) ∧ w3.cell? ⟨w1.heap.size, 2, none⟩ = some (.int .i64 (s - 2)) ∧ w3.cell? ⟨g, o, none⟩ = some (.int .i64 x) := ⟨(hb3.cell (p := ⟨w1.heap.size, 0, none⟩) hz).trans f0.1, (hb3.cell (p := ⟨w1.heap.size, 1, none⟩) hz).trans f0.2.1, (hb3.cell (p := ⟨w1.heap.size, 2, none⟩) hz).trans f0.2.2.1, (hb3.cell (p := ⟨g, o, none⟩) (Nat.lt_of_lt_of_le hg (Nat.le_trans HZ1.out (Nat.le_of_lt hz)))).trans f0.2.2.2⟩)
        | fail)
    have HW3 : Hid (Below w.heap.size w w3) := Lib.hid (HW.out.drew.trans (hb3.mono HW.out.size))
    have HR3 : Hid (Rule3 w3 w1.heap.size s) := Lib.hid ⟨f1.1, f1.2.1, f1.2.2.1⟩
    have HZ3 : Hid (w1.heap.size < w3.heap.size) := Lib.hid (Nat.lt_of_lt_of_le hz hb3.size)
    obtain ⟨B, hB⟩ : ∃ B, B = w1.heap.size := ⟨_, rfl⟩
    rw [← hB] at HR3 HZ3 ⊢
    clear f0 f1 hb3 hz hB d0 c0 c1 c2
    cases b with
    | false =>
      have hfail : e0 = R3 0 0 false := by
        by_cases hx : x < 0
        · exact HE2.out hx
        · rw [HE1.out (by omega), HNo.out (pl s x) 1 (by
            rw [HX0.out]
            have h1 := (hq2 rfl).resolve_left hx
            simpa using h1) (by omega)]
          rfl
      subst hfail
      clear hq1 hq2
      go_wp2
      go_loopw [8, 47] (fun v i wr => ∃ k : Nat, k ≤ n ∧ i = .int .i64 (k : Int) ∧ v = .bool false ∧ wr = w3) (fun _ i _ => n - (intOf i).toNat)
      case atStart => exact ⟨0, by omega, by simp, rfl, rfl⟩
      case round =>
        obtain ⟨k, hk, rfl, rfl, rfl⟩ := hrel
        by_cases hlt : k < n
        · have hki : (k : Int) < (n : Int) := by omega
          have hk0 : (0 : Int) ≤ (k : Int) := by omega
          have ck : wr.cell? ⟨g, o + k, none⟩ = some (.int .i64 (xs.getD k 0)) := (HW3.out.cell (p := ⟨g, o + k, none⟩) hg).trans (HC.out k hlt)
          go_wp2
          go_roundw
          case rel => exact ⟨k + 1, by omega, by go_num, rfl, by trivial⟩
          case measure => simp [intOf]; omega
        · obtain rfl : k = n := by omega
          go_wp2
          go_ret3
          exact ⟨rfl, HW3.out⟩
    | true =>
      obtain ⟨hx, rfl⟩ := hq1 rfl
      have HE := Lib.hid (HE1.out hx)
      generalize pl s x = q at *
      clear hq2
      go_wp2
      go_loopw [8, 47] (fun v i wr => ∃ k : Nat, k ≤ n ∧ i = .int .i64 (k : Int) ∧ v = .bool (mt8 s q xs k) ∧ Hid (Rule3 wr B s ∧ B < wr.heap.size) ∧ Hid (Below w.heap.size w wr)) (fun _ i _ => n - (intOf i).toNat)
      case atStart => exact ⟨0, by omega, by simp, by rw [HM0.out], Lib.hid ⟨HR3.out, HZ3.out⟩, HW3⟩
      case round =>
        obtain ⟨k, hk, rfl, rfl, hRl, hbl⟩ := hrel
        by_cases hlt : k < n
        · have hki : (k : Int) < (n : Int) := by omega
          have hk0 : (0 : Int) ≤ (k : Int) := by omega
          have ck : wr.cell? ⟨g, o + k, none⟩ = some (.int .i64 (xs.getD k 0)) := (hbl.out.cell (p := ⟨g, o + k, none⟩) hg).trans (HC.out k hlt)
          have HMk := Lib.hid (HM.out q k)
          have e5 : IntKind.i64.wrap (q + (k : Int)) = q + (k : Int) := IntWalk.i64_in _ (by omega)
          have HNk := Lib.hid fun W => HNm.out (q + (k : Int)) W (by omega) (by omega)
          have r0 := hRl.out.1.c0
          have r1 := hRl.out.1.c1
          have r2 := hRl.out.1.c2
          generalize xs.getD k 0 = v at *
          generalize num s (q + (k : Int)) = u at *
          cases hm : mt8 s q xs k with
          | true =>
            rw [hm, Bool.true_and] at HMk
            clear hm
            go_wp2_with (go_at_call 94; refine (HNk.out _).mono ?_; rintro e w5 ⟨rfl, hb5⟩)
            have HB5 := Lib.hid (hbl.out.trans (hb5.mono hbl.out.size))
            have HR5 := Lib.hid (hRl.out.1.below hb5 hRl.out.2)
            have HZ5 := Lib.hid (Nat.lt_of_lt_of_le hRl.out.2 hb5.size)
            clear hb5
            go_roundw
            case rel => exact ⟨k + 1, by omega, by go_num, by rw [HMk.out], Lib.hid ⟨HR5.out, HZ5.out⟩, HB5⟩
            case measure => simp [intOf]; omega
          | false =>
            rw [hm, Bool.false_and] at HMk
            clear hm
            go_wp2
            go_roundw
            case rel => exact ⟨k + 1, by omega, by go_num, by rw [HMk.out], hRl, hbl⟩
            case measure => simp [intOf]; omega
        · obtain rfl : k = n := by omega
          cases hm : mt8 s q xs k with
          | true =>
            have hE : e0 = R3 s q true := by rw [HE.out, hm]; rfl
            subst hE
            clear hm
            go_wp2
            go_ret3
            exact ⟨rfl, hbl.out⟩
          | false =>
            have hE : e0 = R3 0 0 false := by rw [HE.out, hm]; rfl
            subst hE
            clear hm
            go_wp2
            go_ret3
            exact ⟨rfl, hbl.out⟩
theorem walk_ShapeOfList (A : Option Addr) (n c : Nat) (xs : List Int) (w : World) (hn : xs.length = n) (hl : n ≤ 9223372036854775807) (ha : Rd w w.heap.size A (i64s xs)) :
    Calls Try.prog 17 #[.slice A n c] w fun e w' => e = .returned (.bool true) ∧ Below w.heap.size w w' := by
  by_cases hm : n ≤ 1048576
  · by_cases h : gd8 xs = false ∨ n < 3
    · exact lawLV_ShapeOfList A n c xs 0 0 false w hn hm ha (fun B d lo W hO => spec_ShapeOfList_no B n d lo xs W hn hm hO h) (fun B d lo W hO => impl_ShapeOfList_no B n d lo xs W hn hm hO h)
    · have h1 : gd8 xs = true := by
        cases hg : gd8 xs with
        | false => exact absurd (.inl hg) h
        | true => rfl
      have h3 : 3 ≤ n := by omega
      by_cases hs : sd8 xs < 3 ∨ 24 < sd8 xs
      · exact lawLV_ShapeOfList A n c xs 0 0 false w hn hm ha (fun B d lo W hO => spec_ShapeOfList_out B n d lo xs W hn hO h1 h3 (.inl hs)) (fun B d lo W hO => impl_ShapeOfList_out B n d lo xs W hn hO h1 h3 hs)
      · by_cases hx : xs.getD 0 0 < 0
        · exact lawLV_ShapeOfList A n c xs 0 0 false w hn hm ha (fun B d lo W hO => spec_ShapeOfList_out B n d lo xs W hn hO h1 h3 (.inr hx)) (fun B d lo W hO => impl_ShapeOfList_in B n d lo xs W hn hO h1 h3 (by omega) (by omega) _ (fun h => absurd hx (by omega)) (fun _ => rfl))
        · cases hr : mt8 (sd8 xs) (pl (sd8 xs) (xs.getD 0 0)) xs n with
          | true =>
            refine lawLV_ShapeOfList A n c xs (sd8 xs) (pl (sd8 xs) (xs.getD 0 0)) true w hn hm ha (fun B d lo W hO => ?_) (fun B d lo W hO => impl_ShapeOfList_in B n d lo xs W hn hO h1 h3 (by omega) (by omega) _ (fun _ => by rw [hr]; rfl) (fun h => absurd h hx))
            have := spec_ShapeOfList_in B n d lo xs W hn hO h1 h3 (by omega) (by omega) (by omega)
            rw [hr] at this
            exact this
          | false =>
            refine lawLV_ShapeOfList A n c xs 0 0 false w hn hm ha (fun B d lo W hO => ?_) (fun B d lo W hO => impl_ShapeOfList_in B n d lo xs W hn hO h1 h3 (by omega) (by omega) _ (fun _ => by rw [hr]; rfl) (fun h => absurd h hx))
            have := spec_ShapeOfList_in B n d lo xs W hn hO h1 h3 (by omega) (by omega) (by omega)
            rw [hr] at this
            exact this
  · exact lawL_ShapeOfList_big A n c w (by omega)
end Go.Proofs.Ytmjgjdebcmbjeaa
