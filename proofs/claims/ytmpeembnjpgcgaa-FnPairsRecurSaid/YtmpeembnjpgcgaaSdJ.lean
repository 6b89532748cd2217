/- Chapter 4: the recurrence of a list: the specification's side. -/
import Derived.Test.YtmpeembnjpgcgaaSdI
import Derived.BigQuiet
namespace Go.Proofs.Ytmpeembnjpgcgaa
open Go.ChangeShapes Go.WideShapes Go.ChangeAt Go.RowKit

/-- What is to be added, were f the factor. -/
def cOf (xs : List Int) (f : Int) : Int := xs.getD 2 0 - f * xs.getD 1 0 + xs.getD 0 0
/-- The rule holds at the places 2, .., i + 1. -/
def keepsTo (xs : List Int) (f c : Int) : Nat → Bool
  | 0 => true
  | i + 1 => keepsTo xs f c i && (xs.getD (i + 2) 0 == f * xs.getD (i + 1) 0 - xs.getD i 0 + c)
/-- f is a factor. -/
def hitF (xs : List Int) (f : Int) : Bool := betw (cOf xs f) (-1000) 1000 && keepsTo xs f (cOf xs f) (xs.length - 2)
/-- The last factor among the first k, what it adds, and how many there are. -/
def recT (xs : List Int) : Nat → Int × Int × Int
  | 0 => (0, 0, 0)
  | k + 1 => if hitF xs (-1000 + k) then (-1000 + k, cOf xs (-1000 + k), (recT xs k).2.2 + 1) else recT xs k
theorem recT_bd (xs : List Int) (k : Nat) : 0 ≤ (recT xs k).2.2 ∧ (recT xs k).2.2 ≤ k := by
  induction k with
  | zero => simp [recT]
  | succ k ih =>
    rw [recT]
    split
    · simp only
      omega
    · omega
theorem mil_le (f x B : Int) (h1 : -1000 ≤ f) (h2 : f ≤ 1000) (h3 : -B ≤ x) (h4 : x ≤ B) : f * x ≤ 1000 * B ∧ -(1000 * B) ≤ f * x := by
  have hB : 0 ≤ B := by omega
  rcases Int.le_total 0 f with h | h
  · have a1 := Int.mul_le_mul_of_nonneg_left h4 h
    have a2 := Int.mul_le_mul_of_nonneg_left h3 h
    have a3 := Int.mul_le_mul_of_nonneg_right h2 hB
    rw [Int.mul_neg] at a2
    omega
  · have a1 := Int.mul_le_mul_of_nonneg_left h4 (show 0 ≤ -f by omega)
    have a2 := Int.mul_le_mul_of_nonneg_left h3 (show 0 ≤ -f by omega)
    have a3 := Int.mul_le_mul_of_nonneg_right (show -f ≤ 1000 by omega) hB
    simp only [Int.neg_mul, Int.mul_neg, Int.neg_neg] at a1 a2 a3
    omega
theorem allIn_bd (xs : List Int) (lo hi : Int) (h0 : lo ≤ 0) (h1 : 0 ≤ hi) (h : allIn xs lo hi = true) (i : Nat) : lo ≤ xs.getD i 0 ∧ xs.getD i 0 ≤ hi := by
  rw [allIn, List.all_eq_true] at h
  rcases Nat.lt_or_ge i xs.length with hi | hi
  · have := h xs[i] (List.getElem_mem hi)
    simpa [List.getD_eq_getElem?_getD, hi] using this
  · rw [List.getD_eq_getElem?_getD, List.getElem?_eq_none hi]
    exact ⟨h0, h1⟩
set_option maxHeartbeats 800000 in
theorem spec_RecurrenceOf_no (A : Option Addr) (n c : Nat) (xs : List Int) (w : World) (hn : xs.length = n) (hm : n ≤ 1048576) (ha : Rd w w.heap.size A (i64s xs)) (h : (n < 4 ∨ 20 < n) ∨ allIn xs (-1000000000000000) 1000000000000000 = false) :
    Calls Try.prog 17 #[.slice A n c] w fun e w' => e = .returned (.tuple #[.int .i64 0, .int .i64 0, .bool false]) ∧ Below w.heap.size w w' := by
  have HA := Lib.hid ha
  have HN := Lib.hid hn
  by_cases h1 : n < 4 ∨ 20 < n
  · have HF : Hid (betw (n : Int) 4 20 = false) := Lib.hid (betw_no (by omega))
    clear h h1 ha hn
    go_enter Try.func17, Try.ntmps17
    go_wp2_with (go_at_call 40; refine (in_any _ _ _ _).mono ?_; rw [HF.out]; rintro e w' ⟨rfl, rfl⟩)
    go_ret3
    exact ⟨rfl, Below.refl _ _⟩
  · have HF : Hid (betw (n : Int) 4 20 = true) := Lib.hid (betw_yes (by omega) (by omega))
    have HL := Lib.hid (h.resolve_left h1)
    clear h h1 ha hn
    go_enter Try.func17, Try.ntmps17
    go_wp2_with (first
      | (go_at_call 40; refine (in_any _ _ _ _).mono ?_; rw [HF.out]; rintro e w' ⟨rfl, rfl⟩)
      | (go_at_call 41; refine (l1All_any A n c xs _ _ _ _ HN.out hm HA.out).mono ?_; rw [HL.out]; rintro e w' ⟨rfl, rfl⟩))
    go_ret3
    exact ⟨rfl, Below.refl _ _⟩
set_option maxHeartbeats 3200000 in
theorem spec_RecurrenceOf_any (A : Option Addr) (n c : Nat) (xs : List Int) (w : World) (hn : xs.length = n) (hm1 : 4 ≤ n) (hm2 : n ≤ 20) (ha : Rd w w.heap.size A (i64s xs)) (h : allIn xs (-1000000000000000) 1000000000000000 = true) (r1 r2 : Int) (ok : Bool)
    (hy : (recT xs 2001).2.2 = 1 → r1 = (recT xs 2001).1 ∧ r2 = (recT xs 2001).2.1 ∧ ok = true) (hz : (recT xs 2001).2.2 ≠ 1 → r1 = 0 ∧ r2 = 0 ∧ ok = false) :
    Calls Try.prog 17 #[.slice A n c] w fun e w' => e = .returned (.tuple #[.int .i64 r1, .int .i64 r2, .bool ok]) ∧ Below w.heap.size w w' := by
  have HA := Lib.hid ha
  have HN := Lib.hid hn
  have HL := Lib.hid h
  have HF : Hid (betw (n : Int) 4 20 = true) := Lib.hid (betw_yes (by omega) (by omega))
  have HX := Lib.hid (allIn_bd xs _ _ (by omega) (by omega) h)
  obtain ⟨ad, rfl, _, hc⟩ := ha (by simp; omega)
  have HC : Hid (∀ j, j < n → w.cell? (ad.add j) = some (.int .i64 (xs.getD j 0))) := Lib.hid fun j hj => hc j _ (by simp [List.getD_eq_getElem?_getD, List.getElem?_eq_getElem (show j < xs.length by omega)])
  have HYZ := Lib.hid (And.intro hy hz)
  clear hy hz
  have hb2 := recT_bd xs
  clear ha hn h hc
  have HB2 := Lib.hid hb2
  clear hb2
  have i1 : (4 : Int) ≤ (n : Int) := by omega
  have i2 : (n : Int) ≤ 20 := by omega
  go_enter Try.func17, Try.ntmps17
  go_wp2_with (first
    | (go_at_call 40; refine (in_any _ _ _ _).mono ?_; rw [HF.out]; rintro e w' ⟨rfl, rfl⟩)
    | (go_at_call 41; refine (l1All_any (some ad) n c xs _ _ _ _ HN.out (by omega) HA.out).mono ?_; rw [HL.out]; rintro e w' ⟨rfl, rfl⟩))
  go_loopw [5, 6, 7, 8] (fun fa fo ad2 fi wr => ∃ k q : Nat, k ≤ 2001 ∧ fi = .int .i64 (-1000 + (k : Int)) ∧ fa = .int .i64 (recT xs k).1 ∧ ad2 = .int .i64 (recT xs k).2.1 ∧ fo = .int .i64 (recT xs k).2.2 ∧ wr = w.drewN q) (fun _ _ _ fi _ => (1001 - intOf fi).toNat)
  case atStart => exact ⟨0, 0, by omega, by simp, rfl, rfl, rfl, rfl⟩
  case round =>
    obtain ⟨k, q, hk, rfl, rfl, rfl, rfl, rfl⟩ := hrel
    by_cases hlt : k < 2001
    · skip
      obtain ⟨f, hf⟩ : ∃ f, f = -1000 + (k : Int) := ⟨_, rfl⟩
      have hre : recT xs (k + 1) = if hitF xs f then (f, cOf xs f, (recT xs k).2.2 + 1) else recT xs k := by rw [hf]; rfl
      have hf1 : -1000 ≤ f := by omega
      have hf2 : f ≤ 1000 := by omega
      have hfk : k = (f + 1000).toNat := by omega
      rw [← hf]
      have HK := Lib.hid hfk
      have HK2 := Lib.hid hf
      have HB3 := HB2.out k
      clear hf hfk
      obtain ⟨fa, hfa⟩ : ∃ fa, (recT xs k).1 = fa := ⟨_, rfl⟩
      obtain ⟨ad2, had⟩ : ∃ fa, (recT xs k).2.1 = fa := ⟨_, rfl⟩
      obtain ⟨fo, hfo⟩ : ∃ fa, (recT xs k).2.2 = fa := ⟨_, rfl⟩
      have HT := Lib.hid (And.intro hfa (And.intro had hfo))
      rw [hfo] at hre HB3
      rw [hfa, had, hfo]
      clear hfa had hfo
      obtain ⟨fo1, fo2⟩ := HB3
      have c0 : w.cell? ad = some (.int .i64 (xs.getD 0 0)) := HC.out 0 (by omega)
      have c1 : w.cell? ⟨ad.block, ad.off + 1, none⟩ = some (.int .i64 (xs.getD 1 0)) := HC.out 1 (by omega)
      have c2 : w.cell? ⟨ad.block, ad.off + 2, none⟩ = some (.int .i64 (xs.getD 2 0)) := HC.out 2 (by omega)
      obtain ⟨y0, y1⟩ := HX.out 0
      obtain ⟨y2, y3⟩ := HX.out 1
      obtain ⟨y4, y5⟩ := HX.out 2
      have hcc : cOf xs f = xs.getD 2 0 - f * xs.getD 1 0 + xs.getD 0 0 := rfl
      obtain ⟨C, hC⟩ : ∃ C, C = cOf xs f := ⟨_, rfl⟩
      rw [← hC] at hcc hre
      have HCC := Lib.hid hC
      have HRE := Lib.hid hre
      clear hC hre
      generalize xs.getD 0 0 = x0 at *
      generalize xs.getD 1 0 = x1 at *
      generalize xs.getD 2 0 = x2 at *
      obtain ⟨p1, p2⟩ := mil_le f x1 1000000000000000 hf1 hf2 y2 y3
      have q1 : IntKind.i64.wrap (f * x1) = f * x1 := IntWalk.i64_in _ (by omega)
      have q2 : IntKind.i64.wrap (x2 - f * x1) = x2 - f * x1 := IntWalk.i64_in _ (by omega)
      have q3 : IntKind.i64.wrap (x2 - f * x1 + x0) = C := by rw [IntWalk.i64_in _ (by omega), hcc]
      have HW1 := Lib.hid (And.intro q1 (And.intro q2 q3))
      clear hcc q1 q2 q3 p1 p2
      have n1 : (2 : Int) < (n : Int) := by omega
      have n2 : (1 : Int) < (n : Int) := by omega
      have n3 : (0 : Int) < (n : Int) := by omega
      by_cases hin : C < -1000 ∨ 1000 < C
      · have hh : hitF xs f = false := by rw [hitF, ← HCC.out, betw_no hin, Bool.false_and]
        have HE : Hid (recT xs (k + 1) = recT xs k) := Lib.hid (by rw [HRE.out, if_neg (by rw [hh]; simp)])
        clear hh
        rcases hin with hin | hin <;>
        · obtain ⟨q1, q2, q3⟩ := HW1.out
          go_wp2_with fail
          go_quiet (fail)
          clear q1 q2 q3
          go_wp2
          go_roundw
          case rel => exact ⟨k + 1, _, by omega, by have := HK2.out; congr 1; omega, by rw [HE.out, HT.out.1], by rw [HE.out, HT.out.2.1], by rw [HE.out, HT.out.2.2], by trivial⟩
          case measure => simp [intOf]; omega
      · have g1 : -1000 ≤ C := by omega
        have g2 : C ≤ 1000 := by omega
        have hh : hitF xs f = keepsTo xs f C (n - 2) := by rw [hitF, ← HCC.out, betw_yes g1 g2, Bool.true_and, HN.out]
        have HH := Lib.hid hh
        clear hh
        obtain ⟨q1, q2, q3⟩ := HW1.out
        clear hin
        go_wp2_with fail
        go_quiet (fail)
        clear q1 q2 q3 c0 c1 c2 n1 n2 n3 y0 y1 y2 y3 y4 y5
        go_wp2
        go_loopw [10, 11] (fun kp i wr2 => ∃ j q2 : Nat, j + 2 ≤ n ∧ i = .int .i64 ((j : Int) + 2) ∧ kp = .bool (keepsTo xs f C j) ∧ wr2 = w.drewN q2) (fun _ i _ => n - (intOf i).toNat)
        case atStart => exact ⟨0, _, by omega, by simp, rfl, rfl⟩
        case round =>
          obtain ⟨j, q2, hj, rfl, rfl, rfl⟩ := hrel
          by_cases hlj : j + 2 < n
          · have hks : keepsTo xs f C (j + 1) = (keepsTo xs f C j && (xs.getD (j + 2) 0 == f * xs.getD (j + 1) 0 - xs.getD j 0 + C)) := rfl
            have hji : (j : Int) + 2 < (n : Int) := by omega
            have HS := Lib.hid hks
            clear hks
            obtain ⟨kp, hkp⟩ : ∃ kp, keepsTo xs f C j = kp := ⟨_, rfl⟩
            rw [hkp] at HS
            rw [hkp]
            clear hkp
            cases kp with
            | false =>
              go_wp2_with fail
              go_quiet (fail)
              go_wp2
              go_roundw
              case rel => exact ⟨j + 1, _, by omega, by go_num, by rw [HS.out]; rfl, by trivial⟩
              case measure => simp [intOf]; omega
            | true =>
              obtain ⟨y0, y1⟩ := HX.out j
              obtain ⟨y2, y3⟩ := HX.out (j + 1)
              obtain ⟨y4, y5⟩ := HX.out (j + 2)
              have cA : w.cell? (ad.add (j + 2)) = some (.int .i64 (xs.getD (j + 2) 0)) := HC.out (j + 2) (by omega)
              have cB : w.cell? (ad.add (j + 1)) = some (.int .i64 (xs.getD (j + 1) 0)) := HC.out (j + 1) (by omega)
              have cC : w.cell? (ad.add j) = some (.int .i64 (xs.getD j 0)) := HC.out j (by omega)
              have cA' : w.cell? ⟨ad.block, ad.off + (j + 2), none⟩ = some (.int .i64 (xs.getD (j + 2) 0)) := cA
              have cB' : w.cell? ⟨ad.block, ad.off + (j + 1), none⟩ = some (.int .i64 (xs.getD (j + 1) 0)) := cB
              generalize xs.getD j 0 = x0 at *
              generalize xs.getD (j + 1) 0 = x1 at *
              generalize xs.getD (j + 2) 0 = x2 at *
              obtain ⟨p1, p2⟩ := mil_le f x1 1000000000000000 hf1 hf2 y2 y3
              have q1 : IntKind.i64.wrap (f * x1) = f * x1 := IntWalk.i64_in _ (by omega)
              have q2 : IntKind.i64.wrap (f * x1 - x0) = f * x1 - x0 := IntWalk.i64_in _ (by omega)
              have q3 : IntKind.i64.wrap (f * x1 - x0 + C) = f * x1 - x0 + C := IntWalk.i64_in _ (by omega)
              have w1e : IntKind.i64.wrap ((j : Int) + 2 - 1) = (j : Int) + 1 := by rw [IntWalk.i64_in _ (by omega)]; omega
              have w2e : IntKind.i64.wrap (j : Int) = (j : Int) := IntWalk.i64_in _ (by omega)
              have i1' : (0 : Int) ≤ (j : Int) + 1 := by omega
              have i2' : (j : Int) + 1 < (n : Int) := by omega
              have i3 : (0 : Int) ≤ (j : Int) := by omega
              have i4 : (j : Int) < (n : Int) := by omega
              have i5 : ((j : Int) + 1).toNat = j + 1 := by omega
              have i6 : ((j : Int) + 2).toNat = j + 2 := by omega
              have i7 : (0 : Int) ≤ (j : Int) + 2 := by omega
              clear y0 y1 y2 y3 y4 y5 p1 p2
              go_wp2_with fail
              go_quiet (fail)
              clear q1 q2 q3 w1e w2e i1' i2' i3 i4 i5 i6 i7 cA cB cC cA' cB'
              go_wp2
              go_roundw
              case rel => exact ⟨j + 1, _, by omega, by go_num, by rw [HS.out]; rfl, by trivial⟩
              case measure => simp [intOf]; omega
          · obtain rfl : n = j + 2 := by omega
            obtain ⟨kp, hkp⟩ : ∃ kp, keepsTo xs f C j = kp := ⟨_, rfl⟩
            rw [hkp]
            have HH2 : Hid (hitF xs f = kp) := Lib.hid (by rw [HH.out, ← hkp]; rfl)
            clear hkp HH
            cases kp with
            | false =>
              have HE : Hid (recT xs (k + 1) = recT xs k) := Lib.hid (by rw [HRE.out, if_neg (by rw [HH2.out]; simp)])
              go_wp2
              go_roundw
              case rel => exact ⟨k + 1, _, by omega, by have := HK2.out; congr 1; omega, by rw [HE.out, HT.out.1], by rw [HE.out, HT.out.2.1], by rw [HE.out, HT.out.2.2], by trivial⟩
              case measure => simp [intOf]; omega
            | true =>
              have HE : Hid (recT xs (k + 1) = (f, C, fo + 1)) := Lib.hid (by rw [HRE.out, if_pos HH2.out, HCC.out])
              go_wp2
              go_roundw
              case rel => exact ⟨k + 1, _, by omega, by have := HK2.out; congr 1; omega, by rw [HE.out], by rw [HE.out], by rw [HE.out], by trivial⟩
              case measure => simp [intOf]; omega
    · obtain rfl : k = 2001 := by omega
      obtain ⟨hy, hz⟩ := HYZ.out
      clear HYZ
      obtain ⟨fa, hfa⟩ : ∃ fa, (recT xs 2001).1 = fa := ⟨_, rfl⟩
      obtain ⟨ad2, had⟩ : ∃ fa, (recT xs 2001).2.1 = fa := ⟨_, rfl⟩
      obtain ⟨fo, hfo⟩ : ∃ fa, (recT xs 2001).2.2 = fa := ⟨_, rfl⟩
      rw [hfa, had, hfo] at hy
      rw [hfo] at hz
      rw [hfa, had, hfo]
      clear hfa had hfo
      by_cases h1 : fo = 1
      · obtain ⟨rfl, rfl, rfl⟩ := hy h1
        subst h1
        clear hy hz
        go_wp2
        go_ret3
        exact ⟨rfl, below_drewN (Below.refl _ _) _⟩
      · have hne : (fo != 1) = true := by simpa using h1
        obtain ⟨rfl, rfl, rfl⟩ := hz h1
        clear h1 hy hz
        go_wp2
        all_goals go_ret3
        all_goals exact ⟨rfl, below_drewN (Below.refl _ _) _⟩
end Go.Proofs.Ytmpeembnjpgcgaa
