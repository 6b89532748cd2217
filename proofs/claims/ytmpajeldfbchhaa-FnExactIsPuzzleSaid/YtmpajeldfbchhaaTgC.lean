/- Chapter 9, by the program: sums of two shapes. -/
import Derived.Test.YtmpajeldfbchhaaTgB
import Derived.Test.YtmpajeldfbchhaaSuT
namespace Go.Proofs.Ytmpajeldfbchhaa
open Go.ChangeShapes Go.WideShapes Go.ChangeAt Go.RowKit

theorem two9_iff (s n : Int) : ∀ m : Nat, two9 s n m = true ↔ ∃ k : Nat, k < m ∧ num s ((k : Int) + 1) < n ∧ shp9 s (n - num s ((k : Int) + 1)) = true
  | 0 => by simp [two9]
  | m + 1 => by
    rw [two9, Bool.or_eq_true, two9_iff s n m, Bool.and_eq_true, decide_eq_true_iff]
    constructor
    · rintro (⟨k, hk, h1, h2⟩ | ⟨h1, h2⟩)
      · exact ⟨k, by omega, h1, h2⟩
      · exact ⟨m, by omega, h1, h2⟩
    · rintro ⟨k, hk, h1, h2⟩
      rcases Nat.lt_or_ge k m with h | h
      · exact .inl ⟨k, h, h1, h2⟩
      · obtain rfl : k = m := by omega
        exact .inr ⟨h1, h2⟩
/-- Both places are at least 1. -/
def both9 (p : Int × Int) : Bool := decide (1 ≤ min p.1 p.2)
theorem pl_pos9 (s n : Int) (hs : 3 ≤ s) (hn : 1 ≤ n) : 1 ≤ pl s n := by
  have h := (fits_iff s n 1 hs (by omega) (by omega)).1 (by rw [num_one]; exact hn)
  exact h
theorem both_pairs9 (s : Int) (N K : Nat) (hs : 3 ≤ s) (hN : N ≤ 1000) (hK : (K : Int) = pl s N) (hK2 : K ≤ 77) : (pairs s N (came s N K)).any both9 = sum9 s N := by
  rw [Bool.eq_iff_iff]
  unfold sum9
  rw [two9_iff, List.any_eq_true]
  have hit : ∀ j : Nat, j ≤ K → (item s N j).1 = (j, num s j) := fun j hj => item_at s N j ⟨by omega, num_nn s j hs, by
    have := (fits_iff s N j hs (by omega) (by omega)).2 (by omega)
    exact this⟩
  constructor
  · rintro ⟨p, hp, hb⟩
    unfold pairs at hp
    rw [List.mem_flatMap] at hp
    obtain ⟨x, hx, hpx⟩ := hp
    unfold came upto at hx
    rw [List.mem_map] at hx
    obtain ⟨i, hi, rfl⟩ := hx
    rw [List.mem_range] at hi
    have e := hit (K + 1 - 1 - i) (by omega)
    obtain ⟨j, hj⟩ : ∃ j, j = K + 1 - 1 - i := ⟨_, rfl⟩
    rw [← hj] at e hpx
    have hjK : j ≤ K := by omega
    unfold cand at hpx
    rw [e] at hpx
    simp only at hpx
    split at hpx
    · rename_i hq
      rw [List.mem_singleton] at hpx
      subst hpx
      unfold both9 at hb
      simp only [decide_eq_true_iff] at hb
      have hj1 : 1 ≤ j := by omega
      have hl1 : 1 ≤ pl s ((N : Int) - num s j) := by omega
      have h5 := num_mono_le s hs (a := 1) (b := pl s ((N : Int) - num s j)) (by omega) hl1
      rw [num_one] at h5
      refine ⟨j - 1, ?_, ?_, ?_⟩
      · have := num_place s hs j
        omega
      · rw [show (((j - 1 : Nat)) : Int) + 1 = (j : Int) by omega]
        omega
      · rw [show (((j - 1 : Nat)) : Int) + 1 = (j : Int) by omega]
        unfold shp9
        rw [decide_eq_true (by omega), Bool.true_and]
        simp [hq]
    · simp at hpx
  · rintro ⟨k, hk, h1, h2⟩
    obtain ⟨j, hj⟩ : ∃ j : Nat, j = k + 1 := ⟨_, rfl⟩
    have hje : (k : Int) + 1 = (j : Int) := by omega
    rw [hje] at h1 h2
    have hjK : j ≤ K := by
      have := (fits_iff s N j hs (by omega) (by omega)).1 (by omega)
      omega
    have hn1 : 1 ≤ (N : Int) - num s j := by omega
    unfold shp9 at h2
    rw [Bool.and_eq_true] at h2
    have hq : num s (pl s ((N : Int) - num s j)) = (N : Int) - num s j := by simpa using h2.2
    refine ⟨((j : Int), pl s ((N : Int) - num s j)), ?_, ?_⟩
    · unfold pairs
      rw [List.mem_flatMap]
      refine ⟨item s N j, ?_, ?_⟩
      · unfold came upto
        rw [List.mem_map]
        exact ⟨K - j, List.mem_range.2 (by omega), by congr 1; omega⟩
      · unfold cand
        rw [hit j hjK]
        simp only
        rw [if_pos hq]
        exact List.mem_singleton.2 rfl
    · unfold both9
      have := pl_pos9 s _ hs hn1
      simp only [decide_eq_true_iff]
      omega
theorem prc_prs9 (ps : List (Int × Int)) : prc ps = prs ps := rfl
theorem bothPair_any (x y : Int) (w : World) : Calls Try.prog 66 #[.agg #[.int .i64 x, .int .i64 y]] w fun e w' => e = .returned (.bool (both9 (x, y))) ∧ Below w.heap.size w w' := by
  have HB : Hid (both9 (x, y) = decide (1 ≤ min x y)) := Lib.hid rfl
  go_enter Try.func66, Try.ntmps66
  go_wp2
  all_goals
    go_ret
    exact ⟨ret_bool9 (by rw [HB.out]; exact decide_eq_decide.2 (by omega)), (Below.refl _ _).alloc (Nat.le_refl _) _⟩
theorem cf_bothPair : ∀ (args : Array Value) (W : World), (callFunc 66 args).run Try.prog W = .ok (.enter 66 args) W := fun _ _ => by kernel_rfl
theorem anyp_take {f : Int × Int → Bool} {cs : List (Int × Int)} {k : Nat} (h : k < cs.length) : (cs.take (k + 1)).any f = ((cs.take k).any f || f cs[k]) := by
  rw [List.take_succ_eq_append_getElem h, List.any_append]
  simp
set_option maxHeartbeats 1600000 in
set_option maxRecDepth 4000 in
theorem indexPair_any (A : Option Addr) (n c lo hi : Nat) (xs : List (Int × Int)) (w : World) (hn : xs.length = n) (hm : n ≤ 1048576) (ha : Own w lo hi A (prs xs)) (hh : hi ≤ w.heap.size) :
    Calls Try.prog 70 #[.slice A n c, .func (.func 66) #[] #[]] w fun e w' => (∃ r : Int, e = .returned (.int .i64 r) ∧ decide (0 ≤ r) = xs.any both9) ∧ Below w.heap.size w w' := by
  have HA := Lib.hid ha
  have HN := Lib.hid hn
  clear ha hn
  have hcf := cf_bothPair
  go_enter Try.func70, Try.ntmps70
  go_wp2
  go_loopw [5, 8] (fun _ i wr => ∃ k : Nat, k ≤ n ∧ i = .int .i64 (k : Int) ∧ Hid ((xs.take k).any both9 = false) ∧ Below w.heap.size w wr) (fun _ i _ => n - (intOf i).toNat)
  case atStart => exact ⟨0, by omega, by simp, Lib.hid rfl, Below.refl _ _⟩
  case round =>
    obtain ⟨k, hk, rfl, HK, hb⟩ := hrel
    by_cases hlt : k < n
    · have hki : (k : Int) < (n : Int) := by omega
      have hlx : k < xs.length := by rw [HN.out]; exact hlt
      obtain ⟨g, o, rfl, _, hg, c0, c1⟩ := (HA.out.below hb hh).pair_ hlx
      have HY := Lib.hid (anyp_take (f := both9) hlx)
      have HZ : Hid (both9 (xs[k]) = true → xs.any both9 = true) := Lib.hid fun h => List.any_eq_true.2 ⟨_, List.getElem_mem hlx, h⟩
      obtain ⟨⟨x, y⟩, hq⟩ : ∃ q, q = xs[k] := ⟨_, rfl⟩
      rw [← hq] at c0 c1 HY HZ
      simp only at c0 c1
      have HC := Lib.hid fun W => bothPair_any x y W
      clear hq hlx
      cases hfq : both9 (x, y) with
      | true =>
        rw [hfq] at HC
        have HZ2 := Lib.hid (HZ.out hfq)
        clear hfq HY HZ
        go_wp2_with (refine (HC.out _).mono ?_; rintro e w2 ⟨rfl, hb2⟩)
        go_ret
        exact ⟨⟨_, rfl, by rw [HZ2.out]; simp⟩, hb.trans (hb2.mono hb.size)⟩
      | false =>
        rw [hfq] at HC
        have HY2 : Hid ((xs.take (k + 1)).any both9 = false) := Lib.hid (by rw [HY.out, HK.out, hfq]; rfl)
        clear hfq HY HZ
        go_wp2_with (refine (HC.out _).mono ?_; rintro e w2 ⟨rfl, hb2⟩)
        go_roundw
        case rel => exact ⟨k + 1, by omega, by go_num, HY2, hb.trans (hb2.mono hb.size)⟩
        case measure => simp [intOf]; omega
    · obtain rfl : k = n := by omega
      have HZ : Hid (xs.any both9 = false) := Lib.hid (by have := HK.out; rwa [List.take_of_length_le (by rw [HN.out]; exact Nat.le_refl _)] at this)
      go_wp2
      go_ret
      exact ⟨⟨_, rfl, by rw [HZ.out]; rfl⟩, hb⟩
theorem containsPair_any (A : Option Addr) (n c lo hi : Nat) (xs : List (Int × Int)) (w : World) (hn : xs.length = n) (hm : n ≤ 1048576) (ha : Own w lo hi A (prs xs)) (hh : hi ≤ w.heap.size) :
    Calls Try.prog 64 #[.slice A n c, .func (.func 66) #[] #[]] w fun e w' => e = .returned (.bool (xs.any both9)) ∧ Below w.heap.size w w' := by
  have HI := Lib.hid (indexPair_any A n c lo hi xs w hn hm ha hh)
  clear ha hn
  go_enter Try.func64, Try.ntmps64
  go_wp2_with (go_at_call 70; refine HI.out.mono ?_; rintro e w1 ⟨⟨r, rfl, hr⟩, hb1⟩; have HR := Lib.hid hr; clear hr)
  go_ret
  exact ⟨ret_bool9 HR.out, hb1⟩
set_option maxHeartbeats 800000 in
theorem hasTwoShapes_any (s : Int) (N : Nat) (w : World) (h1 : 3 ≤ s) (h2 : s ≤ 24) (hN : N ≤ 1000) :
    Calls Try.prog 57 #[.int .i64 s, .int .i64 (N : Int)] w fun e w' => e = .returned (.bool (sum9 s N)) ∧ Below w.heap.size w w' := by
  have p0 := pl_nn s N h1 (by omega)
  have p1 := pl_77 s N h1 (by omega) (by omega)
  have HB := Lib.hid (both_pairs9 s N (pl s N).toNat h1 hN (by omega) (by omega))
  have HT := Lib.hid (fun w => pairsTogether_any s s N w h1 h2 h1 h2 (by omega))
  have HL : Hid ((pairs s N (came s N (pl s N).toNat)).length ≤ 100) := Lib.hid (by
    refine Nat.le_trans (pairs_len _ _ _) ?_
    unfold came
    rw [upto_length]
    omega)
  generalize pairs s N (came s N (pl s N).toNat) = P at HT HB HL
  obtain ⟨n, hn⟩ : ∃ n, n = P.length := ⟨_, rfl⟩
  rw [← hn] at HT HL
  have hn2 := hn.symm
  have HN := Lib.hid hn2
  clear hn hn2 p0 p1
  go_enter Try.func57, Try.ntmps57
  go_wp2_with (first
    | (go_at_call 65; refine (HT.out _).mono ?_; rintro e w1 ⟨⟨v, rfl, hr⟩, hb1⟩; obtain ⟨A, c, rfl⟩ := row_form hr; have HR := Lib.hid (own_of_row hr); clear hr)
    | (go_at_call 64; refine (containsPair_any _ _ _ _ _ P _ HN.out (by have := HL.out; omega) HR.out (Nat.le_refl _)).mono ?_; rintro e w2 ⟨rfl, hb2⟩))
  go_ret
  exact ⟨ret_bool9 HB.out, hb1.trans (hb2.mono hb1.size)⟩
end Go.Proofs.Ytmpajeldfbchhaa
