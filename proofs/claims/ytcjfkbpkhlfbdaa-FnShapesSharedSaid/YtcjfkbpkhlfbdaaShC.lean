/- Chapter 4: what holds of the lists of shared numbers, as the law of promises asks it; a number in a list. No condition. -/
import Derived.Test.YtcjfkbpkhlfbdaaShB
import Derived.Test.YtcjfkbpkhlfbdaaAnH
import Derived.Test.YtcjfkbpkhlfbdaaAnA
import Derived.Lib.Hide
import Derived.Deep.QuietTactic
namespace Go.Proofs.Ytcjfkbpkhlfbdaa
open Go.ChangeShapes Go.WideShapes Go.ChangeAt Go.RowKit

/-- Rising lists with the same members are one. -/
theorem rise_ext {xs ys : List Int} (hx : xs.Pairwise (· < ·)) (hy : ys.Pairwise (· < ·)) (h : ∀ x, x ∈ xs ↔ x ∈ ys) : xs = ys := by
  induction xs generalizing ys with
  | nil =>
    cases ys with
    | nil => rfl
    | cons y ys => exact absurd ((h y).2 (by simp)) (by simp)
  | cons x xs ih =>
    cases ys with
    | nil => exact absurd ((h x).1 (by simp)) (by simp)
    | cons y ys =>
      rw [List.pairwise_cons] at hx hy
      have e : x = y := by
        have h1 := (h x).1 (by simp)
        have h2 := (h y).2 (by simp)
        rw [List.mem_cons] at h1 h2
        rcases h1 with h1 | h1
        · exact h1
        · rcases h2 with h2 | h2
          · exact h2.symm
          · have := hy.1 x h1
            have := hx.1 y h2
            omega
      subst e
      rw [ih hx.2 hy.2 fun z => ?_]
      constructor
      · intro hz
        have h3 := (h z).1 (List.mem_cons_of_mem _ hz)
        rw [List.mem_cons] at h3
        rcases h3 with h3 | h3
        · have := hx.1 z hz
          omega
        · exact h3
      · intro hz
        have h3 := (h z).2 (List.mem_cons_of_mem _ hz)
        rw [List.mem_cons] at h3
        rcases h3 with h3 | h3
        · have := hy.1 z hz
          omega
        · exact h3
theorem getD_get {xs : List Int} {k : Nat} (h : k < xs.length) : xs.getD k 0 = xs[k] := by simp [List.getD, List.getElem?_eq_getElem h]
theorem rise_get {xs : List Int} (hx : xs.Pairwise (· < ·)) {j k : Nat} (h : j < k) (hk : k < xs.length) : xs.getD j 0 < xs.getD k 0 := by
  rw [getD_get hk, getD_get (Nat.lt_trans h hk)]
  exact List.pairwise_iff_getElem.1 hx j k _ hk h
theorem mem_get {xs : List Int} {x : Int} (h : x ∈ xs) : ∃ k, k < xs.length ∧ xs.getD k 0 = x := by
  obtain ⟨k, hk, e⟩ := List.getElem_of_mem h
  exact ⟨k, hk, by rw [getD_get hk]; exact e⟩
theorem get_mem {xs : List Int} {k : Nat} (h : k < xs.length) : xs.getD k 0 ∈ xs := by rw [getD_get h]; exact List.getElem_mem h
theorem shr_rise (a b : Int) (k : Nat) (ha : 3 ≤ a) : (shr a [b] k).Pairwise (· < ·) := by
  refine List.Pairwise.filter _ ?_
  rw [List.pairwise_map]
  exact List.pairwise_lt_range.imp fun h => num_mono_lt a ha (by omega) (by omega)
theorem shr_in {a b m x : Int} (ha : 3 ≤ a) (hm : 0 ≤ m) : x ∈ shr a [b] ((pl a m).toNat + 1) ↔ 0 ≤ x ∧ x ≤ m ∧ isP a x = true ∧ isP b x = true := by
  rw [shr, List.mem_filter, List.mem_map]
  simp only [List.all_cons, List.all_nil, Bool.and_true, List.mem_range]
  have p0 := pl_nn a m ha hm
  constructor
  · rintro ⟨⟨j, hj, rfl⟩, hb⟩
    exact ⟨num_nn a _ ha, (fits_iff a m (j : Int) ha (by omega) (by omega)).2 (by omega), isP_num a j ha (by omega), hb⟩
  · rintro ⟨h0, h1, h2, h3⟩
    have e : num a (pl a x) = x := by simpa [isP] using h2
    have q0 := pl_nn a x ha h0
    have q1 := pl_le_pl a x m ha h0 h1
    exact ⟨⟨(pl a x).toNat, by omega, by rw [show (((pl a x).toNat : Nat) : Int) = pl a x from by omega]; exact e⟩, h3⟩
theorem two_sym (a b : Int) : two b a = two a b := by
  rcases Bool.eq_false_or_eq_true (two a b) with h | h
  · rw [h]
    obtain ⟨h1, h2, h3⟩ := two_t h
    simp [two]
    omega
  · rw [h]
    have h1 := two_f h
    simp [two]
    omega
theorem su_sym (a b m : Int) : suB b a m = suB a b m := by rw [suB, suB, two_sym]
theorem su_in {a b m x : Int} (h : suB a b m = true) : x ∈ suL a b m ↔ 0 ≤ x ∧ x ≤ m ∧ isP a x = true ∧ isP b x = true := by
  obtain ⟨⟨a1, b1, hne⟩, n1, n2⟩ := su_t h
  rw [suL, h, cond_true]
  exact shr_in a1.1 n1
theorem su_rise (a b m : Int) : (suL a b m).Pairwise (· < ·) := by
  rcases Bool.eq_false_or_eq_true (suB a b m) with h | h
  · obtain ⟨⟨a1, b1, hne⟩, n1, n2⟩ := su_t h
    rw [suL, h, cond_true]
    exact shr_rise a b _ a1.1
  · rw [suL, h, cond_false]
    exact List.Pairwise.nil
theorem su_swap (a b m : Int) : suL b a m = suL a b m := by
  rcases Bool.eq_false_or_eq_true (suB a b m) with h | h
  · refine rise_ext (su_rise _ _ _) (su_rise _ _ _) fun x => ?_
    rw [su_in h, su_in (by rw [su_sym]; exact h)]
    constructor
    · exact fun ⟨h1, h2, h3, h4⟩ => ⟨h1, h2, h4, h3⟩
    · exact fun ⟨h1, h2, h3, h4⟩ => ⟨h1, h2, h4, h3⟩
  · have h2 : suB b a m = false := by rw [su_sym]; exact h
    rw [suL, suL, h, h2, cond_false, cond_false]
theorem isP_one (s : Int) (hs : 3 ≤ s) : isP s 1 = true := by
  have := isP_num s 1 hs (by omega)
  rwa [num_one] at this
/-- The list begins with 0, and, where there is room, goes on with 1. -/
theorem su_first {a b m : Int} (h : suB a b m = true) : 0 < (suL a b m).length ∧ (suL a b m).getD 0 0 = 0 := by
  obtain ⟨⟨a1, b1, hne⟩, n1, n2⟩ := su_t h
  have hm := (su_in h).2 ⟨Int.le_refl 0, n1, isP_zero a a1.1, isP_zero b b1.1⟩
  obtain ⟨k, hk, e⟩ := mem_get hm
  have h0 : 0 < (suL a b m).length := by omega
  refine ⟨h0, ?_⟩
  have h1 := ((su_in h).1 (get_mem h0)).1
  rcases Nat.eq_zero_or_pos k with rfl | hp
  · exact e
  · have := rise_get (su_rise a b m) hp hk
    omega
theorem su_second {a b m : Int} (h : suB a b m = true) (hp : 0 < m) : 1 < (suL a b m).length ∧ (suL a b m).getD 1 0 = 1 := by
  obtain ⟨⟨a1, b1, hne⟩, n1, n2⟩ := su_t h
  obtain ⟨h0, e0⟩ := su_first h
  have hm := (su_in h).2 ⟨by omega, by omega, isP_one a a1.1, isP_one b b1.1⟩
  obtain ⟨k, hk, e⟩ := mem_get hm
  have hk0 : 0 < k := by
    rcases Nat.eq_zero_or_pos k with rfl | hp
    · omega
    · exact hp
  have h1 : 1 < (suL a b m).length := by omega
  refine ⟨h1, ?_⟩
  have h2 := rise_get (su_rise a b m) (j := 0) (k := 1) (by omega) h1
  rcases Nat.lt_or_ge 1 k with h3 | h3
  · have := rise_get (su_rise a b m) h3 hk
    omega
  · obtain rfl : k = 1 := by omega
    exact e
theorem pl_low (s n : Int) (hs : 3 ≤ s) (h0 : 0 ≤ n) (h1 : n ≤ 1000000) : pl s n ≤ 100000 := by
  have h := pl_is s n hs h0
  have h2 := h.2.1
  have g := num_ge s (pl s n) hs
  rcases Int.lt_or_le 100000 (pl s n) with h3 | h3
  · have : 100001 * 100002 ≤ pl s n * (pl s n + 1) := Int.mul_le_mul (by omega) (by omega) (by omega) (by omega)
    omega
  · exact h3
/-- What the law asks of a number of the list. -/
structure Shf (a b m n : Int) : Prop where
  o : isO a b n = true
  v : isV a b n = true
  n0 : 0 ≤ n
  n1 : n ≤ m
  m1 : m ≤ 1000000
  b1 : pnB a (psX a b n) = true
  e1 : pnV a (psX a b n) = n
  b2 : pnB b (psY a b n) = true
  e2 : pnV b (psY a b n) = n
theorem shf_of {a b m : Int} (h : suB a b m = true) {k : Nat} (hk : k < (suL a b m).length) : Shf a b m ((suL a b m).getD k 0) := by
  obtain ⟨⟨a1, b1, hne⟩, n1, n2⟩ := su_t h
  obtain ⟨g0, g1, g2, g3⟩ := (su_in h).1 (get_mem hk)
  generalize (suL a b m).getD k 0 = n at g0 g1 g2 g3
  have ho : isO a b n = true := by
    have e := h
    simp only [suB, Bool.and_eq_true] at e
    simp only [isO, Bool.and_eq_true]
    exact ⟨e.1, by simp [tsIn]; omega⟩
  have hv : isV a b n = true := by rw [isV_t ho, g2, g3]; rfl
  have x1 : psX a b n = pl a n := by rw [psX, hv, cond_true]
  have x2 : psY a b n = pl b n := by rw [psY, hv, cond_true]
  have y1 := pl_nn a n a1.1 g0
  have y2 := pl_nn b n b1.1 g0
  have y3 := pl_low a n a1.1 g0 (by omega)
  have y4 := pl_low b n b1.1 g0 (by omega)
  have z1 : pnB a (pl a n) = true := pnB_yes (by omega)
  have z2 : pnB b (pl b n) = true := pnB_yes (by omega)
  refine ⟨ho, hv, g0, g1, n2, by rw [x1]; exact z1, ?_, by rw [x2]; exact z2, ?_⟩
  · rw [x1, pnV, z1, cond_true]; simpa [isP] using g2
  · rw [x2, pnV, z2, cond_true]; simpa [isP] using g3
theorem nx_of {a b m n : Int} (h : suB a b m = true) (h0 : 0 ≤ n) (h1 : n ≤ m) : Nxt 1000000000 a b n (nxV a b n) (nxB a b n) := by
  have e := h
  simp only [suB, Bool.and_eq_true, decide_eq_true_eq] at e
  have hi : nxI a b n = true := by
    simp only [nxI, Bool.and_eq_true, decide_eq_true_eq]
    exact ⟨e.1, h0, by omega⟩
  exact (nx_t hi).2
/-- The number behind a number of the list is what NextShared finds. -/
theorem su_next {a b m : Int} (h : suB a b m = true) {k : Nat} (hk : k + 1 < (suL a b m).length) : nxB a b ((suL a b m).getD k 0) = true ∧ nxV a b ((suL a b m).getD k 0) = (suL a b m).getD (k + 1) 0 := by
  obtain ⟨⟨a1, b1, hne⟩, n1, n2⟩ := su_t h
  obtain ⟨g0, g1, g2, g3⟩ := (su_in h).1 (get_mem (show k < (suL a b m).length by omega))
  obtain ⟨f0, f1, f2, f3⟩ := (su_in h).1 (get_mem hk)
  have hlt := rise_get (su_rise a b m) (j := k) (k := k + 1) (by omega) hk
  have hx := nx_of h g0 g1
  have hn : NextIs 1000000000 a b ((suL a b m).getD k 0) ((suL a b m).getD (k + 1) 0) := by
    refine ⟨hlt, by omega, f2, f3, fun x x1 x2 x3 => ?_⟩
    rcases Int.lt_or_le m x with h5 | h5
    · omega
    · obtain ⟨j, hj, e⟩ := mem_get ((su_in h).2 ⟨by omega, h5, x2, x3⟩)
      rcases Nat.lt_or_ge k j with h6 | h6
      · rcases Nat.lt_or_ge (k + 1) j with h7 | h7
        · have := rise_get (su_rise a b m) h7 hj
          omega
        · obtain rfl : j = k + 1 := by omega
          omega
      · rcases Nat.lt_or_ge j k with h7 | h7
        · have := rise_get (su_rise a b m) h7 (show k < (suL a b m).length by omega)
          omega
        · obtain rfl : j = k := by omega
          omega
  obtain ⟨h3, h4⟩ := nxt_is hx hn
  exact ⟨h4, h3⟩
/-- Behind the list's last number none comes within its bound. -/
theorem su_last {a b m : Int} (h : suB a b m = true) {k : Nat} (hk : k + 1 = (suL a b m).length) (hb : nxB a b ((suL a b m).getD k 0) = true) : ¬ nxV a b ((suL a b m).getD k 0) ≤ m := by
  obtain ⟨⟨a1, b1, hne⟩, n1, n2⟩ := su_t h
  obtain ⟨g0, g1, g2, g3⟩ := (su_in h).1 (get_mem (show k < (suL a b m).length by omega))
  have hx := nx_of h g0 g1
  intro hle
  rcases hx with ⟨_, h2⟩ | ⟨h1, _, _⟩
  · obtain ⟨j, hj, e⟩ := mem_get ((su_in h).2 ⟨by have := h2.1; omega, hle, h2.2.2.1, h2.2.2.2.1⟩)
    have h3 := h2.1
    rcases Nat.lt_or_ge j k with h7 | h7
    · have := rise_get (su_rise a b m) h7 (show k < (suL a b m).length by omega)
      omega
    · obtain rfl : j = k := by omega
      omega
  · rw [hb] at h1
    cases h1
/-- Three shapes: the numbers of the first two that have the third. -/
theorem tu_of {a b c m : Int} (h : tuB a b c m = true) : suB a b m = true ∧ ∀ {k : Nat}, k < (suL a b m).length → tsB c ((suL a b m).getD k 0) = true ∧ decide ((suL a b m).getD k 0 ∈ tuL a b c m) = poB c ((suL a b m).getD k 0) := by
  have e := h
  simp only [tuB, Bool.and_eq_true, decide_eq_true_eq] at e
  obtain ⟨⟨⟨e1, e2⟩, e3⟩, e4⟩ := e
  have hs : suB a b m = true := by
    simp only [suB, Bool.and_eq_true, decide_eq_true_eq]
    exact ⟨e1, e4⟩
  obtain ⟨_, c1, _⟩ := two_t e2
  refine ⟨hs, fun {k} hk => ?_⟩
  obtain ⟨g0, g1, g2, g3⟩ := (su_in hs).1 (get_mem hk)
  have ht : tsB c ((suL a b m).getD k 0) = true := tsB_yes (by omega)
  refine ⟨ht, ?_⟩
  have hl : tuL a b c m = (suL a b m).filter fun n => isP c n := by rw [tuL, h, cond_true, suL, hs, cond_true]; exact shr_three _ _ _ _
  rw [poB, ht, Bool.true_and, hl, Bool.eq_iff_iff]
  simp only [decide_eq_true_eq, List.mem_filter]
  rw [isP, beq_iff_eq]
  exact ⟨fun h => h.2, fun h => ⟨get_mem hk, h⟩⟩
theorem tu_len (a b c m : Int) : (tuL a b c m).length ≤ 1000001 := by
  rcases Bool.eq_false_or_eq_true (tuB a b c m) with h | h
  · have e := h
    simp only [tuB, Bool.and_eq_true, decide_eq_true_eq] at e
    obtain ⟨⟨⟨e1, e2⟩, e3⟩, e4⟩ := e
    obtain ⟨hs, _⟩ := tu_of h
    have hl : tuL a b c m = (suL a b m).filter fun n => isP c n := by rw [tuL, h, cond_true, suL, hs, cond_true]; exact shr_three _ _ _ _
    have h1 := su_len hs
    have h2 := List.length_filter_le (fun n => isP c n) (suL a b m)
    rw [hl]
    omega
  · rw [tuL, h, cond_false]; simp
theorem su_len2 (a b m : Int) : (suL a b m).length ≤ 1000001 := by
  rcases Bool.eq_false_or_eq_true (suB a b m) with h | h
  · have h1 := su_len h
    have h2 := su_t h
    omega
  · rw [suL, h, cond_false]; simp
/-- IsShared's answer is no when there is none. -/
theorem is_and (a b n : Int) : (isO a b n && isV a b n) = isV a b n := by
  rw [isV, ← Bool.and_assoc, Bool.and_self]

set_option maxHeartbeats 400000 in
theorem hHas_yes (A : Option Addr) (n c lo hi : Nat) (xs : List Int) (m : Int) (w : World) (hn : xs.length = n) (hm : n ≤ 1000000000)
    (ha : Own w lo hi A (i64s xs)) (h : m ∈ xs) :
    Calls Try.prog 23 #[.slice A n c, .int .i64 m] w fun e w' => e = .returned (.bool true) ∧ w = w' := by
  have HA := Lib.hid ha
  have HN := Lib.hid hn
  have HM := Lib.hid h
  clear ha hn h
  go_enter Try.func23, Try.ntmps23
  go_wp2
  go_loopw [9] (fun i wr => ∃ k : Nat, k ≤ n ∧ i = .int .i64 k ∧ Hid (m ∉ xs.take k) ∧ w = wr) (fun i _ => n - (intOf i).toNat)
  case atStart => exact ⟨0, Nat.zero_le _, rfl, Lib.hid (by simp), rfl⟩
  case round =>
    obtain ⟨k, hk, rfl, HT, rfl⟩ := hrel
    by_cases hlt : k < n
    · have hlen : k < xs.length := by rw [HN.out]; exact hlt
      obtain ⟨g, o, rfl, _, _, hca, _⟩ := HA.out.at_ (k := k) (by simp [HN.out]; exact hlt)
      have hcx : w.cell? ⟨g, o + k, none⟩ = some (.int .i64 (xs[k]'hlen)) := by simpa using hca
      have HS : Hid (¬ xs[k]'hlen = m → m ∉ xs.take (k + 1)) := Lib.hid fun hne hmem => by
        rw [List.take_succ_eq_append_getElem hlen, List.mem_append] at hmem
        rcases hmem with h | h
        · exact HT.out h
        · simp at h; exact hne h.symm
      clear hca
      generalize xs[k]'hlen = z at hcx HS
      have hi : (k : Int) < (n : Int) := by omega
      by_cases hz : z = m
      · subst hz
        go_wp2
        first | (rw [Exit.noGoto_ret]; go_ret) | go_ret
        exact ⟨rfl, rfl⟩
      · have hz' : (z == m) = false := by simpa using hz
        have HT2 := Lib.hid (HS.out hz)
        clear HS hz
        go_wp2
        go_roundw
        case rel => exact ⟨k + 1, by omega, by go_num, HT2, by first | rfl | trivial⟩
        case measure => simp [intOf]; omega
    · have : m ∉ xs := by
        have := HT.out
        rwa [List.take_of_length_le (by rw [HN.out]; omega)] at this
      exact absurd HM.out this
set_option maxHeartbeats 400000 in
theorem hHas_no (A : Option Addr) (n c lo hi : Nat) (xs : List Int) (m : Int) (w : World) (hn : xs.length = n) (hm : n ≤ 1000000000)
    (ha : Own w lo hi A (i64s xs)) (h : m ∉ xs) :
    Calls Try.prog 23 #[.slice A n c, .int .i64 m] w fun e w' => e = .returned (.bool false) ∧ w = w' := by
  have HA := Lib.hid ha
  have HN := Lib.hid hn
  have HM := Lib.hid h
  clear ha hn h
  go_enter Try.func23, Try.ntmps23
  go_wp2
  go_loopw [9] (fun i wr => ∃ k : Nat, k ≤ n ∧ i = .int .i64 k ∧ w = wr) (fun i _ => n - (intOf i).toNat)
  case atStart => exact ⟨0, Nat.zero_le _, rfl, rfl⟩
  case round =>
    obtain ⟨k, hk, rfl, rfl⟩ := hrel
    by_cases hlt : k < n
    · have hlen : k < xs.length := by rw [HN.out]; exact hlt
      obtain ⟨g, o, rfl, _, _, hca, _⟩ := HA.out.at_ (k := k) (by simp [HN.out]; exact hlt)
      have hcx : w.cell? ⟨g, o + k, none⟩ = some (.int .i64 (xs[k]'hlen)) := by simpa using hca
      have hz : (xs[k]'hlen == m) = false := by
        simp only [beq_eq_false_iff_ne, ne_eq]
        intro e
        exact HM.out (e ▸ List.getElem_mem hlen)
      clear hca
      generalize xs[k]'hlen = z at hcx hz
      have hi : (k : Int) < (n : Int) := by omega
      go_wp2
      go_roundw
      case rel => exact ⟨k + 1, by omega, by go_num, by first | rfl | trivial⟩
      case measure => simp [intOf]; omega
    · go_wp2
      go_ret
      exact ⟨rfl, rfl⟩
theorem hHas_any (A : Option Addr) (n c lo hi : Nat) (xs : List Int) (m : Int) (w : World) (hn : xs.length = n) (hm : n ≤ 1000000000)
    (ha : Own w lo hi A (i64s xs)) :
    Calls Try.prog 23 #[.slice A n c, .int .i64 m] w fun e w' => e = .returned (.bool (decide (m ∈ xs))) ∧ w = w' := by
  by_cases h : m ∈ xs
  · rw [decide_eq_true h]; exact hHas_yes A n c lo hi xs m w hn hm ha h
  · rw [decide_eq_false h]; exact hHas_no A n c lo hi xs m w hn hm ha h
theorem hRises_b (A : Option Addr) (n c lo hi : Nat) (xs : List Int) (w : World) (hn : xs.length = n) (hm : n ≤ 1000000000)
    (ha : Own w lo hi A (i64s xs)) (hs : ∀ k, k + 1 < n → xs.getD k 0 < xs.getD (k + 1) 0) :
    Calls Try.prog 9 #[.slice A n c] w fun e w' => e = .returned (.bool true) ∧ Below w.heap.size w w' :=
  (hRises_any A n c lo hi xs w hn hm ha hs).mono fun e w' ⟨he, q, hq⟩ => ⟨he, by subst hq; exact below_drewN (Below.refl _ _) _⟩
end Go.Proofs.Ytcjfkbpkhlfbdaa
