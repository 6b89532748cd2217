/- Chapter 8: DifferencesOf, by the specification; forms tested. -/
import Derived.Test.YtmjgjdebcmbjeaaTbI
namespace Go.Proofs.Ytmjgjdebcmbjeaa
open Go.RowKit

theorem gd8_len {xs : List Int} (h : gd8 xs = true) : 1 ≤ xs.length ∧ xs.length ≤ 12 := by
  unfold gd8 at h
  rw [Bool.and_eq_true, decide_eq_true_iff] at h
  exact h.1
theorem gd8_at {xs : List Int} (h : gd8 xs = true) (j : Nat) : -1000000 ≤ xs.getD j 0 ∧ xs.getD j 0 ≤ 1000000 := by
  unfold gd8 at h
  rw [Bool.and_eq_true] at h
  by_cases hj : j < xs.length
  · have e : xs.getD j 0 = xs[j] := by simp [List.getD_eq_getElem?_getD, hj]
    have := List.all_eq_true.1 h.2 xs[j] (List.getElem_mem hj)
    rw [decide_eq_true_iff] at this
    rw [e]
    exact this
  · have e : xs.getD j 0 = 0 := by simp [List.getD_eq_getElem?_getD, Nat.le_of_not_lt hj]
    rw [e]
    omega
set_option maxHeartbeats 800000 in
theorem spec_DifferencesOf_yes (A : Option Addr) (n c lo : Nat) (xs : List Int) (w : World) (hn : xs.length = n) (ha : Own w lo w.heap.size A (i64s xs)) (h1 : gd8 xs = true) (h2 : 2 ≤ n) (h3 : gd8 (dif8 xs) = true) :
    Calls Try.prog 19 #[.slice A n c] w (ResI true (dif8 xs) w) := by
  have hl := gd8_len h1
  have hb := gd8_at h1
  have HG := Lib.hid fun W hi (h : Own W lo hi A (i64s xs)) => dfGood_any A n c lo hi xs W hn (by omega) h
  have HR := Lib.hid fun W (h : Own W lo w.heap.size A (i64s xs)) (hh : w.heap.size ≤ W.heap.size) => dfRow_any A n c lo w.heap.size xs W hn (by omega) h hh (fun j => by have := hb j; omega)
  have HG2 := Lib.hid fun B d l hi W (h : Own W l hi B (i64s (dif8 xs))) => dfGood_any B (n - 1) d l hi (dif8 xs) W (by rw [dif8_len, hn]) (by omega) h
  have HD : Hid ((dif8 xs).length = n - 1) := Lib.hid (by rw [dif8_len, hn])
  rw [h1] at HG
  rw [h3] at HG2
  have HA := Lib.hid ha
  have h2i : ¬ (n : Int) < 2 := by omega
  generalize dif8 xs = ds at *
  clear h1 h3 hl hb ha hn
  go_enter Try.func19, Try.ntmps19
  go_wp2_with (first
    | (go_at_call 58; refine (HG2.out _ _ _ _ _ HO1.out).mono ?_; rintro e w' ⟨rfl, rfl⟩; have HO2 := HO1; have hb2 := hb1; clear HO1)
    | (go_at_call 58; refine (HG.out _ _ HA.out).mono ?_; rintro e w' ⟨rfl, rfl⟩)
    | (go_at_call 59; refine (HR.out _ (HA.out.below hb2 (Nat.le_refl _)) hb2.size).mono ?_; rintro e w3 ⟨⟨B3, d3, rfl, hO3⟩, hb3⟩)
    | (go_at_call 59; refine (HR.out _ HA.out (Nat.le_refl _)).mono ?_; rintro e w1 ⟨⟨B1, d1, rfl, hO1⟩, hb1⟩; have HO1 := Lib.hid hO1)
    | fail)
  go_ret2
  have hz := hb2.size
  exact ⟨B3, d3, by rw [HD.out]; rfl, hO3.wide hz (Nat.le_refl _), hb2.trans (hb3.mono hz)⟩
set_option maxHeartbeats 800000 in
theorem spec_DifferencesOf_no (A : Option Addr) (n c lo : Nat) (xs : List Int) (w : World) (hn : xs.length = n) (hm : n ≤ 1048576) (ha : Own w lo w.heap.size A (i64s xs)) (h : gd8 xs = false ∨ n < 2 ∨ gd8 (dif8 xs) = false) :
    Calls Try.prog 19 #[.slice A n c] w (ResI false [] w) := by
  have HG := Lib.hid fun W hi (h : Own W lo hi A (i64s xs)) => dfGood_any A n c lo hi xs W hn hm h
  have HA := Lib.hid ha
  cases h1 : gd8 xs with
  | false =>
    rw [h1] at HG
    clear h h1 ha hn
    go_enter Try.func19, Try.ntmps19
    go_wp2_with (go_at_call 58; refine (HG.out _ _ HA.out).mono ?_; rintro e w' ⟨rfl, rfl⟩)
    go_ret2
    exact resI_nil (Below.refl _ _)
  | true =>
    rw [h1] at HG
    have hl := gd8_len h1
    have hb := gd8_at h1
    by_cases h2 : n < 2
    · have h2i : (n : Int) < 2 := by omega
      clear h h1 hl hb ha hn h2
      go_enter Try.func19, Try.ntmps19
      go_wp2_with (go_at_call 58; refine (HG.out _ _ HA.out).mono ?_; rintro e w' ⟨rfl, rfl⟩)
      go_ret2
      exact resI_nil (Below.refl _ _)
    · have h3 : gd8 (dif8 xs) = false := by
        rcases h with h | h | h
        · rw [h1] at h; cases h
        · exact absurd h h2
        · exact h
      have HR := Lib.hid fun W (h : Own W lo w.heap.size A (i64s xs)) (hh : w.heap.size ≤ W.heap.size) => dfRow_any A n c lo w.heap.size xs W hn (by omega) h hh (fun j => by have := hb j; omega)
      have HG2 := Lib.hid fun B d l hi W (h : Own W l hi B (i64s (dif8 xs))) => dfGood_any B (n - 1) d l hi (dif8 xs) W (by rw [dif8_len, hn]) (by omega) h
      rw [h3] at HG2
      have h2i : ¬ (n : Int) < 2 := by omega
      generalize dif8 xs = ds at *
      clear h h1 h3 hl hb ha hn h2
      go_enter Try.func19, Try.ntmps19
      go_wp2_with (first
        | (go_at_call 58; refine (HG2.out _ _ _ _ _ HO1.out).mono ?_; rintro e w' ⟨rfl, rfl⟩; have hb2 := hb1; clear HO1)
        | (go_at_call 58; refine (HG.out _ _ HA.out).mono ?_; rintro e w' ⟨rfl, rfl⟩)
        | (go_at_call 59; refine (HR.out _ HA.out (Nat.le_refl _)).mono ?_; rintro e w1 ⟨⟨B1, d1, rfl, hO1⟩, hb1⟩; have HO1 := Lib.hid hO1)
        | fail)
      go_ret2
      exact resI_nil hb2
set_option maxRecDepth 4000 in
set_option maxHeartbeats 1600000 in
theorem dfForm_any (A : Option Addr) (n c lo hi : Nat) (xs : List Int) (w : World) (hn : xs.length = n) (hm : n ≤ 1048576) (ha : Own w lo hi A (i64s xs)) :
    Calls Try.prog 69 #[.slice A n c] w fun e w' => e = .returned (.bool (fm8 xs)) ∧ w = w' := by
  have HL := Lib.hid fun W (h : Own W lo hi A (i64s xs)) => l1All_any A n c xs (-1000000) 1000000 hi W hn hm h.rd
  have HA := Lib.hid ha
  have hg : fm8 xs = (decide (n ≤ 12) && allIn xs (-1000000) 1000000 && (decide (n = 0) || decide (xs.getD (n - 1) 0 ≠ 0))) := by unfold fm8; rw [hn]
  rw [hg]
  have hcl : 0 < n → ∃ g o, A = some ⟨g, o, none⟩ ∧ w.cell? ⟨g, o + (n - 1), none⟩ = some (.int .i64 (xs.getD (n - 1) 0)) := fun h => by
    obtain ⟨g, o, e, _, _, hcs⟩ := ha (by simp [hn]; omega)
    have hk : n - 1 < xs.length := by omega
    exact ⟨g, o, e, (hcs (n - 1) _ (by simp [List.getD_eq_getElem?_getD, hk])).1⟩
  clear hg hn
  generalize allIn xs (-1000000) 1000000 = r at *
  generalize xs.getD (n - 1) 0 = z at *
  by_cases h : 12 < n
  · have hi12 : ¬ (n : Int) ≤ 12 := by omega
    rw [decide_eq_false (by omega), Bool.false_and, Bool.false_and]
    clear ha hcl h
    go_enter Try.func69, Try.ntmps69
    go_wp2
    go_ret
    exact ⟨rfl, rfl⟩
  · have hi12 : (n : Int) ≤ 12 := by omega
    rw [decide_eq_true (by omega), Bool.true_and]
    cases r with
    | false =>
      clear ha hcl h
      go_enter Try.func69, Try.ntmps69
      go_wp2_with (go_at_call 97; refine (HL.out _ HA.out).mono ?_; rintro e w' ⟨rfl, rfl⟩)
      go_ret
      exact ⟨rfl, rfl⟩
    | true =>
      by_cases h0 : n = 0
      · subst h0
        clear ha hcl h
        go_enter Try.func69, Try.ntmps69
        go_wp2_with (go_at_call 97; refine (HL.out _ HA.out).mono ?_; rintro e w' ⟨rfl, rfl⟩)
        go_ret
        exact ⟨rfl, rfl⟩
      · obtain ⟨g, o, rfl, hc⟩ := hcl (by omega)
        rw [decide_eq_false h0, Bool.false_or, Bool.true_and]
        have h0i : ¬ (n : Int) = 0 := by omega
        obtain ⟨m, hm2⟩ : ∃ m : Nat, m = n - 1 := ⟨_, rfl⟩
        rw [← hm2] at hc
        have e1 : IntKind.i64.wrap ((n : Int) - 1) = (m : Int) := by rw [IntWalk.i64_in _ (by omega)]; omega
        have hmn : (m : Int) < (n : Int) := by omega
        have hm0 : (0 : Int) ≤ (m : Int) := by omega
        clear ha hcl h h0 hm2
        go_enter Try.func69, Try.ntmps69
        go_wp2_with (go_at_call 97; refine (HL.out _ HA.out).mono ?_; rintro e w' ⟨rfl, rfl⟩)
        go_ret
        have hz1 : ((n : Int) == 0) = false := by simp; omega
        exact ⟨by simp only [hz1, Bool.false_or]; cases hz : decide (z = 0) <;> simp_all, rfl⟩
end Go.Proofs.Ytmjgjdebcmbjeaa
