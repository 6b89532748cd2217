/- What the laws of promises ask of rows, of runs, of a number in a list, of a number's size. No condition. -/
import Derived.Test.YtegbikakfckehaaDoorAnH
import Derived.Test.YtegbikakfckehaaDoorOwL
import Derived.Test.YtegbikakfckehaaDoorOwS
import Derived.Test.YtegbikakfckehaaDoorSiM
import Derived.Lib.Hide
import Derived.Deep.QuietTactic
namespace Go.Proofs.YtegbikakfckehaaDoor
open Go.RowKit

set_option maxHeartbeats 400000 in
theorem oHas_yes (A : Option Addr) (n c lo hi : Nat) (xs : List Int) (m : Int) (w : World) (hn : xs.length = n) (hm : n ≤ 1000000000)
    (ha : Own w lo hi A (i64s xs)) (h : m ∈ xs) :
    Calls Tryd.prog 26 #[.slice A n c, .int .i64 m] w fun e w' => e = .returned (.bool true) ∧ w = w' := by
  have HA := Lib.hid ha
  have HN := Lib.hid hn
  have HM := Lib.hid h
  clear ha hn h
  go_enter Tryd.func26, Tryd.ntmps26
  go_wp2
  go_loopw [9] (fun i wr => ∃ k : Nat, k ≤ n ∧ i = .int .i64 k ∧ Hid (m ∉ xs.take k) ∧ w = wr) (fun i _ => n - (intOf i).toNat)
  case atStart => exact ⟨0, Nat.zero_le _, rfl, Lib.hid (by simp), rfl⟩
  case round =>
    obtain ⟨k, hk, rfl, HT, rfl⟩ := hrel
    by_cases hlt : k < n
    · have hlen : k < xs.length := by rw [HN.out]; exact hlt
      obtain ⟨g, o, rfl, _, _, hca, _⟩ := HA.out.at_ (k := k) (by simp [HN.out]; exact hlt)
      have hcx : w.cell? ⟨g, o + k, none⟩ = some (.int .i64 (xs[k]'hlen)) := by simpa using hca
      have HS : Hid (¬ xs[k]'hlen = m → m ∉ xs.take (k + 1)) := Lib.hid fun hne hmem => by
        rw [List.take_succ_eq_append_getElem hlen, List.mem_append] at hmem
        rcases hmem with h | h
        · exact HT.out h
        · simp at h; exact hne h.symm
      clear hca
      generalize xs[k]'hlen = z at hcx HS
      have hi : (k : Int) < (n : Int) := by omega
      by_cases hz : z = m
      · subst hz
        go_wp2
        first | (rw [Exit.noGoto_ret]; go_ret) | go_ret
        exact ⟨rfl, rfl⟩
      · have hz' : (z == m) = false := by simpa using hz
        have HT2 := Lib.hid (HS.out hz)
        clear HS hz
        go_wp2
        go_roundw
        case rel => exact ⟨k + 1, by omega, by go_num, HT2, by first | rfl | trivial⟩
        case measure => simp [intOf]; omega
    · have : m ∉ xs := by
        have := HT.out
        rwa [List.take_of_length_le (by rw [HN.out]; omega)] at this
      exact absurd HM.out this
set_option maxHeartbeats 400000 in
theorem oHas_no (A : Option Addr) (n c lo hi : Nat) (xs : List Int) (m : Int) (w : World) (hn : xs.length = n) (hm : n ≤ 1000000000)
    (ha : Own w lo hi A (i64s xs)) (h : m ∉ xs) :
    Calls Tryd.prog 26 #[.slice A n c, .int .i64 m] w fun e w' => e = .returned (.bool false) ∧ w = w' := by
  have HA := Lib.hid ha
  have HN := Lib.hid hn
  have HM := Lib.hid h
  clear ha hn h
  go_enter Tryd.func26, Tryd.ntmps26
  go_wp2
  go_loopw [9] (fun i wr => ∃ k : Nat, k ≤ n ∧ i = .int .i64 k ∧ w = wr) (fun i _ => n - (intOf i).toNat)
  case atStart => exact ⟨0, Nat.zero_le _, rfl, rfl⟩
  case round =>
    obtain ⟨k, hk, rfl, rfl⟩ := hrel
    by_cases hlt : k < n
    · have hlen : k < xs.length := by rw [HN.out]; exact hlt
      obtain ⟨g, o, rfl, _, _, hca, _⟩ := HA.out.at_ (k := k) (by simp [HN.out]; exact hlt)
      have hcx : w.cell? ⟨g, o + k, none⟩ = some (.int .i64 (xs[k]'hlen)) := by simpa using hca
      have hz : (xs[k]'hlen == m) = false := by
        simp only [beq_eq_false_iff_ne, ne_eq]
        intro e
        exact HM.out (e ▸ List.getElem_mem hlen)
      clear hca
      generalize xs[k]'hlen = z at hcx hz
      have hi : (k : Int) < (n : Int) := by omega
      go_wp2
      go_roundw
      case rel => exact ⟨k + 1, by omega, by go_num, by first | rfl | trivial⟩
      case measure => simp [intOf]; omega
    · go_wp2
      go_ret
      exact ⟨rfl, rfl⟩
theorem oHas_any (A : Option Addr) (n c lo hi : Nat) (xs : List Int) (m : Int) (w : World) (hn : xs.length = n) (hm : n ≤ 1000000000)
    (ha : Own w lo hi A (i64s xs)) :
    Calls Tryd.prog 26 #[.slice A n c, .int .i64 m] w fun e w' => e = .returned (.bool (decide (m ∈ xs))) ∧ w = w' := by
  by_cases h : m ∈ xs
  · rw [decide_eq_true h]; exact oHas_yes A n c lo hi xs m w hn hm ha h
  · rw [decide_eq_false h]; exact oHas_no A n c lo hi xs m w hn hm ha h
end Go.Proofs.YtegbikakfckehaaDoor
