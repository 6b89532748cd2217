/- What the laws of promises ask of rows, of runs, of a number in a list, of a number's size. No condition. -/
import Derived.Test.YtkhjeleoppdjgabAnH
import Derived.Test.YtkhjeleoppdjgabOwL
import Derived.Test.YtkhjeleoppdjgabOwS
import Derived.Test.YtkhjeleoppdjgabSiM
import Derived.Lib.Hide
import Derived.Deep.QuietTactic
namespace Go.Proofs.Ytkhjeleoppdjgab
open Go.RowKit

set_option maxHeartbeats 800000 in
theorem oRows_same (A B : Option Addr) (n c d l1 h1 l2 h2 : Nat) (F : Nat → List Int) (Af Bf : Nat → Option Addr) (cf df : Nat → Nat) (w : World) (hm : n ≤ 1000000000) (hp : pre F n ≤ 1000000000)
    (ha : OwnL w l1 h1 A n F Af cf) (hb : OwnL w l2 h2 B n F Bf df) :
    Calls Try.prog 17 #[.slice A n c, .slice B n d] w fun e w' => e = .returned (.bool true) ∧ ∃ q, w' = w.drewN q := by
  have HA := Lib.hid ha
  have HB := Lib.hid hb
  have HP := Lib.hid hp
  clear ha hb hp
  go_enter Try.func17, Try.ntmps17
  go_wp2
  go_loopw [13] (fun i wr => ∃ k q : Nat, k ≤ n ∧ i = .int .i64 k ∧ wr = w.drewN q) (fun i _ => n - (intOf i).toNat)
  case atStart => exact ⟨0, 0, Nat.zero_le _, rfl, rfl⟩
  case round =>
    obtain ⟨k, q, hk, rfl, rfl⟩ := hrel
    by_cases hlt : k < n
    · obtain ⟨g, o, rfl, hca, hoa⟩ := HA.out.at_ hlt
      obtain ⟨g', o', rfl, hcb, hob⟩ := HB.out.at_ hlt
      have hl : (F k).length ≤ 1000000000 := by have := len_pre F hlt; have := HP.out; omega
      have HE := Lib.hid (fun x => oSame_same (Af k) (Bf k) (F k).length (cf k) (df k) _ _ _ _ (F k) (w.drewN (q + x)) rfl hl (by rw [← World.drewN_drewN]; exact hoa.drewN x) (by rw [← World.drewN_drewN]; exact hob.drewN x))
      have hi : (k : Int) < (n : Int) := by omega
      generalize Af k = Ak at *
      generalize Bf k = Bk at *
      generalize cf k = ck at *
      generalize df k = dk at *
      generalize (F k).length = lk at *
      clear hoa hob
      go_wp2
      go_quiet (first | (go_at_call 58; refine (HE.out _).mono ?_; rintro e w2 ⟨rfl, m, rfl⟩; exact ⟨rfl, _, by rw [World.drewN_drewN, Nat.add_assoc]⟩))
      go_wp2
      go_roundw
      case rel => exact ⟨k + 1, _, by omega, by go_num, rfl⟩
      case measure => simp [intOf]; omega
    · go_wp2
      go_ret
      exact ⟨rfl, q, rfl⟩

set_option maxHeartbeats 800000 in
theorem oRuns_same (A B : Option Addr) (n c d l1 h1 l2 h2 : Nat) (xs : List (Int × Int)) (w : World) (hn : xs.length = n) (hm : n ≤ 1000000000)
    (ha : Own w l1 h1 A (prs xs)) (hb : Own w l2 h2 B (prs xs)) :
    Calls Try.prog 18 #[.slice A n c, .slice B n d] w fun e w' => e = .returned (.bool true) ∧ ∃ q, w' = w.drewN q := by
  have HA := Lib.hid ha
  have HB := Lib.hid hb
  have HN := Lib.hid hn
  clear ha hb hn
  go_enter Try.func18, Try.ntmps18
  go_wp2
  go_loopw [13] (fun i wr => ∃ k q : Nat, k ≤ n ∧ i = .int .i64 k ∧ wr = w.drewN q) (fun i _ => n - (intOf i).toNat)
  case atStart => exact ⟨0, 0, Nat.zero_le _, rfl, rfl⟩
  case round =>
    obtain ⟨k, q, hk, rfl, rfl⟩ := hrel
    by_cases hlt : k < n
    · have hlen : k < xs.length := by rw [HN.out]; exact hlt
      obtain ⟨g, o, rfl, _, hg, hca0, hca1⟩ := HA.out.pair_ hlen
      obtain ⟨g', o', rfl, _, hg', hcb0, hcb1⟩ := HB.out.pair_ hlen
      generalize (xs[k]'hlen).1 = x at hca0 hcb0
      generalize (xs[k]'hlen).2 = y at hca1 hcb1
      have hi : (k : Int) < (n : Int) := by omega
      clear hlen
      go_wp2
      go_quiet (fail)
      go_wp2
      go_roundw
      case rel => exact ⟨k + 1, _, by omega, by go_num, rfl⟩
      case measure => simp [intOf]; omega
    · go_wp2
      go_ret
      exact ⟨rfl, q, rfl⟩

set_option maxHeartbeats 400000 in
theorem oHas_yes (A : Option Addr) (n c lo hi : Nat) (xs : List Int) (m : Int) (w : World) (hn : xs.length = n) (hm : n ≤ 1000000000)
    (ha : Own w lo hi A (i64s xs)) (h : m ∈ xs) :
    Calls Try.prog 59 #[.slice A n c, .int .i64 m] w fun e w' => e = .returned (.bool true) ∧ w = w' := by
  have HA := Lib.hid ha
  have HN := Lib.hid hn
  have HM := Lib.hid h
  clear ha hn h
  go_enter Try.func59, Try.ntmps59
  go_wp2
  go_loopw [9] (fun i wr => ∃ k : Nat, k ≤ n ∧ i = .int .i64 k ∧ Hid (m ∉ xs.take k) ∧ w = wr) (fun i _ => n - (intOf i).toNat)
  case atStart => exact ⟨0, Nat.zero_le _, rfl, Lib.hid (by simp), rfl⟩
  case round =>
    obtain ⟨k, hk, rfl, HT, rfl⟩ := hrel
    by_cases hlt : k < n
    · have hlen : k < xs.length := by rw [HN.out]; exact hlt
      obtain ⟨g, o, rfl, _, _, hca, _⟩ := HA.out.at_ (k := k) (by simp [HN.out]; exact hlt)
      have hcx : w.cell? ⟨g, o + k, none⟩ = some (.int .i64 (xs[k]'hlen)) := by simpa using hca
      have HS : Hid (¬ xs[k]'hlen = m → m ∉ xs.take (k + 1)) := Lib.hid fun hne hmem => by
        rw [List.take_succ_eq_append_getElem hlen, List.mem_append] at hmem
        rcases hmem with h | h
        · exact HT.out h
        · simp at h; exact hne h.symm
      clear hca
      generalize xs[k]'hlen = z at hcx HS
      have hi : (k : Int) < (n : Int) := by omega
      by_cases hz : z = m
      · subst hz
        go_wp2
        first | (rw [Exit.noGoto_ret]; go_ret) | go_ret
        exact ⟨rfl, rfl⟩
      · have hz' : (z == m) = false := by simpa using hz
        have HT2 := Lib.hid (HS.out hz)
        clear HS hz
        go_wp2
        go_roundw
        case rel => exact ⟨k + 1, by omega, by go_num, HT2, by first | rfl | trivial⟩
        case measure => simp [intOf]; omega
    · have : m ∉ xs := by
        have := HT.out
        rwa [List.take_of_length_le (by rw [HN.out]; omega)] at this
      exact absurd HM.out this
set_option maxHeartbeats 400000 in
theorem oHas_no (A : Option Addr) (n c lo hi : Nat) (xs : List Int) (m : Int) (w : World) (hn : xs.length = n) (hm : n ≤ 1000000000)
    (ha : Own w lo hi A (i64s xs)) (h : m ∉ xs) :
    Calls Try.prog 59 #[.slice A n c, .int .i64 m] w fun e w' => e = .returned (.bool false) ∧ w = w' := by
  have HA := Lib.hid ha
  have HN := Lib.hid hn
  have HM := Lib.hid h
  clear ha hn h
  go_enter Try.func59, Try.ntmps59
  go_wp2
  go_loopw [9] (fun i wr => ∃ k : Nat, k ≤ n ∧ i = .int .i64 k ∧ w = wr) (fun i _ => n - (intOf i).toNat)
  case atStart => exact ⟨0, Nat.zero_le _, rfl, rfl⟩
  case round =>
    obtain ⟨k, hk, rfl, rfl⟩ := hrel
    by_cases hlt : k < n
    · have hlen : k < xs.length := by rw [HN.out]; exact hlt
      obtain ⟨g, o, rfl, _, _, hca, _⟩ := HA.out.at_ (k := k) (by simp [HN.out]; exact hlt)
      have hcx : w.cell? ⟨g, o + k, none⟩ = some (.int .i64 (xs[k]'hlen)) := by simpa using hca
      have hz : (xs[k]'hlen == m) = false := by
        simp only [beq_eq_false_iff_ne, ne_eq]
        intro e
        exact HM.out (e ▸ List.getElem_mem hlen)
      clear hca
      generalize xs[k]'hlen = z at hcx hz
      have hi : (k : Int) < (n : Int) := by omega
      go_wp2
      go_roundw
      case rel => exact ⟨k + 1, by omega, by go_num, by first | rfl | trivial⟩
      case measure => simp [intOf]; omega
    · go_wp2
      go_ret
      exact ⟨rfl, rfl⟩
theorem oHas_any (A : Option Addr) (n c lo hi : Nat) (xs : List Int) (m : Int) (w : World) (hn : xs.length = n) (hm : n ≤ 1000000000)
    (ha : Own w lo hi A (i64s xs)) :
    Calls Try.prog 59 #[.slice A n c, .int .i64 m] w fun e w' => e = .returned (.bool (decide (m ∈ xs))) ∧ w = w' := by
  by_cases h : m ∈ xs
  · rw [decide_eq_true h]; exact oHas_yes A n c lo hi xs m w hn hm ha h
  · rw [decide_eq_false h]; exact oHas_no A n c lo hi xs m w hn hm ha h
theorem oAbs6_any (x : Int) (w : World) (h0 : -4000000000000000000 ≤ x) (h1 : x ≤ 4000000000000000000) : Calls Try.prog 43 #[.int .i64 x] w fun e w' => e = .returned (.int .i64 (ab x)) ∧ w = w' := by
  by_cases h : x < 0
  · have e : ab x = -x := by unfold ab; omega
    rw [e]
    go_enter Try.func43, Try.ntmps43
    go_wp2
    go_ret
    exact ⟨rfl, rfl⟩
  · have e : ab x = x := by unfold ab; omega
    rw [e]
    go_enter Try.func43, Try.ntmps43
    go_wp2
    go_ret
    exact ⟨rfl, rfl⟩
end Go.Proofs.Ytkhjeleoppdjgab
