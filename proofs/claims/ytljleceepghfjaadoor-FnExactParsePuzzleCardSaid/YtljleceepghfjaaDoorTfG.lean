/- Chapter 9, by the specification: puzzles, and the numbers that fit all clues. -/
import Derived.Test.YtljleceepghfjaaDoorTfF
import Derived.Test.YtljleceepghfjaaDoorTfD
namespace Go.Proofs.YtljleceepghfjaaDoor
open Go.ChangeShapes Go.WideShapes Go.ChangeAt Go.RowKit

theorem all9_step {f : Clu → Bool} {cs : List Clu} {k : Nat} (h : k < cs.length) : (cs.take (k + 1)).all f = ((cs.take k).all f && f (cs.getD k clu0)) := by
  rw [take_succ9 cs k h, List.all_append]
  simp
theorem all9_no {f : Clu → Bool} {cs : List Clu} {k : Nat} (h : k < cs.length) (hf : f (cs.getD k clu0) = false) : cs.all f = false := by
  rw [List.all_eq_false]
  refine ⟨cs.getD k clu0, ?_, by rw [hf]; exact Bool.false_ne_true⟩
  rw [List.getD_eq_getElem?_getD, List.getElem?_eq_getElem h]
  exact List.getElem_mem h
theorem all9_at {f : Clu → Bool} {cs : List Clu} (h : cs.all f = true) {k : Nat} (hk : k < cs.length) : f (cs.getD k clu0) = true := by
  rw [List.all_eq_true] at h
  rw [List.getD_eq_getElem?_getD, List.getElem?_eq_getElem hk]
  exact h _ (List.getElem_mem hk)
set_option maxHeartbeats 1600000 in
theorem pzGood_any (m : Int) (A : Option Addr) (n c lo hi : Nat) (xs : List Clu) (w : World) (hn : xs.length = n) (hm : n ≤ 1048576) (ha : Own w lo hi A (c64 xs)) (hh : hi ≤ w.heap.size) :
    Calls Tryd.prog 11 #[.agg #[.int .i64 m, .slice A n c]] w fun e w' => e = .returned (.bool (okp9 m xs)) ∧ Below w.heap.size w w' := by
  have HE : Hid (okp9 m xs = (betr m 1 500 && decide (n ≤ 6) && xs.all okc9)) := Lib.hid (by rw [← hn]; rfl)
  have HA := Lib.hid ha
  have HN := Lib.hid hn
  clear ha hn
  cases hx : betr m 1 500
  · rw [hx] at HE
    have HX := Lib.hid hx
    clear hx
    go_enter Tryd.func11, Tryd.ntmps11
    go_wp2_with (go_at_call 19; refine (rin_any _ _ _ _).mono ?_; rw [HX.out]; rintro e w' ⟨rfl, rfl⟩)
    go_ret
    exact ⟨ret_bool9 (by rw [HE.out]; rfl), (Below.refl _ _).alloc (Nat.le_refl _) _⟩
  · rw [hx] at HE
    have HX := Lib.hid hx
    clear hx
    by_cases h6 : n ≤ 6
    · have HE2 : Hid (okp9 m xs = xs.all okc9) := Lib.hid (by rw [HE.out, decide_eq_true h6, Bool.true_and, Bool.true_and])
      have h6i : (n : Int) ≤ 6 := by omega
      go_enter Tryd.func11, Tryd.ntmps11
      go_wp2_with (go_at_call 19; refine (rin_any _ _ _ _).mono ?_; rw [HX.out]; rintro e w' ⟨rfl, rfl⟩)
      go_loopw [18] (fun i wr => ∃ k : Nat, k ≤ n ∧ i = .int .i64 (k : Int) ∧ Hid ((xs.take k).all okc9 = true) ∧ Below w.heap.size w wr) (fun i _ => n - (intOf i).toNat)
      case atStart => exact ⟨0, by omega, rfl, Lib.hid rfl, (Below.refl _ _).alloc (Nat.le_refl _) _⟩
      case round =>
        obtain ⟨k, hk, rfl, HK, hb⟩ := hrel
        by_cases hlt : k < n
        · have hki : (k : Int) < (n : Int) := by omega
          have hlx : k < xs.length := by rw [HN.out]; exact hlt
          obtain ⟨g, o, rfl, _, hg, c0, c1, c2⟩ := (HA.out.below hb hh).clue_ hlx
          obtain ⟨q, hq⟩ : ∃ q, q = xs.getD k clu0 := ⟨_, rfl⟩
          rw [← hq] at c0 c1 c2
          have HC := Lib.hid fun W => pzClue_any q W
          cases hoq : okc9 q with
          | false =>
            rw [hoq] at HC
            have HZ : Hid (xs.all okc9 = false) := Lib.hid (all9_no hlx (by rw [← hq]; exact hoq))
            clear hq hoq
            go_wp2_with (go_at_call 20; refine (HC.out _).mono ?_; rintro e w' ⟨rfl, hb2⟩; have HB2 := Lib.hid hb2; clear hb2)
            go_ret
            exact ⟨ret_bool9 (by rw [HE2.out, HZ.out]), (hb.alloc hb.size _).trans (HB2.out.mono (by have := hb.size; simp; omega))⟩
          | true =>
            rw [hoq] at HC
            have HZ : Hid ((xs.take (k + 1)).all okc9 = true) := Lib.hid (by rw [all9_step hlx, HK.out, ← hq, hoq]; rfl)
            clear hq hoq
            go_wp2_with (go_at_call 20; refine (HC.out _).mono ?_; rintro e w' ⟨rfl, hb2⟩; have HB2 := Lib.hid hb2; clear hb2)
            go_roundw
            case rel => exact ⟨k + 1, by omega, by go_num, HZ, (hb.alloc hb.size _).trans (HB2.out.mono (by have := hb.size; simp; omega))⟩
            case measure => simp [intOf]; omega
        · obtain rfl : k = n := by omega
          have HZ : Hid (xs.all okc9 = true) := Lib.hid (by have := HK.out; rwa [List.take_of_length_le (by rw [HN.out]; exact Nat.le_refl _)] at this)
          go_wp2
          go_ret
          exact ⟨ret_bool9 (by rw [HE2.out, HZ.out]), hb⟩
    · have HE2 : Hid (okp9 m xs = false) := Lib.hid (by rw [HE.out, decide_eq_false h6]; rfl)
      have h6i : 6 < (n : Int) := by omega
      go_enter Tryd.func11, Tryd.ntmps11
      go_wp2_with (go_at_call 19; refine (rin_any _ _ _ _).mono ?_; rw [HX.out]; rintro e w' ⟨rfl, rfl⟩)
      go_ret
      exact ⟨ret_bool9 (by rw [HE2.out]), (Below.refl _ _).alloc (Nat.le_refl _) _⟩
end Go.Proofs.YtljleceepghfjaaDoor
