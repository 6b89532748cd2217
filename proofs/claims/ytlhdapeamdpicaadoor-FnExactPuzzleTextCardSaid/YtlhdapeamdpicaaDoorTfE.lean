/- Chapter 9: the laws' copies of clues and puzzles. -/
import Derived.Test.YtlhdapeamdpicaaDoorTfC
namespace Go.Proofs.YtlhdapeamdpicaaDoor
open Go.ChangeShapes Go.WideShapes Go.ChangeAt Go.RowKit

set_option maxHeartbeats 800000 in
theorem toClue_any (a b c : Int) (w : World) : Calls Tryd.prog 30 #[.agg #[.int .i64 a, .int .i64 b, .int .i64 c]] w fun e w' => e = .returned (.agg #[.int .i64 a, .int .i64 b, .int .i64 c]) ∧ Below w.heap.size w w' := by
  go_enter Tryd.func30, Tryd.ntmps30
  go_wp2
  exact bodyPost_ret (v := .agg #[.int .i64 a, .int .i64 b, .int .i64 c]) (by simp [results, Tryd.results30, go_sem]) rfl ⟨rfl, (((Below.refl _ _).alloc (Nat.le_refl _) _).alloc (by simp) _).alloc (by simp; omega) _⟩
theorem add_next (ad : Addr) (j m : Nat) (h : m ≠ 0) : ad.add (j + m) = ⟨(ad.add j).block, (ad.add j).off + m, none⟩ := by
  unfold Addr.add
  by_cases h0 : j = 0
  · subst h0
    rw [if_neg (by omega), if_pos rfl, Nat.zero_add]
  · rw [if_neg (by omega), if_neg h0, Nat.add_assoc]
set_option maxHeartbeats 1600000 in
theorem toClueS_cap (A : Option Addr) (n c : Nat) (xs : List Clu) (w : World) (hn : xs.length = n) (hm : n ≤ 1048576) (ha : Rd w w.heap.size A (c64 xs)) :
    Calls Tryd.prog 17 #[.slice A n c] w fun e w' => (∃ B, e = .returned (.slice B n n) ∧ Own w' w.heap.size w'.heap.size B (c64 xs)) ∧ Below w.heap.size w w' := by
  obtain ⟨i0, hi0, hz0, hz1, hz2⟩ := info_parts infoClue
  have HA := Lib.hid ha
  have HN := Lib.hid hn
  clear ha hn
  go_enter Tryd.func17, Tryd.ntmps17
  go_wp2_with (at_make; refine wpList_make_full _ rfl _ _ 28 rfl w.heap.size 42 i0 (.agg #[.int .i64 0, .int .i64 0, .int .i64 0]) 3 Tryd.underlying28 hi0 hz0 hz1 _ _ _ _ n rfl rfl rfl rfl (by rw [hz2]; omega) (by unfold maxLen; omega) (Nat.le_refl _) ?_; intro w1 hown1 hgrow1)
  have hb1 : Below w.heap.size w w1 := (Below.refl _ _).grown hgrow1 (Nat.le_refl _) (fun g hg => by cases hg)
  obtain ⟨cs, hcs⟩ : ∃ cs, cs = (madeCells (Value.agg #[.int .i64 0, .int .i64 0, .int .i64 0]).cells (n * 3)).toList := ⟨_, rfl⟩
  have hown2 := own_of_row hown1
  have hcl : cs.length = n * 3 := by
    rw [hcs]
    have := hown1.1
    simpa using this
  rw [← hcs] at hown2
  have HO := Lib.hid hown2
  have HC := Lib.hid hcl
  have hz : w.heap.size < w1.heap.size ∨ n = 0 := by
    by_cases h0 : n = 0
    · exact .inr h0
    · obtain ⟨g, o, e, h1, h2, _⟩ := hown2 (by rw [hcl]; omega)
      exact .inl (by omega)
  clear hcs hown1 hgrow1 hown2 hcl
  go_wp2
  go_loopw [4] (fun i wr => ∃ k : Nat, k ≤ n ∧ i = .int .i64 k ∧ Hid (Own wr w.heap.size w1.heap.size (some ⟨w.heap.size, 0, none⟩) (c64 (xs.take k) ++ cs.drop (k * 3))) ∧ Below w.heap.size w wr ∧ w1.heap.size ≤ wr.heap.size) (fun i _ => n - (intOf i).toNat)
  case atStart => exact ⟨0, Nat.zero_le _, rfl, by rw [show c64 (xs.take 0) ++ cs.drop (0 * 3) = cs by simp [flat9]]; exact HO, hb1, Nat.le_refl _⟩
  case round =>
    obtain ⟨k, hk, rfl, hown, hb, hsz⟩ := hrel
    by_cases hlt : k < n
    · have hlx : k < xs.length := by rw [HN.out]; exact hlt
      obtain ⟨ad, rfl, had, c0, c1, c2⟩ := ((HA.out).below hb (Nat.le_refl _)).clue_ hlx
      have hts := take_succ9 xs k hlx
      obtain ⟨⟨x, y, z⟩, hq⟩ : ∃ q, q = xs.getD k clu0 := ⟨_, rfl⟩
      rw [← hq] at c0 c1 c2 hts
      simp only at c0 c1 c2
      have HT := Lib.hid hts
      clear hq hts
      have hki : (k : Int) < (n : Int) := by omega
      rw [add_next ad _ 1 (by omega)] at c1
      rw [add_next ad _ 2 (by omega)] at c2
      go_wp2_with (go_at_call 30; refine (toClue_any _ _ _ _).mono ?_; rintro e w2 ⟨rfl, hb2⟩; obtain ⟨g, o, u, v, t, hgo, hg1, d0, f0, d1, f1, d2, f2, ho2⟩ := three_step (k := k) (n := n) x y z (hown.out.below hb2 hsz) (by rw [flat9_len, List.length_take]; omega) HC.out hlt; simp only [Option.some.injEq, Addr.mk.injEq] at hgo; obtain ⟨rfl, rfl, _⟩ := hgo; simp only [Nat.zero_add] at d0 f0 d1 f1 d2 f2 ho2; have HO2 := Lib.hid ho2; have HB2 := Lib.hid hb2; clear ho2 hb2)
      go_roundw
      case rel =>
        refine ⟨k + 1, by omega, by go_num, ?_, ?_, ?_⟩
        · have h := HO2.out
          rw [show flat9 (xs.take k) ++ [x, y, z] = flat9 (xs.take (k + 1)) by rw [HT.out, flat9_app]; rfl] at h
          exact Lib.hid h
        · exact (((hb.trans (HB2.out.mono hb.size)).setCell (p := ⟨w.heap.size, k * 3, none⟩) (Nat.le_refl _) _).setCell (p := ⟨w.heap.size, k * 3 + 1, none⟩) (Nat.le_refl _) _).setCell (p := ⟨w.heap.size, k * 3 + 2, none⟩) (Nat.le_refl _) _
        · have := HB2.out.size
          simp
          omega
      case measure => simp [intOf]; omega
    · obtain rfl : k = n := by omega
      have hO := hown.out
      rw [List.take_of_length_le (by rw [HN.out]; exact Nat.le_refl _), List.drop_eq_nil_of_le (by rw [HC.out]; exact Nat.le_refl _), List.append_nil] at hO
      have HO3 := Lib.hid (hO.wide (Nat.le_refl _) hsz)
      clear hO
      go_wp2
      go_ret
      exact ⟨⟨_, rfl, HO3.out⟩, hb⟩
end Go.Proofs.YtlhdapeamdpicaaDoor
