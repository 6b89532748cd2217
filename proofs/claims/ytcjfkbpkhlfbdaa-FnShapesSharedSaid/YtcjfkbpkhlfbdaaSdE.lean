/- Chapter 4: shared numbers up to a greatest one: the specification's side. -/
import Derived.Test.YtcjfkbpkhlfbdaaSdC
namespace Go.Proofs.Ytcjfkbpkhlfbdaa
open Go.ChangeShapes Go.WideShapes Go.ChangeAt Go.RowKit

/-- The numbers of the first m places that the others have, too. -/
noncomputable def shr (a : Int) (bs : List Int) (m : Nat) : List Int := ((List.range m).map fun j : Nat => num a (j : Int)).filter fun n => bs.all fun b => isP b n
theorem shr_yes (a : Int) (bs : List Int) (m : Nat) (h : (bs.all fun b => isP b (num a (m : Int))) = true) : shr a bs (m + 1) = shr a bs m ++ [num a (m : Int)] := by
  simp only [shr, List.range_succ, List.map_append, List.filter_append, List.map_cons, List.map_nil]
  rw [List.filter_cons, if_pos h, List.filter_nil]
theorem shr_no (a : Int) (bs : List Int) (m : Nat) (h : (bs.all fun b => isP b (num a (m : Int))) = false) : shr a bs (m + 1) = shr a bs m := by
  simp only [shr, List.range_succ, List.map_append, List.filter_append, List.map_cons, List.map_nil]
  rw [List.filter_cons, if_neg (by rw [h]; simp), List.filter_nil, List.append_nil]
theorem shr_len (a : Int) (bs : List Int) (m : Nat) : (shr a bs m).length ≤ m := by
  have := List.length_filter_le (fun n => bs.all fun b => isP b n) ((List.range m).map fun j : Nat => num a (j : Int))
  simpa [shr] using this
/-- All of the first i. -/
noncomputable def allP (bs : List Int) (x : Int) (i : Nat) : Bool := (bs.take i).all fun b => isP b x
theorem allP_zero (bs : List Int) (x : Int) : allP bs x 0 = true := by simp [allP]
theorem allP_succ (bs : List Int) (x : Int) (i : Nat) (h : i < bs.length) : allP bs x (i + 1) = (allP bs x i && isP (bs.getD i 0) x) := by
  have e : bs.getD i 0 = bs[i] := by simp [List.getD_eq_getElem?_getD, h]
  simp only [allP, List.take_succ_eq_append_getElem h, List.all_append, List.all_cons, List.all_nil, Bool.and_true, e]
theorem allP_all (bs : List Int) (x : Int) : allP bs x bs.length = bs.all fun b => isP b x := by simp [allP]
theorem _root_.Go.World.ownsRow.drewN' {w : World} {base : Nat} {e : TypeId} {size : Nat} {v : Value} {n : Nat} {xs : List Value} (h : w.ownsRow base e size v n xs) (q : Nat) : (w.drewN q).ownsRow base e size v n xs := h
set_option maxHeartbeats 1600000 in
theorem spec_sdUpTo_any (a : Int) (A : Option Addr) (n c : Nat) (bs : List Int) (most : Int) (w : World) (h1 : 3 ≤ a) (h2 : a ≤ 24) (hn : bs.length = n) (hm : n ≤ 2) (hbs : ∀ i, i < n → 3 ≤ bs.getD i 0 ∧ bs.getD i 0 ≤ 24) (h3 : 0 ≤ most) (h4 : most ≤ 1000000) (ha : Rd w w.heap.size A (i64s bs)) :
    Calls Try.prog 31 #[.int .i64 a, .slice A n c, .int .i64 most] w fun e w' => (∃ B d, e = .returned (.slice B (shr a bs ((pl a most).toNat + 1)).length d) ∧ Own w' w.heap.size w'.heap.size B (i64s (shr a bs ((pl a most).toNat + 1)))) ∧ Below w.heap.size w w' := by
  obtain ⟨i0, hi0, hz0, hz1, hz2⟩ := info_parts infoInt
  have p0 := pl_nn a most h1 h3
  have p1 := pl_le a most h1 h3 (by omega)
  have HA := Lib.hid ha
  have HN := Lib.hid hn
  have HB := Lib.hid hbs
  clear ha hn hbs
  go_enter Try.func31, Try.ntmps31
  go_wp2_with fail
  go_loopw [7, 8] (fun v i wr => ∃ k : Nat, (k : Int) ≤ pl a most + 1 ∧ i = .int .i64 (k : Int) ∧ Hid (wr.ownsRow w.heap.size 3 1 v (shr a bs k).length (i64s (shr a bs k))) ∧ Below w.heap.size w wr) (fun _ i _ => (pl a most + 1 - intOf i).toNat)
  case atStart => exact ⟨0, by omega, by simp, Lib.hid (World.ownsRow_nil _ _ _ _), Below.refl _ _⟩
  case round =>
    obtain ⟨k, hk, rfl, hown, hb⟩ := hrel
    have hf := fits_iff a most (k : Int) h1 h3 (by omega)
    by_cases hlt : (k : Int) ≤ pl a most
    · have hx := hf.2 hlt
      have hx0 := num_nn a (k : Int) h1
      have hlen := shr_len a bs k
      clear hf
      obtain ⟨x, hxe⟩ : ∃ x, x = num a (k : Int) := ⟨_, rfl⟩
      rw [← hxe] at hx hx0
      have HX := Lib.hid hxe
      clear hxe
      go_wp2_with (go_at_call 39; refine (shNumber_any _ _ _ h1 h2 (by omega) (by omega)).mono ?_; rw [← HX.out]; rintro e w' ⟨rfl, rfl⟩)
      go_loopw [10, 25] (fun b i wr2 => ∃ j : Nat, j ≤ n ∧ i = .int .i64 (j : Int) ∧ b = .bool (allP bs x j) ∧ ∃ q, wr2 = wr.drewN q) (fun _ i _ => n - (intOf i).toNat)
      case atStart => exact ⟨0, Nat.zero_le _, rfl, by rw [allP_zero], 0, rfl⟩
      case round =>
        obtain ⟨j, hj, rfl, rfl, q, rfl⟩ := hrel
        by_cases hlj : j < n
        · obtain ⟨ad, rfl, _, hcx⟩ := (HA.out.below hb (Nat.le_refl _)).get (k := j) (by rw [HN.out]; exact hlj)
          obtain ⟨g1, g2⟩ := HB.out j hlj
          have hs := allP_succ bs x j (by rw [HN.out]; exact hlj)
          obtain ⟨b, hbe⟩ : ∃ b, b = bs.getD j 0 := ⟨_, rfl⟩
          rw [← hbe] at hcx g1 g2 hs
          have hji : (j : Int) < (n : Int) := by omega
          have HS := Lib.hid hs
          clear hs hbe
          obtain ⟨y, hy⟩ : ∃ y, allP bs x j = y := ⟨_, rfl⟩
          rw [hy] at HS
          rw [hy]
          have HY := Lib.hid hy
          clear hy
          cases y with
          | false =>
            go_wp2
            go_roundw
            case rel => exact ⟨j + 1, by omega, by go_num, by rw [HS.out]; rfl, q, rfl⟩
            case measure => simp [intOf]; omega
          | true =>
            go_wp2_with (go_at_call 40; refine (sdIs_P _ _ _ g1 g2 hx0 (by omega)).mono ?_; rintro e w' ⟨rfl, rfl⟩)
            go_roundw
            case rel => exact ⟨j + 1, by omega, by go_num, by rw [HS.out]; rfl, q, rfl⟩
            case measure => simp [intOf]; omega
        · obtain rfl : j = n := by omega
          have hall := allP_all bs x
          rw [HN.out] at hall
          obtain ⟨y, hy⟩ : ∃ y, allP bs x j = y := ⟨_, rfl⟩
          rw [hy] at hall ⊢
          rw [HX.out] at hall
          have HS := Lib.hid hall
          clear hall hy
          cases y with
          | false =>
            have HE := Lib.hid (shr_no a bs k HS.out.symm)
            go_wp2
            go_roundw
            case rel => exact ⟨k + 1, by omega, by go_num, by rw [HE.out]; exact hown, hb.trans (below_drewN (Below.refl _ _) _)⟩
            case measure => simp [intOf]; omega
          | true =>
            have HE := Lib.hid (shr_yes a bs k HS.out.symm)
            have ho4 := Lib.hid (hown.out.drewN' q)
            have hb24 : Below w.heap.size w (wr.drewN q) := below_drewN hb q
            generalize wr.drewN q = w4 at *
            clear hb hown
            go_wp2_with (at_builtin; refine wpList_append_own _ rfl _ _ 26 rfl w.heap.size 3 i0 (.int .i64 0) 1 8 Try.underlying26 hi0 hz0 hz1 hz2 rfl (by decide) _ _ _ rfl (ho4.out.alloc _) ⟨w4.heap.size, 0, none⟩ 1 1 [.int .i64 x] rfl rfl ?c1 ?c2 ?c3 ?c4 ?c5 ?_)
            case c1 =>
              intro j u hj
              match j, hj with
              | 0, hj => simp at hj; subst hj; simp [Addr.add]
            case c2 => intro u hu; simp at hu; subst hu; rfl
            case c3 => unfold maxLen; omega
            case c4 => omega
            case c5 => have := hb24.size; simp; omega
            · intro v' w5 hown' hgrow _
              have e5 : i64s (shr a bs k) ++ [Value.int .i64 x] = i64s (shr a bs (k + 1)) := by rw [HE.out, ← HX.out]; simp
              have e6 : (shr a bs k).length + 1 = (shr a bs (k + 1)).length := by rw [HE.out]; simp
              rw [e5, e6] at hown'
              have hb5 : Below w.heap.size w w5 := (hb24.alloc hb24.size _).grown hgrow (by have := hb24.size; simp; omega) fun g hg => (ho4.out.lt g hg).1
              have HO := Lib.hid hown'
              clear hown' hgrow hb24 ho4 e5 e6
              go_wp2
              go_roundw
              case rel => exact ⟨k + 1, by omega, by go_num, HO, hb5⟩
              case measure => simp [intOf]; omega
    · have hke : (pl a most).toNat + 1 = k := by omega
      have hx : most < num a (k : Int) := by
        rcases Int.lt_or_le most (num a (k : Int)) with h | h
        · exact h
        · exact absurd (hf.1 h) hlt
      have HK := Lib.hid hke
      clear hf hke
      obtain ⟨B, d, rfl⟩ := row_form hown.out
      go_wp2_with (go_at_call 39; refine (shNumber_any _ _ _ h1 h2 (by omega) (by omega)).mono ?_; rintro e w' ⟨rfl, rfl⟩)
      go_ret
      rw [HK.out]
      exact ⟨⟨B, d, rfl, own_of_row hown.out⟩, hb⟩
end Go.Proofs.Ytcjfkbpkhlfbdaa
