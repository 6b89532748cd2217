/- Chapter 4: the law SharedByThree. -/
import Derived.Test.YtcjfkbpkhlfbdaaSdT
namespace Go.Proofs.Ytcjfkbpkhlfbdaa
open Go.ChangeShapes Go.WideShapes Go.ChangeAt Go.RowKit

theorem shr_mem (a m : Int) (bs : List Int) (ha : 3 ≤ a) (hm : 0 ≤ m) (k : Nat) (hk : k < (shr a bs ((pl a m).toNat + 1)).length) : 0 ≤ (shr a bs ((pl a m).toNat + 1)).getD k 0 ∧ (shr a bs ((pl a m).toNat + 1)).getD k 0 ≤ m := by
  have hx : (shr a bs ((pl a m).toNat + 1))[k] ∈ shr a bs ((pl a m).toNat + 1) := List.getElem_mem hk
  have e : (shr a bs ((pl a m).toNat + 1)).getD k 0 = (shr a bs ((pl a m).toNat + 1))[k] := by simp [List.getD_eq_getElem?_getD, hk]
  rw [e]
  generalize (shr a bs ((pl a m).toNat + 1))[k] = x at *
  simp only [shr, List.mem_filter, List.mem_map, List.mem_range] at hx
  obtain ⟨⟨j, hj, rfl⟩, _⟩ := hx
  have p0 := pl_nn a m ha hm
  exact ⟨num_nn a j ha, (fits_iff a m j ha hm (by omega)).2 (by omega)⟩
/-- Those of the first k that a third one has, too. -/
noncomputable def thr (xs : List Int) (c : Int) (k : Nat) : List Int := (xs.take k).filter fun n => isP c n
theorem thr_yes (xs : List Int) (c : Int) (k : Nat) (hk : k < xs.length) (h : isP c (xs.getD k 0) = true) : thr xs c (k + 1) = thr xs c k ++ [xs.getD k 0] := by
  have e : xs.getD k 0 = xs[k] := by simp [List.getD_eq_getElem?_getD, hk]
  rw [e] at h ⊢
  simp only [thr, List.take_succ_eq_append_getElem hk, List.filter_append]
  rw [List.filter_cons, if_pos h, List.filter_nil]
theorem thr_no (xs : List Int) (c : Int) (k : Nat) (hk : k < xs.length) (h : isP c (xs.getD k 0) = false) : thr xs c (k + 1) = thr xs c k := by
  have e : xs.getD k 0 = xs[k] := by simp [List.getD_eq_getElem?_getD, hk]
  rw [e] at h
  simp only [thr, List.take_succ_eq_append_getElem hk, List.filter_append]
  rw [List.filter_cons, if_neg (by rw [h]; simp), List.filter_nil, List.append_nil]
theorem thr_len (xs : List Int) (c : Int) (k : Nat) : (thr xs c k).length ≤ k := by
  have := List.length_filter_le (fun n => isP c n) (xs.take k)
  have := List.length_take_le k xs
  simp only [thr]
  omega
theorem impl_SharedByThree_no (a b c m : Int) (w : World) (h : two a c = false ∨ two b c = false) :
    Calls Try.prog 20 #[.int .i64 a, .int .i64 b, .int .i64 c, .int .i64 m] w (ResI false [] w) := by
  cases h1 : two a c with
  | false =>
    have H := Lib.hid h1
    clear h h1
    go_enter Try.func20, Try.ntmps20
    go_wp2_with (go_at_call 26; refine (diff_any _ _ _).mono ?_; rw [H.out]; rintro e w' ⟨rfl, rfl⟩)
    go_ret2
    exact resI_nil (Below.refl _ _)
  | true =>
    have H := Lib.hid h1
    have H2 : Hid (two b c = false) := Lib.hid (by rcases h with h | h; (rw [h1] at h; cases h); exact h)
    clear h h1
    go_enter Try.func20, Try.ntmps20
    go_wp2_with (go_at_call 26; refine (diff_any _ _ _).mono ?_; (first | rw [H.out] | rw [H2.out]); rintro e w' ⟨rfl, rfl⟩)
    go_ret2
    exact resI_nil (Below.refl _ _)
theorem impl_SharedByThree_none (a b c m : Int) (w : World) (h1 : two a c = true) (h2 : two b c = true) (h : ((a < 3 ∨ 24 < a) ∨ (b < 3 ∨ 24 < b) ∨ a = b) ∨ (m < 0 ∨ 1000000 < m)) :
    Calls Try.prog 20 #[.int .i64 a, .int .i64 b, .int .i64 c, .int .i64 m] w (ResI false [] w) := by
  have H := Lib.hid h1
  have H2 := Lib.hid h2
  have HU := Lib.hid fun w => impl_SharedUpTo_no a b m w h
  clear h h1 h2
  go_enter Try.func20, Try.ntmps20
  go_wp2_with (first
    | (go_at_call 26; refine (diff_any _ _ _).mono ?_; (first | rw [H.out] | rw [H2.out]); rintro e w' ⟨rfl, rfl⟩)
    | (go_at_call 6; refine (HU.out _).mono ?_; rintro e w1 ⟨A, d, rfl, o1, hb1⟩))
  have HB := Lib.hid hb1
  clear o1 hb1
  go_loopw [12, 36] (fun v i wr => v = .slice none 0 0 ∧ i = .int .i64 0 ∧ wr = w1) (fun _ _ _ => 0)
  case atStart => exact ⟨rfl, rfl, rfl⟩
  case round =>
    obtain ⟨rfl, rfl, rfl⟩ := hrel
    go_wp2
    go_ret2
    exact resI_nil HB.out
set_option maxHeartbeats 3200000 in
theorem impl_SharedByThree_yes (a b c m : Int) (w : World) (h1 : 3 ≤ a) (h2 : a ≤ 24) (g1 : 3 ≤ b) (g2 : b ≤ 24) (k1 : 3 ≤ c) (k2 : c ≤ 24) (hne : a ≠ b) (hn2 : b ≠ c) (hn3 : a ≠ c) (h3 : 0 ≤ m) (h4 : m ≤ 1000000) :
    Calls Try.prog 20 #[.int .i64 a, .int .i64 b, .int .i64 c, .int .i64 m] w (ResI true (shr a [b, c] ((pl a m).toNat + 1)) w) := by
  obtain ⟨i0, hi0, hz0, hz1, hz2⟩ := info_parts infoInt
  have H := Lib.hid (two_yes a c (by omega))
  have H2 := Lib.hid (two_yes b c (by omega))
  have HU := Lib.hid fun w => impl_SharedUpTo_yes a b m w h1 h2 g1 g2 hne h3 h4
  obtain ⟨xs, hxs⟩ : ∃ xs, xs = shr a [b] ((pl a m).toNat + 1) := ⟨_, rfl⟩
  have hmem : ∀ k, k < xs.length → 0 ≤ xs.getD k 0 ∧ xs.getD k 0 ≤ m := by rw [hxs]; exact shr_mem a m [b] h1 h3
  have hlen : xs.length ≤ 2000000 := by
    have := shr_len a [b] ((pl a m).toNat + 1)
    have := pl_le a m h1 h3 (by omega)
    rw [hxs]
    omega
  have hend : thr xs c xs.length = shr a [b, c] ((pl a m).toNat + 1) := by rw [thr, List.take_length, shr_three, hxs]
  rw [← hend]
  rw [← hxs] at HU
  have HM := Lib.hid hmem
  obtain ⟨n, hn⟩ : ∃ n, n = xs.length := ⟨_, rfl⟩
  have HN := Lib.hid hn.symm
  rw [← hn] at hlen
  clear hne hn2 hn3 hxs hmem hn hend
  go_enter Try.func20, Try.ntmps20
  go_wp2_with (first
    | (go_at_call 26; refine (diff_any _ _ _).mono ?_; (first | rw [H.out] | rw [H2.out]); rintro e w' ⟨rfl, rfl⟩)
    | (go_at_call 6; refine (HU.out _).mono ?_; rintro e w1 ⟨A, d, rfl, o1, hb1⟩; rw [HN.out]))
  have HA := Lib.hid o1
  have HB1 := Lib.hid hb1
  clear o1 hb1
  go_loopw [12, 36] (fun v i wr => ∃ k : Nat, k ≤ n ∧ i = .int .i64 k ∧ Hid (wr.ownsRow w1.heap.size 3 1 v (thr xs c k).length (i64s (thr xs c k))) ∧ Hid (Below w1.heap.size w1 wr)) (fun _ i _ => n - (intOf i).toNat)
  case atStart => exact ⟨0, Nat.zero_le _, rfl, Lib.hid (World.ownsRow_nil _ _ _ _), Lib.hid (Below.refl _ _)⟩
  case round =>
    obtain ⟨k, hk, rfl, hown, hb⟩ := hrel
    by_cases hlt : k < n
    · have hki : (k : Int) < (n : Int) := by omega
      obtain ⟨ad, rfl, _, hcx⟩ := (HA.out.below hb.out (Nat.le_refl _)).rd.get (k := k) (by rw [HN.out]; exact hlt)
      obtain ⟨x1, x2⟩ := HM.out k (by rw [HN.out]; exact hlt)
      have hty := thr_yes xs c k (by rw [HN.out]; exact hlt)
      have htn := thr_no xs c k (by rw [HN.out]; exact hlt)
      have htl := thr_len xs c k
      generalize xs.getD k 0 = x at *
      cases hp : isP c x with
      | false =>
        have HE := Lib.hid (htn hp)
        have HP := Lib.hid hp
        clear hty htn hp htl
        go_wp2_with (first
          | (go_at_call 34; refine (polygonRule_any _ _ k1 k2).mono ?_; rintro e w2 ⟨rfl, hb2⟩)
          | (go_at_call 42; refine (placeP c x _ k1 k2 x1 (by omega)).mono ?_; rw [HP.out]; rintro e w3 ⟨⟨q, _, rfl⟩, hb3⟩))
        have hb23 : Below wr.heap.size wr w3 := hb2.trans (hb3.mono hb2.size)
        have HO : Hid (w3.ownsRow w1.heap.size 3 1 u12 (thr xs c (k + 1)).length (i64s (thr xs c (k + 1)))) := Lib.hid (by rw [HE.out]; exact row_below hown.out hb23 (Nat.le_refl _))
        have HB3 := Lib.hid (hb.out.trans (hb23.mono hb.out.size))
        clear hb2 hb3 hb23
        go_roundw
        case rel => exact ⟨k + 1, by omega, by go_num, HO, HB3⟩
        case measure => simp [intOf]; omega
      | true =>
        have HE := Lib.hid (hty hp)
        have HP := Lib.hid hp
        have hlb : (thr xs c k).length ≤ 2000000 := by omega
        clear hty htn hp htl
        go_wp2_with (first
          | (go_at_call 34; refine (polygonRule_any _ _ k1 k2).mono ?_; rintro e w2 ⟨rfl, hb2⟩)
          | (go_at_call 42; refine (placeP c x _ k1 k2 x1 (by omega)).mono ?_; rw [HP.out]; rintro e w3 ⟨⟨q, _, rfl⟩, hb3⟩; have hb23 := Lib.hid (hb2.trans (hb3.mono hb2.size)); have HO3 := Lib.hid (row_below hown.out hb23.out (Nat.le_refl _)); have HB3 := Lib.hid (hb.out.trans (hb23.out.mono hb.out.size)); clear hb2 hb3)
          | (at_builtin; refine wpList_append_own _ rfl _ _ 26 rfl w1.heap.size 3 i0 (.int .i64 0) 1 8 Try.underlying26 hi0 hz0 hz1 hz2 rfl (by decide) _ _ _ rfl (HO3.out.alloc _) ⟨w3.heap.size, 0, none⟩ 1 1 [.int .i64 x] rfl rfl ?c1 ?c2 ?c3 ?c4 ?c5 ?_))
        case c1 =>
          intro j u hj
          match j, hj with
          | 0, hj => simp at hj; subst hj; simp [Addr.add]
        case c2 => intro u hu; simp at hu; subst hu; rfl
        case c3 => unfold maxLen; omega
        case c4 => omega
        case c5 => have := HB3.out.size; simp; omega
        · intro v' w5 hown' hgrow _
          have e5 : i64s (thr xs c k) ++ [Value.int .i64 x] = i64s (thr xs c (k + 1)) := by rw [HE.out]; simp
          have e6 : (thr xs c k).length + 1 = (thr xs c (k + 1)).length := by rw [HE.out]; simp
          rw [e5, e6] at hown'
          have hb5 : Below w1.heap.size w1 w5 := (HB3.out.alloc HB3.out.size _).grown hgrow (by have := HB3.out.size; simp; omega) fun g hg => (HO3.out.lt g hg).1
          have HO := Lib.hid hown'
          have HB5 := Lib.hid hb5
          clear hown' hgrow hb5 e5 e6
          go_wp2
          go_roundw
          case rel => exact ⟨k + 1, by omega, by go_num, HO, HB5⟩
          case measure => simp [intOf]; omega
    · obtain rfl : k = n := by omega
      obtain ⟨B, e, rfl⟩ := row_form hown.out
      go_wp2
      go_ret2
      rw [HN.out]
      exact ⟨B, e, rfl, (own_of_row hown.out).wide HB1.out.size (Nat.le_refl _), HB1.out.trans (hb.out.mono HB1.out.size)⟩
end Go.Proofs.Ytcjfkbpkhlfbdaa
