/- Chapter 4: shared numbers: the laws NextShared, SharedUpTo. -/
import Derived.Test.YtcjfkbpkhlfbdaaSdR
namespace Go.Proofs.Ytcjfkbpkhlfbdaa
open Go.ChangeShapes Go.WideShapes Go.ChangeAt Go.RowKit

theorem pl_zero (s : Int) (hs : 3 ≤ s) : pl s 0 = 0 := by
  have h0 := pl_nn s 0 hs (by omega)
  have h1 := (fits_iff s 0 1 hs (by omega) (by omega)).2
  rw [num_one] at h1
  omega
theorem impl_NextShared_no (a b m : Int) (w : World) (h : ((a < 3 ∨ 24 < a) ∨ (b < 3 ∨ 24 < b) ∨ a = b) ∨ (m < 0 ∨ 1000000000 < m)) :
    Calls Try.prog 13 #[.int .i64 a, .int .i64 b, .int .i64 m] w fun e w' => e = .returned (.tuple #[.int .i64 0, .bool false]) ∧ Below w.heap.size w w' := by
  by_cases hs : (a < 3 ∨ 24 < a) ∨ (b < 3 ∨ 24 < b) ∨ a = b
  · have HT := Lib.hid (two_no a b hs)
    clear h hs
    go_enter Try.func13, Try.ntmps13
    go_wp2_with (go_at_call 26; refine (diff_any _ _ _).mono ?_; rw [HT.out]; rintro e w' ⟨rfl, rfl⟩)
    go_ret2
    exact ⟨rfl, Below.refl _ _⟩
  · have HT := Lib.hid (two_yes a b hs)
    have H := Lib.hid (h.resolve_left hs)
    clear h hs
    go_enter Try.func13, Try.ntmps13
    go_wp2_with (first
      | (go_at_call 26; refine (diff_any _ _ _).mono ?_; rw [HT.out]; rintro e w' ⟨rfl, rfl⟩)
      | (go_at_call 27; refine (within_no _ _ _ _ H.out).mono ?_; rintro e w' ⟨rfl, rfl⟩))
    go_ret2
    exact ⟨rfl, Below.refl _ _⟩
theorem impl_SharedUpTo_no (a b m : Int) (w : World) (h : ((a < 3 ∨ 24 < a) ∨ (b < 3 ∨ 24 < b) ∨ a = b) ∨ (m < 0 ∨ 1000000 < m)) :
    Calls Try.prog 6 #[.int .i64 a, .int .i64 b, .int .i64 m] w (ResI false [] w) := by
  by_cases hs : (a < 3 ∨ 24 < a) ∨ (b < 3 ∨ 24 < b) ∨ a = b
  · have HT := Lib.hid (two_no a b hs)
    clear h hs
    go_enter Try.func6, Try.ntmps6
    go_wp2_with (go_at_call 26; refine (diff_any _ _ _).mono ?_; rw [HT.out]; rintro e w' ⟨rfl, rfl⟩)
    go_ret2
    exact resI_nil (Below.refl _ _)
  · have HT := Lib.hid (two_yes a b hs)
    have H := Lib.hid (h.resolve_left hs)
    clear h hs
    go_enter Try.func6, Try.ntmps6
    go_wp2_with (first
      | (go_at_call 26; refine (diff_any _ _ _).mono ?_; rw [HT.out]; rintro e w' ⟨rfl, rfl⟩)
      | (go_at_call 27; refine (within_no _ _ _ _ H.out).mono ?_; rintro e w' ⟨rfl, rfl⟩))
    go_ret2
    exact resI_nil (Below.refl _ _)
theorem impl_NextShared_yes (a b n r : Int) (ok : Bool) (w : World) (h1 : 3 ≤ a) (h2 : a ≤ 24) (g1 : 3 ≤ b) (g2 : b ≤ 24) (hne : a ≠ b) (h3 : 0 ≤ n) (h4 : n ≤ 1000000000) (hx : Nxt 1000000000 a b n r ok) :
    Calls Try.prog 13 #[.int .i64 a, .int .i64 b, .int .i64 n] w fun e w' => e = .returned (.tuple #[.int .i64 r, .bool ok]) ∧ Below w.heap.size w w' := by
  have HT := Lib.hid (two_yes a b (by omega))
  have HS := Lib.hid fun w => sharedAfter_any a b n 1000000000 r ok w h1 h2 g1 g2 h3 h4 (by omega) hne hx
  clear hx hne
  go_enter Try.func13, Try.ntmps13
  go_wp2_with (first
    | (go_at_call 26; refine (diff_any _ _ _).mono ?_; rw [HT.out]; rintro e w' ⟨rfl, rfl⟩)
    | (go_at_call 27; refine (within_yes _ _ _ _ h3 h4).mono ?_; rintro e w' ⟨rfl, rfl⟩)
    | (go_at_call 28; refine (HS.out _).mono ?_; rintro e w1 ⟨rfl, hb1⟩))
  go_ret2
  exact ⟨rfl, hb1⟩
theorem spec_NextShared_any (a b n r : Int) (ok : Bool) (w : World) (h1 : 3 ≤ a) (h2 : a ≤ 24) (g1 : 3 ≤ b) (g2 : b ≤ 24) (hne : a ≠ b) (h3 : 0 ≤ n) (h4 : n ≤ 1000000000) (hx : Nxt 1000000000 a b n r ok) :
    Calls Try.prog 15 #[.int .i64 a, .int .i64 b, .int .i64 n] w fun e w' => e = .returned (.tuple #[.int .i64 r, .bool ok]) ∧ Below w.heap.size w w' := by
  rcases hx with ⟨rfl, h⟩ | ⟨rfl, rfl, h⟩
  · exact spec_NextShared_found a b n r w h1 h2 g1 g2 hne h3 h4 h
  · exact spec_NextShared_none a b n w h1 h2 g1 g2 hne h3 h4 h
/-- How far the list of shared numbers still is from its end. -/
def msN (top : Int) (n fo : Value) : Nat := match fo with | .bool true => (top + 1 - intOf n).toNat | _ => 0
set_option maxHeartbeats 3200000 in
theorem impl_SharedUpTo_yes (a b m : Int) (w : World) (h1 : 3 ≤ a) (h2 : a ≤ 24) (g1 : 3 ≤ b) (g2 : b ≤ 24) (hne : a ≠ b) (h3 : 0 ≤ m) (h4 : m ≤ 1000000) :
    Calls Try.prog 6 #[.int .i64 a, .int .i64 b, .int .i64 m] w (ResI true (shr a [b] ((pl a m).toNat + 1)) w) := by
  obtain ⟨i0, hi0, hz0, hz1, hz2⟩ := info_parts infoInt
  have HT := Lib.hid (two_yes a b (by omega))
  have HS := Lib.hid fun n r ok w (hn : 0 ≤ n) (hnm : n ≤ m) (hx : Nxt m a b n r ok) => sharedAfter_any a b n m r ok w h1 h2 g1 g2 hn hnm (by omega) hne hx
  have p1 := pl_le a m h1 (by omega) (by omega)
  have p0 := pl_nn a m h1 (by omega)
  obtain ⟨r0, ok0, hx0⟩ := nxt_ex m a b 0
  have HX0 := Lib.hid hx0
  have HS1 : Hid (shr a [b] ((pl a 0).toNat + 1) = [0]) := Lib.hid (by rw [pl_zero a h1]; exact shr_one a b g1)
  clear hne hx0
  go_enter Try.func6, Try.ntmps6
  go_wp2_with (first
    | (go_at_call 26; refine (diff_any _ _ _).mono ?_; rw [HT.out]; rintro e w' ⟨rfl, rfl⟩)
    | (go_at_call 27; refine (within_yes _ _ _ _ h3 h4).mono ?_; rintro e w' ⟨rfl, rfl⟩)
    | (go_at_call 28; refine (HS.out 0 r0 ok0 _ (by omega) h3 HX0.out).mono ?_; rintro e w1 ⟨rfl, hb1⟩))
  have hb01 : Below w.heap.size w w1 := ((Below.refl _ _).alloc (Nat.le_refl _) _).trans (hb1.mono (by simp))
  have hrow := row_below (World.ownsRow_lit w (base := w.heap.size) (e := 3) (size := 1) #[.int .i64 0] 1 (Nat.le_refl _) (by unfold maxLen; omega) rfl) hb1 (Nat.le_refl _)
  have HR1 : Hid (w1.ownsRow w.heap.size 3 1 (.slice (some ⟨w.heap.size, 0, none⟩) 1 1) (shr a [b] ((pl a 0).toNat + 1)).length (i64s (shr a [b] ((pl a 0).toNat + 1)))) := Lib.hid (by rw [HS1.out]; exact hrow)
  clear hrow hb1
  go_loopw [8, 9, 10] (fun v nn fo wr => ∃ (n r : Int) (ok : Bool), nn = .int .i64 r ∧ fo = .bool ok ∧ Hid (0 ≤ n ∧ n ≤ m ∧ num a (pl a n) = n ∧ pl a n ≤ pl a m) ∧ Hid (Nxt m a b n r ok) ∧ Hid (wr.ownsRow w.heap.size 3 1 v (shr a [b] ((pl a n).toNat + 1)).length (i64s (shr a [b] ((pl a n).toNat + 1)))) ∧ Hid (Below w.heap.size w wr)) (fun _ nn fo _ => msN m nn fo)
  case atStart => exact ⟨0, r0, ok0, rfl, rfl, Lib.hid ⟨by omega, h3, by rw [pl_zero a h1, num_zero], by rw [pl_zero a h1]; exact p0⟩, HX0, HR1, Lib.hid hb01⟩
  case round =>
    obtain ⟨n, r, ok, rfl, rfl, HN, HX, hown, hb⟩ := hrel
    cases ok with
    | true =>
      obtain ⟨n1, n2, n3, n4⟩ := HN.out
      have hx : NextIs m a b n r := by
        rcases HX.out with ⟨_, h⟩ | ⟨h, _⟩
        · exact h
        · cases h
      obtain ⟨s1, s2, s3⟩ := shr_next h1 n1 n3 hx
      have n5 := pl_le_pl a r m h1 (by have := hx.1; omega) hx.2.1
      have r1 : 0 ≤ r := by have := hx.1; omega
      have r2 : r ≤ m := hx.2.1
      have hlen := shr_len a [b] ((pl a n).toNat + 1)
      have hlb : (shr a [b] ((pl a n).toNat + 1)).length ≤ 2000000 := by omega
      have HN2 : Hid (0 ≤ r ∧ r ≤ m ∧ num a (pl a r) = r ∧ pl a r ≤ pl a m) := Lib.hid ⟨r1, r2, s2, n5⟩
      have HE : Hid (i64s (shr a [b] ((pl a n).toNat + 1)) ++ [Value.int .i64 r] = i64s (shr a [b] ((pl a r).toNat + 1)) ∧ (shr a [b] ((pl a n).toNat + 1)).length + 1 = (shr a [b] ((pl a r).toNat + 1)).length) := Lib.hid (by rw [s1]; simp)
      obtain ⟨r', ok', hx'⟩ := nxt_ex m a b r
      have HX' := Lib.hid hx'
      have hms : ok' = true → r < r' := fun h => by
        rcases hx' with ⟨_, h'⟩ | ⟨h', _⟩
        · exact h'.1
        · rw [h] at h'; cases h'
      have HMS := Lib.hid hms
      clear hx s1 s2 s3 n1 n2 n3 n4 n5 hlen hx' hms
      go_wp2_with (at_builtin; refine wpList_append_own _ rfl _ _ 26 rfl w.heap.size 3 i0 (.int .i64 0) 1 8 Try.underlying26 hi0 hz0 hz1 hz2 rfl (by decide) _ _ _ rfl (hown.out.alloc _) ⟨wr.heap.size, 0, none⟩ 1 1 [.int .i64 r] rfl rfl ?c1 ?c2 ?c3 ?c4 ?c5 ?_)
      case c1 =>
        intro j u hj
        match j, hj with
        | 0, hj => simp at hj; subst hj; simp [Addr.add]
      case c2 => intro u hu; simp at hu; subst hu; rfl
      case c3 => unfold maxLen; omega
      case c4 => omega
      case c5 => have := hb.out.size; simp; omega
      · intro v' w5 hown' hgrow _
        rw [HE.out.1, HE.out.2] at hown'
        have hb5 : Below w.heap.size w w5 := (hb.out.alloc hb.out.size _).grown hgrow (by have := hb.out.size; simp; omega) fun g hg => (hown.out.lt g hg).1
        have HO := Lib.hid hown'
        have HB5 := Lib.hid hb5
        clear hown' hgrow hb hown hb5
        go_wp2_with (go_at_call 28; refine (HS.out r r' ok' _ r1 r2 HX'.out).mono ?_; rintro e w6 ⟨rfl, hb6⟩)
        have HO6 := Lib.hid (row_below HO.out hb6 (Nat.le_refl _))
        have HB6 := Lib.hid (HB5.out.trans (hb6.mono HB5.out.size))
        clear hb6
        go_roundw
        case rel => exact ⟨r, r', ok', rfl, rfl, HN2, HX', HO6, HB6⟩
        case measure =>
          cases ok' with
          | false => simp [msN, intOf]; omega
          | true => have := HMS.out rfl; simp [msN, intOf]; omega
    | false =>
      obtain ⟨n1, n2, n3, n4⟩ := HN.out
      have hx : NoNext m a b n := by
        rcases HX.out with ⟨h, _⟩ | ⟨_, _, h⟩
        · cases h
        · exact h
      have HE := Lib.hid (shr_last h1 n1 n2 n3 hx)
      clear hx n1 n2 n3 n4
      obtain ⟨B, d, rfl⟩ := row_form hown.out
      go_wp2
      go_ret2
      rw [HE.out]
      exact ⟨B, d, rfl, own_of_row hown.out, hb.out⟩
end Go.Proofs.Ytcjfkbpkhlfbdaa
