/- Chapter 5: the specification's list of runs; the laws RunsOf, CountRuns. -/
import Derived.Test.YtcfpdlkkniilpaaGreatDoorRuD
namespace Go.Proofs.YtcfpdlkkniilpaaGreatDoor
open Go.ChangeShapes Go.WideShapes Go.ChangeAt Go.RowKit

set_option maxHeartbeats 3200000 in
theorem ruAll_false (n : Int) (w : World) (h0 : 1 ≤ n) (h1 : n ≤ 1000000) :
    Calls Tryz.prog 35 #[.int .i64 n, .bool false] w fun e w' => ∃ A c, e = .returned (.slice A (sel (fS n false) (2 * n).toNat).length c) ∧ Own w' w.heap.size w'.heap.size A (prs (sel (fS n false) (2 * n).toNat)) ∧ Below w.heap.size w w' := by
  obtain ⟨i0, hi0, hz0, hz1, hz2⟩ := info_parts infoRun
  obtain ⟨L, hL⟩ : ∃ L : Nat, L = (2 * n).toNat := ⟨_, rfl⟩
  have hL2 : (L : Int) = 2 * n := by omega
  have HL := Lib.hid hL
  have HL2 := Lib.hid hL2
  have hL3 : L ≤ 2000000 := by omega
  clear hL hL2
  go_enter Tryz.func35, Tryz.ntmps35
  go_wp2
  go_loopw [5, 6, 7] (fun v i _ wr => ∃ k m : Nat, k ≤ L ∧ i = .int .i64 ((k : Int) + 1) ∧ Hid (m = (sel (fS n false) k).length) ∧ m ≤ k ∧ Hid (wr.ownsRow w.heap.size 31 2 v m (prs (sel (fS n false) k))) ∧ Below w.heap.size w wr) (fun _ i _ _ => (L + 1 - intOf i).toNat)
  case atStart => exact ⟨0, 0, by omega, by simp, Lib.hid (by simp [sel_zero]), by omega, Lib.hid (by rw [sel_zero]; exact World.ownsRow_nil _ _ _ _), Below.refl _ _⟩
  case round =>
    obtain ⟨k, m, hk, rfl, HM, hmk, hown, hb⟩ := hrel
    obtain ⟨d, hd⟩ : ∃ d : Int, d = (k : Int) + 1 := ⟨_, rfl⟩
    have HD := Lib.hid hd
    rw [← hd]
    have hL2 := HL2.out
    by_cases hlt : k < L
    · have d1 : 1 ≤ d := by omega
      have d2 : d ≤ 2 * n := by omega
      have hq0 : 0 ≤ 2 * n / d := Int.ediv_nonneg (by omega) (by omega)
      have hq1 : 2 * n / d ≤ 2 * n := Int.ediv_le_self _ (by omega)
      clear hL2
      by_cases hc : 2 * n % d = 0
      · by_cases hp : (2 * n / d - d + 1) % 2 = 0
        · obtain ⟨f, hf⟩ : ∃ f, f = (2 * n / d - d + 1) / 2 := ⟨_, rfl⟩
          have q1 : (2 * n / d - d + 1).tmod 2 = 0 := (tmod2 _).2 hp
          have q2 : (2 * n / d - d + 1).tdiv 2 = f := by rw [tdiv2 _ hp, hf]
          have f1 : -3000000 ≤ f := by omega
          have f2 : f ≤ 3000000 := by omega
          have q3 : IntKind.i64.wrap ((2 * n / d - d + 1).tdiv 2) = f := by rw [q2]; exact IntWalk.i64_in _ (by omega)
          have q4 : ((2 * n / d - d + 1).tmod 2 != 0) = false := by simp [q1]
          by_cases hg : 1 ≤ f
          · have HS := Lib.hid (sel_some (fS n false) k (x := (f, d)) (by rw [← hd, fS, if_pos ⟨hc, hp, Or.inr (by omega)⟩, hf]))
            clear hd hp hf q1 q2
            go_wp2_with (at_builtin; refine wpList_append_own _ rfl _ _ 25 rfl w.heap.size 31 i0 (.agg #[.int .i64 0, .int .i64 0]) 2 16 Tryz.underlying25 hi0 hz0 hz1 hz2 rfl (by decide) _ _ _ rfl (hown.out.alloc _) ⟨wr.heap.size, 0, none⟩ 1 1 [.int .i64 f, .int .i64 d] rfl rfl ?c1 ?c2 ?c3 ?c4 ?c5 ?_)
            case c1 =>
              intro k u hk
              match k, hk with
              | 0, hk => simp at hk; subst hk; simp [Addr.add]
              | 1, hk => simp at hk; subst hk; simp [Addr.add]
            case c2 => intro u hu; simp at hu; rcases hu with rfl | rfl <;> rfl
            case c3 => unfold maxLen; omega
            case c4 => omega
            case c5 => have := hb.size; simp; omega
            · intro v' w1 hown' hgrow _
              rw [prs_app, ← HS.out] at hown'
              have hb1 : Below w.heap.size w w1 := (hb.alloc hb.size _).grown hgrow (by have := hb.size; simp; omega) fun g hg => (hown.out.lt g hg).1
              have HO := Lib.hid hown'
              have HM2 : Hid (m + 1 = (sel (fS n false) (k + 1)).length) := Lib.hid (by rw [HS.out, HM.out]; simp)
              clear hown' hown hgrow hb HS
              go_wp2
              go_roundw
              case rel => exact ⟨k + 1, m + 1, by omega, by rw [HD.out]; go_num, HM2, by omega, HO, hb1⟩
              case measure => have := HD.out; simp [intOf]; omega
          · have hs := sel_none (fS n false) k (by rw [← hd, fS, if_neg (by rintro ⟨_, _, h | h⟩; cases h; omega)])
            have hgb : decide (1 ≤ f) = false := by simp; omega
            have HM2 : Hid (m = (sel (fS n false) (k + 1)).length) := Lib.hid (by rw [hs]; exact HM.out)
            have HO : Hid (wr.ownsRow w.heap.size 31 2 u5 m (prs (sel (fS n false) (k + 1)))) := Lib.hid (by rw [hs]; exact hown.out)
            clear hd hp hf q1 q2 hs hg
            go_wp2
            go_roundw
            case rel => exact ⟨k + 1, m, by omega, by rw [HD.out]; go_num, HM2, by omega, HO, hb⟩
            case measure => have := HD.out; simp [intOf]; omega
        · have hs := sel_none (fS n false) k (by rw [← hd, fS, if_neg (by rintro ⟨_, h, _⟩; exact hp h)])
          have q1 : ¬ (2 * n / d - d + 1).tmod 2 = 0 := fun h => hp ((tmod2 _).1 h)
          have q4 : ((2 * n / d - d + 1).tmod 2 != 0) = true := by simpa using q1
          have HM2 : Hid (m = (sel (fS n false) (k + 1)).length) := Lib.hid (by rw [hs]; exact HM.out)
          have HO : Hid (wr.ownsRow w.heap.size 31 2 u5 m (prs (sel (fS n false) (k + 1)))) := Lib.hid (by rw [hs]; exact hown.out)
          clear hd hp hs q1
          go_wp2
          go_roundw
          case rel => exact ⟨k + 1, m, by omega, by rw [HD.out]; go_num, HM2, by omega, HO, hb⟩
          case measure => have := HD.out; simp [intOf]; omega
      · have hs := sel_none (fS n false) k (by rw [← hd, fS, if_neg (by rintro ⟨h, _⟩; exact hc h)])
        have q4 : (2 * n % d != 0) = true := by simpa using hc
        have HM2 : Hid (m = (sel (fS n false) (k + 1)).length) := Lib.hid (by rw [hs]; exact HM.out)
        have HO : Hid (wr.ownsRow w.heap.size 31 2 u5 m (prs (sel (fS n false) (k + 1)))) := Lib.hid (by rw [hs]; exact hown.out)
        clear hd hs hc
        go_wp2
        go_roundw
        case rel => exact ⟨k + 1, m, by omega, by rw [HD.out]; go_num, HM2, by omega, HO, hb⟩
        case measure => have := HD.out; simp [intOf]; omega
    · obtain rfl : k = L := by omega
      have hnd : decide (d ≤ 2 * n) = false := by simp; omega
      obtain ⟨A, c, rfl⟩ := row_form hown.out
      have HO := Lib.hid (own_of_row hown.out)
      clear hd hL2
      go_wp2
      go_ret
      exact ⟨A, c, by rw [← HL.out, ← HM.out]; rfl, by rw [← HL.out]; exact HO.out, hb⟩
set_option maxHeartbeats 3200000 in
theorem ruAll_true (n : Int) (w : World) (h0 : 1 ≤ n) (h1 : n ≤ 1000000) :
    Calls Tryz.prog 35 #[.int .i64 n, .bool true] w fun e w' => ∃ A c, e = .returned (.slice A (sel (fS n true) (2 * n).toNat).length c) ∧ Own w' w.heap.size w'.heap.size A (prs (sel (fS n true) (2 * n).toNat)) ∧ Below w.heap.size w w' := by
  obtain ⟨i0, hi0, hz0, hz1, hz2⟩ := info_parts infoRun
  obtain ⟨L, hL⟩ : ∃ L : Nat, L = (2 * n).toNat := ⟨_, rfl⟩
  have hL2 : (L : Int) = 2 * n := by omega
  have HL := Lib.hid hL
  have HL2 := Lib.hid hL2
  have hL3 : L ≤ 2000000 := by omega
  clear hL hL2
  go_enter Tryz.func35, Tryz.ntmps35
  go_wp2
  go_loopw [5, 6, 7] (fun v i _ wr => ∃ k m : Nat, k ≤ L ∧ i = .int .i64 ((k : Int) + 1) ∧ Hid (m = (sel (fS n true) k).length) ∧ m ≤ k ∧ Hid (wr.ownsRow w.heap.size 31 2 v m (prs (sel (fS n true) k))) ∧ Below w.heap.size w wr) (fun _ i _ _ => (L + 1 - intOf i).toNat)
  case atStart => exact ⟨0, 0, by omega, by simp, Lib.hid (by simp [sel_zero]), by omega, Lib.hid (by rw [sel_zero]; exact World.ownsRow_nil _ _ _ _), Below.refl _ _⟩
  case round =>
    obtain ⟨k, m, hk, rfl, HM, hmk, hown, hb⟩ := hrel
    obtain ⟨d, hd⟩ : ∃ d : Int, d = (k : Int) + 1 := ⟨_, rfl⟩
    have HD := Lib.hid hd
    rw [← hd]
    have hL2 := HL2.out
    by_cases hlt : k < L
    · have d1 : 1 ≤ d := by omega
      have d2 : d ≤ 2 * n := by omega
      have hq0 : 0 ≤ 2 * n / d := Int.ediv_nonneg (by omega) (by omega)
      have hq1 : 2 * n / d ≤ 2 * n := Int.ediv_le_self _ (by omega)
      clear hL2
      by_cases hc : 2 * n % d = 0
      · by_cases hp : (2 * n / d - d + 1) % 2 = 0
        · obtain ⟨f, hf⟩ : ∃ f, f = (2 * n / d - d + 1) / 2 := ⟨_, rfl⟩
          have q1 : (2 * n / d - d + 1).tmod 2 = 0 := (tmod2 _).2 hp
          have q2 : (2 * n / d - d + 1).tdiv 2 = f := by rw [tdiv2 _ hp, hf]
          have f1 : -3000000 ≤ f := by omega
          have f2 : f ≤ 3000000 := by omega
          have q3 : IntKind.i64.wrap ((2 * n / d - d + 1).tdiv 2) = f := by rw [q2]; exact IntWalk.i64_in _ (by omega)
          have q4 : ((2 * n / d - d + 1).tmod 2 != 0) = false := by simp [q1]
          have HS := Lib.hid (sel_some (fS n true) k (x := (f, d)) (by rw [← hd, fS, if_pos ⟨hc, hp, Or.inl rfl⟩, hf]))
          clear hd hp hf q1 q2
          go_wp2_with (at_builtin; refine wpList_append_own _ rfl _ _ 25 rfl w.heap.size 31 i0 (.agg #[.int .i64 0, .int .i64 0]) 2 16 Tryz.underlying25 hi0 hz0 hz1 hz2 rfl (by decide) _ _ _ rfl (hown.out.alloc _) ⟨wr.heap.size, 0, none⟩ 1 1 [.int .i64 f, .int .i64 d] rfl rfl ?c1 ?c2 ?c3 ?c4 ?c5 ?_)
          case c1 =>
            intro k u hk
            match k, hk with
            | 0, hk => simp at hk; subst hk; simp [Addr.add]
            | 1, hk => simp at hk; subst hk; simp [Addr.add]
          case c2 => intro u hu; simp at hu; rcases hu with rfl | rfl <;> rfl
          case c3 => unfold maxLen; omega
          case c4 => omega
          case c5 => have := hb.size; simp; omega
          · intro v' w1 hown' hgrow _
            rw [prs_app, ← HS.out] at hown'
            have hb1 : Below w.heap.size w w1 := (hb.alloc hb.size _).grown hgrow (by have := hb.size; simp; omega) fun g hg => (hown.out.lt g hg).1
            have HO := Lib.hid hown'
            have HM2 : Hid (m + 1 = (sel (fS n true) (k + 1)).length) := Lib.hid (by rw [HS.out, HM.out]; simp)
            clear hown' hown hgrow hb HS
            go_wp2
            go_roundw
            case rel => exact ⟨k + 1, m + 1, by omega, by rw [HD.out]; go_num, HM2, by omega, HO, hb1⟩
            case measure => have := HD.out; simp [intOf]; omega
        · have hs := sel_none (fS n true) k (by rw [← hd, fS, if_neg (by rintro ⟨_, h, _⟩; exact hp h)])
          have q1 : ¬ (2 * n / d - d + 1).tmod 2 = 0 := fun h => hp ((tmod2 _).1 h)
          have q4 : ((2 * n / d - d + 1).tmod 2 != 0) = true := by simpa using q1
          have HM2 : Hid (m = (sel (fS n true) (k + 1)).length) := Lib.hid (by rw [hs]; exact HM.out)
          have HO : Hid (wr.ownsRow w.heap.size 31 2 u5 m (prs (sel (fS n true) (k + 1)))) := Lib.hid (by rw [hs]; exact hown.out)
          clear hd hp hs q1
          go_wp2
          go_roundw
          case rel => exact ⟨k + 1, m, by omega, by rw [HD.out]; go_num, HM2, by omega, HO, hb⟩
          case measure => have := HD.out; simp [intOf]; omega
      · have hs := sel_none (fS n true) k (by rw [← hd, fS, if_neg (by rintro ⟨h, _⟩; exact hc h)])
        have q4 : (2 * n % d != 0) = true := by simpa using hc
        have HM2 : Hid (m = (sel (fS n true) (k + 1)).length) := Lib.hid (by rw [hs]; exact HM.out)
        have HO : Hid (wr.ownsRow w.heap.size 31 2 u5 m (prs (sel (fS n true) (k + 1)))) := Lib.hid (by rw [hs]; exact hown.out)
        clear hd hs hc
        go_wp2
        go_roundw
        case rel => exact ⟨k + 1, m, by omega, by rw [HD.out]; go_num, HM2, by omega, HO, hb⟩
        case measure => have := HD.out; simp [intOf]; omega
    · obtain rfl : k = L := by omega
      have hnd : decide (d ≤ 2 * n) = false := by simp; omega
      obtain ⟨A, c, rfl⟩ := row_form hown.out
      have HO := Lib.hid (own_of_row hown.out)
      clear hd hL2
      go_wp2
      go_ret
      exact ⟨A, c, by rw [← HL.out, ← HM.out]; rfl, by rw [← HL.out]; exact HO.out, hb⟩
end Go.Proofs.YtcfpdlkkniilpaaGreatDoor
