/- Chapter 8, the program: the row of the values at 1, 2, .. -/
import Derived.Test.YtmjgjdebcmbjeaaTcD
import Derived.Test.YtmjgjdebcmbjeaaTbO
import Derived.Deep.RegionWith
namespace Go.Proofs.Ytmjgjdebcmbjeaa
open Go.RowKit

theorem stp8_take (xs : List Int) (k : Nat) (h : k < xs.length) : (stp8 xs).take (k + 1) = (stp8 xs).take k ++ [xs.getD k 0 + xs.getD (k + 1) 0] := by
  have hk : k < (stp8 xs).length := by rw [stp8_len]; exact h
  rw [List.take_succ_eq_append_getElem hk, ← stp8_at xs k]
  simp [List.getD_eq_getElem?_getD, hk]
theorem Below.frozen_lt {B : Nat} {w w' : World} (h : Below B w w') {a : Addr} (ha : a.block < B) : w'.frozen? a = w.frozen? a := h.frozen (p := a) ha
set_option maxRecDepth 8000 in
set_option maxHeartbeats 1600000 in
theorem behind_any (A : Option Addr) (n c lo hi : Nat) (xs : List Int) (w : World) (hn : xs.length = n) (hm : n ≤ 100000) (ha : Own w lo hi A (l64s xs)) (hh : hi ≤ w.heap.size) :
    Calls Try.prog 83 #[.slice A n c] w (ResR (stp8 xs) w) := by
  obtain ⟨i0, hi0, hz0, hz1, hz2⟩ := info_parts infoLng
  have HA := Lib.hid ha
  have HT := Lib.hid fun k h => stp8_take xs k h
  have HL : Hid ((stp8 xs).length = n) := Lib.hid (by rw [stp8_len, hn])
  have HN := Lib.hid hn
  have HE : Hid (xs.getD n 0 = 0) := Lib.hid (by simp [List.getD_eq_getElem?_getD, hn])
  have HM := Lib.hid fun k m W => plus_any (xs.getD k 0) (xs.getD m 0) W
  clear ha hn
  go_enter Try.func83, Try.ntmps83
  go_wp2
  go_loopw [3, 8] (fun v i wr => ∃ k : Nat, k ≤ n ∧ i = .int .i64 (k : Int) ∧ Hid (wr.ownsRow w.heap.size 59 2 v k (l64s ((stp8 xs).take k))) ∧ Hid (Below w.heap.size w wr)) (fun _ i _ => n - (intOf i).toNat)
  case atStart => exact ⟨0, by omega, by simp, Lib.hid (by rw [List.take_zero]; exact World.ownsRow_nil _ _ _ _), Lib.hid (Below.refl _ _)⟩
  case round =>
    obtain ⟨k, hk, rfl, hR, hbl⟩ := hrel
    by_cases hlt : k < n
    · have hki : (k : Int) < (n : Int) := by omega
      have hk0 : (0 : Int) ≤ (k : Int) := by omega
      obtain ⟨g, o, rfl, hg0, hg1, s0, s1⟩ := (HA.out.below hbl.out hh).lng (k := k) (by rw [HN.out]; omega)
      have hgw : g < w.heap.size := by omega
      have hgr : g < wr.heap.size := Nat.lt_of_lt_of_le hgw hbl.out.size
      have HLK : Hid (((stp8 xs).take k).length = k) := Lib.hid (by rw [List.length_take, HL.out]; omega)
      obtain ⟨A', cc', rfl⟩ := row_form hR.out
      have HX : Hid (∀ j, Value.ownBlock (.slice A' k cc') = some j → w.heap.size ≤ j) := Lib.hid fun j hj => (hR.out.lt j hj).1
      have e1 : IntKind.i64.wrap ((k : Int) + 1) = (k : Int) + 1 := IntWalk.i64_in _ (by omega)
      obtain ⟨z, hz⟩ : ∃ z, z = xs.getD k 0 + xs.getD (k + 1) 0 := ⟨_, rfl⟩
      have HK := Lib.hid (HT.out k (by rw [HN.out]; exact hlt))
      rw [← hz] at HK
      by_cases hlt1 : k + 1 < n
      · obtain ⟨m, hkm⟩ : ∃ m, m = k + 1 := ⟨_, rfl⟩
        rw [← hkm] at hz hlt1
        obtain ⟨g', o', eA, _, _, t0, t1⟩ := (HA.out.below hbl.out hh).lng (k := m) (by rw [HN.out]; omega)
        injection eA with eA
        injection eA with eA1 eA2 _
        subst eA1 eA2
        have HMM := Lib.hid fun W => HM.out k m W
        have hmi : (m : Int) < (n : Int) := by omega
        have hm0 : (0 : Int) ≤ (m : Int) := by omega
        have e2 : IntKind.i64.wrap ((k : Int) + 1) = (m : Int) := by rw [e1]; omega
        have e3 : (k : Int) + 1 = (m : Int) := by omega
        have q1 : (k : Int) + 1 < (n : Int) := by omega
        rw [← hz] at HMM
        unfold lng at HMM
        generalize xs.getD m 0 = y at *
        generalize xs.getD k 0 = x at *
        generalize hi8 y = y1 at *
        generalize lo8 y = y2 at *
        generalize hi8 x = x1 at *
        generalize lo8 x = x2 at *
        have HKM := Lib.hid hkm
        clear hz hkm e1 e3 q1
        have q0 : (wr.alloc (.cells #[.int .u64 x1, .int .u64 x2] 59)).cell? ⟨wr.heap.size, 0, none⟩ = some (.int .u64 x1) ∧ (wr.alloc (.cells #[.int .u64 x1, .int .u64 x2] 59)).cell? ⟨wr.heap.size, 1, none⟩ = some (.int .u64 x2) := ⟨by simp [go_sem], by simp [go_sem]⟩
        have z0 : (wr.alloc (.cells #[.int .u64 x1, .int .u64 x2] 59)).frozen? ⟨wr.heap.size, 0, none⟩ = false ∧ (wr.alloc (.cells #[.int .u64 x1, .int .u64 x2] 59)).frozen? ⟨wr.heap.size, 1, none⟩ = false := ⟨by simp [go_sem], by simp [go_sem]⟩
        have p0 := two_alloc ⟨t0, t1⟩ hgr (.cells #[.int .u64 x1, .int .u64 x2] 59)
        have HB1 := Lib.hid ((Below.refl wr.heap.size wr).alloc (Nat.le_refl _) (.cells #[.int .u64 x1, .int .u64 x2] 59))
        have hzz : wr.heap.size < (wr.alloc (.cells #[.int .u64 x1, .int .u64 x2] 59)).heap.size := by simp
        clear t0 t1
        go_wp2
        generalize (wr.alloc (.cells #[.int .u64 x1, .int .u64 x2] 59)) = w1 at *
        go_region_with (go_at_call 106; refine (HMM.out _).mono ?_; rintro e w2 ⟨rfl, hb2⟩; have k0 := (hb2.cell (p := ⟨wr.heap.size, 0, none⟩) hzz).trans q0.1; have k1 := (hb2.cell (p := ⟨wr.heap.size, 1, none⟩) hzz).trans q0.2; have j0 := (hb2.frozen (p := ⟨wr.heap.size, 0, none⟩) hzz).trans z0.1; have j1 := (hb2.frozen (p := ⟨wr.heap.size, 1, none⟩) hzz).trans z0.2)
        all_goals (
          have hbz : Below wr.heap.size wr ((w2.setCell ⟨wr.heap.size, 0, none⟩ (.int .u64 (hi8 z))).setCell ⟨wr.heap.size, 1, none⟩ (.int .u64 (lo8 z))) := ((HB1.out.drew.trans (hb2.mono (Nat.le_of_lt hzz))).setCell (Nat.le_refl _) _).setCell (Nat.le_refl _) _
          have d0 : ((w2.setCell ⟨wr.heap.size, 0, none⟩ (.int .u64 (hi8 z))).setCell ⟨wr.heap.size, 1, none⟩ (.int .u64 (lo8 z))).cell? ⟨wr.heap.size, 0, none⟩ = some (.int .u64 (hi8 z)) := by
            rw [World.cell?_setCell_other _ _ _ _ (by simp), World.cell?_setCell_same _ _ _ k0]
          have d1 : ((w2.setCell ⟨wr.heap.size, 0, none⟩ (.int .u64 (hi8 z))).setCell ⟨wr.heap.size, 1, none⟩ (.int .u64 (lo8 z))).cell? ⟨wr.heap.size, 1, none⟩ = some (.int .u64 (lo8 z)) := by
            rw [World.cell?_setCell_same _ _ _ ((World.cell?_setCell_other _ _ _ _ (by simp)).trans k1)]
          generalize (w2.setCell ⟨wr.heap.size, 0, none⟩ (.int .u64 (hi8 z))).setCell ⟨wr.heap.size, 1, none⟩ (.int .u64 (lo8 z)) = wz at *
          clear k0 k1 j0 j1 hb2
          have HRz := Lib.hid (row_below hR.out hbz (Nat.le_refl _))
          have HBz := Lib.hid (hbl.out.trans (hbz.mono hbl.out.size))
          go_wp2_with (first
            | (at_builtin; refine wpList_append_own _ rfl _ _ 48 rfl w.heap.size 59 i0 (.agg #[.int .u64 0, .int .u64 0]) 2 16 Try.underlying48 hi0 hz0 hz1 hz2 rfl (by decide) _ _ _ rfl (HRz.out.alloc _) ⟨wz.heap.size, 0, none⟩ 1 1 [.int .u64 (hi8 z), .int .u64 (lo8 z)] rfl rfl ?c1 ?c2 ?c3 ?c4 ?c5 ?_))
          case c1 =>
            intro j u hj
            match j, hj with
            | 0, hj => simp at hj; subst hj; simp [Addr.add]
            | 1, hj => simp at hj; subst hj; simp [Addr.add]
          case c2 => intro u hu; simp at hu; rcases hu with rfl | rfl <;> rfl
          case c3 => unfold maxLen; omega
          case c4 => omega
          case c5 => exact Nat.le_trans HBz.out.size (by simp)
          · intro v' w5 hown' hgrow _
            rw [l64s_app, ← HK.out] at hown'
            have HO := Lib.hid hown'
            have HB5 : Hid (Below w.heap.size w w5) := Lib.hid ((HBz.out.alloc HBz.out.size _).grown hgrow (Nat.le_trans HBz.out.size (by simp)) fun g hg => (HRz.out.lt g hg).1)
            clear hown' hgrow
            (try clear e2)
            have e9 : IntKind.i64.wrap ((k : Int) + 1) = (k : Int) + 1 := IntWalk.i64_in _ (by omega)
            go_wp2
            go_roundw
            case rel => exact ⟨k + 1, by omega, by go_num, HO, HB5⟩
            case measure => simp [intOf]; omega
          )
      · have hnk : n = k + 1 := by omega
        rw [← hnk, HE.out, Int.add_zero] at hz
        rw [← hz] at s0 s1
        have q1 : ¬ (k : Int) + 1 < (n : Int) := by omega
        clear hz hnk hlt1
        have HRz := Lib.hid (row_below hR.out ((Below.refl wr.heap.size wr).alloc (Nat.le_refl _) (.cells #[.int .u64 (hi8 z), .int .u64 (lo8 z)] 59)) (Nat.le_refl _))
        have HBz := Lib.hid (hbl.out.alloc hbl.out.size (.cells #[.int .u64 (hi8 z), .int .u64 (lo8 z)] 59))
        go_wp2_with (first
          | (at_builtin; refine wpList_append_own _ rfl _ _ 48 rfl w.heap.size 59 i0 (.agg #[.int .u64 0, .int .u64 0]) 2 16 Try.underlying48 hi0 hz0 hz1 hz2 rfl (by decide) _ _ _ rfl (HRz.out.alloc _) ⟨wr.heap.size + 1, 0, none⟩ 1 1 [.int .u64 (hi8 z), .int .u64 (lo8 z)] rfl rfl ?c1 ?c2 ?c3 ?c4 ?c5 ?_))
        case c2 => (first | (intro u hu; simp at hu; rcases hu with rfl | rfl <;> rfl) | exact ⟨rfl, rfl⟩)
        case c3 => unfold maxLen; omega
        case c4 => omega
        case c5 => exact Nat.le_trans HBz.out.size (by simp)
        · intro v' w5 hown' hgrow _
          rw [l64s_app, ← HK.out] at hown'
          have HO := Lib.hid hown'
          have HB5 : Hid (Below w.heap.size w w5) := Lib.hid ((HBz.out.alloc HBz.out.size _).grown hgrow (Nat.le_trans HBz.out.size (by simp)) fun g hg => (HRz.out.lt g hg).1)
          clear hown' hgrow
          (try clear e2)
          have e9 : IntKind.i64.wrap ((k : Int) + 1) = (k : Int) + 1 := IntWalk.i64_in _ (by omega)
          go_wp2
          go_roundw
          case rel => exact ⟨k + 1, by omega, by go_num, HO, HB5⟩
          case measure => simp [intOf]; omega
    · obtain rfl : k = n := by omega
      obtain ⟨B, d, rfl⟩ := row_form hR.out
      have HO := Lib.hid (own_of_row hR.out)
      rw [List.take_of_length_le (by rw [HL.out]; exact Nat.le_refl _)] at HO
      go_wp2
      go_ret
      exact ⟨B, d, by rw [HL.out]; exact row_cap hR.out, by rw [HL.out]; rfl, HO.out, hbl.out⟩
end Go.Proofs.Ytmjgjdebcmbjeaa
