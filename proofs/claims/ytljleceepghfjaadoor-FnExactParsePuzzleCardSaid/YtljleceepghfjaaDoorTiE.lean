/- Chapter 9: the specification's reading of a numeral. -/
import Derived.Test.YtljleceepghfjaaDoorTiD
namespace Go.Proofs.YtljleceepghfjaaDoor
open Go.ChangeShapes Go.WideShapes Go.ChangeAt Go.RowKit

/-- The number that digits write. -/
def vD (l : List UInt8) : Int := l.foldl (fun n c => 10 * n + ((c.toNat : Int) - 48)) 0
theorem vD_snoc (l : List UInt8) (c : UInt8) : vD (l ++ [c]) = 10 * vD l + ((c.toNat : Int) - 48) := by simp [vD]
def digT (c : UInt8) : Bool := decide (48 ≤ (c.toNat : Int)) && decide ((c.toNat : Int) ≤ 57)
/-- A numeral of at most six digits, read; or -1. -/
def rd9 (l : List UInt8) : Int := if ((1 ≤ l.length ∧ l.length ≤ 6) ∧ ¬ (l[0]? = some 48 ∧ 1 < l.length)) ∧ l.all digT = true then vD l else -1
theorem vD_from : ∀ (l : List UInt8) (a p : Int), 0 ≤ a → a < p → l.all digT = true → 0 ≤ l.foldl (fun n c => 10 * n + ((c.toNat : Int) - 48)) a ∧ l.foldl (fun n c => 10 * n + ((c.toNat : Int) - 48)) a < p * 10 ^ l.length
  | [], a, p, h0, h1, _ => by simpa using ⟨h0, h1⟩
  | c :: l, a, p, h0, h1, h => by
    rw [List.all_cons, Bool.and_eq_true] at h
    have hc := h.1
    simp [digT] at hc
    have ih := vD_from l (10 * a + ((c.toNat : Int) - 48)) (p * 10) (by omega) (by omega) h.2
    rw [List.foldl_cons, List.length_cons, Int.pow_succ]
    refine ⟨ih.1, ?_⟩
    have e : p * (10 ^ l.length * 10) = p * 10 * 10 ^ l.length := by
      rw [Int.mul_comm (10 ^ l.length) 10, Int.mul_assoc]
    rw [e]
    exact ih.2
theorem vD_bd (l : List UInt8) (h : l.all digT = true) (h6 : l.length ≤ 6) : 0 ≤ vD l ∧ vD l < 1000000 := by
  obtain ⟨h1, h2⟩ := vD_from l 0 1 (by omega) (by omega) h
  refine ⟨h1, ?_⟩
  have h3 : ∀ k : Nat, k ≤ 6 → (10 : Int) ^ k ≤ 1000000 := by decide
  have h4 := h3 l.length h6
  unfold vD
  omega
theorem take_snocT (s : ByteArray) (k : Nat) (_h : k < s.size) : s.data.toList.take (k + 1) = s.data.toList.take k ++ [s[k]] := by
  rw [List.take_add_one, ba_get s k _h]
  rfl
set_option maxRecDepth 4000 in
set_option maxHeartbeats 1600000 in
theorem l1Read_any (s : ByteArray) (w : World) (hs : s.size ≤ 1000000) :
    Calls Tryd.prog 10 #[.string s] w fun e w' => e = .returned (.int .i64 (rd9 s.data.toList)) ∧ w = w' := by
  have hl : s.data.toList.length = s.size := by simp
  cases hb : betr (s.size : Int) 1 6 with
  | false =>
    have hR : rd9 s.data.toList = -1 := by
      unfold rd9
      rw [if_neg]
      rintro ⟨⟨⟨h1, h2⟩, _⟩, _⟩
      rw [betr_yes (x := (s.size : Int)) (lo := 1) (hi := 6) (by omega) (by omega)] at hb
      cases hb
    rw [hR]
    have HX := Lib.hid hb
    clear hb hR hl
    go_enter Tryd.func10, Tryd.ntmps10
    go_wp2_with (go_at_call 19; refine (rin_any _ _ _ _).mono ?_; rw [HX.out]; rintro e w' ⟨rfl, rfl⟩)
    go_ret
    exact ⟨rfl, rfl⟩
  | true =>
    have h16 : 1 ≤ (s.size : Int) ∧ (s.size : Int) ≤ 6 := by
      by_cases h : 1 ≤ (s.size : Int) ∧ (s.size : Int) ≤ 6
      · exact h
      · rw [betr_no (x := (s.size : Int)) (lo := 1) (hi := 6) (by omega)] at hb; cases hb
    obtain ⟨h1, h6⟩ := h16
    have h0 : 0 < s.size := by omega
    have h0i : (0 : Int) < (s.size : Int) := by omega
    have hg0 := ba_get s 0 h0
    have HX := Lib.hid hb
    clear hb
    by_cases hz : s[0] = 48 ∧ 1 < s.size
    · have hR : rd9 s.data.toList = -1 := by
        unfold rd9
        rw [if_neg]
        rintro ⟨⟨_, h⟩, _⟩
        exact h ⟨by rw [hg0, hz.1], by rw [hl]; exact hz.2⟩
      rw [hR]
      have hB : ((s[0].toNat : Int) == 48) = true := by rw [hz.1]; rfl
      have hz2 : (1 : Int) < (s.size : Int) := by omega
      clear hR hl hg0 hz
      go_enter Tryd.func10, Tryd.ntmps10
      go_wp2_with (go_at_call 19; refine (rin_any _ _ _ _).mono ?_; rw [HX.out]; rintro e w' ⟨rfl, rfl⟩)
      go_ret
      exact ⟨rfl, rfl⟩
    · have hR : rd9 s.data.toList = if s.data.toList.all digT = true then vD s.data.toList else -1 := by
        unfold rd9
        by_cases ha : s.data.toList.all digT = true
        · rw [if_pos ⟨⟨by omega, fun h => hz ⟨by rw [hg0] at h; exact Option.some.inj h.1, by have h5 := h.2; omega⟩⟩, ha⟩, if_pos ha]
        · rw [if_neg (fun h => ha h.2), if_neg ha]
      rw [hR]
      generalize hans : (if s.data.toList.all digT = true then vD s.data.toList else -1) = ans
      have HANS := Lib.hid hans
      clear hR hans
      by_cases hf : s[0] = 48
      · have hB : ((s[0].toNat : Int) == 48) = true := by rw [hf]; rfl
        have hs0 : ¬ 1 < s.size := fun h => hz ⟨hf, h⟩
        have hs1 : ¬ (1 : Int) < (s.size : Int) := by omega
        clear hl hg0 hz hf
        go_enter Tryd.func10, Tryd.ntmps10
        go_wp2_with (go_at_call 19; refine (rin_any _ _ _ _).mono ?_; rw [HX.out]; rintro e w' ⟨rfl, rfl⟩)
        go_loopw [3, 4] (fun v i wr => ∃ k : Nat, k ≤ s.size ∧ i = .int .i64 (k : Int) ∧ v = .int .i64 (vD (s.data.toList.take k)) ∧ Hid ((s.data.toList.take k).all digT = true) ∧ wr = w) (fun _ i _ => s.size - (intOf i).toNat)
        case atStart => exact ⟨0, by omega, rfl, rfl, Lib.hid rfl, rfl⟩
        case round =>
          obtain ⟨k, hk, rfl, rfl, hall, rfl⟩ := hrel
          by_cases hlt : k < s.size
          · have hlt2 : (k : Int) < (s.size : Int) := by omega
            have hbd := vD_bd _ hall.out (by rw [List.length_take]; omega)
            have hts := take_snocT s k hlt
            by_cases hd : digT s[k] = true
            · have hnx : vD (s.data.toList.take (k + 1)) = 10 * vD (s.data.toList.take k) + ((s[k].toNat : Int) - 48) := by rw [hts, vD_snoc]
              have hal : (s.data.toList.take (k + 1)).all digT = true := by rw [hts, List.all_append, hall.out]; simp [hd]
              have hd2 := hd
              simp [digT] at hd2
              have HNX := Lib.hid hnx
              have HAL := Lib.hid hal
              clear hnx hal hts hd
              generalize vD (s.data.toList.take k) = n at *
              generalize hck : s[k] = c at *
              obtain ⟨d1, d2⟩ := hd2
              have n1 : ¬ ((c.toNat : Int) < 48) := by omega
              have n2 : ¬ (57 < (c.toNat : Int)) := by omega
              have e1 : IntKind.i64.wrap (10 * n) = 10 * n := IntWalk.i64_in _ (by omega)
              have e2 : IntKind.i64.wrap (10 * n + ((c.toNat : Int) - 48)) = 10 * n + ((c.toNat : Int) - 48) := IntWalk.i64_in _ (by omega)
              have e3 : IntKind.u8.wrap ((c.toNat : Int) - 48) = (c.toNat : Int) - 48 := IntWalk.u8_in _ (by omega)
              have e4 : IntKind.i64.wrap ((c.toNat : Int) - 48) = (c.toNat : Int) - 48 := IntWalk.i64_in _ (by omega)
              go_wp2
              go_roundw
              case rel => exact ⟨k + 1, by omega, by go_num, by rw [HNX.out], HAL, trivial⟩
              case measure => simp [intOf]; omega
            · have hna : ¬ s.data.toList.all digT = true := fun h => hd (List.all_eq_true.1 h _ (List.mem_of_getElem? (ba_get s k hlt)))
              have HIF : Hid (ans = -1) := Lib.hid (by rw [← HANS.out]; exact if_neg hna)
              have hd2 : ((s[k].toNat : Int) < 48) ∨ (57 < (s[k].toNat : Int)) := by simp [digT] at hd; omega
              clear hna hd hts hbd
              generalize hck : s[k] = c at *
              rcases hd2 with n1 | n2
              · go_wp2
                go_ret
                exact ⟨by rw [HIF.out]; rfl, rfl⟩
              · have n1 : ¬ ((c.toNat : Int) < 48) := by omega
                go_wp2
                go_ret
                exact ⟨by rw [HIF.out]; rfl, rfl⟩
          · obtain rfl : k = s.size := by omega
            have ht : s.data.toList.take s.size = s.data.toList := List.take_of_length_le (by simp)
            rw [ht] at hall
            have HIF : Hid (ans = vD (s.data.toList.take s.size)) := Lib.hid (by rw [ht, ← HANS.out]; exact if_pos hall.out)
            clear ht
            go_wp2
            go_ret
            exact ⟨by rw [HIF.out]; rfl, rfl⟩
      · have hB : ((s[0].toNat : Int) == 48) = false := by
          have : ¬ s[0].toNat = 48 := fun e => hf (UInt8.toNat_inj.1 e)
          simp
          omega
        clear hl hg0 hz hf
        go_enter Tryd.func10, Tryd.ntmps10
        go_wp2_with (go_at_call 19; refine (rin_any _ _ _ _).mono ?_; rw [HX.out]; rintro e w' ⟨rfl, rfl⟩)
        go_loopw [3, 4] (fun v i wr => ∃ k : Nat, k ≤ s.size ∧ i = .int .i64 (k : Int) ∧ v = .int .i64 (vD (s.data.toList.take k)) ∧ Hid ((s.data.toList.take k).all digT = true) ∧ wr = w) (fun _ i _ => s.size - (intOf i).toNat)
        case atStart => exact ⟨0, by omega, rfl, rfl, Lib.hid rfl, rfl⟩
        case round =>
          obtain ⟨k, hk, rfl, rfl, hall, rfl⟩ := hrel
          by_cases hlt : k < s.size
          · have hlt2 : (k : Int) < (s.size : Int) := by omega
            have hbd := vD_bd _ hall.out (by rw [List.length_take]; omega)
            have hts := take_snocT s k hlt
            by_cases hd : digT s[k] = true
            · have hnx : vD (s.data.toList.take (k + 1)) = 10 * vD (s.data.toList.take k) + ((s[k].toNat : Int) - 48) := by rw [hts, vD_snoc]
              have hal : (s.data.toList.take (k + 1)).all digT = true := by rw [hts, List.all_append, hall.out]; simp [hd]
              have hd2 := hd
              simp [digT] at hd2
              have HNX := Lib.hid hnx
              have HAL := Lib.hid hal
              clear hnx hal hts hd
              generalize vD (s.data.toList.take k) = n at *
              generalize hck : s[k] = c at *
              obtain ⟨d1, d2⟩ := hd2
              have n1 : ¬ ((c.toNat : Int) < 48) := by omega
              have n2 : ¬ (57 < (c.toNat : Int)) := by omega
              have e1 : IntKind.i64.wrap (10 * n) = 10 * n := IntWalk.i64_in _ (by omega)
              have e2 : IntKind.i64.wrap (10 * n + ((c.toNat : Int) - 48)) = 10 * n + ((c.toNat : Int) - 48) := IntWalk.i64_in _ (by omega)
              have e3 : IntKind.u8.wrap ((c.toNat : Int) - 48) = (c.toNat : Int) - 48 := IntWalk.u8_in _ (by omega)
              have e4 : IntKind.i64.wrap ((c.toNat : Int) - 48) = (c.toNat : Int) - 48 := IntWalk.i64_in _ (by omega)
              go_wp2
              go_roundw
              case rel => exact ⟨k + 1, by omega, by go_num, by rw [HNX.out], HAL, trivial⟩
              case measure => simp [intOf]; omega
            · have hna : ¬ s.data.toList.all digT = true := fun h => hd (List.all_eq_true.1 h _ (List.mem_of_getElem? (ba_get s k hlt)))
              have HIF : Hid (ans = -1) := Lib.hid (by rw [← HANS.out]; exact if_neg hna)
              have hd2 : ((s[k].toNat : Int) < 48) ∨ (57 < (s[k].toNat : Int)) := by simp [digT] at hd; omega
              clear hna hd hts hbd
              generalize hck : s[k] = c at *
              rcases hd2 with n1 | n2
              · go_wp2
                go_ret
                exact ⟨by rw [HIF.out]; rfl, rfl⟩
              · have n1 : ¬ ((c.toNat : Int) < 48) := by omega
                go_wp2
                go_ret
                exact ⟨by rw [HIF.out]; rfl, rfl⟩
          · obtain rfl : k = s.size := by omega
            have ht : s.data.toList.take s.size = s.data.toList := List.take_of_length_le (by simp)
            rw [ht] at hall
            have HIF : Hid (ans = vD (s.data.toList.take s.size)) := Lib.hid (by rw [ht, ← HANS.out]; exact if_pos hall.out)
            clear ht
            go_wp2
            go_ret
            exact ⟨by rw [HIF.out]; rfl, rfl⟩
end Go.Proofs.YtljleceepghfjaaDoor
