/- Chapter 8, by the specification: transforms of lists. -/
import Derived.Test.YtjfpnecnmdclfaaTbX
import Derived.Test.YtjfpnecnmdclfaaTbK
import Derived.Test.YtjfpnecnmdclfaaMd
namespace Go.Proofs.Ytjfpnecnmdclfaa
open Go.RowKit

set_option maxRecDepth 8000 in
set_option maxHeartbeats 3200000 in
theorem dfTransform_false (A : Option Addr) (n c lo hi : Nat) (xs : List Int) (w : World) (hn : xs.length = n) (hm : n ≤ 12) (hbd : Bd 1000000 xs) (ha : Own w lo hi A (i64s xs)) (hh : hi ≤ w.heap.size) :
    Calls Try.prog 48 #[.slice A n c, .bool false] w fun e w' => (∃ B d, e = .returned (.slice B n d) ∧ Own w' w.heap.size w'.heap.size B (i64s (tab (trn8 false xs) n))) ∧ Below w.heap.size w w' := by
  obtain ⟨i0, hi0, hz0, hz1, hz2⟩ := info_parts infoInt
  have HA := Lib.hid ha
  have HBd := Lib.hid hbd
  have HG := Lib.hid (show ∀ k, k < n → (i64s xs)[k]? = some (.int .i64 (xs.getD k 0)) from fun k hk => by simp [List.getD_eq_getElem?_getD, hn, hk])
  have HIL : Hid ((i64s xs).length = n) := Lib.hid (by simp [hn])
  have HPb := Lib.hid fun m (h : m ≤ 12) j => psum_bd false xs m h hbd j
  have HPs0 := Lib.hid (show ∀ m j, psum false (fun k => xs.getD k 0) m (j + 1) = psum false (fun k => xs.getD k 0) m j + sg8 false (m + j) * ((chs m j : Int) * xs.getD j 0) from fun _ _ => rfl)
  have HP0 := Lib.hid (show ∀ m, psum false (fun k => xs.getD k 0) m 0 = 0 from fun _ => rfl)
  have HTr := Lib.hid (show ∀ m, trn8 false xs m = psum false (fun k => xs.getD k 0) m (m + 1) from fun _ => rfl)
  have HTb := Lib.hid fun m (h : m ≤ 12) j => term_bd m j h (xs.getD j 0) (hbd j).1 (hbd j).2
  have HSn := Lib.hid fun k => tab_snoc (trn8 false xs) k
  have H0 : Hid (i64s (tab (trn8 false xs) 0) = []) := Lib.hid rfl
  have HOdd := Lib.hid sg8_odd
  have HEven := Lib.hid sg8_even
  have HOff := Lib.hid sg8_off
  have HChs := Lib.hid fun m j (h1 : m ≤ 12) (h2 : j ≤ m) W => dfChoose_any m j W (by omega) h2 (by omega)
  generalize psum false (fun k => xs.getD k 0) = P at *
  clear hbd ha hn
  go_enter Try.func48, Try.ntmps48
  go_wp2
  go_loopw [5, 12] (fun v i wr => ∃ (m : Nat) (A' : Option Addr) (c' : Nat), m ≤ n ∧ i = .int .i64 (m : Int) ∧ v = .slice A' m c' ∧ Hid (wr.ownsRow w.heap.size 3 1 v m (i64s (tab (trn8 false xs) m))) ∧ Hid (Below w.heap.size w wr)) (fun _ i _ => n - (intOf i).toNat)
  case atStart => exact ⟨0, none, 0, by omega, by simp, rfl, Lib.hid (by rw [H0.out]; exact World.ownsRow_nil _ _ _ _), Lib.hid (Below.refl _ _)⟩
  case round =>
    obtain ⟨m, A', c', hmn, rfl, rfl, hR, hbl⟩ := hrel
    by_cases hlt : m < n
    · have hki : (m : Int) < (n : Int) := by omega
      obtain ⟨g, o, rfl, hg0, hg1, hcs⟩ := (HA.out.below hbl.out hh) (by rw [HIL.out]; omega)
      have HC := Lib.hid (show ∀ j, j < n → wr.cell? ⟨g, o + j, none⟩ = some (.int .i64 (xs.getD j 0)) from fun j hj => (hcs _ _ (HG.out j hj)).1)
      clear hcs
      go_wp2
      go_loopw [7, 8] (fun v i wi => ∃ j q : Nat, j ≤ m + 1 ∧ v = .int .i64 (P m j) ∧ i = .int .i64 (j : Int) ∧ wi = wr.drewN q) (fun _ i _ => m + 1 - (intOf i).toNat)
      case atStart => exact ⟨0, 0, by omega, by rw [HP0.out], by simp, rfl⟩
      case round =>
        obtain ⟨j, q, hj, rfl, rfl, rfl⟩ := hrel
        by_cases hjm : j ≤ m
        · have hji : (j : Int) ≤ (m : Int) := by omega
          have hj0 : (0 : Int) ≤ (j : Int) := by omega
          have hjn : (j : Int) < (n : Int) := by omega
          have c0 : (wr.drewN q).cell? ⟨g, o + j, none⟩ = some (.int .i64 (xs.getD j 0)) := HC.out j (by omega)
          have hpb := HPb.out m (by omega) j
          have htb := HTb.out m (by omega) j
          have HPs := Lib.hid (HPs0.out m j)
          have HCh := Lib.hid fun W => HChs.out m j (by omega) hjm W
          obtain ⟨d, hd⟩ : ∃ d, d = m - j := ⟨_, rfl⟩
          have e0 : IntKind.i64.wrap ((m : Int) - (j : Int)) = (d : Int) := by rw [IntWalk.i64_in _ (by omega)]; omega
          generalize xs.getD j 0 = x at *
          obtain ⟨t, ht⟩ : ∃ t, t = (chs m j : Int) * x := ⟨_, rfl⟩
          rw [← ht] at htb HPs
          have e1 : IntKind.i64.wrap ((chs m j : Int) * x) = t := by rw [← ht]; exact IntWalk.i64_in _ (by omega)
          generalize hs : P m j = s at *
          have hj13 : (j : Int) ≤ 13 := by omega
          have hsb : -60000000000 ≤ s ∧ s ≤ 60000000000 := by
            have : (j : Int) * 4096000000 ≤ 13 * 4096000000 := Int.mul_le_mul_of_nonneg_right hj13 (by omega)
            omega
          have e4 : IntKind.i64.wrap (s + t) = s + t := IntWalk.i64_in _ (by omega)
          have e8 : IntKind.i64.wrap ((j : Int) + 1) = (j : Int) + 1 := IntWalk.i64_in _ (by omega)
          clear hpb ht
          have HSg := Lib.hid (HOff.out (m + j))
          have HD := Lib.hid hd
          clear hd
          go_wp2
          go_region_held3 (fun w' => w'.cell? ⟨g, o + j, none⟩ = some (.int .i64 x))
            (first | exact c0)
            (first | (go_at_call 64; refine (HCh.out _).mono ?_; rintro e w' ⟨rfl, rfl⟩))
          go_wp2
          go_roundw
          case rel => exact ⟨j + 1, q + 1, by omega, by rw [HPs.out, HSg.out, Int.one_mul], by go_num, by rfl⟩
          case measure => simp [intOf]; omega
        · obtain rfl : j = m + 1 := by omega
          have hji : ¬ ((m + 1 : Nat) : Int) ≤ (m : Int) := by omega
          have HS1 := Lib.hid (HSn.out m)
          have HT1 := Lib.hid (HTr.out m)
          generalize hs : P m (m + 1) = s at *
          have HRq : Hid ((wr.drewN q).ownsRow w.heap.size 3 1 (.slice A' m c') m (i64s (tab (trn8 false xs) m))) := Lib.hid hR.out
          have HBq : Hid (Below w.heap.size w (wr.drewN q)) := Lib.hid (below_drewN hbl.out q)
          generalize wr.drewN q = w2 at *
          obtain ⟨m1, hm1⟩ : ∃ m1, m1 = m + 1 := ⟨_, rfl⟩
          rw [← hm1] at hji ⊢
          have HM1 := Lib.hid hm1
          clear hs hm1
          go_wp2_with (at_builtin; refine wpList_append_own _ rfl _ _ 24 rfl w.heap.size 3 i0 (.int .i64 0) 1 8 Try.underlying24 hi0 hz0 hz1 hz2 rfl (by decide) _ _ _ rfl (HRq.out.alloc _) ⟨w2.heap.size, 0, none⟩ 1 1 [.int .i64 s] rfl rfl ?c1 ?c2 ?c3 ?c4 ?c5 ?_)
          case c2 => (first | (intro u hu; simp at hu; subst hu; rfl) | rfl)
          case c3 => unfold maxLen; omega
          case c4 => omega
          case c5 => exact Nat.le_trans HBq.out.size (by simp)
          · intro v' w5 hown' hgrow _
            obtain ⟨A5, c5, rfl⟩ := row_form hown'
            have HO5 : Hid (w5.ownsRow w.heap.size 3 1 (.slice A5 (m + 1) c5) (m + 1) (i64s (tab (trn8 false xs) (m + 1)))) := Lib.hid (by
              rw [HS1.out, HT1.out]
              simpa using hown')
            have HB5 : Hid (Below w.heap.size w w5) := Lib.hid ((HBq.out.alloc HBq.out.size _).grown hgrow (Nat.le_trans HBq.out.size (by simp)) fun g hg => (HRq.out.lt g hg).1)
            clear hown' hgrow
            have e8 : IntKind.i64.wrap ((m : Int) + 1) = (m : Int) + 1 := IntWalk.i64_in _ (by omega)
            go_wp2
            go_roundw
            case rel => exact ⟨m + 1, A5, c5, by omega, by go_num, rfl, HO5, HB5⟩
            case measure => simp [intOf]; omega
    · obtain rfl : m = n := by omega
      have HO := Lib.hid (own_of_row hR.out)
      go_wp2
      go_ret
      exact ⟨⟨A', c', rfl, HO.out⟩, hbl.out⟩
set_option maxRecDepth 8000 in
set_option maxHeartbeats 3200000 in
theorem dfTransform_true (A : Option Addr) (n c lo hi : Nat) (xs : List Int) (w : World) (hn : xs.length = n) (hm : n ≤ 12) (hbd : Bd 1000000 xs) (ha : Own w lo hi A (i64s xs)) (hh : hi ≤ w.heap.size) :
    Calls Try.prog 48 #[.slice A n c, .bool true] w fun e w' => (∃ B d, e = .returned (.slice B n d) ∧ Own w' w.heap.size w'.heap.size B (i64s (tab (trn8 true xs) n))) ∧ Below w.heap.size w w' := by
  obtain ⟨i0, hi0, hz0, hz1, hz2⟩ := info_parts infoInt
  have HA := Lib.hid ha
  have HBd := Lib.hid hbd
  have HG := Lib.hid (show ∀ k, k < n → (i64s xs)[k]? = some (.int .i64 (xs.getD k 0)) from fun k hk => by simp [List.getD_eq_getElem?_getD, hn, hk])
  have HIL : Hid ((i64s xs).length = n) := Lib.hid (by simp [hn])
  have HPb := Lib.hid fun m (h : m ≤ 12) j => psum_bd true xs m h hbd j
  have HPs0 := Lib.hid (show ∀ m j, psum true (fun k => xs.getD k 0) m (j + 1) = psum true (fun k => xs.getD k 0) m j + sg8 true (m + j) * ((chs m j : Int) * xs.getD j 0) from fun _ _ => rfl)
  have HP0 := Lib.hid (show ∀ m, psum true (fun k => xs.getD k 0) m 0 = 0 from fun _ => rfl)
  have HTr := Lib.hid (show ∀ m, trn8 true xs m = psum true (fun k => xs.getD k 0) m (m + 1) from fun _ => rfl)
  have HTb := Lib.hid fun m (h : m ≤ 12) j => term_bd m j h (xs.getD j 0) (hbd j).1 (hbd j).2
  have HSn := Lib.hid fun k => tab_snoc (trn8 true xs) k
  have H0 : Hid (i64s (tab (trn8 true xs) 0) = []) := Lib.hid rfl
  have HOdd := Lib.hid sg8_odd
  have HEven := Lib.hid sg8_even
  have HOff := Lib.hid sg8_off
  have HChs := Lib.hid fun m j (h1 : m ≤ 12) (h2 : j ≤ m) W => dfChoose_any m j W (by omega) h2 (by omega)
  generalize psum true (fun k => xs.getD k 0) = P at *
  clear hbd ha hn
  go_enter Try.func48, Try.ntmps48
  go_wp2
  go_loopw [5, 12] (fun v i wr => ∃ (m : Nat) (A' : Option Addr) (c' : Nat), m ≤ n ∧ i = .int .i64 (m : Int) ∧ v = .slice A' m c' ∧ Hid (wr.ownsRow w.heap.size 3 1 v m (i64s (tab (trn8 true xs) m))) ∧ Hid (Below w.heap.size w wr)) (fun _ i _ => n - (intOf i).toNat)
  case atStart => exact ⟨0, none, 0, by omega, by simp, rfl, Lib.hid (by rw [H0.out]; exact World.ownsRow_nil _ _ _ _), Lib.hid (Below.refl _ _)⟩
  case round =>
    obtain ⟨m, A', c', hmn, rfl, rfl, hR, hbl⟩ := hrel
    by_cases hlt : m < n
    · have hki : (m : Int) < (n : Int) := by omega
      obtain ⟨g, o, rfl, hg0, hg1, hcs⟩ := (HA.out.below hbl.out hh) (by rw [HIL.out]; omega)
      have HC := Lib.hid (show ∀ j, j < n → wr.cell? ⟨g, o + j, none⟩ = some (.int .i64 (xs.getD j 0)) from fun j hj => (hcs _ _ (HG.out j hj)).1)
      clear hcs
      go_wp2
      go_loopw [7, 8] (fun v i wi => ∃ j q : Nat, j ≤ m + 1 ∧ v = .int .i64 (P m j) ∧ i = .int .i64 (j : Int) ∧ wi = wr.drewN q) (fun _ i _ => m + 1 - (intOf i).toNat)
      case atStart => exact ⟨0, 0, by omega, by rw [HP0.out], by simp, rfl⟩
      case round =>
        obtain ⟨j, q, hj, rfl, rfl, rfl⟩ := hrel
        by_cases hjm : j ≤ m
        · have hji : (j : Int) ≤ (m : Int) := by omega
          have hj0 : (0 : Int) ≤ (j : Int) := by omega
          have hjn : (j : Int) < (n : Int) := by omega
          have c0 : (wr.drewN q).cell? ⟨g, o + j, none⟩ = some (.int .i64 (xs.getD j 0)) := HC.out j (by omega)
          have hpb := HPb.out m (by omega) j
          have htb := HTb.out m (by omega) j
          have HPs := Lib.hid (HPs0.out m j)
          have HCh := Lib.hid fun W => HChs.out m j (by omega) hjm W
          obtain ⟨d, hd⟩ : ∃ d, d = m - j := ⟨_, rfl⟩
          have e0 : IntKind.i64.wrap ((m : Int) - (j : Int)) = (d : Int) := by rw [IntWalk.i64_in _ (by omega)]; omega
          generalize xs.getD j 0 = x at *
          obtain ⟨t, ht⟩ : ∃ t, t = (chs m j : Int) * x := ⟨_, rfl⟩
          rw [← ht] at htb HPs
          have e1 : IntKind.i64.wrap ((chs m j : Int) * x) = t := by rw [← ht]; exact IntWalk.i64_in _ (by omega)
          generalize hs : P m j = s at *
          have hj13 : (j : Int) ≤ 13 := by omega
          have hsb : -60000000000 ≤ s ∧ s ≤ 60000000000 := by
            have : (j : Int) * 4096000000 ≤ 13 * 4096000000 := Int.mul_le_mul_of_nonneg_right hj13 (by omega)
            omega
          have e4 : IntKind.i64.wrap (s + t) = s + t := IntWalk.i64_in _ (by omega)
          have e8 : IntKind.i64.wrap ((j : Int) + 1) = (j : Int) + 1 := IntWalk.i64_in _ (by omega)
          clear hpb ht
          by_cases hp : (m - j) % 2 = 1
          · have HSg := Lib.hid (HOdd.out m j (by omega) hp)
            have d1 : ((d : Nat) : Int) % 2 = 1 := by omega
            have d2 : Int.tmod ((d : Nat) : Int) 2 = 1 := by rw [Int.tmod_eq_emod_of_nonneg (by omega)]; exact d1
            have e5 : IntKind.i64.wrap (s + -t) = s + -t := IntWalk.i64_in _ (by omega)
            have e6 : IntKind.i64.wrap (-t) = -t := IntWalk.i64_in _ (by omega)
            have e7 : IntKind.i64.wrap (s - t) = s - t := IntWalk.i64_in _ (by omega)
            have HD := Lib.hid hd
            clear hp hd
            go_wp2
            go_region_held3 (fun w' => w'.cell? ⟨g, o + j, none⟩ = some (.int .i64 x))
              (first | exact c0)
              (first | (go_at_call 64; refine (HCh.out _).mono ?_; rintro e w' ⟨rfl, rfl⟩))
            go_wp2
            go_roundw
            case rel => exact ⟨j + 1, q + 1, by omega, by rw [HPs.out, HSg.out]; congr 1; omega, by go_num, by rfl⟩
            case measure => simp [intOf]; omega
          · have HSg := Lib.hid (HEven.out m j (by omega) (by omega))
            have d1 : ((d : Nat) : Int) % 2 = 0 := by omega
            have d2 : Int.tmod ((d : Nat) : Int) 2 = 0 := by rw [Int.tmod_eq_emod_of_nonneg (by omega)]; exact d1
            have HD := Lib.hid hd
            clear hp hd
            go_wp2
            go_region_held3 (fun w' => w'.cell? ⟨g, o + j, none⟩ = some (.int .i64 x))
              (first | exact c0)
              (first | (go_at_call 64; refine (HCh.out _).mono ?_; rintro e w' ⟨rfl, rfl⟩))
            go_wp2
            go_roundw
            case rel => exact ⟨j + 1, q + 1, by omega, by rw [HPs.out, HSg.out, Int.one_mul], by go_num, by rfl⟩
            case measure => simp [intOf]; omega
        · obtain rfl : j = m + 1 := by omega
          have hji : ¬ ((m + 1 : Nat) : Int) ≤ (m : Int) := by omega
          have HS1 := Lib.hid (HSn.out m)
          have HT1 := Lib.hid (HTr.out m)
          generalize hs : P m (m + 1) = s at *
          have HRq : Hid ((wr.drewN q).ownsRow w.heap.size 3 1 (.slice A' m c') m (i64s (tab (trn8 true xs) m))) := Lib.hid hR.out
          have HBq : Hid (Below w.heap.size w (wr.drewN q)) := Lib.hid (below_drewN hbl.out q)
          generalize wr.drewN q = w2 at *
          obtain ⟨m1, hm1⟩ : ∃ m1, m1 = m + 1 := ⟨_, rfl⟩
          rw [← hm1] at hji ⊢
          have HM1 := Lib.hid hm1
          clear hs hm1
          go_wp2_with (at_builtin; refine wpList_append_own _ rfl _ _ 24 rfl w.heap.size 3 i0 (.int .i64 0) 1 8 Try.underlying24 hi0 hz0 hz1 hz2 rfl (by decide) _ _ _ rfl (HRq.out.alloc _) ⟨w2.heap.size, 0, none⟩ 1 1 [.int .i64 s] rfl rfl ?c1 ?c2 ?c3 ?c4 ?c5 ?_)
          case c2 => (first | (intro u hu; simp at hu; subst hu; rfl) | rfl)
          case c3 => unfold maxLen; omega
          case c4 => omega
          case c5 => exact Nat.le_trans HBq.out.size (by simp)
          · intro v' w5 hown' hgrow _
            obtain ⟨A5, c5, rfl⟩ := row_form hown'
            have HO5 : Hid (w5.ownsRow w.heap.size 3 1 (.slice A5 (m + 1) c5) (m + 1) (i64s (tab (trn8 true xs) (m + 1)))) := Lib.hid (by
              rw [HS1.out, HT1.out]
              simpa using hown')
            have HB5 : Hid (Below w.heap.size w w5) := Lib.hid ((HBq.out.alloc HBq.out.size _).grown hgrow (Nat.le_trans HBq.out.size (by simp)) fun g hg => (HRq.out.lt g hg).1)
            clear hown' hgrow
            have e8 : IntKind.i64.wrap ((m : Int) + 1) = (m : Int) + 1 := IntWalk.i64_in _ (by omega)
            go_wp2
            go_roundw
            case rel => exact ⟨m + 1, A5, c5, by omega, by go_num, rfl, HO5, HB5⟩
            case measure => simp [intOf]; omega
    · obtain rfl : m = n := by omega
      have HO := Lib.hid (own_of_row hR.out)
      go_wp2
      go_ret
      exact ⟨⟨A', c', rfl, HO.out⟩, hbl.out⟩
end Go.Proofs.Ytjfpnecnmdclfaa
