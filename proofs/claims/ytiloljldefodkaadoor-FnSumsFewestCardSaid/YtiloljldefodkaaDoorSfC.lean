/- What the law of sums of shapes asks of lists: they fall, their places' numbers make a total. No condition. -/
import Derived.Test.YtiloljldefodkaaDoorSfB
import Derived.Test.YtiloljldefodkaaDoorLwA
import Derived.Test.YtiloljldefodkaaDoorAnW
import Derived.Test.YtiloljldefodkaaDoorAnY
namespace Go.Proofs.YtiloljldefodkaaDoor
open Go.ChangeShapes Go.WideShapes Go.ChangeAt Go.RowKit Go.Maps

set_option maxHeartbeats 800000 in
theorem oFalls_any (A : Option Addr) (n c lo hi : Nat) (xs : List Int) (least : Int) (w : World) (hn : xs.length = n) (hm : n ≤ 1000000000) (ha : Own w lo hi A (i64s xs))
    (h1 : ∀ k, k < n → least ≤ xs.getD k 0) (h2 : ∀ k, k + 1 < n → xs.getD (k + 1) 0 ≤ xs.getD k 0) :
    Calls Tryd.prog 18 #[.slice A n c, .int .i64 least] w fun e w' => e = .returned (.bool true) ∧ w = w' := by
  have HA := Lib.hid ha
  have HN := Lib.hid hn
  have H1 := Lib.hid h1
  have H2 := Lib.hid h2
  clear ha hn h1 h2
  go_enter Tryd.func18, Tryd.ntmps18
  go_wp2
  go_loopw [9] (fun i wr => ∃ k : Nat, k ≤ n ∧ i = .int .i64 k ∧ w = wr) (fun i _ => n - (intOf i).toNat)
  case atStart => exact ⟨0, Nat.zero_le _, rfl, rfl⟩
  case round =>
    obtain ⟨k, hk, rfl, rfl⟩ := hrel
    by_cases hlt : k < n
    · obtain ⟨g, o, rfl, -⟩ := HA.out (by simp [HN.out]; omega)
      have ck := own_get HA.out (k := k) (by rw [HN.out]; exact hlt)
      have x0 := H1.out k hlt
      have HF := Lib.hid fun (hk0 : 0 < k) => (show xs.getD k 0 ≤ xs.getD (k - 1) 0 by have := H2.out (k - 1) (by omega); rwa [Nat.sub_add_cancel hk0] at this)
      generalize xs.getD k 0 = x at ck x0 HF
      have hx : ¬ x < least := by omega
      have hki : (k : Int) < (n : Int) := by omega
      rcases Nat.eq_zero_or_pos k with hk0 | hk0
      · have hk0i : ¬ (0 : Int) < (k : Int) := by omega
        clear hk0
        go_wp2
        go_roundw
        case rel => exact ⟨k + 1, by omega, by go_num, by first | rfl | trivial⟩
        case measure => simp [intOf]; omega
      · have hk0i : (0 : Int) < (k : Int) := by omega
        have hf := HF.out hk0
        have c1 := own_get HA.out (k := k - 1) (by rw [HN.out]; omega)
        generalize xs.getD (k - 1) 0 = z at hf c1
        have hzx : ¬ z < x := by omega
        have i1 : IntKind.i64.wrap ((k : Int) - 1) = (k : Int) - 1 := IntWalk.i64_in _ (by omega)
        have i2 : (0 : Int) ≤ (k : Int) - 1 := by omega
        have i3 : (k : Int) - 1 < (n : Int) := by omega
        have i4 : ((k : Int) - 1).toNat = k - 1 := by omega
        clear hk0 hf HF
        go_wp2
        go_roundw
        case rel => exact ⟨k + 1, by omega, by go_num, by first | rfl | trivial⟩
        case measure => simp [intOf]; omega
    · have hki : ¬ (k : Int) < (n : Int) := by omega
      go_wp2
      go_ret
      exact ⟨rfl, rfl⟩
set_option maxHeartbeats 800000 in
theorem oTotal_any (s : Int) (A : Option Addr) (n c lo : Nat) (xs : List Int) (w : World) (hs1 : 3 ≤ s) (hs2 : s ≤ 24) (hn : xs.length = n) (hm : n ≤ 1000000000) (ha : Own w lo w.heap.size A (i64s xs))
    (h1 : ∀ k, k < n → 0 ≤ xs.getD k 0 ∧ xs.getD k 0 ≤ 100000) (hb : psumN s xs n ≤ 1000000) (T : Int) (hT : psumN s xs n = T) :
    Calls Tryd.prog 17 #[.int .i64 s, .slice A n c] w fun e w' => e = .returned (.int .i64 T) ∧ Below w.heap.size w w' := by
  have HA := Lib.hid ha
  have HN := Lib.hid hn
  have H1 := Lib.hid h1
  have HP := Lib.hid fun k (hk : k ≤ n) => (show 0 ≤ psumN s xs k ∧ psumN s xs k ≤ 1000000 by have := psumN_bds s hs1 xs n k hk; omega)
  have HT := Lib.hid hT
  clear ha hn h1 hb hT
  go_enter Tryd.func17, Tryd.ntmps17
  go_wp2
  go_loopw [5, 12] (fun v i wr => ∃ k : Nat, k ≤ n ∧ i = .int .i64 k ∧ v = .int .i64 (psumN s xs k) ∧ Below w.heap.size w wr) (fun _ i _ => n - (intOf i).toNat)
  case atStart => exact ⟨0, Nat.zero_le _, rfl, rfl, Below.refl _ _⟩
  case round =>
    obtain ⟨k, hk, rfl, rfl, hb⟩ := hrel
    by_cases hlt : k < n
    · have Ow := HA.out.on hb
      obtain ⟨g, o, rfl, -⟩ := Ow (by simp [HN.out]; omega)
      have ck := own_get Ow (k := k) (by rw [HN.out]; exact hlt)
      obtain ⟨x0, x1⟩ := H1.out k hlt
      obtain ⟨s0, s1⟩ := HP.out k hk
      obtain ⟨t0, t1⟩ := HP.out (k + 1) (by omega)
      have he : psumN s xs (k + 1) = psumN s xs k + num s (xs.getD k 0) := rfl
      rw [he] at t0 t1
      have HR : Hid (∀ v : Value, v = .int .i64 (psumN s xs k + num s (xs.getD k 0)) → v = .int .i64 (psumN s xs (k + 1))) := Lib.hid fun v h => h
      clear he Ow
      generalize xs.getD k 0 = x at ck x0 x1 t0 t1 HR
      generalize psumN s xs k = p at *
      have hw : IntKind.i64.wrap (p + num s x) = p + num s x := IntWalk.i64_in _ (by omega)
      have hki : (k : Int) < (n : Int) := by omega
      go_wp2_with fail
      refine (impl_PolygonNumber_yes s x _ hs1 hs2 x0 x1).mono ?_
      rintro e w2 ⟨rfl, hb2⟩
      replace hb := hb.trans (hb2.mono hb.size)
      clear hb2 ck t0 t1
      go_wp2_with fail
      go_roundw
      case rel => exact ⟨k + 1, by omega, by go_num, HR.out _ rfl, hb⟩
      case measure => simp [intOf]; omega
    · have hki : ¬ (k : Int) < (n : Int) := by omega
      obtain rfl : k = n := by omega
      rw [HT.out]
      go_wp2
      go_ret
      exact ⟨rfl, hb⟩
end Go.Proofs.YtiloljldefodkaaDoor
