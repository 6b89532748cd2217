/- Chapter 7: the specification's pictures of marked places. -/
import Derived.Test.YtbcgidgjdedkiaaDtD
namespace Go.Proofs.Ytbcgidgjdedkiaa
open Go.ChangeShapes Go.WideShapes Go.ChangeAt Go.RowKit

/-- The first x signs of a row. -/
def rowK (W : Nat) (d : Nat → Bool) (y x : Nat) : List UInt8 := (List.range x).map fun x => sgn (d (y * W + x))
theorem rowK_succ (W : Nat) (d : Nat → Bool) (y x : Nat) : rowK W d y (x + 1) = rowK W d y x ++ [sgn (d (y * W + x))] := by simp [rowK, List.range_succ]
theorem rowK_all (W : Nat) (d : Nat → Bool) (y : Nat) : rowK W d y W = gRow W d y := rfl
theorem rowK_len (W : Nat) (d : Nat → Bool) (y x : Nat) : (rowK W d y x).length = x := by simp [rowK]
theorem gRows_succ (W y : Nat) (d : Nat → Bool) : gRows W (y + 1) d = gRows W y d ++ [gRow W d y] := by simp [gRows, List.range_succ]
theorem sgn_app (a : List UInt8) (b : Bool) : bt a ++ bt [sgn b] = bt (a ++ [sgn b]) := bt_app _ _
set_option maxRecDepth 4000 in
set_option maxHeartbeats 1600000 in
theorem doMake_any (W H n c g : Nat) (d : Nat → Bool) (w : World) (hn : n = W * H) (w0 : 1 ≤ W) (w1 : W ≤ 50) (h0 : 1 ≤ H) (h1 : H ≤ 50) (hg : g < w.heap.size)
    (hC : ∀ i, i < n → w.cell? ⟨g, i, none⟩ = some (.bool (d i))) :
    Calls Try.prog 31 #[.int .i64 (W : Int), .int .i64 (H : Int), .slice (some ⟨g, 0, none⟩) n c] w fun e w' => e = .returned (.string (bt (gText W H d))) ∧ Below w.heap.size w w' := by
  obtain ⟨i0, hi0, hz0, hz1, hz2⟩ := info_parts infoStr
  have HC := Lib.hid hC
  have HN := Lib.hid hn
  have HT : Hid (∀ (g2 c2 : Nat) (W2 : World), H ≤ c2 → RowsAt W2 w.heap.size g2 H (gRows W H d) → Calls Try.prog 37 #[.slice (some ⟨g2, 0, none⟩) H c2] W2 fun e w' => e = .returned (.string (bt (gText W H d))) ∧ W2 = w') := Lib.hid fun g2 c2 W2 hc hr =>
    doText_any g2 0 H c2 (gRows W H d) W2 (gRows_len W H d).symm h0 (by omega) hc (fun r hr => by obtain ⟨y, _, rfl⟩ := List.mem_map.1 hr; rw [gRow_len]; omega) (fun j hj => by rw [Nat.zero_add]; exact hr.cell j hj)
  have HGL : Hid (∀ y, (gRows W y d).length = y) := Lib.hid fun y => gRows_len W y d
  clear hC hn
  have hW0 : (0 : Int) ≤ (W : Int) := by omega
  go_enter Try.func31, Try.ntmps31
  go_wp2
  go_loopw [7, 8] (fun v i wr => ∃ y : Nat, y ≤ H ∧ i = .int .i64 (y : Int) ∧ Hid (wr.ownsRow w.heap.size 9 1 v (gRows W y d).length (strs (gRows W y d))) ∧ Hid (Below w.heap.size w wr)) (fun _ i _ => H - (intOf i).toNat)
  case atStart => exact ⟨0, by omega, by simp, Lib.hid (World.ownsRow_nil _ _ _ _), Lib.hid (Below.refl _ _)⟩
  case round =>
    obtain ⟨y, hy, rfl, hown, hb⟩ := hrel
    by_cases hlt : y < H
    · have hlt2 : (y : Int) < (H : Int) := by omega
      have hm1 : y * W + W ≤ n := by
        rw [HN.out, Nat.mul_comm W H, ← Nat.succ_mul]
        exact Nat.mul_le_mul_right _ hlt
      have hm2 : n ≤ 2500 := by
        rw [HN.out]
        exact Nat.mul_le_mul (n₁ := W) (n₂ := 50) (m₁ := H) (m₂ := 50) w1 h1
      have hmw : IntKind.i64.wrap ((y : Int) * (W : Int)) = ((y * W : Nat) : Int) := by
        rw [IntWalk.i64_in]
        · push_cast; rfl
        · have : ((y * W : Nat) : Int) = (y : Int) * (W : Int) := by push_cast; rfl
          omega
      have HK := Lib.hid fun x => rowK_succ W d y x
      have HKL := Lib.hid fun x => rowK_len W d y x
      have HKA := Lib.hid (rowK_all W d y)
      have HSU := Lib.hid (gRows_succ W y d)
      have HCy : Hid (∀ x, x < W → wr.cell? ⟨g, y * W + x, none⟩ = some (.bool (d (y * W + x)))) := Lib.hid fun x hx => (hb.out.cell (p := ⟨g, y * W + x, none⟩) hg).trans (HC.out _ (by omega))
      generalize hM : y * W = M at *
      have HMM := Lib.hid hM
      clear hM
      go_wp2
      go_loopw [9, 10] (fun v i w2 => w2 = wr ∧ ∃ x : Nat, x ≤ W ∧ i = .int .i64 (x : Int) ∧ v = .string (bt (rowK W d y x))) (fun _ i _ => W - (intOf i).toNat)
      case atStart => exact ⟨rfl, 0, by omega, by simp, by simp [rowK, bt]⟩
      case round =>
        obtain ⟨rfl, x, hx, rfl, rfl⟩ := hrel
        by_cases hxl : x < W
        · have hxl2 : (x : Int) < (W : Int) := by omega
          have hc0 := HCy.out x hxl
          have hk := HK.out x
          have hkl := HKL.out x
          have i1 : (0 : Int) ≤ (M : Int) + (x : Int) := by omega
          have i2 : (M : Int) + (x : Int) < (n : Int) := by omega
          have i3 : ((M : Int) + (x : Int)).toNat = M + x := by omega
          generalize rowK W d y x = a at *
          cases hd : d (M + x)
          · rw [hd] at hc0 hk
            have kc := cat7 (bt a) ⟨#[46]⟩ (by simp [bt, ByteArray.size]; omega)
            rw [show (bt a ++ ⟨#[46]⟩ : ByteArray) = bt (rowK W d y (x + 1)) by rw [hk]; exact sgn_app a false] at kc
            clear hd hk hkl
            go_wp2
            go_roundw
            case rel => exact ⟨trivial, x + 1, by omega, by go_num, rfl⟩
            case measure => simp [intOf]; omega
          · rw [hd] at hc0 hk
            have kc := cat7 (bt a) ⟨#[111]⟩ (by simp [bt, ByteArray.size]; omega)
            rw [show (bt a ++ ⟨#[111]⟩ : ByteArray) = bt (rowK W d y (x + 1)) by rw [hk]; exact sgn_app a true] at kc
            clear hd hk hkl
            go_wp2
            go_roundw
            case rel => exact ⟨trivial, x + 1, by omega, by go_num, rfl⟩
            case measure => simp [intOf]; omega
        · obtain rfl : x = W := by omega
          rw [HKA.out]
          go_wp2_with (at_builtin; refine wpList_append_own _ rfl _ _ 39 rfl w.heap.size 9 i0 (.string ⟨#[]⟩) 1 16 Try.underlying39 hi0 hz0 hz1 hz2 rfl (by decide) _ _ _ rfl (hown.out.alloc _) ⟨wr.heap.size, 0, none⟩ 1 1 [.string (bt (gRow x d y))] rfl rfl ?c1 ?c2 ?c3 ?c4 ?c5 ?_)
          case c1 =>
            intro j u hj
            match j, hj with
            | 0, hj => simp at hj; subst hj; simp [Addr.add]
          case c2 => intro u hu; simp at hu; subst hu; rfl
          case c3 => rw [gRows_len]; unfold maxLen; omega
          case c4 => rw [gRows_len]; omega
          case c5 => have := hb.out.size; simp; omega
          · intro v' w4 hown' hgrow _
            have HO4 : Hid (w4.ownsRow w.heap.size 9 1 v' (gRows x (y + 1) d).length (strs (gRows x (y + 1) d))) := Lib.hid (by
              rw [HSU.out, ← strs_app, List.length_append]
              exact hown')
            have HB4 := Lib.hid ((hb.out.alloc hb.out.size _).grown hgrow (by have := hb.out.size; simp; omega) fun g hg => (hown.out.lt g hg).1)
            clear hown' hgrow hown hb
            go_wp2
            go_roundw
            case rel => exact ⟨y + 1, by omega, by go_num, HO4, HB4⟩
            case measure => simp [intOf]; omega
    · obtain rfl : y = H := by omega
      obtain ⟨g2, c2, rfl, hc2, hr⟩ := rows_of_row hown.out (by rw [gRows_len]; exact h0)
      have hr2 : RowsAt wr w.heap.size g2 y (gRows W y d) := by have := hr; rwa [gRows_len] at this
      rw [gRows_len] at hc2
      have HTT := Lib.hid (HT.out g2 c2 wr hc2 hr2)
      rw [HGL.out]
      go_wp2_with (go_at_call 37; refine HTT.out.mono ?_; rintro e w' ⟨rfl, rfl⟩)
      go_ret
      exact ⟨rfl, hb.out⟩
end Go.Proofs.Ytbcgidgjdedkiaa
