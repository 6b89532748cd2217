/- Contracts of the texts of chapter 1. -/
import Derived.Test.YtjfkeflmbgfhmaaGreatDoorChecked
import Derived.WalkKit
import Derived.WalkSpells
import Derived.Lib.Hide
import Derived.Lib.ItoaMem
import Derived.Deep.RegionWith
import Derived.Laws.BytesArg
import Derived.Test.YtjfkeflmbgfhmaaGreatDoorNum
namespace Go.Proofs.YtjfkeflmbgfhmaaGreatDoor
open Go.RowKit

/-- string([]byte{x}), the slice just made, however many worlds lie between -/
theorem conv_one (W : World) (b : Nat) (x : Int) (cap : Nat) (hc : W.cell? ⟨b, 0, none⟩ = some (.int .u8 x)) :
    (convert 22 9 (.slice (some ⟨b, 0, none⟩) 1 cap)).run Tryz.prog W = .ok (.string ⟨#[UInt8.ofNat x.toNat]⟩) W := by
  have h := run_convert_bytes_arg (P := Tryz.prog) W 22 5 Tryz.underlying22 Tryz.underlying5 b 0 1 cap [x] rfl
    (fun i hi => by
      have : i = 0 := by omega
      subst this
      simpa using hc) 9 Tryz.underlying9
  rw [h]
  rfl

theorem nDigits_le : ∀ (k u : Nat), u < 10 ^ k → Lib.nDigits u ≤ k + 1
  | 0, u, h => by rw [Lib.nDigits_small (by simp at h; omega)]; omega
  | k + 1, u, h => by
    by_cases hu : u < 10
    · rw [Lib.nDigits_small hu]; omega
    · rw [Lib.nDigits_big hu]
      have := nDigits_le k (u / 10) (by rw [Nat.pow_succ] at h; omega)
      omega
theorem dec_len (u : Nat) (h : u ≤ 1000000000) : (Lib.decDigits u).length ≤ 11 := by
  rw [Lib.decDigits_length]
  exact nDigits_le 10 u (by omega)

theorem ba_app (l : List UInt8) (x : UInt8) : (⟨l.toArray⟩ : ByteArray) ++ ⟨#[x]⟩ = ⟨(l ++ [x]).toArray⟩ := by
  apply ByteArray.ext
  simp
theorem l1Num_small (n : Int) (w : World) (h0 : 0 ≤ n) (hn : n < 10) :
    Calls Tryz.prog 71 #[.int .i64 n] w fun e w' => e = .returned (.string ⟨(Lib.decDigits n.toNat).toArray⟩) ∧ Below w.heap.size w w' := by
  rw [Lib.decDigits_one (by omega)]
  have kc : ∀ (W : World) (x : Int) (c : Nat), (convert 22 9 (.slice (some ⟨W.heap.size, 0, none⟩) 1 c)).run Tryz.prog (W.alloc (.cells #[.int .u8 x] 5)) = .ok (.string ⟨#[UInt8.ofNat x.toNat]⟩) (W.alloc (.cells #[.int .u8 x] 5)) := fun W x c => conv_one _ _ x c (by simp [go_sem])
  have e : (48 + n).toNat = 48 + n.toNat := by omega
  have E := Lib.hid e
  clear e
  go_enter Tryz.func71, Tryz.ntmps71
  go_wp2
  go_ret
  rw [← E.out]
  exact ⟨rfl, (Below.refl _ _).alloc (Nat.le_refl _) _⟩
set_option maxHeartbeats 400000 in
theorem l1Num_big (n : Int) (w : World) (hn : 10 ≤ n) (hm : n ≤ 1000000000)
    (ih : ∀ w : World, Calls Tryz.prog 71 #[.int .i64 (n / 10)] w fun e w' => e = .returned (.string ⟨(Lib.decDigits (n / 10).toNat).toArray⟩) ∧ Below w.heap.size w w') :
    Calls Tryz.prog 71 #[.int .i64 n] w fun e w' => e = .returned (.string ⟨(Lib.decDigits n.toNat).toArray⟩) ∧ Below w.heap.size w w' := by
  rw [Lib.decDigits, dif_neg (by omega)]
  have kc : ∀ (W : World) (x : Int) (c : Nat), (convert 22 9 (.slice (some ⟨W.heap.size, 0, none⟩) 1 c)).run Tryz.prog (W.alloc (.cells #[.int .u8 x] 5)) = .ok (.string ⟨#[UInt8.ofNat x.toNat]⟩) (W.alloc (.cells #[.int .u8 x] 5)) := fun W x c => conv_one _ _ x c (by simp [go_sem])
  have kc2 : ∀ (W : World) (x : Int) (c : Nat), (convert 22 9 (.slice (some ⟨W.heap.size, 0, none⟩) 1 c)).run Tryz.prog (W.alloc (.cells #[.int .u8 x] 5)).drew = .ok (.string ⟨#[UInt8.ofNat x.toNat]⟩) (W.alloc (.cells #[.int .u8 x] 5)).drew := fun W x c => conv_one _ _ x c (by simp [go_sem])
  have IH := Lib.hid ih
  clear ih
  have e5 : (Lib.decDigits (n.toNat / 10) ++ [UInt8.ofNat (48 + n.toNat % 10)]) = Lib.decDigits (n / 10).toNat ++ [UInt8.ofNat (48 + n % 10).toNat] := by
    rw [show (n / 10).toNat = n.toNat / 10 from by omega, show (48 + n % 10).toNat = 48 + n.toNat % 10 from by omega]
  rw [e5]
  have E5 := Lib.hid (ba_app (Lib.decDigits (n / 10).toNat) (UInt8.ofNat (48 + n % 10).toNat))
  clear e5
  have hl := dec_len (n / 10).toNat (by omega)
  have t1 : n.tdiv 10 = n / 10 := Int.tdiv_eq_ediv_of_nonneg (by omega)
  have t2 : n.tmod 10 = n % 10 := Int.tmod_eq_emod_of_nonneg (by omega)
  have e1 : IntKind.i64.wrap (n / 10) = n / 10 := IntWalk.i64_in _ (by omega)
  have e2 : IntKind.i64.wrap (n % 10) = n % 10 := IntWalk.i64_in _ (by omega)
  have e3 : IntKind.i64.wrap (48 + n % 10) = 48 + n % 10 := IntWalk.i64_in _ (by omega)
  have e4 : IntKind.u8.wrap (48 + n % 10) = 48 + n % 10 := IntWalk.u8_in _ (by omega)
  go_enter Tryz.func71, Tryz.ntmps71
  go_wp2_with fail
  go_region_with (go_at_call 71; refine (IH.out _).mono ?_; rintro e w1 ⟨rfl, hb1⟩; obtain ⟨c1, f1⟩ := bcell hb1; have kd := conv_one w1 w.heap.size (48 + n % 10) 1)
  all_goals
    clear t1 t2 e1 e2 e3 e4
    go_wp2
    go_ret
    rw [← E5.out]
    refine ⟨rfl, ?_⟩
  · exact ((Below.refl _ _).drew.trans hb1).alloc hb1.size _
  · exact ((Below.refl _ _).alloc (Nat.le_refl _) _).drew.trans (hb1.mono (by simp))
  · exact ((Below.refl _ _).alloc (Nat.le_refl _) _).drew.trans (hb1.mono (by simp))
theorem l1Num_any : ∀ (k : Nat) (n : Int) (w : World), 0 ≤ n → n ≤ 1000000000 → n < (10 : Int) ^ k →
    Calls Tryz.prog 71 #[.int .i64 n] w fun e w' => e = .returned (.string ⟨(Lib.decDigits n.toNat).toArray⟩) ∧ Below w.heap.size w w'
  | 0, n, w, h0, _, h2 => l1Num_small n w h0 (by simp at h2; omega)
  | k + 1, n, w, h0, h1, h2 => by
    by_cases h : n < 10
    · exact l1Num_small n w h0 h
    · exact l1Num_big n w (by omega) h1 fun w => l1Num_any k (n / 10) w (by omega) (by omega) (by rw [Int.pow_succ] at h2; omega)
theorem l1Num_dec (n : Int) (w : World) (h0 : 0 ≤ n) (h1 : n ≤ 1000000000) :
    Calls Tryz.prog 71 #[.int .i64 n] w fun e w' => e = .returned (.string ⟨(Lib.decDigits n.toNat).toArray⟩) ∧ Below w.heap.size w w' :=
  l1Num_any 10 n w h0 h1 (by omega)
end Go.Proofs.YtjfkeflmbgfhmaaGreatDoor
