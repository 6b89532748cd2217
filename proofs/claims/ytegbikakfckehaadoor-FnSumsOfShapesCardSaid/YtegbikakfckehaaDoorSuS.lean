/- The law FnExactCountThreeTriangles: the program counts three triangles as the specification does, whatever the number. No condition. -/
import Derived.Test.YtegbikakfckehaaDoorSuN
import Derived.Test.YtegbikakfckehaaDoorSuQ
namespace Go.Proofs.YtegbikakfckehaaDoor
open Go.ChangeShapes Go.WideShapes Go.ChangeAt Go.RowKit

theorem spec_CountThreeTriangles_no (n : Int) (w : World) (h : n < 0 ∨ 3000 < n) :
    Calls Tryd.prog 10 #[.int .i64 n] w fun e w' => e = .returned (.tuple #[.int .i64 0, .bool false]) ∧ Below w.heap.size w w' := by
  have H := Lib.hid h
  clear h
  go_enter Tryd.func10, Tryd.ntmps10
  go_wp2_with (go_at_call 36; refine (in_no _ _ _ _ H.out).mono ?_; rintro e w' ⟨rfl, rfl⟩)
  go_ret2
  exact ⟨rfl, Below.refl _ _⟩
theorem impl_CountThreeTriangles_no (n : Int) (w : World) (h : n < 0 ∨ 3000 < n) :
    Calls Tryd.prog 9 #[.int .i64 n] w fun e w' => e = .returned (.tuple #[.int .i64 0, .bool false]) ∧ Below w.heap.size w w' := by
  have H := Lib.hid h
  clear h
  go_enter Tryd.func9, Tryd.ntmps9
  go_wp2_with (go_at_call 38; refine (assum_no _ _ _ (Or.inr H.out)).mono ?_; rintro e w' ⟨rfl, rfl⟩)
  go_ret2
  exact ⟨rfl, Below.refl _ _⟩
theorem spec_CountThreeTriangles_yes (N : Nat) (w : World) (hN : N ≤ 3000) :
    Calls Tryd.prog 10 #[.int .i64 N] w fun e w' => e = .returned (.tuple #[.int .i64 (Zc 3 (pl 3 N).toNat N 3), .bool true]) ∧ Below w.heap.size w w' := by
  have i1 : (0 : Int) ≤ (N : Int) := by omega
  have i2 : (N : Int) ≤ 3000 := by omega
  have HZ := Lib.hid (Lz_len 3 (pl 3 N).toNat 3 N)
  go_enter Tryd.func10, Tryd.ntmps10
  go_wp2_with (first
    | (go_at_call 36; refine (in_yes _ _ _ _ i1 i2).mono ?_; rintro e w' ⟨rfl, rfl⟩)
    | (go_at_call 37; refine (suThree_any _ _ hN).mono ?_; rw [HZ.out]; rintro e w1 ⟨⟨A, c, rfl, ho⟩, hb⟩))
  go_ret2
  exact ⟨rfl, hb⟩
def zsum (s : Int) (k : Nat) (m : Int) : Nat → Int
  | 0 => 0
  | t + 1 => zsum s k m t + (W s k t m : Int)
theorem zsum_four (s : Int) (k : Nat) (m : Int) : zsum s k m 4 = (Zc s k m 3 : Int) := by
  have e1 : zsum s k m 4 = 0 + (W s k 0 m : Int) + (W s k 1 m : Int) + (W s k 2 m : Int) + (W s k 3 m : Int) := rfl
  have e2 : Zc s k m 3 = W s k 0 m + W s k 1 m + W s k 2 m + W s k 3 m := rfl
  omega
set_option maxHeartbeats 800000 in
theorem impl_CountThreeTriangles_yes (N : Nat) (w : World) (hN : N ≤ 3000) :
    Calls Tryd.prog 9 #[.int .i64 N] w fun e w' => e = .returned (.tuple #[.int .i64 (Zc 3 (pl 3 N).toNat N 3), .bool true]) ∧ Below w.heap.size w w' := by
  have i1 : (0 : Int) ≤ (N : Int) := by omega
  have i2 : (N : Int) ≤ 3000 := by omega
  have p0 := pl_nn 3 N (by omega) (by omega)
  have p1 := pl_77 3 N (by omega) (by omega) (by omega)
  have HNP := Lib.hid fun w => numbersByPlace_any 3 N w (by omega) (by omega) hN
  have HW := Lib.hid fun (base0 g0 c0 : Nat) (w : World) hnb => waysNum_any 3 N 3 base0 g0 c0 w (by omega) (by omega) hN (by omega) hnb
  have hK : (pl 3 N).toNat ≤ 77 := by omega
  generalize (pl 3 N).toNat = K at *
  have HF := Lib.hid (fun i hi => W_few 3 (by omega) K i N hK hi i2)
  go_enter Tryd.func9, Tryd.ntmps9
  go_wp2_with (first
    | (go_at_call 38; refine (assum_yes _ _ _ (by omega) (by omega) i1 i2).mono ?_; rintro e w' ⟨rfl, rfl⟩)
    | (go_at_call 40; refine (HNP.out _).mono ?_; rintro e w0 ⟨⟨g0, c0, rfl, hr0⟩, hb0⟩; have HR0 := Lib.hid hr0; clear hr0)
    | (go_at_call 39; refine (HW.out _ _ _ _ HR0.out).mono ?_; rintro e w1 ⟨⟨g, rfl, hr⟩, hb⟩; have HR := Lib.hid hr; clear hr))
  go_loopw [4, 15] (fun a i wr => ∃ t : Nat, t ≤ 4 ∧ i = .int .i64 t ∧ a = .int .i64 (zsum 3 K N t) ∧ 0 ≤ zsum 3 K N t ∧ zsum 3 K N t ≤ 1000000000000000000 * t ∧ w1 = wr) (fun _ i _ => 4 - (intOf i).toNat)
  case atStart => exact ⟨0, by omega, rfl, rfl, by simp [zsum], by simp [zsum], rfl⟩
  case round =>
    obtain ⟨t, ht, rfl, rfl, hz0, hz1, rfl⟩ := hrel
    by_cases hlt : t < 4
    · have hi : (t : Int) < 4 := by omega
      have hc := HR.out.cell (j := t) (by omega)
      have hw := HF.out t (by omega)
      have hw0 : (0 : Int) ≤ (W 3 K t N : Int) := by omega
      have HS : Hid (zsum 3 K N (t + 1) = zsum 3 K N t + (W 3 K t N : Int)) := Lib.hid rfl
      generalize (W 3 K t N : Int) = z at *
      have h5 : 0 ≤ zsum 3 K N (t + 1) := by rw [HS.out]; omega
      have h6 : zsum 3 K N (t + 1) ≤ 1000000000000000000 * ((t + 1 : Nat) : Int) := by rw [HS.out]; push_cast; omega
      have H5 := Lib.hid h5
      have H6 := Lib.hid h6
      clear h5 h6
      go_wp2
      go_roundw
      case rel => exact ⟨t + 1, by omega, by go_num, by rw [HS.out], H5.out, H6.out, by first | trivial | rfl⟩
      case measure => simp [intOf]; omega
    · obtain rfl : t = 4 := by omega
      have HE := Lib.hid (zsum_four 3 K N)
      go_wp2
      go_ret2
      rw [← HE.out]
      exact ⟨rfl, hb0.trans (hb.mono hb0.size)⟩
end Go.Proofs.YtegbikakfckehaaDoor
