/- Chapter 6: the frame of the law WindowOf. -/
import Derived.Test.YthnjjpiofgbngaaSiA
import Derived.Test.YthnjjpiofgbngaaOwL
import Derived.BigRegion
namespace Go.Proofs.Ythnjjpiofgbngaa
open Go.ChangeShapes Go.WideShapes Go.ChangeAt Go.RowKit

set_option maxHeartbeats 1600000 in
theorem lawL_WindowOf (x y wd hg : Int) (ok : Bool) (xss : List (List Int)) (hl : xss.length ≤ 1000000000) (hp : pre (rowsOf xss) xss.length ≤ 1000000000)
    (hs : ∀ w : World, Calls Try.prog 41 #[.agg #[.int .i64 x, .int .i64 y], .int .i64 wd, .int .i64 hg] w (ResSS ok xss w))
    (hi : ∀ w : World, Calls Try.prog 42 #[.agg #[.int .i64 x, .int .i64 y], .int .i64 wd, .int .i64 hg] w (ResSS ok xss w)) (w : World) :
    Calls Try.prog 11 #[.agg #[.int .i64 x, .int .i64 y], .int .i64 wd, .int .i64 hg] w fun e w' => e = .returned (.bool true) ∧ Below w.heap.size w w' := by
  have HS := Lib.hid hs
  have HI := Lib.hid hi
  clear hs hi
  obtain ⟨n, hn⟩ : ∃ n, n = xss.length := ⟨_, rfl⟩
  have HN := Lib.hid hn.symm
  rw [← hn] at hl hp
  clear hn
  have HP := Lib.hid hp
  obtain ⟨F, hF⟩ : ∃ F, F = rowsOf xss := ⟨_, rfl⟩
  rw [← hF] at HP
  have HF := Lib.hid hF.symm
  clear hp hF
  go_enter Try.func11, Try.ntmps11
  go_wp2_with fail
  have c0 : (w.alloc (.cells #[.int .i64 x, .int .i64 y] 28)).cell? ⟨w.heap.size, 0, none⟩ = some (.int .i64 x) := by simp [go_sem]
  have c1 : (w.alloc (.cells #[.int .i64 x, .int .i64 y] 28)).cell? ⟨w.heap.size, 1, none⟩ = some (.int .i64 y) := by simp [go_sem]
  have hz : w.heap.size < (w.alloc (.cells #[.int .i64 x, .int .i64 y] 28)).heap.size := by simp
  have hb : Below w.heap.size w (w.alloc (.cells #[.int .i64 x, .int .i64 y] 28)) := (Below.refl _ _).alloc (Nat.le_refl _) _
  generalize (w.alloc (.cells #[.int .i64 x, .int .i64 y] 28)) = W at *
  obtain ⟨R, hR⟩ : ∃ R, R = w.heap.size := ⟨_, rfl⟩
  rw [← hR] at c0 c1 hz ⊢
  have HR := Lib.hid hR
  clear hR
  refine (toSpot_any x y W).mono ?_
  rintro e v1 ⟨rfl, bv1⟩
  go_wp2_with fail
  refine (HS.out _).mono ?_
  rintro e w1 ⟨A1, c1', Af1, cf1, rfl, o1, b1⟩
  rw [HN.out]
  rw [HF.out, HN.out] at o1
  have B1 : Below W.heap.size W w1 := bv1.trans (b1.mono bv1.size)
  have d0 := (B1.cell (p := ⟨R, 0, none⟩) hz).trans c0
  have d1 := (B1.cell (p := ⟨R, 1, none⟩) hz).trans c1
  go_wp2_with fail
  refine (toSpot_any x y w1).mono ?_
  rintro e v2 ⟨rfl, bv2⟩
  go_wp2_with fail
  refine (HI.out _).mono ?_
  rintro e w2 ⟨A2, c2, Af2, cf2, rfl, o2, b2⟩
  rw [HN.out]
  rw [HF.out, HN.out] at o2
  have b12 : Below w1.heap.size w1 w2 := bv2.trans (b2.mono bv2.size)
  have o1a : OwnL w2 v1.heap.size w1.heap.size A1 n F Af1 cf1 := o1.below b12 (Nat.le_refl _)
  clear o1 d0 d1
  go_wp2_with fail
  refine (eqIntSS_same A2 A1 n c2 c1' _ _ _ _ F _ _ _ _ _ hl HP.out o2 o1a).mono ?_
  rintro e w3 ⟨rfl, q3, rfl⟩
  go_wp2_with fail
  refine (markIntSS_any A2 n c2 _ _ F _ _ 1 _ hl HP.out (by omega) (by omega) (Nat.le_refl _) (o2.drewN _)).mono ?_
  rintro e w4 ⟨rfl, o3, b4⟩
  have o1b : OwnL w4 v1.heap.size w1.heap.size A1 n F Af1 cf1 := (o1a.drewN _).below b4 bv2.size
  clear o1a o2
  go_wp2_with fail
  refine (heldIntSS_any A2 n c2 _ _ F _ _ 1 _ hl HP.out (by omega) (by omega) o3).mono ?_
  rintro e w5 ⟨rfl, rfl⟩
  have B4 : Below W.heap.size W w4 := (below_drewN (B1.trans (b12.mono B1.size)) q3).trans (b4.mono (Nat.le_trans B1.size bv2.size))
  have d0 := (B4.cell (p := ⟨R, 0, none⟩) hz).trans c0
  have d1 := (B4.cell (p := ⟨R, 1, none⟩) hz).trans c1
  go_wp2_with fail
  refine (toSpot_any x y w4).mono ?_
  rintro e v6 ⟨rfl, bv6⟩
  clear d0 d1
  go_wp2_with fail
  refine (HI.out _).mono ?_
  rintro e w6 ⟨A6, c6, Af6, cf6, rfl, o6, b6⟩
  rw [HN.out]
  rw [HF.out, HN.out] at o6
  have b46 : Below w4.heap.size w4 w6 := bv6.trans (b6.mono bv6.size)
  have o1c : OwnL w6 v1.heap.size w1.heap.size A1 n F Af1 cf1 := o1b.below b46 (Nat.le_trans b12.size b4.size)
  have o3c : OwnL w6 v2.heap.size w2.heap.size A2 n (mixL F 1 n) Af2 cf2 := o3.below b46 b4.size
  clear o1b o3
  go_wp2_with fail
  refine (eqIntSS_same A6 A1 n c6 c1' _ _ _ _ F _ _ _ _ _ hl HP.out o6 o1c).mono ?_
  rintro e w7 ⟨rfl, q7, rfl⟩
  go_wp2_with fail
  refine (heldIntSS_any A2 n c2 _ _ F _ _ 1 _ hl HP.out (by omega) (by omega) (o3c.drewN _)).mono ?_
  rintro e w8 ⟨rfl, rfl⟩
  go_wp2
  go_ret
  exact ⟨rfl, below_drewN (hb.trans ((B4.trans (b46.mono B4.size)).mono hb.size)) _⟩
end Go.Proofs.Ythnjjpiofgbngaa
