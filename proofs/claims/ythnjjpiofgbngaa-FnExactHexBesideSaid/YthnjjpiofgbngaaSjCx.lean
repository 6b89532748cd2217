/- Chapter 6: the program's sides: neighbours in the hexagon spiral. -/
import Derived.Test.YthnjjpiofgbngaaSjB
import Derived.Test.YthnjjpiofgbngaaSiP
namespace Go.Proofs.Ythnjjpiofgbngaa
open Go.ChangeShapes Go.WideShapes Go.ChangeAt Go.RowKit

set_option maxHeartbeats 800000 in
theorem impl_HexBeside_yes (n : Int) (w : World) (h0 : 0 ≤ n) (h1 : n ≤ 1000000) :
    Calls Try.prog 53 #[.int .i64 n] w (ResI true (hbe (hp n).1 (hp n).2 6) w) := by
  have HA := Lib.hid (betr_yes h0 h1)
  obtain ⟨b0, b1, b2, b3⟩ := hp_600 n h0 (by omega)
  have HV : Hid (∀ (R lo hi : Nat) (W : World), Own W lo hi (some ⟨R, 0, none⟩) (prs hxK.ss) → hi ≤ W.heap.size → Calls Try.prog 79 #[.agg #[.slice (some ⟨R, 0, none⟩) 6 6, .int .i64 1, .func (.func 90) #[] #[]], .int .i64 n] W fun e w' => (∃ A c, e = .returned (.slice A 6 c) ∧ Own w' W.heap.size w'.heap.size A (i64s (hbe (hp n).1 (hp n).2 6))) ∧ Below W.heap.size W w') := Lib.hid fun R lo hi W h hh => by
    have e : hbe (hp n).1 (hp n).2 6 = rl (fun j => hn ((hp n).1 + (hxK.st j).1) ((hp n).2 + (hxK.st j).2)) 6 := by rfl
    rw [e]
    have hs := hx_sp h hh
    refine numbersBeside_any hxK R _ 6 1 6 n _ _ _ W lo hi hs (by omega) (by omega) (by omega) (by omega) (fun W2 hW => hxVec _ (h.below hW hh) (Nat.le_trans hh hW.size) n h0 (by omega)) fun j W2 hj hW => ?_
    obtain ⟨s0, s1, s2, s3⟩ := hs.good.st j
    exact hxNum (h.below hW hh) (Nat.le_trans hh hW.size) _ _ (by omega) (by omega) (by omega) (by omega)
  have HLN : Hid ((hbe (hp n).1 (hp n).2 6).length = 6) := Lib.hid (by rfl)
  clear h0 h1 b0 b1 b2 b3
  generalize hbe (hp n).1 (hp n).2 6 = xs at *
  have HB := Lib.hid (Below.refl w.heap.size w)
  go_enter Try.func53, Try.ntmps53
  go_wp2_with (first
    | (go_at_call 64; refine (isOn_any _ _).mono ?_; rw [HA.out]; rintro e w' ⟨rfl, rfl⟩)
    | (go_at_call 86; refine (hexagonSpiral_any _).mono ?_; rintro e w1 ⟨⟨R, rfl, hO⟩, hb1⟩; have HO := Lib.hid hO; have HB := Lib.hid (HB.out.trans (hb1.mono HB.out.size)); clear hO hb1)
    | (go_at_call 79; refine (HV.out _ _ _ _ HO.out (Nat.le_refl _)).mono ?_; rintro e w2 ⟨⟨A, c, rfl, hO2⟩, hb2⟩; have HR := Lib.hid hO2; have HB2 := Lib.hid (HB.out.trans (hb2.mono HB.out.size)); have HZ := Lib.hid HB.out.size; clear hO2 hb2))
  go_ret2
  exact ⟨A, c, by rw [HLN.out]; rfl, HR.out.wide HZ.out (Nat.le_refl _), HB2.out⟩
end Go.Proofs.Ythnjjpiofgbngaa
