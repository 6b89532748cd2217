/- Chapter 6: the program's sides: spots and rings of the hexagon spiral. -/
import Derived.Test.YthnjjpiofgbngaaSjB
import Derived.Test.YthnjjpiofgbngaaSiO
namespace Go.Proofs.Ythnjjpiofgbngaa
open Go.ChangeShapes Go.WideShapes Go.ChangeAt Go.RowKit

set_option maxHeartbeats 800000 in
theorem impl_HexSpotOf_yes (n : Int) (w : World) (h0 : 0 ≤ n) (h1 : n ≤ 1000000) :
    Calls Try.prog 47 #[.int .i64 n] w fun e w' => e = .returned (.tuple #[.agg #[.int .i64 (hp n).1, .int .i64 (hp n).2], .bool true]) ∧ Below w.heap.size w w' := by
  have HA := Lib.hid (betr_yes h0 h1)
  have HV : Hid (∀ (R lo hi : Nat) (W : World), Own W lo hi (some ⟨R, 0, none⟩) (prs hxK.ss) → hi ≤ W.heap.size → Calls Try.prog 66 #[.agg #[.slice (some ⟨R, 0, none⟩) 6 6, .int .i64 1, .func (.func 90) #[] #[]], .int .i64 n] W fun e w' => e = .returned (.agg #[.int .i64 (hp n).1, .int .i64 (hp n).2]) ∧ Below W.heap.size W w') := Lib.hid fun R lo hi W h hh => hxVec _ h hh n h0 (by omega)
  generalize (hp n).1 = x at *
  generalize (hp n).2 = y at *
  clear h0 h1
  have HB : Hid (Below w.heap.size w (w.alloc (.cells #[.int .i64 0, .int .i64 0] 23))) := Lib.hid ((Below.refl _ _).alloc (Nat.le_refl _) _)
  have HP := Lib.hid (boxw_new w (.int .i64 0) (.int .i64 0) 23)
  go_enter Try.func47, Try.ntmps47
  go_wp2_with (first
    | (go_at_call 64; refine (isOn_any _ _).mono ?_; rw [HA.out]; rintro e w' ⟨rfl, rfl⟩)
    | (go_at_call 86; refine (hexagonSpiral_any _).mono ?_; rintro e w1 ⟨⟨R, rfl, hO⟩, hb1⟩; have HO := Lib.hid hO; have HP := Lib.hid (HP.out.below hb1); have HB := Lib.hid (HB.out.trans (hb1.mono HB.out.size)); clear hO hb1)
    | (go_at_call 66; refine (HV.out _ _ _ _ HO.out (Nat.le_refl _)).mono ?_; rintro e w2 ⟨rfl, hb2⟩; have HP := Lib.hid (HP.out.below hb2); have HB := Lib.hid (HB.out.trans (hb2.mono HB.out.size)); clear hb2)
    | (go_at_call 67; refine (vspot_any _ _ _).mono ?_; rintro e w3 ⟨rfl, hb3⟩; have HP := Lib.hid (HP.out.below hb3); have HB := Lib.hid (HB.out.trans (hb3.mono HB.out.size)); have c0 := HP.out.c0; have f0 := HP.out.f0; have c1 := HP.out.c1; have f1 := HP.out.f1; clear hb3))
  obtain ⟨d0, d1⟩ := put2 c0 c1 (.int .i64 x) (.int .i64 y)
  have hB5 : Below w.heap.size w ((w3.setCell ⟨w.heap.size, 0, none⟩ (.int .i64 x)).setCell ⟨w.heap.size, 1, none⟩ (.int .i64 y)) := (HB.out.setCell (Nat.le_refl _) _).setCell (Nat.le_refl _) _
  generalize ((w3.setCell ⟨w.heap.size, 0, none⟩ (.int .i64 x)).setCell ⟨w.heap.size, 1, none⟩ (.int .i64 y)) = wE at *
  exact bodyPost_ret (v := .tuple #[.agg #[.int .i64 x, .int .i64 y], .bool true]) (by simp [results, Try.results47, go_sem, d0, d1]) rfl ⟨rfl, hB5⟩
theorem impl_HexRingOf_yes (n : Int) (w : World) (h0 : 0 ≤ n) (h1 : n ≤ 1000000) :
    Calls Try.prog 51 #[.int .i64 n] w fun e w' => e = .returned (.tuple #[.int .i64 (hx n), .bool true]) ∧ Below w.heap.size w w' := by
  have HA := Lib.hid (betr_yes h0 h1)
  have HV : Hid (∀ (R : Nat) (W : World), Calls Try.prog 74 #[.agg #[.slice (some ⟨R, 0, none⟩) 6 6, .int .i64 1, .func (.func 90) #[] #[]], .int .i64 n] W fun e w' => e = .returned (.int .i64 (hx n)) ∧ Below W.heap.size W w') := Lib.hid fun R W =>
    ringOf_any R _ 6 1 6 n _ _ W (by decide) (by omega) (by omega) (hx_fits n h0 (by omega))
  clear h0 h1
  generalize hx n = r at *
  have HB := Lib.hid (Below.refl w.heap.size w)
  go_enter Try.func51, Try.ntmps51
  go_wp2_with (first
    | (go_at_call 64; refine (isOn_any _ _).mono ?_; rw [HA.out]; rintro e w' ⟨rfl, rfl⟩)
    | (go_at_call 86; refine (hexagonSpiral_any _).mono ?_; rintro e w1 ⟨⟨R, rfl, hO⟩, hb1⟩; have HO := Lib.hid hO; have HB := Lib.hid (HB.out.trans (hb1.mono HB.out.size)); clear hO hb1)
    | (go_at_call 74; refine (HV.out _ _).mono ?_; rintro e w2 ⟨rfl, hb2⟩; have HB := Lib.hid (HB.out.trans (hb2.mono HB.out.size)); clear hb2))
  go_ret2
  exact ⟨rfl, HB.out⟩
end Go.Proofs.Ythnjjpiofgbngaa
