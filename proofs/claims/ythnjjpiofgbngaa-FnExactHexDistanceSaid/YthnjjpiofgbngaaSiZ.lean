/- Chapter 6: the way between two numbers, by the program. -/
import Derived.Test.YthnjjpiofgbngaaSiY
namespace Go.Proofs.Ythnjjpiofgbngaa
open Go.ChangeShapes Go.WideShapes Go.ChangeAt Go.RowKit

set_option maxRecDepth 4000 in
set_option maxHeartbeats 1600000 in
theorem wayBetween_any (K : Kd) (R F m : Nat) (u s a ra ba la xa ya b rb bb lb xb yb : Int) (V : Int → Int) (w : World) (lo hi : Nat) (hA : At K R m u s a ra ba la xa ya V w lo hi) (hB : At K R m u s b rb bb lb xb yb V w lo hi)
    (xa0 : -100000 ≤ xa ∧ xa ≤ 100000) (ya0 : -100000 ≤ ya ∧ ya ≤ 100000) (xb0 : -100000 ≤ xb ∧ xb ≤ 100000) (yb0 : -100000 ≤ yb ∧ yb ≤ 100000) :
    Calls Try.prog 78 #[.agg #[.slice (some ⟨R, 0, none⟩) m m, .int .i64 u, .func (.func F) #[] #[]], .int .i64 a, .int .i64 b] w fun e w' => e = .returned (.agg #[.int .i64 (xb - xa), .int .i64 (yb - ya)]) ∧ Below w.heap.size w w' := by
  have HVA : Hid (∀ W : World, Below w.heap.size w W → Calls Try.prog 66 #[.agg #[.slice (some ⟨R, 0, none⟩) m m, .int .i64 u, .func (.func F) #[] #[]], .int .i64 a] W fun e w' => e = .returned (.agg #[.int .i64 xa, .int .i64 ya]) ∧ Below W.heap.size W w') := Lib.hid fun W hW => vectorOf_any K R F m u s a ra ba la xa ya V W lo hi (hA.below hW)
  have HVB : Hid (∀ W : World, Below w.heap.size w W → Calls Try.prog 66 #[.agg #[.slice (some ⟨R, 0, none⟩) m m, .int .i64 u, .func (.func F) #[] #[]], .int .i64 b] W fun e w' => e = .returned (.agg #[.int .i64 xb, .int .i64 yb]) ∧ Below W.heap.size W w') := Lib.hid fun W hW => vectorOf_any K R F m u s b rb bb lb xb yb V W lo hi (hB.below hW)
  have HWT := Lib.hid fun W => wayTo_any xa ya xb yb W (by omega) (by omega) (by omega) (by omega) (by omega) (by omega) (by omega) (by omega)
  clear hA hB xa0 ya0 xb0 yb0
  go_enter Try.func78, Try.ntmps78
  go_upto_region 1 with fail
  have hB := bl2 w (.cells #[.slice (some ⟨R, 0, none⟩) m m, .int .i64 u, .func (.func F) #[] #[]] 57) (.cells #[.int .i64 0, .int .i64 0] 53)
  have hT := (box3_new w (.slice (some ⟨R, 0, none⟩) m m) (.int .i64 u) (.func (.func F) #[] #[]) 57).alloc (.cells #[.int .i64 0, .int .i64 0] 53)
  have hP := boxw_new (w.alloc (.cells #[.slice (some ⟨R, 0, none⟩) m m, .int .i64 u, .func (.func F) #[] #[]] 57)) (.int .i64 0) (.int .i64 0) 53
  rw [show (w.alloc (.cells #[.slice (some ⟨R, 0, none⟩) m m, .int .i64 u, .func (.func F) #[] #[]] 57)).heap.size = w.heap.size + 1 by simp] at hP
  generalize (w.alloc (.cells #[.slice (some ⟨R, 0, none⟩) m m, .int .i64 u, .func (.func F) #[] #[]] 57)).alloc (.cells #[.int .i64 0, .int .i64 0] 53) = wb at *
  have HB := Lib.hid hB
  have HT := Lib.hid hT
  have HP := Lib.hid hP
  have HN : Hid (w.heap.size ≠ w.heap.size + 1) := Lib.hid (by omega)
  clear hB hT hP
  go_region_held3 (fun w' => w'.cell? ⟨w.heap.size, 0, none⟩ = some (.slice (some ⟨R, 0, none⟩) m m) ∧ w'.cell? ⟨w.heap.size, 1, none⟩ = some (.int .i64 u) ∧ w'.cell? ⟨w.heap.size, 2, none⟩ = some (.func (.func F) #[] #[]))
    (first | with_reducible exact HT.out.all | with_reducible exact HT.out.drew.all | with_reducible exact ((HT.out.put HN.out).put HN.out).all)
    (first
      | (go_at_call_of 66 a; refine (HVA.out _ (by first | with_reducible exact HB.out.drew | with_reducible exact HB.out)).mono ?_; rintro e w1 ⟨rfl, hb1⟩; have HT := Lib.hid (show Box3 w1 _ _ _ _ from (by first | with_reducible exact HT.out.drew.below hb1 | with_reducible exact HT.out.below hb1)); have HP := Lib.hid (show BoxW w1 _ _ _ from (by first | with_reducible exact HP.out.drew.below hb1 | with_reducible exact HP.out.below hb1)); have HB := Lib.hid (show Below _ w w1 from (by first | with_reducible exact HB.out.drew.trans (hb1.mono HB.out.drew.size) | with_reducible exact HB.out.trans (hb1.mono HB.out.size))); clear hb1)
      | (go_at_call_of 66 b; refine (HVB.out _ (by first | with_reducible exact HB.out.drew | with_reducible exact HB.out)).mono ?_; rintro e w2 ⟨rfl, hb2⟩; have HT := Lib.hid (show Box3 w2 _ _ _ _ from (by first | with_reducible exact HT.out.drew.below hb2 | with_reducible exact HT.out.below hb2)); have HP := Lib.hid (show BoxW w2 _ _ _ from (by first | with_reducible exact HP.out.drew.below hb2 | with_reducible exact HP.out.below hb2)); have HB := Lib.hid (show Below _ w w2 from (by first | with_reducible exact HB.out.drew.trans (hb2.mono HB.out.drew.size) | with_reducible exact HB.out.trans (hb2.mono HB.out.size))); clear hb2)
      | (go_at_call 104; refine (HWT.out _).mono ?_; rintro e w3 ⟨rfl, hb3⟩; have HT := Lib.hid (HT.out.below hb3); have HP := Lib.hid (HP.out.below hb3); have HB := Lib.hid (HB.out.trans (hb3.mono HB.out.size)); have c0 := HP.out.c0; have f0 := HP.out.f0; have c1 := HP.out.c1; have f1 := HP.out.f1; clear hb3))
  obtain ⟨d0, d1⟩ := put2 c0 c1 (.int .i64 (xb - xa)) (.int .i64 (yb - ya))
  have hB5 : Below w.heap.size w ((w3.setCell ⟨w.heap.size + 1, 0, none⟩ (.int .i64 (xb - xa))).setCell ⟨w.heap.size + 1, 1, none⟩ (.int .i64 (yb - ya))) := (HB.out.setCell (by simp) _).setCell (by simp) _
  generalize ((w3.setCell ⟨w.heap.size + 1, 0, none⟩ (.int .i64 (xb - xa))).setCell ⟨w.heap.size + 1, 1, none⟩ (.int .i64 (yb - ya))) = wE at *
  go_wp2
  exact bodyPost_ret (v := .agg #[.int .i64 (xb - xa), .int .i64 (yb - ya)]) (by simp [results, Try.results78, go_sem, d0, d1]) rfl ⟨rfl, hB5⟩
end Go.Proofs.Ythnjjpiofgbngaa
