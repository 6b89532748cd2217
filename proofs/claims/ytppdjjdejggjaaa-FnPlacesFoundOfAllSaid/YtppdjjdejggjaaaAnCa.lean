/- The law FnPlacesFoundOfAll, walked: whatever the arguments it answers true. No condition. -/
import Derived.Test.YtppdjjdejggjaaaBase
import Derived.Test.YtppdjjdejggjaaaAnA
import Derived.Test.YtppdjjdejggjaaaAnB
import Derived.Test.YtppdjjdejggjaaaAnC
import Derived.Lib.Hide
import Derived.Deep.Cut
namespace Go.Proofs.Ytppdjjdejggjaaa
open Go.ChangeShapes Go.WideShapes Go.ChangeAt Go.RowKit


set_option maxRecDepth 4000 in
set_option maxHeartbeats 8000000 in
theorem places_no (s n s2 k r : Int) (w : World) (ht : tsB s n = false) :
    Calls Try.prog 4 #[.int .i64 s, .int .i64 n, .int .i64 s2, .int .i64 k, .int .i64 r] w fun e w' => e = .returned (.bool true) ∧ Below w.heap.size w w' := by
  have HB : Below w.heap.size w w := Below.refl _ _
  have hp : poB s n = false := by simp [poB, ht]
  have hw : wdB s n = false := by simp [wdB, ht]
  go_enter Try.func4, Try.ntmps4
  go_upto_region 13 with (first
        | (go_at_call 17; refine (impl_PlaceOf_any _ _ _).mono ?_; rintro e w1 ⟨rfl, hb1⟩; replace HB := HB.trans (hb1.mono HB.size); clear hb1)
        | (go_at_call 18; refine (spec_PlaceOf_any _ _ _).mono ?_; rintro e w' ⟨rfl, rfl⟩)
        | (go_at_call 19; refine (impl_IsPolygonal_any _ _ _).mono ?_; rintro e w1 ⟨rfl, hb1⟩; replace HB := HB.trans (hb1.mono HB.size); clear hb1)
        | (go_at_call 20; refine (spec_IsPolygonal_any _ _ _).mono ?_; rintro e w' ⟨rfl, rfl⟩)
        | (go_at_call 21; refine (impl_NextPolygonal_any _ _ _).mono ?_; rintro e w1 ⟨rfl, hb1⟩; replace HB := HB.trans (hb1.mono HB.size); clear hb1)
        | (go_at_call 22; refine (spec_NextPolygonal_any _ _ _).mono ?_; rintro e w' ⟨rfl, rfl⟩)
        | (go_at_call 23; refine (impl_CountUpTo_any _ _ _).mono ?_; rintro e w1 ⟨rfl, hb1⟩; replace HB := HB.trans (hb1.mono HB.size); clear hb1)
        | (go_at_call 24; refine (spec_CountUpTo_any _ _ _).mono ?_; rintro e w' ⟨rfl, rfl⟩)
        | (go_at_call 25; refine (impl_SquareTest_any _ _ _).mono ?_; rintro e w1 ⟨rfl, hb1⟩; replace HB := HB.trans (hb1.mono HB.size); clear hb1)
        | (go_at_call 26; refine (spec_SquareTest_any _ _ _).mono ?_; rintro e w' ⟨rfl, rfl⟩)
        | (go_at_call 27; refine (impl_WidePlace_any _ _ _).mono ?_; rintro e w1 ⟨rfl, hb1⟩; replace HB := HB.trans (hb1.mono HB.size); clear hb1)
        | (go_at_call 28; refine (spec_WidePlace_any _ _ _).mono ?_; rintro e w' ⟨rfl, rfl⟩))
  simp only [List.append]
  go_wp2_with (fail)
  rcases Bool.eq_false_or_eq_true (gnB s2 k) with hg | hg
  case' inl => obtain ⟨g1, g2, g3, g4, g5, g6, g7, g8, g9, g10, g11, g12, g13, g14, g15, g16, g17⟩ := gnm_of hg
  all_goals
    go_wp2_with (first
        | (go_at_call 33; refine (impl_GnomonOf_any _ _ _).mono ?_; rintro e w1 ⟨rfl, hb1⟩; replace HB := HB.trans (hb1.mono HB.size); clear hb1)
        | (go_at_call 34; refine (spec_GnomonOf_any _ _ _).mono ?_; rintro e w' ⟨rfl, rfl⟩)
        | (go_at_call 30; refine (impl_PolygonNumber_any _ _ _).mono ?_; rintro e w1 ⟨rfl, hb1⟩; replace HB := HB.trans (hb1.mono HB.size); clear hb1)
        | (go_at_call 35; refine (spec_PolygonNumber_any _ _ _).mono ?_; rintro e w' ⟨rfl, rfl⟩)
        | (go_at_call 17; refine (impl_PlaceOf_any _ _ _).mono ?_; rintro e w1 ⟨rfl, hb1⟩; replace HB := HB.trans (hb1.mono HB.size); clear hb1))
    rcases Bool.eq_false_or_eq_true (rtB r) with hr | hr
    case' inl => obtain ⟨r1, r2, r3, r4, r5, r6, r7, r8⟩ := rtd_of hr
    all_goals
      go_wp2_with (first
        | (go_at_call 29; refine (impl_RootOf_any _ _).mono ?_; rintro e w1 ⟨rfl, hb1⟩; replace HB := HB.trans (hb1.mono HB.size); clear hb1)
        | (go_at_call 36; refine (spec_RootOf_any _ _).mono ?_; rintro e w' ⟨rfl, rfl⟩))
      go_ret
      exact ⟨rfl, HB⟩

end Go.Proofs.Ytppdjjdejggjaaa
