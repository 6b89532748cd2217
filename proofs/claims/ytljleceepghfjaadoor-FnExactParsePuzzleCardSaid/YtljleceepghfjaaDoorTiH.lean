/- Chapter 9: a puzzle's text, read by the specification: texts that fail at once. -/
import Derived.Test.YtljleceepghfjaaDoorTiG
import Derived.Test.YtljleceepghfjaaDoorTgH
namespace Go.Proofs.YtljleceepghfjaaDoor
open Go.ChangeShapes Go.WideShapes Go.ChangeAt Go.RowKit

set_option maxRecDepth 4000 in
set_option maxHeartbeats 1600000 in
theorem spec_ParsePuzzle_early (s : ByteArray) (w : World) (hs : s.size ≤ 1048576) (h : 80 < s.size ∨ (parts s.data.toList 58).length ≠ 2) :
    Calls Tryd.prog 4 #[.string s] w (ResZ false 0 [] w) := by
  have rm := Rm.new w 24
  have b0 : Below w.heap.size w (w.alloc (.cells #[.int .i64 0, .slice none 0 0] 24)) := (Below.refl _ _).alloc (Nat.le_refl _) _
  have z0 : (w.alloc (.cells #[.int .i64 0, .slice none 0 0] 24)).heap.size = w.heap.size + 1 := by simp
  have HS := Lib.hid fun W => l1Split_58 s W hs
  have HB0 := Lib.hid b0
  have HR0 := Lib.hid rm
  have HZ0 := Lib.hid z0
  clear rm b0 z0
  generalize parts s.data.toList 58 = P at *
  by_cases h8 : 80 < s.size
  · have h8i : (80 : Int) < (s.size : Int) := by omega
    clear h
    go_enter Tryd.func4, Tryd.ntmps4
    go_wp2_with (go_at_call 9; refine (HS.out _).mono ?_; rintro e w1 ⟨⟨A, c, rfl, _⟩, b1⟩; have HB1 := Lib.hid (HB0.out.trans (b1.mono HB0.out.size)); obtain ⟨r0, r1, f0, f1⟩ := HR0.out.below b1 (by rw [HZ0.out]; exact Nat.le_refl _); clear b1)
    have HB := Lib.hid (set2_below9 HB1.out (Nat.le_refl w.heap.size) (.int .i64 0) (.slice none 0 0))
    exact bodyPost_ret (v := .tuple #[.agg #[.int .i64 0, .slice none 0 0], .bool false]) (by simp [results, Tryd.results4, go_sem, r0, r1]) rfl ⟨none, 0, rfl, Own.none_, HB.out⟩
  · have h8i : ¬ (80 : Int) < (s.size : Int) := by omega
    have hp := h.resolve_left h8
    have hpn : ((P.length : Int) != 2) = true := by simp; omega
    have hpi : ¬ ((P.length : Int) = 2) := by omega
    clear h hp
    go_enter Tryd.func4, Tryd.ntmps4
    go_wp2_with (go_at_call 9; refine (HS.out _).mono ?_; rintro e w1 ⟨⟨A, c, rfl, _⟩, b1⟩; have HB1 := Lib.hid (HB0.out.trans (b1.mono HB0.out.size)); obtain ⟨r0, r1, f0, f1⟩ := HR0.out.below b1 (by rw [HZ0.out]; exact Nat.le_refl _); clear b1)
    have HB := Lib.hid (set2_below9 HB1.out (Nat.le_refl w.heap.size) (.int .i64 0) (.slice none 0 0))
    exact bodyPost_ret (v := .tuple #[.agg #[.int .i64 0, .slice none 0 0], .bool false]) (by simp [results, Tryd.results4, go_sem, r0, r1]) rfl ⟨none, 0, rfl, Own.none_, HB.out⟩
end Go.Proofs.YtljleceepghfjaaDoor
