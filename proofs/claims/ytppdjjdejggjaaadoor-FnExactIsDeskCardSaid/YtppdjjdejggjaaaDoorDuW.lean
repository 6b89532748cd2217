/- Chapter 7: the program's changes of texts: turned, mirrored, other dots, borders. -/
import Derived.Test.YtppdjjdejggjaaaDoorDuV
namespace Go.Proofs.YtppdjjdejggjaaaDoor
open Go.ChangeShapes Go.WideShapes Go.ChangeAt Go.RowKit Go.Maps

theorem readPicture_yes (s : ByteArray) (w : World) (hs : s.size ≤ 2000000) (hM : MaxL w) (hp : isPic s.data.toList = true) :
    Calls Tryd.prog 30 #[.string s] w fun e w' => (∃ c, e = .returned (.tuple #[.agg #[.int .i64 (pW s.data.toList : Int), .int .i64 (pH s.data.toList : Int), .map (some c)], .bool true]) ∧ w.heap.size ≤ c ∧ Ds w' c (gS (pW s.data.toList) (pH s.data.toList) (pD s.data.toList))) ∧ Below w.heap.size w w' :=
  (readPicture_any s w hs hM).mono fun e w' h => by
    obtain ⟨h1 | h1, hb⟩ := h
    · exact ⟨h1.2, hb⟩
    · rw [hp] at h1; cases h1.1
theorem readPicture_no (s : ByteArray) (w : World) (hs : s.size ≤ 2000000) (hM : MaxL w) (hp : isPic s.data.toList = false) :
    Calls Tryd.prog 30 #[.string s] w fun e w' => e = .returned (.tuple #[.agg #[.int .i64 0, .int .i64 0, .map none], .bool false]) ∧ Below w.heap.size w w' :=
  (readPicture_any s w hs hM).mono fun e w' h => by
    obtain ⟨h1 | h1, hb⟩ := h
    · rw [hp] at h1; cases h1.1
    · exact ⟨h1.2, hb⟩
end Go.Proofs.YtppdjjdejggjaaaDoor
