/- Chapter 9: ParsePuzzle by the program, whatever the text. -/
import Derived.Test.YtljleceepghfjaaDoorTjE
namespace Go.Proofs.YtljleceepghfjaaDoor
open Go.ChangeShapes Go.WideShapes Go.ChangeAt Go.RowKit

theorem readNumber_any (l : List UInt8) (w : World) (hl : l.length ≤ 1048576) (h : Lib9 w) : Calls Tryd.prog 13 #[.string (bt l)] w fun e w' => e = .returned (.int .i64 (rdA l)) ∧ Below w.heap.size w w' :=
  readNumber_at (bt l) (rdA l) w (rdA_any l w hl h)
theorem pzR_ba (m : Int) (cs : List Clu) : pzR m cs cs.length = bt (pzL m cs) := by
  rw [← pzR_list]
  exact (ba_bt _).symm
theorem impl_ParsePuzzle_some (s : ByteArray) (m : Int) (cs : List Clu) (w : World) (hs : s.size ≤ 1048576) (hL : Lib9 w) (h : rdP s.data.toList = some (m, cs)) :
    Calls Tryd.prog 5 #[.string s] w (ResZ true m cs w) := by
  obtain ⟨hok, ht⟩ := rdP_some h
  obtain ⟨⟨m1, m5⟩, h6, ha⟩ := okp9_parts hok
  have hsz : s.data.toList.length = s.size := by simp
  have hcut : Lib.cut s.data.toList [58] = (dL m, joinP 44 (cs.map clL), true) := by rw [ht]; exact cut_pz m cs
  have hln := cut_len s.data.toList 58
  rw [hcut] at hln
  simp only at hln
  have hv : rdA (dL m) = m := rdA_dL (by omega) (by omega)
  have hc : rdL (joinP 44 (cs.map clL)) = cs := rdL_text ha h6
  refine impl_ParsePuzzle_yes s (bt (dL m)) (bt (joinP 44 (cs.map clL))) m cs cs.length w hL.1 rfl (fun W hW => ?_) (fun W hW => ?_) (fun W hW => ?_) hok ?_
  · have := cut_any9 s 58 W hs (hL.below hW)
    rw [hcut] at this
    exact this
  · have := readNumber_any (dL m) W (by have := hln.1; omega) (hL.below hW)
    rw [hv] at this
    exact this
  · have := rdL_any (joinP 44 (cs.map clL)) W (by have := hln.2; omega) (hL.below hW)
    rw [hc] at this
    exact this
  · rw [pzR_ba, ← ht, ba_bt]
theorem impl_ParsePuzzle_none (s : ByteArray) (w : World) (hs : s.size ≤ 1048576) (hL : Lib9 w) (h : rdP s.data.toList = none) :
    Calls Tryd.prog 5 #[.string s] w (ResZ false 0 [] w) := by
  have hsz : s.data.toList.length = s.size := by simp
  have hln := cut_len s.data.toList 58
  have hl7 := rdL_len (Lib.cut s.data.toList [58]).2.1
  refine impl_ParsePuzzle_no s (bt (Lib.cut s.data.toList [58]).1) (bt (Lib.cut s.data.toList [58]).2.1) (rdA (Lib.cut s.data.toList [58]).1) (rdL (Lib.cut s.data.toList [58]).2.1) _ w hL.1 rfl
    (fun W hW => cut_any9 s 58 W hs (hL.below hW)) (fun W hW => readNumber_any _ W (by omega) (hL.below hW)) (fun W hW => rdL_any _ W (by omega) (hL.below hW)) (by omega) ?_
  cases hok : okp9 (rdA (Lib.cut s.data.toList [58]).1) (rdL (Lib.cut s.data.toList [58]).2.1) with
  | false => exact .inl rfl
  | true =>
    refine .inr ⟨rfl, fun e => ?_⟩
    rw [pzR_ba] at e
    have e2 := congrArg (fun x : ByteArray => x.data.toList) e
    rw [bt_list] at e2
    have := rdP_text hok
    rw [e2, h] at this
    cases this
end Go.Proofs.YtljleceepghfjaaDoor
