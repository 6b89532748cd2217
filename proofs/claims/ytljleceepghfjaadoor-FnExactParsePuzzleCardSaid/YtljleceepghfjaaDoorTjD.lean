/- Chapter 9: a puzzle's text, read by the specification: whatever the text. -/
import Derived.Test.YtljleceepghfjaaDoorTjC
namespace Go.Proofs.YtljleceepghfjaaDoor
open Go.ChangeShapes Go.WideShapes Go.ChangeAt Go.RowKit

theorem two_of_len {l : List (List UInt8)} (h : l.length = 2) : ∃ x y, l = [x, y] := by
  match l, h with
  | [x, y], _ => exact ⟨x, y, rfl⟩
/-- What rdP says, once the text has two parts. -/
theorem rdP_two {l : List UInt8} {a b : List UInt8} (h8 : ¬ 80 < l.length) (hp : parts l 58 = [a, b]) :
    rdP l = match (if b = [] then some [] else rdCs (parts b 44)) with
      | some cs => if okp9 (rd9 a) cs = true then some (rd9 a, cs) else none
      | none => none := by
  unfold rdP
  rw [if_neg h8, hp]
  simp only
  generalize (if b = [] then some [] else rdCs (parts b 44)) = r
  cases r <;> rfl
theorem spec_ParsePuzzle_yes (s : ByteArray) (m : Int) (cs : List Clu) (w : World) (h : rdP s.data.toList = some (m, cs)) :
    Calls Tryd.prog 4 #[.string s] w (ResZ true m cs w) := by
  have hsl : s.data.toList.length = s.size := by simp
  have h8 : ¬ 80 < s.data.toList.length := by
    intro h8
    unfold rdP at h
    rw [if_pos h8] at h
    cases h
  have h2 : (parts s.data.toList 58).length = 2 := by
    unfold rdP at h
    rw [if_neg h8] at h
    split at h
    · rename_i a b hp
      rw [hp]
      rfl
    · cases h
  obtain ⟨a, b, hp⟩ := two_of_len h2
  rw [rdP_two h8 hp] at h
  have hla : a.length ≤ 1000000 := by have := parts_bd s.data.toList 58 a (by rw [hp]; simp); omega
  by_cases hb : b = []
  · subst hb
    rw [if_pos rfl] at h
    simp only at h
    split at h
    · rename_i hok
      injection h with h
      injection h with h1 h2
      subst h1 h2
      exact spec_ParsePuzzle_nil s w a (by omega) hla hp true hok
    · cases h
  · rw [if_neg hb] at h
    split at h
    · rename_i cs' hcs
      split at h
      · rename_i hok
        injection h with h
        injection h with h1 h2
        subst h1 h2
        refine spec_ParsePuzzle_clues s w a b (by omega) hp hb true _ _ (fun cs2 hc => ?_) (fun hc => ?_)
        · rw [hcs] at hc
          injection hc with hc
          subst hc
          exact ⟨hok, rfl, rfl⟩
        · rw [hcs] at hc
          cases hc
      · cases h
    · cases h
theorem spec_ParsePuzzle_no (s : ByteArray) (w : World) (hs : s.size ≤ 1048576) (h : rdP s.data.toList = none) :
    Calls Tryd.prog 4 #[.string s] w (ResZ false 0 [] w) := by
  have hsl : s.data.toList.length = s.size := by simp
  by_cases h8 : 80 < s.data.toList.length
  · exact spec_ParsePuzzle_early s w hs (.inl (by omega))
  · by_cases h2 : (parts s.data.toList 58).length = 2
    · obtain ⟨a, b, hp⟩ := two_of_len h2
      rw [rdP_two h8 hp] at h
      have hla : a.length ≤ 1000000 := by have := parts_bd s.data.toList 58 a (by rw [hp]; simp); omega
      by_cases hb : b = []
      · subst hb
        rw [if_pos rfl] at h
        simp only at h
        have hok : okp9 (rd9 a) [] = false := by
          cases ho : okp9 (rd9 a) [] with
          | false => rfl
          | true => rw [ho, if_pos rfl] at h; cases h
        exact spec_ParsePuzzle_nil s w a (by omega) hla hp false hok
      · rw [if_neg hb] at h
        refine spec_ParsePuzzle_clues s w a b (by omega) hp hb false 0 [] (fun cs hc => ?_) (fun _ => ⟨rfl, rfl, rfl⟩)
        rw [hc] at h
        simp only at h
        have hok : okp9 (rd9 a) cs = false := by
          cases ho : okp9 (rd9 a) cs with
          | false => rfl
          | true => rw [ho, if_pos rfl] at h; cases h
        exact ⟨hok, rfl, rfl⟩
    · exact spec_ParsePuzzle_early s w hs (.inr h2)
end Go.Proofs.YtljleceepghfjaaDoor
