/- Chapter 9: the clues of a puzzle's text, one after another, plainly. -/
import Derived.Test.YtljleceepghfjaaDoorTiG
namespace Go.Proofs.YtljleceepghfjaaDoor
open Go.ChangeShapes Go.WideShapes Go.ChangeAt Go.RowKit

theorem rdCs_snoc : ∀ (ws : List (List UInt8)) (w : List UInt8) (cs : List Clu) (q : Clu), rdCs ws = some cs → rdC w = some q → rdCs (ws ++ [w]) = some (cs ++ [q])
  | [], w, cs, q, h, hq => by
    simp only [rdCs, Option.some.injEq] at h
    subst h
    simp [rdCs, hq]
  | v :: ws, w, cs, q, h, hq => by
    rw [rdCs] at h
    split at h
    · rename_i p cs' h1 h2
      injection h with h
      subst h
      rw [List.cons_append, rdCs, h1, rdCs_snoc ws w cs' q h2 hq]
      rfl
    · cases h
theorem rdCs_bad : ∀ (ws : List (List UInt8)) (w : List UInt8), w ∈ ws → rdC w = none → rdCs ws = none
  | v :: ws, w, hw, hq => by
    rw [rdCs]
    rcases List.mem_cons.1 hw with h | h
    · subst h
      rw [hq]
    · rw [rdCs_bad ws w h hq]
      cases rdC v <;> rfl
theorem rdCs_len : ∀ (ws : List (List UInt8)) (cs : List Clu), rdCs ws = some cs → cs.length = ws.length
  | [], cs, h => by
    simp only [rdCs, Option.some.injEq] at h
    subst h
    rfl
  | v :: ws, cs, h => by
    rw [rdCs] at h
    split at h
    · rename_i p cs' h1 h2
      injection h with h
      subst h
      rw [List.length_cons, List.length_cons, rdCs_len ws cs' h2]
    · cases h
/-- A text of three parts is a clue. -/
theorem rdC_three {w x y z : List UInt8} (h : parts w 46 = [x, y, z]) : rdC w = some ⟨rd9 x, rd9 y, rd9 z⟩ := by
  unfold rdC
  rw [h]
theorem rdC_other {w : List UInt8} (h : (parts w 46).length ≠ 3) : rdC w = none := by
  unfold rdC
  split
  · rename_i x y z hp
    rw [hp] at h
    simp at h
  · rfl
end Go.Proofs.YtljleceepghfjaaDoor
