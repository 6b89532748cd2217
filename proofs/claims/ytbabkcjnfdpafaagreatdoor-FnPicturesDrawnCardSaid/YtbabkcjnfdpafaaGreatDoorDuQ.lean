/- Chapter 7: texts split into rows, by the library: what SplitN answers for pictures. -/
import Derived.Test.YtbabkcjnfdpafaaGreatDoorDuL
import Derived.Test.YtbabkcjnfdpafaaGreatDoorMa
namespace Go.Proofs.YtbabkcjnfdpafaaGreatDoor
open Go.RowKit

theorem foldl_shift (b : UInt8) (x : List UInt8) : ∀ (rs : List (List UInt8)) (r : List UInt8), rs.foldl (fun acc y => acc ++ (b :: y)) (x ++ b :: r) = x ++ b :: rs.foldl (fun acc y => acc ++ (b :: y)) r
  | [], _ => rfl
  | y :: rs, r => by
    rw [List.foldl_cons, List.foldl_cons, ← foldl_shift b x rs]
    simp
theorem joinP_cons (b : UInt8) (x : List UInt8) (rs : List (List UInt8)) (h : rs ≠ []) : joinP b (x :: rs) = x ++ b :: joinP b rs := by
  cases rs with
  | nil => exact absurd rfl h
  | cons r rs => exact foldl_shift b x rs r
theorem parts_ne (l : List UInt8) (b : UInt8) : parts l b ≠ [] := by
  intro e
  have := (parts_len l b).1
  rw [e] at this
  simp at this
theorem parts_cons (x m : List UInt8) (b : UInt8) (h : ∀ c ∈ x, c ≠ b) : parts (x ++ b :: m) b = x :: parts m b := by
  have e := joinP_cons b x (parts m b) (parts_ne m b)
  rw [join_parts] at e
  rw [← e]
  refine parts_join b _ (by simp) fun y hy => ?_
  rcases List.mem_cons.1 hy with rfl | hy
  · exact h
  · exact part_free m b y hy
theorem occ_iff (s : List UInt8) (c : UInt8) (j : Nat) : Lib.occAt s [c] j = true ↔ s[j]? = some c := by
  unfold Lib.occAt
  have e : s[j]? = (s.drop j)[0]? := by rw [List.getElem?_drop, Nat.add_zero]
  rw [e]
  cases s.drop j with
  | nil => simp [List.isPrefixOf]
  | cons x t =>
    simp [List.isPrefixOf]
    exact ⟨fun h => h.symm, fun h => h.symm⟩
theorem index_at (s : List UInt8) (c : UInt8) : (Lib.index s [c] = -1 ∧ ∀ x ∈ s, x ≠ c) ∨ ∃ i : Nat, Lib.index s [c] = i ∧ s = s.take i ++ c :: s.drop (i + 1) ∧ ∀ x ∈ s.take i, x ≠ c := by
  rcases Lib.index_spec s [c] with ⟨h1, h2⟩ | ⟨i, h1, h2, h3, h4⟩
  · refine .inl ⟨h1, fun x hx e => ?_⟩
    obtain ⟨j, hj, hjx⟩ := List.getElem_of_mem hx
    have := h2 j (by omega)
    rw [(occ_iff s c j).2 (by rw [List.getElem?_eq_getElem hj, hjx, e])] at this
    cases this
  · have h5 := (occ_iff s c i).1 h3
    obtain ⟨hi, hc⟩ := List.getElem?_eq_some_iff.1 h5
    refine .inr ⟨i, h1, ?_, fun x hx e => ?_⟩
    · have := (List.take_append_drop i s).symm
      rw [List.drop_eq_getElem_cons hi, hc] at this
      exact this
    · obtain ⟨j, hj, hjx⟩ := List.getElem_of_mem hx
      rw [List.length_take] at hj
      rw [List.getElem_take] at hjx
      have h6 := h4 j (by omega)
      rw [(occ_iff s c j).2 (by rw [List.getElem?_eq_getElem (by omega), hjx, e])] at h6
      cases h6
theorem splitK_parts (c : UInt8) : ∀ (k : Nat) (s : List UInt8), ((parts s c).length ≤ k + 1 → Lib.splitK [c] 0 k s = parts s c) ∧ (k + 1 < (parts s c).length → (Lib.splitK [c] 0 k s).length = k + 1)
  | 0, s => by
    rcases index_at s c with ⟨_, h⟩ | ⟨i, _, h, hf⟩
    · rw [parts_free s c h]
      exact ⟨fun _ => rfl, fun h => absurd h (by simp)⟩
    · rw [h, parts_cons _ _ _ hf]
      refine ⟨fun hl => ?_, fun _ => rfl⟩
      have := (parts_len (s.drop (i + 1)) c).1
      rw [List.length_cons] at hl
      omega
  | k + 1, s => by
    have ih := splitK_parts c k
    rcases index_at s c with ⟨h1, h⟩ | ⟨i, h1, h, hf⟩
    · rw [parts_free s c h]
      refine ⟨fun _ => ?_, fun h => absurd h (by simp)⟩
      unfold Lib.splitK
      rw [if_pos (by rw [h1]; rfl)]
    · have e : Lib.splitK [c] 0 (k + 1) s = s.take i :: Lib.splitK [c] 0 k (s.drop (i + 1)) := by
        rw [Lib.splitK, if_neg (by rw [h1]; intro e; have := beq_iff_eq.1 e; omega), h1]
        simp
      have hp : parts s c = s.take i :: parts (s.drop (i + 1)) c := by
        have := parts_cons (s.take i) (s.drop (i + 1)) c hf
        rw [← h] at this
        exact this
      rw [e, hp]
      obtain ⟨i1, i2⟩ := ih (s.drop (i + 1))
      refine ⟨fun hl => ?_, fun hl => ?_⟩
      · rw [i1 (by simp at hl; omega)]
      · rw [List.length_cons, i2 (by simp at hl; omega)]
/-- The library's variable holds a number. -/
def MaxL (w : World) : Prop := ∃ m, w.cell? ⟨0, 0, none⟩ = some (.int .i64 m)
theorem MaxL.below {w w' : World} (h : MaxL w) (hb : Below w.heap.size w w') : MaxL w' := by
  obtain ⟨m, h⟩ := h
  exact ⟨m, (hb.cell (p := ⟨0, 0, none⟩) (World.block_lt_of_cell? _ _ h)).trans h⟩
/-- The rows that are split off: all, or just too many. -/
def rowsL (l : List UInt8) : List (List UInt8) := Lib.splitK [47] 0 (min 24 l.length) l
theorem rowsL_len (l : List UInt8) : 1 ≤ (rowsL l).length := by
  unfold rowsL
  cases h : min 24 l.length with
  | zero => simp [Lib.splitK]
  | succ k => unfold Lib.splitK; split <;> simp
theorem rowsL_of (l : List UInt8) : ((parts l 47).length ≤ 24 ∧ rowsL l = parts l 47) ∨ (24 < (parts l 47).length ∧ (rowsL l).length = 25) := by
  have hl := (parts_len l 47).2
  rcases Nat.lt_or_ge 24 (parts l 47).length with h | h
  · refine .inr ⟨h, ?_⟩
    have hk : min 24 l.length = 24 := by omega
    obtain ⟨h1, h2⟩ := splitK_parts 47 24 l
    unfold rowsL
    rw [hk]
    rcases Nat.lt_or_ge 25 (parts l 47).length with h3 | h3
    · exact h2 h3
    · rw [h1 h3]; omega
  · refine .inl ⟨h, ?_⟩
    unfold rowsL
    exact (splitK_parts 47 _ l).1 (by omega)
theorem splitN_any (s : ByteArray) (w : World) (hs : s.size ≤ 2000000) (hM : MaxL w) :
    Calls Tryz.prog 83 #[.string s, .string ⟨#[47]⟩, .int .i64 25] w fun e w' => (∃ c, e = .returned (.slice (some ⟨w.heap.size, 0, none⟩) (rowsL s.data.toList).length c)) ∧ (∀ j x, (rowsL s.data.toList)[j]? = some x → w'.cell? ⟨w.heap.size, j, none⟩ = some (.string (bt x))) ∧ w.heap.size < w'.heap.size ∧ Below w.heap.size w w' := by
  obtain ⟨m, hm⟩ := hM
  refine (Tryz.strings_SplitN s ⟨#[47]⟩ 25 m w (by omega) hm (by decide) (by decide) (by decide)).mono ?_
  rintro e w' ⟨rfl, rfl⟩
  have hd : (Lib.splitB ⟨#[47]⟩ 0 (min 25 (s.size + 1) - 1) s).map (·.data.toList) = rowsL s.data.toList := by
    rw [Lib.splitB_data]
    unfold rowsL
    congr 1
    have : s.data.toList.length = s.size := by simp
    omega
  have hl : (Lib.splitB ⟨#[47]⟩ 0 (min 25 (s.size + 1) - 1) s).length = (rowsL s.data.toList).length := by rw [← hd, List.length_map]
  refine ⟨⟨_, by rw [hl]⟩, fun j x hx => ?_, by simp, (Below.refl _ _).alloc (Nat.le_refl _) _⟩
  rw [World.cell?_alloc_at _ _ _ _ (by simp)]
  rw [← hd, List.getElem?_map] at hx
  obtain ⟨y, hy, rfl⟩ := Option.map_eq_some_iff.1 hx
  obtain ⟨hj, _⟩ := List.getElem?_eq_some_iff.1 hy
  unfold Lib.cellsOf
  rw [List.getElem?_toArray, List.getElem?_append_left (by simpa using hj), List.getElem?_map, hy]
  simp [bt]
end Go.Proofs.YtbabkcjnfdpafaaGreatDoor
