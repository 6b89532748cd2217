/- The texts XDuQ XDuR XDuS XDuV XDuW XDvN XDtV XDtX XDtWg XDtY joined. -/
import Derived.Test.YtkjibcnddknbjaaDoorMtE
import Derived.Lib.OthersKept
import Derived.Deep.RegionHeld3
import Derived.BigRegion
import Derived.OneCell
import Derived.Deep.AppendLies
/- Chapter 7: texts split into rows, by the library: what SplitN answers for pictures. -/
namespace Go.Proofs.YtkjibcnddknbjaaDoor
open Go.RowKit

theorem foldl_shift (b : UInt8) (x : List UInt8) : ∀ (rs : List (List UInt8)) (r : List UInt8), rs.foldl (fun acc y => acc ++ (b :: y)) (x ++ b :: r) = x ++ b :: rs.foldl (fun acc y => acc ++ (b :: y)) r
  | [], _ => rfl
  | y :: rs, r => by
    rw [List.foldl_cons, List.foldl_cons, ← foldl_shift b x rs]
    simp
theorem joinP_cons (b : UInt8) (x : List UInt8) (rs : List (List UInt8)) (h : rs ≠ []) : joinP b (x :: rs) = x ++ b :: joinP b rs := by
  cases rs with
  | nil => exact absurd rfl h
  | cons r rs => exact foldl_shift b x rs r
theorem parts_ne (l : List UInt8) (b : UInt8) : parts l b ≠ [] := by
  intro e
  have := (parts_len l b).1
  rw [e] at this
  simp at this
theorem parts_cons (x m : List UInt8) (b : UInt8) (h : ∀ c ∈ x, c ≠ b) : parts (x ++ b :: m) b = x :: parts m b := by
  have e := joinP_cons b x (parts m b) (parts_ne m b)
  rw [join_parts] at e
  rw [← e]
  refine parts_join b _ (by simp) fun y hy => ?_
  rcases List.mem_cons.1 hy with rfl | hy
  · exact h
  · exact part_free m b y hy
theorem occ_iff (s : List UInt8) (c : UInt8) (j : Nat) : Lib.occAt s [c] j = true ↔ s[j]? = some c := by
  unfold Lib.occAt
  have e : s[j]? = (s.drop j)[0]? := by rw [List.getElem?_drop, Nat.add_zero]
  rw [e]
  cases s.drop j with
  | nil => simp [List.isPrefixOf]
  | cons x t =>
    simp [List.isPrefixOf]
    exact ⟨fun h => h.symm, fun h => h.symm⟩
theorem index_at (s : List UInt8) (c : UInt8) : (Lib.index s [c] = -1 ∧ ∀ x ∈ s, x ≠ c) ∨ ∃ i : Nat, Lib.index s [c] = i ∧ s = s.take i ++ c :: s.drop (i + 1) ∧ ∀ x ∈ s.take i, x ≠ c := by
  rcases Lib.index_spec s [c] with ⟨h1, h2⟩ | ⟨i, h1, h2, h3, h4⟩
  · refine .inl ⟨h1, fun x hx e => ?_⟩
    obtain ⟨j, hj, hjx⟩ := List.getElem_of_mem hx
    have := h2 j (by omega)
    rw [(occ_iff s c j).2 (by rw [List.getElem?_eq_getElem hj, hjx, e])] at this
    cases this
  · have h5 := (occ_iff s c i).1 h3
    obtain ⟨hi, hc⟩ := List.getElem?_eq_some_iff.1 h5
    refine .inr ⟨i, h1, ?_, fun x hx e => ?_⟩
    · have := (List.take_append_drop i s).symm
      rw [List.drop_eq_getElem_cons hi, hc] at this
      exact this
    · obtain ⟨j, hj, hjx⟩ := List.getElem_of_mem hx
      rw [List.length_take] at hj
      rw [List.getElem_take] at hjx
      have h6 := h4 j (by omega)
      rw [(occ_iff s c j).2 (by rw [List.getElem?_eq_getElem (by omega), hjx, e])] at h6
      cases h6
theorem splitK_parts (c : UInt8) : ∀ (k : Nat) (s : List UInt8), ((parts s c).length ≤ k + 1 → Lib.splitK [c] 0 k s = parts s c) ∧ (k + 1 < (parts s c).length → (Lib.splitK [c] 0 k s).length = k + 1)
  | 0, s => by
    rcases index_at s c with ⟨_, h⟩ | ⟨i, _, h, hf⟩
    · rw [parts_free s c h]
      exact ⟨fun _ => rfl, fun h => absurd h (by simp)⟩
    · rw [h, parts_cons _ _ _ hf]
      refine ⟨fun hl => ?_, fun _ => rfl⟩
      have := (parts_len (s.drop (i + 1)) c).1
      rw [List.length_cons] at hl
      omega
  | k + 1, s => by
    have ih := splitK_parts c k
    rcases index_at s c with ⟨h1, h⟩ | ⟨i, h1, h, hf⟩
    · rw [parts_free s c h]
      refine ⟨fun _ => ?_, fun h => absurd h (by simp)⟩
      unfold Lib.splitK
      rw [if_pos (by rw [h1]; rfl)]
    · have e : Lib.splitK [c] 0 (k + 1) s = s.take i :: Lib.splitK [c] 0 k (s.drop (i + 1)) := by
        rw [Lib.splitK, if_neg (by rw [h1]; intro e; have := beq_iff_eq.1 e; omega), h1]
        simp
      have hp : parts s c = s.take i :: parts (s.drop (i + 1)) c := by
        have := parts_cons (s.take i) (s.drop (i + 1)) c hf
        rw [← h] at this
        exact this
      rw [e, hp]
      obtain ⟨i1, i2⟩ := ih (s.drop (i + 1))
      refine ⟨fun hl => ?_, fun hl => ?_⟩
      · rw [i1 (by simp at hl; omega)]
      · rw [List.length_cons, i2 (by simp at hl; omega)]
/-- The library's variable holds a number. -/
def MaxL (w : World) : Prop := ∃ m, w.cell? ⟨0, 0, none⟩ = some (.int .i64 m)
theorem MaxL.below {w w' : World} (h : MaxL w) (hb : Below w.heap.size w w') : MaxL w' := by
  obtain ⟨m, h⟩ := h
  exact ⟨m, (hb.cell (p := ⟨0, 0, none⟩) (World.block_lt_of_cell? _ _ h)).trans h⟩
/-- The rows that are split off: all, or just too many. -/
def rowsL (l : List UInt8) : List (List UInt8) := Lib.splitK [47] 0 (min 24 l.length) l
theorem rowsL_len (l : List UInt8) : 1 ≤ (rowsL l).length := by
  unfold rowsL
  cases h : min 24 l.length with
  | zero => simp [Lib.splitK]
  | succ k => unfold Lib.splitK; split <;> simp
theorem rowsL_of (l : List UInt8) : ((parts l 47).length ≤ 24 ∧ rowsL l = parts l 47) ∨ (24 < (parts l 47).length ∧ (rowsL l).length = 25) := by
  have hl := (parts_len l 47).2
  rcases Nat.lt_or_ge 24 (parts l 47).length with h | h
  · refine .inr ⟨h, ?_⟩
    have hk : min 24 l.length = 24 := by omega
    obtain ⟨h1, h2⟩ := splitK_parts 47 24 l
    unfold rowsL
    rw [hk]
    rcases Nat.lt_or_ge 25 (parts l 47).length with h3 | h3
    · exact h2 h3
    · rw [h1 h3]; omega
  · refine .inl ⟨h, ?_⟩
    unfold rowsL
    exact (splitK_parts 47 _ l).1 (by omega)
theorem splitN_any (s : ByteArray) (w : World) (hs : s.size ≤ 2000000) (hM : MaxL w) :
    Calls Tryd.prog 14 #[.string s, .string ⟨#[47]⟩, .int .i64 25] w fun e w' => (∃ c, e = .returned (.slice (some ⟨w.heap.size, 0, none⟩) (rowsL s.data.toList).length c)) ∧ (∀ j x, (rowsL s.data.toList)[j]? = some x → w'.cell? ⟨w.heap.size, j, none⟩ = some (.string (bt x))) ∧ w.heap.size < w'.heap.size ∧ Below w.heap.size w w' := by
  obtain ⟨m, hm⟩ := hM
  refine (Tryd.strings_SplitN s ⟨#[47]⟩ 25 m w (by omega) hm (by decide) (by decide) (by decide)).mono ?_
  rintro e w' ⟨rfl, rfl⟩
  have hd : (Lib.splitB ⟨#[47]⟩ 0 (min 25 (s.size + 1) - 1) s).map (·.data.toList) = rowsL s.data.toList := by
    rw [Lib.splitB_data]
    unfold rowsL
    congr 1
    have : s.data.toList.length = s.size := by simp
    omega
  have hl : (Lib.splitB ⟨#[47]⟩ 0 (min 25 (s.size + 1) - 1) s).length = (rowsL s.data.toList).length := by rw [← hd, List.length_map]
  refine ⟨⟨_, by rw [hl]⟩, fun j x hx => ?_, by simp, (Below.refl _ _).alloc (Nat.le_refl _) _⟩
  rw [World.cell?_alloc_at _ _ _ _ (by simp)]
  rw [← hd, List.getElem?_map] at hx
  obtain ⟨y, hy, rfl⟩ := Option.map_eq_some_iff.1 hx
  obtain ⟨hj, _⟩ := List.getElem?_eq_some_iff.1 hy
  unfold Lib.cellsOf
  rw [List.getElem?_toArray, List.getElem?_append_left (by simpa using hj), List.getElem?_map, hy]
  simp [bt]
end Go.Proofs.YtkjibcnddknbjaaDoor
/- Chapter 7: the dots of a row added, by the program. -/
namespace Go.Proofs.YtkjibcnddknbjaaDoor
open Go.ChangeShapes Go.WideShapes Go.ChangeAt Go.RowKit Go.Maps

/-- The dots of S and those of the first k signs of a row. -/
def rwF (S : Int → Int → Bool) (r : List UInt8) (y : Int) (k : Nat) (u v : Int) : Bool := S u v || (decide (v = y ∧ 0 ≤ u ∧ u < (k : Int)) && r.getD u.toNat 0 == 111)
theorem rw_zero (S : Int → Int → Bool) (r : List UInt8) (y u v : Int) : S u v = rwF S r y 0 u v := by
  unfold rwF
  have : decide (v = y ∧ 0 ≤ u ∧ u < ((0 : Nat) : Int)) = false := decide_eq_false (by omega)
  rw [this]
  simp
theorem rw_iff {S : Int → Int → Bool} {r : List UInt8} {y : Int} {k : Nat} {u v : Int} : rwF S r y k u v = true ↔ S u v = true ∨ ((v = y ∧ 0 ≤ u ∧ u < (k : Int)) ∧ r.getD u.toNat 0 = 111) := by simp [rwF]
theorem rw_yes {S : Int → Int → Bool} {r : List UInt8} {y : Int} {k : Nat} (h : r.getD k 0 = 111) (u v : Int) : aS (rwF S r y k) (k : Int) y u v = rwF S r y (k + 1) u v := by
  rw [Bool.eq_iff_iff]
  unfold aS
  rw [Bool.or_eq_true, rw_iff, rw_iff, Bool.and_eq_true, decide_eq_true_eq, decide_eq_true_eq]
  constructor
  · rintro ((h1 | ⟨⟨h1, h2, h3⟩, h4⟩) | ⟨rfl, rfl⟩)
    · exact .inl h1
    · exact .inr ⟨⟨h1, h2, by omega⟩, h4⟩
    · exact .inr ⟨⟨rfl, by omega, by omega⟩, by simpa using h⟩
  · rintro (h1 | ⟨⟨h1, h2, h3⟩, h4⟩)
    · exact .inl (.inl h1)
    · by_cases e : u = (k : Int)
      · exact .inr ⟨e, h1⟩
      · exact .inl (.inr ⟨⟨h1, h2, by omega⟩, h4⟩)
theorem rw_no {S : Int → Int → Bool} {r : List UInt8} {y : Int} {k : Nat} (h : r.getD k 0 ≠ 111) (u v : Int) : rwF S r y k u v = rwF S r y (k + 1) u v := by
  rw [Bool.eq_iff_iff, rw_iff, rw_iff]
  constructor
  · rintro (h1 | ⟨⟨h1, h2, h3⟩, h4⟩)
    · exact .inl h1
    · exact .inr ⟨⟨h1, h2, by omega⟩, h4⟩
  · rintro (h1 | ⟨⟨h1, h2, h3⟩, h4⟩)
    · exact .inl h1
    · by_cases e : u = (k : Int)
      · subst e
        rw [Int.toNat_natCast] at h4
        exact absurd h4 h
      · exact .inr ⟨⟨h1, h2, by omega⟩, h4⟩
theorem grown_iterAt (w : World) (k : Nat) (s : ByteArray) (pos : Nat) : w.grownBy (w.iterAt k s pos) (some k) := ⟨rfl, rfl, rfl, by rw [Lib.iterAt_size]; exact Nat.le_refl _, fun i _ hne => Lib.iterAt_other w k i s pos (fun e => hne (by rw [e]))⟩
theorem grown_heap1 {w w' : World} {row : Option Nat} {k : Nat} {o : Obj} (h : w.heap[k]? = some o) (hg : w.grownBy w' row) (hne : some k ≠ row) : w'.heap[k]? = some o :=
  (hg.block k (Array.getElem?_eq_some_iff.1 h).1 hne).trans h
theorem grown_tr1 {a b c : World} {row : Option Nat} (h : a.grownBy b row) (k : b.grownBy c row) : a.grownBy c row := h.andThen k fun _ e => Or.inr e
theorem ba_getD (s : ByteArray) (k : Nat) (h : k < s.size) : s.data.toList.getD k 0 = s[k] := by
  have hl : k < s.data.toList.length := by simpa using h
  rw [List.getD, List.getElem?_eq_getElem hl]
  simp [ByteArray.getElem_eq_getElem_data]
set_option maxRecDepth 8000 in
set_option maxHeartbeats 3200000 in
theorem addRow_any (b : Nat) (S : Int → Int → Bool) (s : ByteArray) (y : Int) (w : World) (h : Ds w b S) (hs : s.size ≤ 50) (y0 : 0 ≤ y) (y1 : y < 50) :
    Calls Tryd.prog 16 #[.map (some b), .string s, .int .i64 y] w fun e w' => e = .returned (.bool (s.data.toList.all isSgn)) ∧ (s.data.toList.all isSgn = true → Ds w' b (rwF S s.data.toList y s.size)) ∧ w.grownBy w' (some b) := by
  have hbl := h.lt
  have HYES := Lib.hid fun k (h : s.data.toList.getD k 0 = 111) => rw_yes (S := S) (y := y) h
  have HNO := Lib.hid fun k (h : s.data.toList.getD k 0 ≠ 111) => rw_no (S := S) (y := y) h
  have HG := Lib.hid fun k (h : k < s.size) => ba_getD s k h
  have HBAD : Hid (∀ k, (h : k < s.size) → isSgn s[k] = false → s.data.toList.all isSgn = false) := Lib.hid fun k h hb => by
    rw [List.all_eq_false]
    exact ⟨s[k], by rw [ByteArray.getElem_eq_getElem_data]; simp, by simpa using hb⟩
  have HALL : Hid ((∀ k, (h : k < s.size) → isSgn s[k] = true) → s.data.toList.all isSgn = true) := Lib.hid fun hk => by
    rw [List.all_eq_true]
    intro x hx
    obtain ⟨j, hj, rfl⟩ := List.getElem_of_mem hx
    have := hk j (by simpa using hj)
    rw [ByteArray.getElem_eq_getElem_data] at this
    simpa using this
  have HZ := Lib.hid (h.congr (rw_zero S s.data.toList y))
  clear h
  generalize s.data.toList.all isSgn = ok at *
  generalize rwF S s.data.toList y = T at *
  go_enter Tryd.func16, Tryd.ntmps16
  go_wp2
  have HIT : Hid ((w.iter s 0).heap[w.heap.size]? = some (.stringIter s 0)) := Lib.hid (World.iter_heap w s 0)
  have HG0 := Lib.hid (World.grownBy_alloc w (.stringIter s 0) none)
  have HD0 := Lib.hid (HZ.out.alloc (.stringIter s 0))
  go_loopw [] (fun wr => ∃ pos : Nat, pos ≤ s.size ∧ Hid (wr.heap[w.heap.size]? = some (.stringIter s pos)) ∧ Hid (Ds wr b (T pos)) ∧ Hid (w.grownBy wr (some b)) ∧ Hid (∀ k, k < pos → (h : k < s.size) → isSgn s[k] = true)) (fun wr => s.size - wr.iterPos w.heap.size)
  case atStart => exact ⟨0, Nat.zero_le _, HIT, HD0, Lib.hid (HG0.out.but _), Lib.hid fun k hk => absurd hk (by omega)⟩
  case round =>
    obtain ⟨pos, hpos, HI, HD, HW, HOK⟩ := hrel
    by_cases hp : pos < s.size
    · have hgd := HG.out pos hp
      have hyes := HYES.out pos
      have hno := HNO.out pos
      have hi1 := fun p' => Lib.iterAt_heap wr w.heap.size s pos p' HI.out
      have hg1 := fun p' => grown_iterAt wr w.heap.size s p'
      have HIP : Hid (wr.iterPos w.heap.size = pos) := Lib.hid (by simp [World.iterPos, HI.out])
      rw [hgd] at hyes hno
      by_cases hs1 : isSgn s[pos] = true
      · have hok1 : ∀ k, k < pos + 1 → (h : k < s.size) → isSgn s[k] = true := fun k hk h => by
          by_cases e : k = pos
          · subst e; exact hs1
          · exact HOK.out k (by omega) h
        have HOK1 := Lib.hid hok1
        have HI1 := Lib.hid (hi1 (pos + 1))
        have HW1 := Lib.hid (HW.out.andThen (hg1 (pos + 1)) (by intro j hj; cases hj; exact Or.inl (Nat.le_refl _)))
        have HD1 := Lib.hid (HD.out.kept (hg1 (pos + 1)) (by simp; omega))
        by_cases hc : s[pos] = 111
        · have hnx : ∀ ty, (Instr.next (.pointer (some ⟨w.heap.size, 0, none⟩)) true ty).run Tryd.prog wr = .ok (.tuple #[.bool true, .int .i64 pos, .int .i32 111]) (wr.iterAt w.heap.size s (pos + 1)) := fun ty => by
            rw [Lib.run_next_ascii_at wr w.heap.size s pos ty HI.out hp (by rw [hc]; decide), hc]
            rfl
          have HY := Lib.hid (hyes hc)
          clear hok1 hs1 hc hyes hno hgd hi1 hg1
          go_wp2_with (go_at_call 22; refine (add_any _ _ _ _ _ HD1.out (by omega)).mono ?_; rintro e w6 ⟨rfl, hd6, hg6⟩)
          have HD6 := Lib.hid (hd6.congr HY.out)
          have HW6 := Lib.hid (grown_tr1 HW1.out hg6)
          have HI6 := Lib.hid (grown_heap1 HI1.out hg6 (by simp; omega))
          clear hd6 hg6
          go_wp2
          go_roundw
          case rel => exact ⟨pos + 1, by omega, HI6, HD6, HW6, HOK1⟩
          case measure => rw [HIP.out]; simp only [World.iterPos, HI6.out]; omega
        · have hc2 : s[pos] = 46 := by
            unfold isSgn at hs1
            simp [hc] at hs1
            exact hs1
          have hnx : ∀ ty, (Instr.next (.pointer (some ⟨w.heap.size, 0, none⟩)) true ty).run Tryd.prog wr = .ok (.tuple #[.bool true, .int .i64 pos, .int .i32 46]) (wr.iterAt w.heap.size s (pos + 1)) := fun ty => by
            rw [Lib.run_next_ascii_at wr w.heap.size s pos ty HI.out hp (by rw [hc2]; decide), hc2]
            rfl
          have HD2 := Lib.hid (HD1.out.congr (hno hc))
          clear hok1 hs1 hc hc2 hyes hno hgd hi1 hg1
          go_wp2
          go_roundw
          case rel => exact ⟨pos + 1, by omega, HI1, HD2, HW1, HOK1⟩
          case measure => rw [HIP.out]; simp only [World.iterPos, HI1.out]; omega
      · have hs2 : isSgn s[pos] = false := by simpa using hs1
        have hfalse := HBAD.out pos hp hs2
        obtain ⟨v, p', hv1, hv2, hnx⟩ : ∃ (v : Int) (p' : Nat), (v == 111) = false ∧ (v == 46) = false ∧ ∀ ty, (Instr.next (.pointer (some ⟨w.heap.size, 0, none⟩)) true ty).run Tryd.prog wr = .ok (.tuple #[.bool true, .int .i64 pos, .int .i32 v]) (wr.iterAt w.heap.size s p') := by
          by_cases ha : s[pos].toNat < 128
          · refine ⟨_, _, ?_, ?_, fun ty => Lib.run_next_ascii_at wr w.heap.size s pos ty HI.out hp ha⟩
            · have : s[pos] ≠ 111 := fun e => by rw [e] at hs2; cases hs2
              have : s[pos].toNat ≠ 111 := fun e => this (UInt8.toNat_inj.1 e)
              simp; omega
            · have : s[pos] ≠ 46 := fun e => by rw [e] at hs2; cases hs2
              have : s[pos].toNat ≠ 46 := fun e => this (UInt8.toNat_inj.1 e)
              simp; omega
          · have hd := (decode_high s pos hp (by omega)).1
            refine ⟨_, _, ?_, ?_, fun ty => Lib.run_next_any_at wr w.heap.size s pos ty HI.out hp⟩
            · simp; omega
            · simp; omega
        have HW1 := Lib.hid (HW.out.andThen (hg1 p') (by intro j hj; cases hj; exact Or.inl (Nat.le_refl _)))
        have HFA := Lib.hid hfalse
        clear hfalse hs1 hs2 hyes hno hgd hi1 hg1
        go_wp2
        go_ret
        exact ⟨by rw [HFA.out]; rfl, fun e => (by rw [HFA.out] at e; cases e), HW1.out⟩
    · obtain rfl : pos = s.size := by omega
      have hnx : ∀ ty, (Instr.next (.pointer (some ⟨w.heap.size, 0, none⟩)) true ty).run Tryd.prog wr = .ok (.tuple #[.bool false]) wr := fun ty => Lib.run_next_end_at wr w.heap.size s s.size ty HI.out hp
      have HTR := Lib.hid (HALL.out fun k hk => HOK.out k hk hk)
      go_wp2
      go_ret
      exact ⟨by rw [HTR.out]; rfl, fun _ => HD.out, HW.out⟩
end Go.Proofs.YtkjibcnddknbjaaDoor
/- Chapter 7: pictures read, by the program. -/
namespace Go.Proofs.YtkjibcnddknbjaaDoor
open Go.ChangeShapes Go.WideShapes Go.ChangeAt Go.RowKit Go.Maps

/-- The dots of the first k rows. -/
def rdF (R : List (List UInt8)) (W k : Nat) (u v : Int) : Bool := decide (0 ≤ u ∧ u < (W : Int) ∧ 0 ≤ v ∧ v < (k : Int)) && (R.getD v.toNat []).getD u.toNat 0 == 111
theorem rd_zero (R : List (List UInt8)) (W : Nat) (u v : Int) : false = rdF R W 0 u v := by
  unfold rdF
  rw [decide_eq_false (by omega)]
  rfl
theorem rd_step {R : List (List UInt8)} {W k : Nat} (_ : (R.getD k []).length = W) (u v : Int) : rwF (rdF R W k) (R.getD k []) (k : Int) W u v = rdF R W (k + 1) u v := by
  rw [Bool.eq_iff_iff, rw_iff]
  unfold rdF
  simp only [Bool.and_eq_true, decide_eq_true_eq, beq_iff_eq]
  constructor
  · rintro (⟨⟨h1, h2, h3, h4⟩, h5⟩ | ⟨⟨rfl, h2, h3⟩, h4⟩)
    · exact ⟨⟨h1, h2, h3, by omega⟩, h5⟩
    · exact ⟨⟨h2, h3, by omega, by omega⟩, by simpa using h4⟩
  · rintro ⟨⟨h1, h2, h3, h4⟩, h5⟩
    by_cases e : v = (k : Int)
    · subst e
      rw [Int.toNat_natCast] at h5
      exact .inr ⟨⟨rfl, h1, h2⟩, h5⟩
    · exact .inl ⟨⟨h1, h2, h3, by omega⟩, h5⟩
theorem rd_all (l : List UInt8) (u v : Int) : rdF (parts l 47) (pW l) (pH l) u v = gS (pW l) (pH l) (pD l) u v := by
  refine eq_gS (d := pD l) (fun x y h => ?_) (fun x y hx hy => ?_) u v
  · unfold rdF at h
    simp only [Bool.and_eq_true, decide_eq_true_eq] at h
    exact h.1
  · unfold rdF
    rw [decide_eq_true (by omega), Bool.true_and, Int.toNat_natCast, Int.toNat_natCast]
    unfold pD
    rw [place_x hx, place_y hx]
/-- What a row must be. -/
def rowB (W : Nat) (r : List UInt8) : Bool := decide (r.length = W) && r.all isSgn
theorem pic_no_lim {l : List UInt8} (h : ¬ (1 ≤ ((rowsL l).getD 0 []).length ∧ ((rowsL l).getD 0 []).length ≤ 24 ∧ (rowsL l).length ≤ 24)) : isPic l = false := by
  cases hp : isPic l
  · rfl
  · exfalso
    have hb := pic_b hp
    rcases rowsL_of l with ⟨h1, h2⟩ | ⟨h1, _⟩
    · apply h
      rw [h2]
      have e : (parts l 47).getD 0 [] = (parts l 47).headD [] := by cases parts l 47 <;> rfl
      rw [e]
      exact ⟨hb.w0, hb.w1, hb.h1⟩
    · have := hb.h1
      unfold pH at this
      omega
theorem pic_lim {l : List UInt8} (h1 : 1 ≤ ((rowsL l).getD 0 []).length) (h2 : ((rowsL l).getD 0 []).length ≤ 24) (h3 : (rowsL l).length ≤ 24) : rowsL l = parts l 47 ∧ ((rowsL l).getD 0 []).length = pW l ∧ (rowsL l).length = pH l ∧ isPic l = (parts l 47).all (rowB (pW l)) := by
  rcases rowsL_of l with ⟨h4, h5⟩ | ⟨_, h5⟩
  · have e : (parts l 47).getD 0 [] = (parts l 47).headD [] := by cases parts l 47 <;> rfl
    rw [h5] at h1 h2 ⊢
    rw [e] at h1 h2 ⊢
    refine ⟨rfl, rfl, rfl, ?_⟩
    unfold isPic rowsOk
    rw [decide_eq_true h4, decide_eq_true h1, decide_eq_true h2]
    rfl
  · omega
/-- What readPicture answers. -/
def Rd (l : List UInt8) (w : World) (e : Ending) (w' : World) : Prop :=
  ((isPic l = true ∧ ∃ c, e = .returned (.tuple #[.agg #[.int .i64 (pW l : Int), .int .i64 (pH l : Int), .map (some c)], .bool true]) ∧ w.heap.size ≤ c ∧ Ds w' c (gS (pW l) (pH l) (pD l))) ∨
   (isPic l = false ∧ e = .returned (.tuple #[.agg #[.int .i64 0, .int .i64 0, .map none], .bool false]))) ∧ Below w.heap.size w w'
set_option maxRecDepth 8000 in
set_option maxHeartbeats 3200000 in
theorem readPicture_any (s : ByteArray) (w : World) (hs : s.size ≤ 2000000) (hM : MaxL w) :
    Calls Tryd.prog 10 #[.string s] w (Rd s.data.toList w) := by
  have hmm := @run_makeMap Tryd.prog
  have HSP := Lib.hid fun V (h : MaxL V) => splitN_any s V hs h
  have HNO := Lib.hid (pic_no_lim (l := s.data.toList))
  have HYES := Lib.hid (pic_lim (l := s.data.toList))
  have hl1 := rowsL_len s.data.toList
  have HMA := Lib.hid (hM.below ((Below.refl _ _).alloc (Nat.le_refl _) (.cells #[.int .i64 0, .int .i64 0, .map none] 34)))
  have hr0 : (rowsL s.data.toList)[0]? = some ((rowsL s.data.toList).getD 0 []) := by
    rw [List.getElem?_eq_getElem (by omega), List.getD, List.getElem?_eq_getElem (by omega)]
    rfl
  generalize s.data.toList = l at *
  obtain ⟨L, hL⟩ : ∃ L, L = (rowsL l).length := ⟨_, rfl⟩
  obtain ⟨r0, hrr⟩ : ∃ r0, r0 = (rowsL l).getD 0 [] := ⟨_, rfl⟩
  have HL := Lib.hid hL
  have HRR := Lib.hid hrr
  rw [← hL] at HSP hl1
  rw [← hrr] at hr0
  clear hL hrr
  have hL1 : (0 : Int) < (L : Int) := by omega
  go_enter Tryd.func10, Tryd.ntmps10
  go_wp2_with (go_at_call 14; refine (HSP.out _ HMA.out).mono ?_; rintro e w1 ⟨⟨c1, rfl⟩, hcs, hz1, hb1⟩; have hr1 := hcs 0 _ hr0; rw [show (w.alloc (.cells #[.int .i64 0, .int .i64 0, .map none] 34)).heap.size = w.heap.size + 1 by simp] at hr1 hcs hz1; rw [show (w.alloc (.cells #[.int .i64 0, .int .i64 0, .map none] 34)).heap.size = w.heap.size + 1 by simp])
  have hn0 : (bt r0).size = r0.length := bt_size r0
  rw [hn0]
  obtain ⟨n0, hn⟩ : ∃ n0, n0 = r0.length := ⟨_, rfl⟩
  rw [← hn]
  obtain ⟨W3, hW3⟩ : ∃ W3, W3 = (w1.alloc (.map #[] 0)).alloc (.cells #[.int .i64 (n0 : Int), .int .i64 (L : Int), .map (some w1.heap.size)] 34) := ⟨_, rfl⟩
  rw [← hW3]
  have g1 : w.grownBy w1 none := (World.grownBy_alloc w _ none).andThen (grown_of_below hb1 (Nat.le_refl _)) (by simp)
  have g3 : w1.grownBy W3 none := by rw [hW3]; exact (World.grownBy_alloc w1 _ none).andThen (World.grownBy_alloc _ _ none) (by simp)
  have k0 : w1.heap[w.heap.size]? = some (.cells #[.int .i64 0, .int .i64 0, .map none] 34) := (hb1.block _ (by simp)).trans (MapKept.heap_alloc w _).1
  have k2 : W3.heap[w1.heap.size + 1]? = some (.cells #[.int .i64 (n0 : Int), .int .i64 (L : Int), .map (some w1.heap.size)] 34) := by
    have h := (MapKept.heap_alloc (w1.alloc (.map #[] 0)) (.cells #[.int .i64 (n0 : Int), .int .i64 (L : Int), .map (some w1.heap.size)] 34)).1
    rw [show (w1.alloc (.map #[] 0)).heap.size = w1.heap.size + 1 by simp] at h
    rw [hW3]
    exact h
  have d3 : Ds W3 w1.heap.size (fun _ _ => false) := by
    rw [hW3]
    exact (Dots.made (P := Tryd.prog) (k := 47) w1).alloc _
  have hz3 : W3.heap.size = w1.heap.size + 2 := by rw [hW3]; simp
  refine (limits_any _ _ _ _).mono ?_
  rintro e w2 ⟨rfl, hb2⟩
  have g2 := g3.andThen (grown_of_below hb2 (Nat.le_refl _)) (by simp)
  have j0 := grown_heap k0 g2 (by simp)
  have j2 := grown_heap k2 (grown_of_below hb2 (Nat.le_refl _)) (by simp)
  have HD := Lib.hid ((d3.below hb2).congr (rd_zero (rowsL l) n0))
  have HG := Lib.hid (g1.andThen g2 (by simp))
  have HCS := Lib.hid fun j x (hx : (rowsL l)[j]? = some x) => g2.cell (hcs j x hx) (by simp)
  have hz2 : w1.heap.size + 2 ≤ w2.heap.size := by have := hb2.size; omega
  have hzw : w.heap.size + 1 < w1.heap.size := hz1
  clear hb1 hb2 g1 g2 g3 k0 k2 d3 hW3 hz3 hcs hr1 hn0 HSP HMA hM
  have HN := Lib.hid hn
  clear hn
  by_cases hlim : 1 ≤ n0 ∧ n0 ≤ 24 ∧ L ≤ 24
  · have hlb : limB (n0 : Int) (L : Int) = true := by
      unfold limB
      rw [betr_yes (by omega) (by omega), betr_yes (by omega) (by omega)]
      rfl
    rw [hlb]
    obtain ⟨y1, y2, y3, y4⟩ := HYES.out (by rw [← HRR.out, ← HN.out]; omega) (by rw [← HRR.out, ← HN.out]; omega) (by rw [← HL.out]; omega)
    rw [← HRR.out, ← HN.out] at y2
    rw [← HL.out] at y3
    have HPW := Lib.hid y2.symm
    have HPH := Lib.hid y3.symm
    have HBAD : Hid (∀ k, k < L → rowB n0 ((rowsL l).getD k []) = false → isPic l = false) := Lib.hid fun k hk hb => by
      rw [y4, List.all_eq_false, ← y1, ← y2]
      have hkl : k < (rowsL l).length := by rw [← HL.out]; exact hk
      refine ⟨(rowsL l)[k], List.getElem_mem hkl, ?_⟩
      rw [List.getD, List.getElem?_eq_getElem hkl] at hb
      simpa using hb
    have HALL : Hid ((∀ k, k < L → rowB n0 ((rowsL l).getD k []) = true) → isPic l = true) := Lib.hid fun hk => by
      rw [y4, List.all_eq_true, ← y1, ← y2]
      intro x hx
      obtain ⟨j, hj, rfl⟩ := List.getElem_of_mem hx
      have := hk j (by rw [HL.out]; exact hj)
      rw [List.getD, List.getElem?_eq_getElem hj] at this
      exact this
    have HEND : Hid (∀ u v, rdF (rowsL l) n0 L u v = gS (pW l) (pH l) (pD l) u v) := Lib.hid fun u v => by rw [y1, y2, y3]; exact rd_all l u v
    have HROW : Hid (∀ k, k < L → (rowsL l)[k]? = some ((rowsL l).getD k [])) := Lib.hid fun k hk => by
      have hkl : k < (rowsL l).length := by rw [← HL.out]; exact hk
      rw [List.getD, List.getElem?_eq_getElem hkl]
      rfl
    have HSTEP := Lib.hid fun k (h : ((rowsL l).getD k []).length = n0) => rd_step h
    clear y1 y2 y3 y4 hlb HYES HNO HRR hr0
    generalize rowsL l = R at *
    go_wp2
    go_loopw [24] (fun i wr => ∃ k : Nat, k ≤ L ∧ i = .int .i64 (k : Int) ∧ Hid (Ds wr w1.heap.size (rdF R n0 k)) ∧ Hid (w2.grownBy wr (some w1.heap.size)) ∧ Hid (∀ j, j < k → rowB n0 (R.getD j []) = true)) (fun i _ => L - (intOf i).toNat)
    case atStart => exact ⟨0, by omega, by simp, HD, Lib.hid (grown_refl _ _), Lib.hid fun j hj => absurd hj (by omega)⟩
    case round =>
      obtain ⟨k, hk, rfl, HDk, HGk, HOK⟩ := hrel
      have i0 := grown_heap j0 HGk.out (by simp; omega)
      have i2 := grown_heap j2 HGk.out (by simp)
      have HGW := Lib.hid (HG.out.andThen HGk.out (by intro j hj; cases hj; exact Or.inl (by omega)))
      have a0 := Lib.cell_of_heap i0 0
      have a1 := Lib.cell_of_heap i0 1
      have a2 := Lib.cell_of_heap i0 2
      have f0 := Lib.frozen_of_heap i0 0
      have f1 := Lib.frozen_of_heap i0 1
      have f2 := Lib.frozen_of_heap i0 2
      have b0 := Lib.cell_of_heap i2 0
      have b1 := Lib.cell_of_heap i2 1
      have b2 := Lib.cell_of_heap i2 2
      by_cases hlt : k < L
      · have hlt2 : (k : Int) < (L : Int) := by omega
        have hrow := HGk.out.cell (HCS.out k _ (HROW.out k hlt)) (by simp; omega)
        have hst := HSTEP.out k
        have hbad := HBAD.out k hlt
        have hok1 : rowB n0 (R.getD k []) = true → ∀ j, j < k + 1 → rowB n0 (R.getD j []) = true := fun h j hj => by
          by_cases e : j = k
          · subst e; exact h
          · exact HOK.out j (by omega)
        generalize R.getD k [] = r at *
        have hbs := bt_size r
        have hbl := bt_list r
        by_cases hw : r.length = n0
        · have hsz : (bt r).size = n0 := by omega
          have HAR := Lib.hid (addRow_any w1.heap.size (rdF R n0 k) (bt r) (k : Int) wr HDk.out (by omega) (by omega) (by omega))
          rw [hbl, hsz] at HAR
          have HST := Lib.hid (hst hw)
          have HOK1 := Lib.hid hok1
          have HRB : Hid (rowB n0 r = r.all isSgn) := Lib.hid (by unfold rowB; rw [decide_eq_true hw, Bool.true_and])
          clear hst hok1 hbs hbl hw
          cases hall : r.all isSgn with
          | true =>
            rw [hall] at HAR HRB
            clear hall hbad
            go_wp2_with (go_at_call 16; refine (HAR.out).mono ?_; rintro e w5 ⟨rfl, hd5, hg5⟩)
            have HD5 := Lib.hid ((hd5 (by trivial)).congr HST.out)
            have HG5 := Lib.hid (grown_tr HGk.out hg5)
            clear hd5 hg5
            go_wp2
            go_roundw
            case rel => exact ⟨k + 1, by omega, by go_num, HD5, HG5, Lib.hid (HOK1.out HRB.out)⟩
            case measure => simp [intOf]; omega
          | false =>
            rw [hall] at HAR HRB
            have HPN := Lib.hid (hbad HRB.out)
            clear hall hbad
            go_wp2_with (go_at_call 16; refine (HAR.out).mono ?_; rintro e w5 ⟨rfl, hd5, hg5⟩; have i5 := grown_heap i0 hg5 (by simp; omega); have q0 := Lib.cell_of_heap i5 0; have q1 := Lib.cell_of_heap i5 1; have q2 := Lib.cell_of_heap i5 2; have p0 := Lib.frozen_of_heap i5 0; have p1 := Lib.frozen_of_heap i5 1; have p2 := Lib.frozen_of_heap i5 2; have HG5 := Lib.hid (HGW.out.andThen hg5 (by intro j hj; cases hj; exact Or.inl (by omega))); clear hd5 hg5)
            obtain ⟨e0, e1, e2⟩ := put3D q0 q1 q2 (.int .i64 0) (.int .i64 0) (.map none)
            have HBE := Lib.hid ((Below.refl w.heap.size w).grown (HG5.out.andThen (grown_set3 w5 w.heap.size (.int .i64 0) (.int .i64 0) (.map none)) (by intro j hj; cases hj; exact Or.inl (Nat.le_refl _))) (Nat.le_refl _) (by simp))
            go_wp2
            exact bodyPost_ret (v := .tuple #[.agg #[.int .i64 0, .int .i64 0, .map none], .bool false]) (by simp [results, Tryd.results10, go_sem, e0, e1, e2]) rfl ⟨.inr ⟨HPN.out, rfl⟩, HBE.out⟩
        · have hne : ¬ (bt r).size = n0 := by omega
          have HPN := Lib.hid (hbad (by unfold rowB; rw [decide_eq_false hw, Bool.false_and]))
          obtain ⟨e0, e1, e2⟩ := put3D a0 a1 a2 (.int .i64 0) (.int .i64 0) (.map none)
          have HBE := Lib.hid ((Below.refl w.heap.size w).grown (HGW.out.andThen (grown_set3 wr w.heap.size (.int .i64 0) (.int .i64 0) (.map none)) (by intro j hj; cases hj; exact Or.inl (Nat.le_refl _))) (Nat.le_refl _) (by simp))
          clear hst hok1 hbad hbs hbl hw
          go_wp2
          exact bodyPost_ret (v := .tuple #[.agg #[.int .i64 0, .int .i64 0, .map none], .bool false]) (by simp [results, Tryd.results10, go_sem, e0, e1, e2]) rfl ⟨.inr ⟨HPN.out, rfl⟩, HBE.out⟩
      · obtain rfl : k = L := by omega
        have HPN := Lib.hid (HALL.out HOK.out)
        obtain ⟨e0, e1, e2⟩ := put3D a0 a1 a2 (.int .i64 (n0 : Int)) (.int .i64 (k : Int)) (.map (some w1.heap.size))
        have hgE := grown_set3 wr w.heap.size (.int .i64 (n0 : Int)) (.int .i64 (k : Int)) (.map (some w1.heap.size))
        have HBE := Lib.hid ((Below.refl w.heap.size w).grown (HGW.out.andThen hgE (by intro j hj; cases hj; exact Or.inl (Nat.le_refl _))) (Nat.le_refl _) (by simp))
        have HDE := Lib.hid ((HDk.out.kept hgE (by simp; omega)).congr HEND.out)
        clear hgE
        go_wp2
        refine bodyPost_ret (v := .tuple #[.agg #[.int .i64 (n0 : Int), .int .i64 (k : Int), .map (some w1.heap.size)], .bool true]) (by simp [results, Tryd.results10, go_sem, e0, e1, e2]) rfl ⟨.inl ⟨HPN.out, w1.heap.size, ?_, by omega, HDE.out⟩, HBE.out⟩
        rw [HPW.out, HPH.out]
  · have hlb : limB (n0 : Int) (L : Int) = false := by
      unfold limB
      by_cases h1 : 1 ≤ n0 ∧ n0 ≤ 24
      · rw [betr_no (x := (L : Int)) (by omega), Bool.and_false]
      · rw [betr_no (x := (n0 : Int)) (by omega), Bool.false_and]
    rw [hlb]
    have HPN := Lib.hid (HNO.out (by rw [← HRR.out, ← HN.out, ← HL.out]; exact hlim))
    have a0 := Lib.cell_of_heap j0 0
    have a1 := Lib.cell_of_heap j0 1
    have a2 := Lib.cell_of_heap j0 2
    have f0 := Lib.frozen_of_heap j0 0
    have f1 := Lib.frozen_of_heap j0 1
    have f2 := Lib.frozen_of_heap j0 2
    obtain ⟨e0, e1, e2⟩ := put3D a0 a1 a2 (.int .i64 0) (.int .i64 0) (.map none)
    have HBE := Lib.hid ((Below.refl w.heap.size w).grown (HG.out.andThen (grown_set3 w2 w.heap.size (.int .i64 0) (.int .i64 0) (.map none)) (by intro j hj; cases hj; exact Or.inl (Nat.le_refl _))) (Nat.le_refl _) (by simp))
    clear HYES HNO hlb hlim
    go_wp2
    exact bodyPost_ret (v := .tuple #[.agg #[.int .i64 0, .int .i64 0, .map none], .bool false]) (by simp [results, Tryd.results10, go_sem, e0, e1, e2]) rfl ⟨.inr ⟨HPN.out, rfl⟩, HBE.out⟩
end Go.Proofs.YtkjibcnddknbjaaDoor
/- Chapter 7: the program's pictures without borders; texts changed. -/
namespace Go.Proofs.YtkjibcnddknbjaaDoor
open Go.ChangeShapes Go.WideShapes Go.ChangeAt Go.RowKit Go.Maps

end Go.Proofs.YtkjibcnddknbjaaDoor
/- Chapter 7: the program's changes of texts: turned, mirrored, other dots, borders. -/
namespace Go.Proofs.YtkjibcnddknbjaaDoor
open Go.ChangeShapes Go.WideShapes Go.ChangeAt Go.RowKit Go.Maps

theorem readPicture_yes (s : ByteArray) (w : World) (hs : s.size ≤ 2000000) (hM : MaxL w) (hp : isPic s.data.toList = true) :
    Calls Tryd.prog 10 #[.string s] w fun e w' => (∃ c, e = .returned (.tuple #[.agg #[.int .i64 (pW s.data.toList : Int), .int .i64 (pH s.data.toList : Int), .map (some c)], .bool true]) ∧ w.heap.size ≤ c ∧ Ds w' c (gS (pW s.data.toList) (pH s.data.toList) (pD s.data.toList))) ∧ Below w.heap.size w w' :=
  (readPicture_any s w hs hM).mono fun e w' h => by
    obtain ⟨h1 | h1, hb⟩ := h
    · exact ⟨h1.2, hb⟩
    · rw [hp] at h1; cases h1.1
theorem readPicture_no (s : ByteArray) (w : World) (hs : s.size ≤ 2000000) (hM : MaxL w) (hp : isPic s.data.toList = false) :
    Calls Tryd.prog 10 #[.string s] w fun e w' => e = .returned (.tuple #[.agg #[.int .i64 0, .int .i64 0, .map none], .bool false]) ∧ Below w.heap.size w w' :=
  (readPicture_any s w hs hM).mono fun e w' h => by
    obtain ⟨h1 | h1, hb⟩ := h
    · rw [hp] at h1; cases h1.1
    · exact ⟨h1.2, hb⟩
theorem cf_turned : ∀ (args : Array Value) (V : World), (callFunc 18 args).run Tryd.prog V = .ok (.enter 18 args) V := fun _ _ => by kernel_rfl
theorem cf_mirrored : ∀ (args : Array Value) (V : World), (callFunc 19 args).run Tryd.prog V = .ok (.enter 19 args) V := fun _ _ => by kernel_rfl
end Go.Proofs.YtkjibcnddknbjaaDoor
/- Chapter 7: LeastPicture, by the program. -/
namespace Go.Proofs.YtkjibcnddknbjaaDoor
open Go.ChangeShapes Go.WideShapes Go.ChangeAt Go.RowKit Go.Maps

theorem bt_toL (l : List UInt8) : (bt l).toList = l := by
  have h : (bt l).toList = (bt l).data.toList := ByteArray.toList_eq _
  rw [h]
  rfl
theorem run_min2 (P : Program) (a b : List UInt8) (W : World) : (Builtin.min2 (.string (bt a)) (.string (bt b))).run P W = .ok (.string (bt (mn a b))) W := by
  rw [← mn_other]
  simp only [Builtin.min2, Op.stringOp, bt_toL]
  cases h : (Op.bytesLess a b || a == b) <;> simp [asBool]
theorem run_min3 (P : Program) (ts : Array TypeId) (t : TypeId) (a b c : List UInt8) (W : World) : (Builtin.min_ ts t #[.string (bt a), .string (bt b), .string (bt c)]).run P W = .ok (.string (bt (mn (mn a b) c))) W := by
  simp [Builtin.min_, run_min2]
theorem cells_no {w : World} {R : Nat} {cs : Array Value} {t : TypeId} {fr : Nat × Nat} (h : w.heap[R]? = some (.cells cs t fr)) : ∀ c S, Ds w c S → R ≠ c := by
  rintro c S ⟨D, ⟨es, clock, hh, _⟩, _⟩ rfl
  rw [h] at hh
  cases hh
theorem heap_set1 {W : World} {R o : Nat} {cs : Array Value} {t : TypeId} {fr : Nat × Nat} (h : W.heap[R]? = some (.cells cs t fr)) (v : Value) :
    (W.setCell ⟨R, o, none⟩ v).heap[R]? = some (.cells (cs.setIfInBounds o v) t fr) := by
  simp [World.setCell, Array.getElem?_modify, h]
theorem heap_set3 {W : World} {R : Nat} {a b c : Value} {t : TypeId} {fr : Nat × Nat} (h : W.heap[R]? = some (.cells #[a, b, c] t fr)) (p q r : Value) :
    (((W.setCell ⟨R, 0, none⟩ p).setCell ⟨R, 1, none⟩ q).setCell ⟨R, 2, none⟩ r).heap[R]? = some (.cells #[p, q, r] t fr) :=
  heap_set1 (heap_set1 (heap_set1 h p) q) r
theorem three {V : World} {k : Nat} {a b c : Value} {t : TypeId} {f : Nat × Nat} (h : V.heap[k]? = some (.cells #[a, b, c] t f)) :
    V.cell? ⟨k, 0, none⟩ = some a ∧ V.cell? ⟨k, 1, none⟩ = some b ∧ V.cell? ⟨k, 2, none⟩ = some c := ⟨Lib.cell_of_heap h 0, Lib.cell_of_heap h 1, Lib.cell_of_heap h 2⟩
structure Okp (q : Pc) : Prop where
  w0 : 1 ≤ q.1
  w1 : q.1 ≤ 24
  h0 : 1 ≤ q.2.1
  h1 : q.2.1 ≤ 24
  bd : Bd q.1 q.2.1 q.2.2
theorem Okp.trn {q : Pc} (h : Okp q) : Okp (trn q) := ⟨h.h0, h.h1, h.w0, h.w1, turn_bd h.bd⟩
theorem Okp.itr {q : Pc} (h : Okp q) : ∀ k, Okp (itr q k)
  | 0 => h
  | k + 1 => (h.itr k).trn
/-- A picture's fields. -/
abbrev fld (q : Pc) (c : Nat) : Array Value := #[.int .i64 (q.1 : Int), .int .i64 (q.2.1 : Int), .map (some c)]
set_option maxRecDepth 8000 in
set_option maxHeartbeats 3200000 in
theorem least_any (q : Pc) (b : Nat) (w : World) (hd : Ds w b q.2.2) (hq : Okp q) :
    Calls Tryd.prog 11 #[.agg (fld q b)] w fun e w' => e = .returned (.string (bt (bsp (txt q) q 4))) ∧ Below w.heap.size w w' := by
  have HTX := Lib.hid fun (r : Pc) (h : Okp r) c V (hd : Ds V c r.2.2) => (show Calls Tryd.prog 17 #[.agg (fld r c)] V fun e w' => e = .returned (.string (bt (txt r))) ∧ Below V.heap.size V w' from text_any r.1 r.2.1 (r.1 * r.2.1) c r.2.2 V hd rfl h.w0 (by have := h.w1; omega) (by have := h.h1; omega))
  have HTU := Lib.hid fun (r : Pc) (h : Okp r) c V (hd : Ds V c r.2.2) => (show Calls Tryd.prog 18 #[.agg (fld r c)] V fun e w' => (∃ c', e = .returned (.agg (fld (trn r) c')) ∧ Ds w' c' (trn r).2.2) ∧ Below V.heap.size V w' from turned_chg r.1 r.2.1 r.2.2 h.bd (by have := h.w1; omega) (by have := h.h1; omega) V c hd)
  have HMI := Lib.hid fun (r : Pc) (h : Okp r) c V (hd : Ds V c r.2.2) => (show Calls Tryd.prog 19 #[.agg (fld r c)] V fun e w' => (∃ c', e = .returned (.agg (fld (mir r) c')) ∧ Ds w' c' (mir r).2.2) ∧ Below V.heap.size V w' from mirrored_chg r.1 r.2.1 r.2.2 h.bd (by have := h.w1; omega) (by have := h.h1; omega) V c hd)
  have HMK := Lib.hid (show ∀ r : Pc, Okp r → Okp (mir r) from fun r h => ⟨h.w0, h.w1, h.h0, h.h1, mirror_bd h.bd⟩)
  have HOK := Lib.hid hq.itr
  have k0 := (MapKept.heap_alloc w (.cells (fld q b) 34)).1
  have HD := Lib.hid (hd.alloc (.cells (fld q b) 34))
  have HB := Lib.hid (show Below w.heap.size w (w.alloc (.cells (fld q b) 34)) from (Below.refl _ _).alloc (Nat.le_refl _) _)
  have hT0 := Lib.hid (HTX.out q hq b (w.alloc (.cells (fld q b) 34)) HD.out)
  have hz0 : (w.alloc (.cells (fld q b) 34)).heap.size = w.heap.size + 1 := by simp
  have HS := Lib.hid (show ∀ i, bsp (txt q) q (i + 1) = mn (mn (bsp (txt q) q i) (txt (itr q (i + 1)))) (txt (mir (itr q (i + 1)))) from fun _ => rfl)
  have HS0 := Lib.hid (show txt q = bsp (txt q) q 0 from rfl)
  have HN := Lib.hid (show ∀ i, itr q (i + 1) = trn (itr q i) from fun _ => rfl)
  have HN0 := Lib.hid (show q = itr q 0 from rfl)
  generalize bsp (txt q) q = bs at *
  clear hd hq
  go_enter Tryd.func11, Tryd.ntmps11
  go_wp2_with (go_at_call 17; refine (hT0.out).mono ?_; rintro e w1 ⟨rfl, hb1⟩)
  have k1 := grown_heap k0 (grown_of_below hb1 (Nat.le_refl _)) (by simp)
  have HD1 := Lib.hid (HD.out.below hb1)
  have HB1 := Lib.hid (HB.out.trans (hb1.mono HB.out.size))
  have hz1 : w.heap.size + 1 ≤ w1.heap.size := by have := hb1.size; omega
  clear hb1 k0 HD HB hT0
  rw [HS0.out]
  clear HS0
  go_loopw [3, 6] (fun v i wr => ∃ j c : Nat, j ≤ 4 ∧ i = .int .i64 (j : Int) ∧ v = .string (bt (bs j)) ∧ Hid (Ds wr c (itr q j).2.2) ∧ wr.heap[w.heap.size]? = some (.cells (fld (itr q j) c) 34) ∧ Hid (Below w.heap.size w wr) ∧ w.heap.size + 1 ≤ wr.heap.size) (fun _ i _ => 4 - (intOf i).toNat)
  case atStart => exact ⟨0, b, by omega, by simp, rfl, HD1, k1, HB1, hz1⟩
  case round =>
    obtain ⟨j, c, hj, rfl, rfl, hd, hk, hb, hz⟩ := hrel
    clear HD1 k1 HB1 hz1
    by_cases hlt : j < 4
    · have hlt2 : (j : Int) < 4 := by omega
      have hok := HOK.out j
      have hok1 := HOK.out (j + 1)
      have hn := HN.out j
      have hs := HS.out j
      rw [hn] at hok1 hs
      generalize itr q j = p at *
      have HU := Lib.hid (HTU.out p hok c wr hd.out)
      have c0 := Lib.cell_of_heap hk 0
      have c1 := Lib.cell_of_heap hk 1
      have c2 := Lib.cell_of_heap hk 2
      go_wp2_with (go_at_call 18; refine (HU.out).mono ?_; rintro e w2 ⟨⟨c', rfl, hd2⟩, hb2⟩; have k2 := grown_heap hk (grown_of_below hb2 (Nat.le_refl _)) (by simp); have s0 := Lib.cell_of_heap k2 0; have s1 := Lib.cell_of_heap k2 1; have s2 := Lib.cell_of_heap k2 2; have f0 := Lib.frozen_of_heap k2 0; have f1 := Lib.frozen_of_heap k2 1; have f2 := Lib.frozen_of_heap k2 2; have HD2 := Lib.hid hd2; have HB2 := Lib.hid (hb.out.trans (hb2.mono hb.out.size)); have hz2 : wr.heap.size ≤ w2.heap.size := hb2.size; clear hd2 hb2)
      have kV := heap_set3 k2 (.int .i64 ((trn p).1 : Int)) (.int .i64 ((trn p).2.1 : Int)) (.map (some c'))
      have gV := grown_set3 w2 w.heap.size (.int .i64 ((trn p).1 : Int)) (.int .i64 ((trn p).2.1 : Int)) (.map (some c'))
      have hck := cells_no k2 c' _ HD2.out
      have HDV := Lib.hid (HD2.out.kept gV (by simp; omega))
      have HBV := Lib.hid (HB2.out.grown gV (by omega) (fun j hj => by cases hj; omega))
      have hzV := gV.size
      generalize (((w2.setCell ⟨w.heap.size, 0, none⟩ (.int .i64 ((trn p).1 : Int))).setCell ⟨w.heap.size, 1, none⟩ (.int .i64 ((trn p).2.1 : Int))).setCell ⟨w.heap.size, 2, none⟩ (.map (some c'))) = V at *
      have HT1 := Lib.hid fun W (h : Ds W c' (trn p).2.2) => HTX.out (trn p) hok1 c' W h
      have HM1 := Lib.hid fun W (h : Ds W c' (trn p).2.2) => HMI.out (trn p) hok1 c' W h
      have HT2 := Lib.hid fun c W (h : Ds W c (mir (trn p)).2.2) => HTX.out (mir (trn p)) (HMK.out _ hok1) c W h
      have hmin := fun ts t W => run_min3 Tryd.prog ts t (bs j) (txt (trn p)) (txt (mir (trn p))) W
      clear HTX HTU HMI HMK HU hok
      generalize mir (trn p) = m at *
      generalize trn p = r at *
      have b0 := Lib.cell_of_heap kV 0
      have b1 := Lib.cell_of_heap kV 1
      have b2 := Lib.cell_of_heap kV 2
      clear c0 c1 c2 k2 s0 s1 s2 f0 f1 f2 gV HD2 HB2
      go_region_held3 (fun w' => w'.cell? ⟨w.heap.size, 0, none⟩ = some (.int .i64 (r.1 : Int)) ∧ w'.cell? ⟨w.heap.size, 1, none⟩ = some (.int .i64 (r.2.1 : Int)) ∧ w'.cell? ⟨w.heap.size, 2, none⟩ = some (.map (some c')))
        (first | with_reducible exact sE | with_reducible exact sD | with_reducible exact sC | exact ⟨b0, b1, b2⟩)
        (first
          | (go_at_call 17; refine (HT2.out c4 _ HM4.out).mono ?_; rintro e w5 ⟨rfl, hb5⟩; have k5 := grown_heap k4 (grown_of_below hb5 (Nat.le_refl _)) (by simp); have sE := And.intro (three k5).1 (And.intro (three k5).2.1 (three k5).2.2); have x0 := sE.1; have x1 := sE.2.1; have x2 := sE.2.2; have HD5 := Lib.hid (HD4.out.below hb5); have HB5 := Lib.hid (HB4.out.trans (hb5.mono HB4.out.size)); have hz5 : w4.heap.size ≤ w5.heap.size := hb5.size; clear hb5)
          | (go_at_call 19; refine (HM1.out _ HD3.out).mono ?_; rintro e w4 ⟨⟨c4, rfl, hd4⟩, hb4⟩; have k4 := grown_heap k3 (grown_of_below hb4 (Nat.le_refl _)) (by simp); have sD := And.intro (three k4).1 (And.intro (three k4).2.1 (three k4).2.2); have v0 := sD.1; have v1 := sD.2.1; have v2 := sD.2.2; have HM4 := Lib.hid hd4; have HD4 := Lib.hid (HD3.out.below hb4); have HB4 := Lib.hid (HB3.out.trans (hb4.mono HB3.out.size)); have hz4 : w3.heap.size ≤ w4.heap.size := hb4.size; clear hd4 hb4)
          | (go_at_call 17; refine (HT1.out _ HDV.out.drew).mono ?_; rintro e w3 ⟨rfl, hb3⟩; have k3 := grown_heap kV (grown_undrew (grown_of_below hb3 (Nat.le_refl _))) (by simp); have sC := And.intro (three k3).1 (And.intro (three k3).2.1 (three k3).2.2); have u0 := sC.1; have u1 := sC.2.1; have u2 := sC.2.2; have HD3 := Lib.hid (HDV.out.drew.below hb3); have HB3 := Lib.hid (HBV.out.drew.trans (hb3.mono HBV.out.size)); have hz3 : V.heap.size ≤ w3.heap.size := hb3.size; clear hb3)
          | fail)
      rw [← hs]
      go_wp2
      go_roundw
      case rel => exact ⟨j + 1, c', by omega, by go_num, rfl, by rw [hn]; exact HD5, by rw [hn]; exact k5, HB5, by omega⟩
      case measure => simp [intOf]; omega
    · obtain rfl : j = 4 := by omega
      go_wp2
      go_ret
      exact ⟨rfl, hb.out⟩
end Go.Proofs.YtkjibcnddknbjaaDoor
/- Chapter 7: the frames of the laws. -/
namespace Go.Proofs.YtkjibcnddknbjaaDoor
open Go.ChangeShapes Go.WideShapes Go.ChangeAt Go.RowKit

set_option maxHeartbeats 800000 in
theorem lawP_LeastPicture (s : ByteArray) (t : ByteArray) (ok : Bool) (hz : s.size ≤ 1048576)
    (hs : ∀ w : World, Calls Tryd.prog 4 #[.string s] w fun e w' => e = .returned (.tuple #[.string t, .bool ok]) ∧ Below w.heap.size w w')
    (hi : ∀ w : World, Calls Tryd.prog 5 #[.string s] w fun e w' => e = .returned (.tuple #[.string t, .bool ok]) ∧ Below w.heap.size w w') (w : World) :
    Calls Tryd.prog 3 #[.string s] w fun e w' => e = .returned (.bool true) ∧ Below w.heap.size w w' := by
  have HS := Lib.hid hs
  have HI := Lib.hid hi
  clear hs hi
  go_enter Tryd.func3, Tryd.ntmps3
  go_wp2_with (first
    | (go_at_call 4; refine (HS.out _).mono ?_; rintro e w1 ⟨rfl, hb1⟩)
    | (go_at_call 5; refine (HI.out _).mono ?_; rintro e w2 ⟨rfl, hb2⟩))
  go_ret
  exact ⟨rfl, hb1.trans (hb2.mono hb1.size)⟩
theorem lawP_LeastPicture_big0 (s : ByteArray) (hz : 1048576 < s.size) (w : World) :
    Calls Tryd.prog 3 #[.string s] w fun e w' => e = .returned (.bool true) ∧ Below w.heap.size w w' := by
  go_enter Tryd.func3, Tryd.ntmps3
  go_wp2
  go_ret
  exact ⟨rfl, Below.refl _ _⟩
end Go.Proofs.YtkjibcnddknbjaaDoor
/- Chapter 7: the specification's pieces: what a flood has in memory. -/
namespace Go.Proofs.YtkjibcnddknbjaaDoor
open Go.ChangeShapes Go.WideShapes Go.ChangeAt Go.RowKit

theorem grownBy_far {w w1 w2 : World} {row : Option Nat} {q : Nat} (h : w.grownBy w1 row) (k : w1.grownBy w2 (some q)) (hq : w.heap.size ≤ q) : w.grownBy w2 row :=
  ⟨k.os.trans h.os, k.tape.trans h.tape, k.output.trans h.output, Nat.le_trans h.size k.size, fun i hi hr => (k.block i (Nat.lt_of_lt_of_le hi h.size) (fun e => by cases e; omega)).trans (h.block i hi hr)⟩
theorem grownBy_set_new {w w1 : World} {row : Option Nat} {p j : Nat} (h : w.grownBy w1 row) (hp : w.heap.size ≤ p) (v : Value) : w.grownBy (w1.setCell ⟨p, j, none⟩ v) row :=
  grownBy_far h (q := p) (grownBy_set ⟨rfl, rfl, rfl, Nat.le_refl _, fun _ _ _ => rfl⟩ v) hp
theorem Marks.other {w : World} {base g n c b j : Nat} {d : Nat → Bool} (h : Marks w base g n c d) (hb : g ≠ b) (v : Value) : Marks (w.setCell ⟨b, j, none⟩ v) base g n c d :=
  ownsRow_setCell_other h (by simpa [Value.ownBlock] using hb) v
/-- What a flood has: the dots left, the piece, the queue; nothing else of what was there is touched. -/
structure Fld (w0 w : World) (g2 c2 B n p q qc : Nat) (rest : Nat → Bool) (Q : List Nat) : Prop where
  dots : Marks w B g2 n c2 (fun i => rest i && !decide (i ∈ Q))
  piece : Marks w p p n n (fun i => decide (i ∈ Q))
  queue : w.ownsRow (p + 1) 3 1 (.slice (some ⟨q, 0, none⟩) Q.length qc) Q.length (i64s (ofN Q))
  far : w0.grownBy w (some g2)
  z0 : w0.heap.size = p
  z1 : g2 < p
  z2 : p + 1 ≤ w.heap.size
theorem Fld.q_lt {w0 w : World} {g2 c2 B n p q qc : Nat} {rest : Nat → Bool} {Q : List Nat} (h : Fld w0 w g2 c2 B n p q qc rest Q) : p + 1 ≤ q ∧ q < w.heap.size := World.ownsRow.lt h.queue q rfl
/-- One place more. -/
theorem Fld.push {w0 w : World} {g2 c2 B n p q qc : Nat} {rest : Nat → Bool} {Q : List Nat} (h : Fld w0 w g2 c2 B n p q qc rest Q) (j : Nat) {q' qc' : Nat} {w' : World}
    (hw : w'.ownsRow (p + 1) 3 1 (.slice (some ⟨q', 0, none⟩) (Q.length + 1) qc') (Q.length + 1) (i64s (ofN Q) ++ [.int .i64 (j : Int)]))
    (hg : ((w.setCell ⟨g2, j, none⟩ (.bool false)).setCell ⟨p, j, none⟩ (.bool true)).grownBy w' (some q)) : Fld w0 w' g2 c2 B n p q' qc' rest (Q ++ [j]) := by
  have hq := h.q_lt
  have d1 := ((h.dots.set j false).other (b := p) (j := j) (by have := h.z1; omega) (.bool true)).kept hg (fun e => by cases e; have := h.z1; omega)
  have p1 := ((h.piece.put (b := g2) (j := j) h.z1 (.bool false)).set j true).kept hg (fun e => by cases e; omega)
  refine ⟨d1.congr fun m _ => ?_, p1.congr fun m _ => ?_, ?_, grownBy_far (grownBy_set_new (grownBy_set h.far _) (by have := h.z0; omega) _) hg (by have := h.z0; omega), h.z0, h.z1, ?_⟩
  · unfold updB
    by_cases e : m = j
    · subst e
      simp
    · rw [if_neg e]
      simp [e]
  · unfold updB
    by_cases e : m = j
    · subst e
      simp
    · rw [if_neg e]
      simp [e]
  · rw [List.length_append]
    rw [show i64s (ofN (Q ++ [j])) = i64s (ofN Q) ++ [.int .i64 (j : Int)] by simp [i64s, ofN]]
    exact hw
  · have := hg.size
    have h2 := h.z2
    simp at this
    omega
/-- The row of the places beside one, apart from what the flood touches. -/
def NRow (w : World) (A : Option Addr) (N : List Nat) (g2 p q : Nat) : Prop :=
  ∀ k, k < N.length → ∃ b o, A = some ⟨b, o, none⟩ ∧ b < w.heap.size ∧ b ≠ g2 ∧ b ≠ p ∧ b ≠ q ∧ w.cell? ⟨b, o + k, none⟩ = some (.int .i64 (N.getD k 0 : Nat))
theorem NRow.push {w w' : World} {A : Option Addr} {N : List Nat} {g2 p q q' j : Nat} (h : NRow w A N g2 p q) (hg : ((w.setCell ⟨g2, j, none⟩ (.bool false)).setCell ⟨p, j, none⟩ (.bool true)).grownBy w' (some q)) (hq : q' = q ∨ w.heap.size ≤ q') : NRow w' A N g2 p q' := by
  intro k hk
  obtain ⟨b, o, hA, b1, b2, b3, b4, b5⟩ := h k hk
  refine ⟨b, o, hA, ?_, b2, b3, ?_, ?_⟩
  · have := hg.size
    simp at this
    omega
  · rcases hq with rfl | hq
    · exact b4
    · omega
  · refine hg.cell ?_ (fun e => b4 (by cases e; rfl))
    rw [World.cell?_setCell_other, World.cell?_setCell_other]
    · exact b5
    · exact fun e => b2 (congrArg Addr.block e).symm
    · exact fun e => b3 (congrArg Addr.block e).symm
theorem NRow.of {w w0 : World} {A : Option Addr} {N : List Nat} {c g2 p q : Nat} (h : w0.ownsRow w.heap.size 3 1 (.slice A (ofN N).length c) (ofN N).length (i64s (ofN N))) (h1 : g2 < w.heap.size) (h2 : p < w.heap.size) (h3 : q < w.heap.size) : NRow w0 A N g2 p q := by
  intro k hk
  obtain ⟨b, o, hA, b1, b2, b3, _⟩ := (own_of_row h).at_ (k := k) (by simp [i64s, ofN]; exact hk)
  refine ⟨b, o, hA, b2, by omega, by omega, by omega, ?_⟩
  rw [b3]
  simp [i64s, ofN, List.getD, hk]
theorem Fld.under {w0 w w' : World} {g2 c2 B n p q qc : Nat} {rest : Nat → Bool} {Q : List Nat} (h : Fld w0 w g2 c2 B n p q qc rest Q) (hb : Below w.heap.size w w') : Fld w0 w' g2 c2 B n p q qc rest Q :=
  ⟨h.dots.below hb (Nat.le_refl _), h.piece.below hb (Nat.le_refl _), row_below h.queue hb (Nat.le_refl _), grownBy_far (q := w.heap.size) h.far (grownBy_of_below hb _) h.far.size, h.z0, h.z1, Nat.le_trans h.z2 hb.size⟩
theorem alloc_at (w : World) (o : Obj) : (w.alloc o).heap[w.heap.size]? = some o := by
  show (w.heap.push o)[w.heap.size]? = some o
  simp
/-- The flood's begin. -/
theorem Fld.start {w0 wA : World} {g2 c2 B n a : Nat} {rest : Nat → Bool} (hd : Marks w0 B g2 n c2 rest) (hp : Marks wA w0.heap.size w0.heap.size n n (fun _ => false)) (hg : w0.grownBy wA none) :
    Fld w0 (((wA.setCell ⟨w0.heap.size, a, none⟩ (.bool true)).setCell ⟨g2, a, none⟩ (.bool false)).alloc (.cells #[.int .i64 (a : Int)] 3)) g2 c2 B n w0.heap.size wA.heap.size 1 rest [a] := by
  have hl := hd.lt
  have hpl := hp.lt
  have d1 := ((hd.kept hg (by simp)).other (b := w0.heap.size) (j := a) (by omega) (.bool true)).set a false
  have p1 := (hp.set a true).put (b := g2) (j := a) hl.2 (.bool false)
  have hsz : ((wA.setCell ⟨w0.heap.size, a, none⟩ (.bool true)).setCell ⟨g2, a, none⟩ (.bool false)).heap.size = wA.heap.size := by simp
  refine ⟨World.ownsRow.alloc (d1.congr fun m _ => ?_) _, World.ownsRow.alloc (p1.congr fun m _ => ?_) _, ?_, ?_, rfl, hl.2, ?_⟩
  · unfold updB
    by_cases e : m = a
    · subst e
      simp
    · rw [if_neg e]
      simp [e]
  · unfold updB
    by_cases e : m = a
    · subst e
      simp
    · rw [if_neg e]
      simp [e]
  · refine ⟨rfl, .inr ⟨wA.heap.size, 1, #[.int .i64 (a : Int)], rfl, by omega, ?_, Nat.le_refl _, by decide, rfl, rfl⟩⟩
    have k := alloc_at ((wA.setCell ⟨w0.heap.size, a, none⟩ (.bool true)).setCell ⟨g2, a, none⟩ (.bool false)) (.cells #[.int .i64 (a : Int)] 3)
    rw [hsz] at k
    exact k
  · exact grownBy_trans (grownBy_set (grownBy_set_new ⟨hg.os, hg.tape, hg.output, hg.size, fun i hi _ => hg.block i hi (by simp)⟩ (Nat.le_refl _) _) _) (World.grownBy_alloc _ _ _)
  · simp
    omega
end Go.Proofs.YtkjibcnddknbjaaDoor
/- Plain facts of chapter 7, 6: a flood's queue. No program in sight. -/
namespace Go.Proofs.YtkjibcnddknbjaaDoor

theorem nodup_len (n : Nat) : ∀ Q : List Nat, Q.Nodup → (∀ i, i ∈ Q → i < n) → Q.length ≤ n := by
  induction n with
  | zero =>
    intro Q _ h
    cases Q with
    | nil => simp
    | cons x xs => have := h x (by simp); omega
  | succ n ih =>
    intro Q hd h
    by_cases hm : n ∈ Q
    · have h1 := ih (Q.erase n) (hd.erase n) (fun i hi => by
        have h2 := h i (List.mem_of_mem_erase hi)
        have h3 : i ≠ n := fun e => by subst e; exact hd.not_mem_erase hi
        omega)
      rw [List.length_erase_of_mem hm] at h1
      omega
    · have h1 := ih Q hd (fun i hi => by
        have h2 := h i hi
        have h3 : i ≠ n := fun e => hm (by rw [← e]; exact hi)
        omega)
      omega
theorem getD_of (N : List Nat) (s : Nat) (h : s < N.length) : N.getD s 0 = N[s] := by simp [List.getD, h]
/-- What a flood's queue is: all hang together with its begin, none twice; what lies beside its first k, and beside the next one's first t places beside, is in it. -/
structure Gd (W H : Nat) (d : Nat → Bool) (a : Nat) (Q : List Nat) (k t : Nat) : Prop where
  st : a ∈ Q
  cn : ∀ i, i ∈ Q → Conn W H d a i
  nd : Q.Nodup
  cl : ∀ i, i < k → ∀ j, j ∈ nbs W H (Q.getD i 0) → d j = true → j ∈ Q
  pt : ∀ s, s < t → s < (nbs W H (Q.getD k 0)).length → d ((nbs W H (Q.getD k 0)).getD s 0) = true → (nbs W H (Q.getD k 0)).getD s 0 ∈ Q
  kl : k ≤ Q.length
section
variable {W H : Nat} {d : Nat → Bool} {a : Nat} {Q : List Nat} {k t : Nat}
theorem gd_start (h : d a = true) : Gd W H d a [a] 0 0 :=
  ⟨by simp, fun i hi => by simp at hi; subst hi; exact .here h, by simp, fun i hi => by omega, fun s hs => by omega, by simp⟩
theorem gd_at (h : k < Q.length) : Q.getD k 0 ∈ Q := by
  have e : Q.getD k 0 = Q[k] := by simp [List.getD, h]
  rw [e]
  exact List.getElem_mem h
theorem gd_app (j i : Nat) (h : i < Q.length) : (Q ++ [j]).getD i 0 = Q.getD i 0 := by
  simp [List.getD, List.getElem?_append, h]
theorem gd_yes (h : Gd W H d a Q k t) (hk : k < Q.length) (ht : t < (nbs W H (Q.getD k 0)).length) (hd : d ((nbs W H (Q.getD k 0)).getD t 0) = true) (hn : (nbs W H (Q.getD k 0)).getD t 0 ∉ Q) : Gd W H d a (Q ++ [(nbs W H (Q.getD k 0)).getD t 0]) k (t + 1) := by
  have hm : (nbs W H (Q.getD k 0)).getD t 0 ∈ nbs W H (Q.getD k 0) := gd_at ht
  refine ⟨by simp [h.st], fun i hi => ?_, ?_, fun i hi j hj hdj => ?_, fun s hs hs2 hds => ?_, by simp; omega⟩
  · rw [List.mem_append, List.mem_singleton] at hi
    rcases hi with hi | rfl
    · exact h.cn i hi
    · exact .step (h.cn _ (gd_at hk)) hm hd
  · rw [List.nodup_append]
    refine ⟨h.nd, by simp, ?_⟩
    intro x hx y hy
    rw [List.mem_singleton] at hy
    exact fun e => hn (by rw [← hy, ← e]; exact hx)
  · rw [gd_app _ i (by omega)] at hj
    exact List.mem_append_left _ (h.cl i hi j hj hdj)
  · rw [gd_app _ k hk] at hs2 hds ⊢
    rcases Nat.lt_or_ge s t with h1 | h1
    · exact List.mem_append_left _ (h.pt s h1 hs2 hds)
    · obtain rfl : s = t := by omega
      simp
theorem gd_no (ha : a < W * H) (hf : fstP W H d a) (h : Gd W H d a Q k t) (hk : k < Q.length) (ht : t < (nbs W H (Q.getD k 0)).length) (hn : (rem W H d a ((nbs W H (Q.getD k 0)).getD t 0) && !decide ((nbs W H (Q.getD k 0)).getD t 0 ∈ Q)) = false) : Gd W H d a Q k (t + 1) := by
  refine ⟨h.st, h.cn, h.nd, h.cl, fun s hs hs2 hds => ?_, h.kl⟩
  rcases Nat.lt_or_ge s t with h1 | h1
  · exact h.pt s h1 hs2 hds
  · obtain rfl : s = t := by omega
    have hc : Conn W H d a ((nbs W H (Q.getD k 0)).getD s 0) := .step (h.cn _ (gd_at hk)) (gd_at ht) hds
    have hr := rem_of_conn ha hf hc
    rw [hr] at hn
    simpa using hn
theorem gd_next (h : Gd W H d a Q k t) (hk : k < Q.length) (ht : (nbs W H (Q.getD k 0)).length ≤ t) : Gd W H d a Q (k + 1) 0 := by
  refine ⟨h.st, h.cn, h.nd, fun i hi j hj hdj => ?_, fun s hs => by omega, by omega⟩
  rcases Nat.lt_or_ge i k with h1 | h1
  · exact h.cl i h1 j hj hdj
  · obtain rfl : i = k := by omega
    obtain ⟨s, hs, rfl⟩ := List.getElem_of_mem hj
    have e : (nbs W H (Q.getD i 0)).getD s 0 = (nbs W H (Q.getD i 0))[s] := getD_of _ s hs
    have k2 := h.pt s (by omega) hs
    rw [e] at k2
    exact k2 hdj
theorem gd_end (h : Gd W H d a Q k t) (hk : Q.length ≤ k) : ∀ i, pce W H d a i = decide (i ∈ Q) := by
  refine conn_list Q h.st h.cn fun i hi j hj hdj => ?_
  obtain ⟨s, hs, rfl⟩ := List.getElem_of_mem hi
  have e : Q.getD s 0 = Q[s] := by simp [List.getD, hs]
  exact h.cl s (by omega) j (by rw [e]; exact hj) hdj
theorem gd_lt (h : Gd W H d a Q k t) (ha : a < W * H) : ∀ i, i ∈ Q → i < W * H := fun i hi => conn_lt ha (h.cn i hi)
theorem gd_len (h : Gd W H d a Q k t) (ha : a < W * H) : Q.length ≤ W * H := nodup_len _ Q h.nd (gd_lt h ha)
end
end Go.Proofs.YtkjibcnddknbjaaDoor
/- Chapter 7: the specification's pieces. -/
namespace Go.Proofs.YtkjibcnddknbjaaDoor
open Go.ChangeShapes Go.WideShapes Go.ChangeAt Go.RowKit

/-- What a function hands back that answers texts: the slice of texts is its own. -/
def ResT (ok : Bool) (xs : List (List UInt8)) (w : World) (e : Ending) (w' : World) : Prop :=
  ∃ A c, e = .returned (.tuple #[.slice A xs.length c, .bool ok]) ∧ Own w' w.heap.size w'.heap.size A (strs xs) ∧ Below w.heap.size w w'
theorem app_text {ops : Array Oper} {rest : List Oper} {o : Oper} {a : Act} {X : Exit → Act → World → Prop} (base : Nat) (w : World) (hgd : o.guard = none) (s x : Operand)
    (ho : o.op = .call { callee := .builtin .append, args := #[s, x], argTypes := #[25, 25] }) (v : Value) (xs : List (List UInt8)) (hs : a.eval s = v) (hG : w.ownsRow base 9 1 v xs.length (strs xs)) (hB : base ≤ w.heap.size) (z : List UInt8)
    (hx : a.eval x = .slice (some ⟨w.heap.size, 0, none⟩) 1 1) (hl : xs.length ≤ 100000)
    (h : ∀ v' w', w'.ownsRow base 9 1 v' (xs ++ [z]).length (strs (xs ++ [z])) → w.grownBy w' v.ownBlock → wpList Tryd.prog ops X rest (a.put o.dst v') w') : wpList Tryd.prog ops X (o :: rest) a (w.alloc (.cells #[.string (bt z)] 9)) := by
  obtain ⟨i0, hi0, hz0, hz1, hz2⟩ := info_parts infoStr
  refine wpList_append_own _ hgd s x 25 ho base 9 i0 (.string ⟨#[]⟩) 1 16 Tryd.underlying25 hi0 hz0 hz1 hz2 rfl (by decide) v _ _ hs (hG.alloc _) ⟨w.heap.size, 0, none⟩ 1 1 [.string (bt z)] hx rfl ?c1 ?c2 ?c3 ?c4 ?c5 ?_
  case c1 =>
    intro j u hj
    match j, hj with
    | 0, hj => simp at hj; subst hj; simp [Addr.add]
  case c2 => intro u hu; simp at hu; subst hu; rfl
  case c3 => unfold maxLen; omega
  case c4 => omega
  case c5 => simp; omega
  · intro v' w4 hown' hgrow _
    refine h v' w4 ?_ (grownBy_trans (World.grownBy_alloc w _ _) hgrow)
    rw [List.length_append, ← strs_app]
    exact hown'
end Go.Proofs.YtkjibcnddknbjaaDoor
