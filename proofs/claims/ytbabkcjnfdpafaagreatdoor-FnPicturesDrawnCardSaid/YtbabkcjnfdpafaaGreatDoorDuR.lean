/- Chapter 7: the dots of a row added, by the program. -/
import Derived.Test.YtbabkcjnfdpafaaGreatDoorMd
import Derived.Test.YtbabkcjnfdpafaaGreatDoorMa
import Derived.Lib.OthersKept
namespace Go.Proofs.YtbabkcjnfdpafaaGreatDoor
open Go.ChangeShapes Go.WideShapes Go.ChangeAt Go.RowKit Go.Maps

/-- The dots of S and those of the first k signs of a row. -/
def rwF (S : Int → Int → Bool) (r : List UInt8) (y : Int) (k : Nat) (u v : Int) : Bool := S u v || (decide (v = y ∧ 0 ≤ u ∧ u < (k : Int)) && r.getD u.toNat 0 == 111)
theorem rw_zero (S : Int → Int → Bool) (r : List UInt8) (y u v : Int) : S u v = rwF S r y 0 u v := by
  unfold rwF
  have : decide (v = y ∧ 0 ≤ u ∧ u < ((0 : Nat) : Int)) = false := decide_eq_false (by omega)
  rw [this]
  simp
theorem rw_iff {S : Int → Int → Bool} {r : List UInt8} {y : Int} {k : Nat} {u v : Int} : rwF S r y k u v = true ↔ S u v = true ∨ ((v = y ∧ 0 ≤ u ∧ u < (k : Int)) ∧ r.getD u.toNat 0 = 111) := by simp [rwF]
theorem rw_yes {S : Int → Int → Bool} {r : List UInt8} {y : Int} {k : Nat} (h : r.getD k 0 = 111) (u v : Int) : aS (rwF S r y k) (k : Int) y u v = rwF S r y (k + 1) u v := by
  rw [Bool.eq_iff_iff]
  unfold aS
  rw [Bool.or_eq_true, rw_iff, rw_iff, Bool.and_eq_true, decide_eq_true_eq, decide_eq_true_eq]
  constructor
  · rintro ((h1 | ⟨⟨h1, h2, h3⟩, h4⟩) | ⟨rfl, rfl⟩)
    · exact .inl h1
    · exact .inr ⟨⟨h1, h2, by omega⟩, h4⟩
    · exact .inr ⟨⟨rfl, by omega, by omega⟩, by simpa using h⟩
  · rintro (h1 | ⟨⟨h1, h2, h3⟩, h4⟩)
    · exact .inl (.inl h1)
    · by_cases e : u = (k : Int)
      · exact .inr ⟨e, h1⟩
      · exact .inl (.inr ⟨⟨h1, h2, by omega⟩, h4⟩)
theorem rw_no {S : Int → Int → Bool} {r : List UInt8} {y : Int} {k : Nat} (h : r.getD k 0 ≠ 111) (u v : Int) : rwF S r y k u v = rwF S r y (k + 1) u v := by
  rw [Bool.eq_iff_iff, rw_iff, rw_iff]
  constructor
  · rintro (h1 | ⟨⟨h1, h2, h3⟩, h4⟩)
    · exact .inl h1
    · exact .inr ⟨⟨h1, h2, by omega⟩, h4⟩
  · rintro (h1 | ⟨⟨h1, h2, h3⟩, h4⟩)
    · exact .inl h1
    · by_cases e : u = (k : Int)
      · subst e
        rw [Int.toNat_natCast] at h4
        exact absurd h4 h
      · exact .inr ⟨⟨h1, h2, by omega⟩, h4⟩
theorem grown_iterAt (w : World) (k : Nat) (s : ByteArray) (pos : Nat) : w.grownBy (w.iterAt k s pos) (some k) := ⟨rfl, rfl, rfl, by rw [Lib.iterAt_size]; exact Nat.le_refl _, fun i _ hne => Lib.iterAt_other w k i s pos (fun e => hne (by rw [e]))⟩
theorem grown_heap1 {w w' : World} {row : Option Nat} {k : Nat} {o : Obj} (h : w.heap[k]? = some o) (hg : w.grownBy w' row) (hne : some k ≠ row) : w'.heap[k]? = some o :=
  (hg.block k (Array.getElem?_eq_some_iff.1 h).1 hne).trans h
theorem grown_tr1 {a b c : World} {row : Option Nat} (h : a.grownBy b row) (k : b.grownBy c row) : a.grownBy c row := h.andThen k fun _ e => Or.inr e
theorem ba_getD (s : ByteArray) (k : Nat) (h : k < s.size) : s.data.toList.getD k 0 = s[k] := by
  have hl : k < s.data.toList.length := by simpa using h
  rw [List.getD, List.getElem?_eq_getElem hl]
  simp [ByteArray.getElem_eq_getElem_data]
set_option maxRecDepth 8000 in
set_option maxHeartbeats 3200000 in
theorem addRow_any (b : Nat) (S : Int → Int → Bool) (s : ByteArray) (y : Int) (w : World) (h : Ds w b S) (hs : s.size ≤ 50) (y0 : 0 ≤ y) (y1 : y < 50) :
    Calls Tryz.prog 85 #[.map (some b), .string s, .int .i64 y] w fun e w' => e = .returned (.bool (s.data.toList.all isSgn)) ∧ (s.data.toList.all isSgn = true → Ds w' b (rwF S s.data.toList y s.size)) ∧ w.grownBy w' (some b) := by
  have hbl := h.lt
  have HYES := Lib.hid fun k (h : s.data.toList.getD k 0 = 111) => rw_yes (S := S) (y := y) h
  have HNO := Lib.hid fun k (h : s.data.toList.getD k 0 ≠ 111) => rw_no (S := S) (y := y) h
  have HG := Lib.hid fun k (h : k < s.size) => ba_getD s k h
  have HBAD : Hid (∀ k, (h : k < s.size) → isSgn s[k] = false → s.data.toList.all isSgn = false) := Lib.hid fun k h hb => by
    rw [List.all_eq_false]
    exact ⟨s[k], by rw [ByteArray.getElem_eq_getElem_data]; simp, by simpa using hb⟩
  have HALL : Hid ((∀ k, (h : k < s.size) → isSgn s[k] = true) → s.data.toList.all isSgn = true) := Lib.hid fun hk => by
    rw [List.all_eq_true]
    intro x hx
    obtain ⟨j, hj, rfl⟩ := List.getElem_of_mem hx
    have := hk j (by simpa using hj)
    rw [ByteArray.getElem_eq_getElem_data] at this
    simpa using this
  have HZ := Lib.hid (h.congr (rw_zero S s.data.toList y))
  clear h
  generalize s.data.toList.all isSgn = ok at *
  generalize rwF S s.data.toList y = T at *
  go_enter Tryz.func85, Tryz.ntmps85
  go_wp2
  have HIT : Hid ((w.iter s 0).heap[w.heap.size]? = some (.stringIter s 0)) := Lib.hid (World.iter_heap w s 0)
  have HG0 := Lib.hid (World.grownBy_alloc w (.stringIter s 0) none)
  have HD0 := Lib.hid (HZ.out.alloc (.stringIter s 0))
  go_loopw [] (fun wr => ∃ pos : Nat, pos ≤ s.size ∧ Hid (wr.heap[w.heap.size]? = some (.stringIter s pos)) ∧ Hid (Ds wr b (T pos)) ∧ Hid (w.grownBy wr (some b)) ∧ Hid (∀ k, k < pos → (h : k < s.size) → isSgn s[k] = true)) (fun wr => s.size - wr.iterPos w.heap.size)
  case atStart => exact ⟨0, Nat.zero_le _, HIT, HD0, Lib.hid (HG0.out.but _), Lib.hid fun k hk => absurd hk (by omega)⟩
  case round =>
    obtain ⟨pos, hpos, HI, HD, HW, HOK⟩ := hrel
    by_cases hp : pos < s.size
    · have hgd := HG.out pos hp
      have hyes := HYES.out pos
      have hno := HNO.out pos
      have hi1 := fun p' => Lib.iterAt_heap wr w.heap.size s pos p' HI.out
      have hg1 := fun p' => grown_iterAt wr w.heap.size s p'
      have HIP : Hid (wr.iterPos w.heap.size = pos) := Lib.hid (by simp [World.iterPos, HI.out])
      rw [hgd] at hyes hno
      by_cases hs1 : isSgn s[pos] = true
      · have hok1 : ∀ k, k < pos + 1 → (h : k < s.size) → isSgn s[k] = true := fun k hk h => by
          by_cases e : k = pos
          · subst e; exact hs1
          · exact HOK.out k (by omega) h
        have HOK1 := Lib.hid hok1
        have HI1 := Lib.hid (hi1 (pos + 1))
        have HW1 := Lib.hid (HW.out.andThen (hg1 (pos + 1)) (by intro j hj; cases hj; exact Or.inl (Nat.le_refl _)))
        have HD1 := Lib.hid (HD.out.kept (hg1 (pos + 1)) (by simp; omega))
        by_cases hc : s[pos] = 111
        · have hnx : ∀ ty, (Instr.next (.pointer (some ⟨w.heap.size, 0, none⟩)) true ty).run Tryz.prog wr = .ok (.tuple #[.bool true, .int .i64 pos, .int .i32 111]) (wr.iterAt w.heap.size s (pos + 1)) := fun ty => by
            rw [Lib.run_next_ascii_at wr w.heap.size s pos ty HI.out hp (by rw [hc]; decide), hc]
            rfl
          have HY := Lib.hid (hyes hc)
          clear hok1 hs1 hc hyes hno hgd hi1 hg1
          go_wp2_with (go_at_call 94; refine (add_any _ _ _ _ _ HD1.out (by omega)).mono ?_; rintro e w6 ⟨rfl, hd6, hg6⟩)
          have HD6 := Lib.hid (hd6.congr HY.out)
          have HW6 := Lib.hid (grown_tr1 HW1.out hg6)
          have HI6 := Lib.hid (grown_heap1 HI1.out hg6 (by simp; omega))
          clear hd6 hg6
          go_wp2
          go_roundw
          case rel => exact ⟨pos + 1, by omega, HI6, HD6, HW6, HOK1⟩
          case measure => rw [HIP.out]; simp only [World.iterPos, HI6.out]; omega
        · have hc2 : s[pos] = 46 := by
            unfold isSgn at hs1
            simp [hc] at hs1
            exact hs1
          have hnx : ∀ ty, (Instr.next (.pointer (some ⟨w.heap.size, 0, none⟩)) true ty).run Tryz.prog wr = .ok (.tuple #[.bool true, .int .i64 pos, .int .i32 46]) (wr.iterAt w.heap.size s (pos + 1)) := fun ty => by
            rw [Lib.run_next_ascii_at wr w.heap.size s pos ty HI.out hp (by rw [hc2]; decide), hc2]
            rfl
          have HD2 := Lib.hid (HD1.out.congr (hno hc))
          clear hok1 hs1 hc hc2 hyes hno hgd hi1 hg1
          go_wp2
          go_roundw
          case rel => exact ⟨pos + 1, by omega, HI1, HD2, HW1, HOK1⟩
          case measure => rw [HIP.out]; simp only [World.iterPos, HI1.out]; omega
      · have hs2 : isSgn s[pos] = false := by simpa using hs1
        have hfalse := HBAD.out pos hp hs2
        obtain ⟨v, p', hv1, hv2, hnx⟩ : ∃ (v : Int) (p' : Nat), (v == 111) = false ∧ (v == 46) = false ∧ ∀ ty, (Instr.next (.pointer (some ⟨w.heap.size, 0, none⟩)) true ty).run Tryz.prog wr = .ok (.tuple #[.bool true, .int .i64 pos, .int .i32 v]) (wr.iterAt w.heap.size s p') := by
          by_cases ha : s[pos].toNat < 128
          · refine ⟨_, _, ?_, ?_, fun ty => Lib.run_next_ascii_at wr w.heap.size s pos ty HI.out hp ha⟩
            · have : s[pos] ≠ 111 := fun e => by rw [e] at hs2; cases hs2
              have : s[pos].toNat ≠ 111 := fun e => this (UInt8.toNat_inj.1 e)
              simp; omega
            · have : s[pos] ≠ 46 := fun e => by rw [e] at hs2; cases hs2
              have : s[pos].toNat ≠ 46 := fun e => this (UInt8.toNat_inj.1 e)
              simp; omega
          · have hd := (decode_high s pos hp (by omega)).1
            refine ⟨_, _, ?_, ?_, fun ty => Lib.run_next_any_at wr w.heap.size s pos ty HI.out hp⟩
            · simp; omega
            · simp; omega
        have HW1 := Lib.hid (HW.out.andThen (hg1 p') (by intro j hj; cases hj; exact Or.inl (Nat.le_refl _)))
        have HFA := Lib.hid hfalse
        clear hfalse hs1 hs2 hyes hno hgd hi1 hg1
        go_wp2
        go_ret
        exact ⟨by rw [HFA.out]; rfl, fun e => (by rw [HFA.out] at e; cases e), HW1.out⟩
    · obtain rfl : pos = s.size := by omega
      have hnx : ∀ ty, (Instr.next (.pointer (some ⟨w.heap.size, 0, none⟩)) true ty).run Tryz.prog wr = .ok (.tuple #[.bool false]) wr := fun ty => Lib.run_next_end_at wr w.heap.size s s.size ty HI.out hp
      have HTR := Lib.hid (HALL.out fun k hk => HOK.out k hk hk)
      go_wp2
      go_ret
      exact ⟨by rw [HTR.out]; rfl, fun _ => HD.out, HW.out⟩
end Go.Proofs.YtbabkcjnfdpafaaGreatDoor
