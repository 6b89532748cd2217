/- Chapter 9: what the laws do with puzzles: their size, copies, comparisons, marks. -/
import Derived.Test.YtlhdapeamdpicaaDoorTfE
namespace Go.Proofs.YtlhdapeamdpicaaDoor
open Go.ChangeShapes Go.WideShapes Go.ChangeAt Go.RowKit

/-- A slice in blocks from lo up is not touched by a store below. -/
theorem own_set9 {w : World} {lo hi : Nat} {A : Option Addr} {cs : List Value} {p : Addr} {u : Value} (h : Own w lo hi A cs) (hp : p.block < lo) : Own (w.setCell p u) lo hi A cs := fun hn => by
  obtain ⟨g, o, e, h1, h2, hc⟩ := h hn
  refine ⟨g, o, e, h1, h2, fun j v hv => ?_⟩
  obtain ⟨h3, h4⟩ := hc j v hv
  rw [World.frozen?_setCell]
  exact ⟨(World.cell?_setCell_other w _ _ _ (fun e => by rw [e] at hp; simp at hp; omega)).trans h3, h4⟩
theorem szClueS_any (A : Option Addr) (n c : Nat) (left : Int) (w : World) (hn : n ≤ 9223372036854775807) (h0 : 0 ≤ left) (h1 : left ≤ 1048576) :
    Calls Tryd.prog 14 #[.slice A n c, .int .i64 left] w fun e w' => e = .returned (.int .i64 (if left < (n : Int) then -1 else left - n)) ∧ w = w' := by
  have hni : (n : Int) ≤ 9223372036854775807 := by omega
  by_cases h : left < (n : Int)
  · rw [if_pos h]
    go_enter Tryd.func14, Tryd.ntmps14
    go_wp2
    go_ret
    exact ⟨rfl, rfl⟩
  · rw [if_neg h]
    go_enter Tryd.func14, Tryd.ntmps14
    go_wp2
    go_ret
    exact ⟨rfl, rfl⟩
theorem szPuzzle_any (m : Int) (A : Option Addr) (n c : Nat) (left : Int) (w : World) (hn : n ≤ 9223372036854775807) (h0 : 0 ≤ left) (h1 : left ≤ 1048576) :
    Calls Tryd.prog 5 #[.agg #[.int .i64 m, .slice A n c], .int .i64 left] w fun e w' => e = .returned (.int .i64 (if left < (n : Int) then -1 else left - n)) ∧ Below w.heap.size w w' := by
  have HS := Lib.hid fun W => szClueS_any A n c left W hn h0 h1
  by_cases h : left < (n : Int)
  · rw [if_pos h] at HS ⊢
    go_enter Tryd.func5, Tryd.ntmps5
    go_wp2_with (go_at_call 14; refine (HS.out _).mono ?_; rintro e w' ⟨rfl, rfl⟩)
    go_ret
    exact ⟨rfl, (Below.refl _ _).alloc (Nat.le_refl _) _⟩
  · rw [if_neg h] at HS ⊢
    go_enter Tryd.func5, Tryd.ntmps5
    go_wp2_with (go_at_call 14; refine (HS.out _).mono ?_; rintro e w' ⟨rfl, rfl⟩)
    go_ret
    exact ⟨rfl, (Below.refl _ _).alloc (Nat.le_refl _) _⟩
set_option maxHeartbeats 800000 in
theorem toPuzzle_cap (m : Int) (A : Option Addr) (n c : Nat) (xs : List Clu) (w : World) (hn : xs.length = n) (hm : n ≤ 1048576) (ha : Rd w w.heap.size A (c64 xs)) :
    Calls Tryd.prog 7 #[.agg #[.int .i64 m, .slice A n c]] w fun e w' => ∃ B, e = .returned (.agg #[.int .i64 m, .slice B n n]) ∧ Own w' w.heap.size w'.heap.size B (c64 xs) ∧ Below w.heap.size w w' := by
  have HA := Lib.hid ha
  clear ha
  go_enter Tryd.func7, Tryd.ntmps7
  go_wp2_with fail
  obtain ⟨w3, hw3⟩ : ∃ w3, w3 = ((w.alloc (.cells #[.int .i64 m, .slice A n c] 24)).alloc (.cells #[.int .i64 0, .slice none 0 0] 30)).alloc (.cells #[.int .i64 m, .slice none 0 0] 30) := ⟨_, rfl⟩
  have hb3 : Below w.heap.size w w3 := by
    rw [hw3]
    exact (((Below.refl _ _).alloc (Nat.le_refl _) _).alloc (by simp) _).alloc (by simp; omega) _
  have hz3 : w3.heap.size = w.heap.size + 3 := by rw [hw3]; simp
  have c10 : w3.cell? ⟨w.heap.size + 1, 0, none⟩ = some (.int .i64 0) := by rw [hw3]; simp [go_sem]
  have c11 : w3.cell? ⟨w.heap.size + 1, 1, none⟩ = some (.slice none 0 0) := by rw [hw3]; simp [go_sem]
  have c20 : w3.cell? ⟨w.heap.size + 1 + 1, 0, none⟩ = some (.int .i64 m) := by rw [hw3]; simp [go_sem]
  have c21 : w3.cell? ⟨w.heap.size + 1 + 1, 1, none⟩ = some (.slice none 0 0) := by rw [hw3]; simp [go_sem]
  have f10 : w3.frozen? ⟨w.heap.size + 1, 0, none⟩ = false := by rw [hw3]; simp [go_sem]
  have f11 : w3.frozen? ⟨w.heap.size + 1, 1, none⟩ = false := by rw [hw3]; simp [go_sem]
  have f21 : w3.frozen? ⟨w.heap.size + 1 + 1, 1, none⟩ = false := by rw [hw3]; simp [go_sem]
  rw [← hw3]
  have hrd : Rd w3 w3.heap.size A (c64 xs) := fun h => by
    obtain ⟨ad, e1, e2, e3⟩ := (HA.out.below hb3 (Nat.le_refl _)) h
    exact ⟨ad, e1, Nat.lt_of_lt_of_le e2 hb3.size, e3⟩
  refine (toClueS_cap A n c xs w3 hn hm hrd).mono ?_
  rintro e w4 ⟨⟨B, rfl, ho⟩, hb4⟩
  have d10 := (hb4.cell (p := ⟨w.heap.size + 1, 0, none⟩) (by show w.heap.size + 1 < w3.heap.size; omega)).trans c10
  have d11 := (hb4.cell (p := ⟨w.heap.size + 1, 1, none⟩) (by show w.heap.size + 1 < w3.heap.size; omega)).trans c11
  have d20 := (hb4.cell (p := ⟨w.heap.size + 1 + 1, 0, none⟩) (by show w.heap.size + 1 + 1 < w3.heap.size; omega)).trans c20
  have d21 := (hb4.cell (p := ⟨w.heap.size + 1 + 1, 1, none⟩) (by show w.heap.size + 1 + 1 < w3.heap.size; omega)).trans c21
  have g10 := (hb4.frozen (p := ⟨w.heap.size + 1, 0, none⟩) (by show w.heap.size + 1 < w3.heap.size; omega)).trans f10
  have g11 := (hb4.frozen (p := ⟨w.heap.size + 1, 1, none⟩) (by show w.heap.size + 1 < w3.heap.size; omega)).trans f11
  have g21 := (hb4.frozen (p := ⟨w.heap.size + 1 + 1, 1, none⟩) (by show w.heap.size + 1 + 1 < w3.heap.size; omega)).trans f21
  have hB : Below w.heap.size w w4 := hb3.trans (hb4.mono hb3.size)
  have hB2 : Below w.heap.size w (((w4.setCell ⟨w.heap.size + 1 + 1, 1, none⟩ (.slice B n n)).setCell ⟨w.heap.size + 1, 0, none⟩ (.int .i64 m)).setCell ⟨w.heap.size + 1, 1, none⟩ (.slice B n n)) := ((hB.setCell (by show w.heap.size ≤ w.heap.size + 1 + 1; omega) _).setCell (by show w.heap.size ≤ w.heap.size + 1; omega) _).setCell (by show w.heap.size ≤ w.heap.size + 1; omega) _
  have hO2 : Own (((w4.setCell ⟨w.heap.size + 1 + 1, 1, none⟩ (.slice B n n)).setCell ⟨w.heap.size + 1, 0, none⟩ (.int .i64 m)).setCell ⟨w.heap.size + 1, 1, none⟩ (.slice B n n)) w.heap.size w4.heap.size B (c64 xs) := (own_set9 (own_set9 (own_set9 ho (by show w.heap.size + 1 + 1 < _; omega)) (by show w.heap.size + 1 < _; omega)) (by show w.heap.size + 1 < _; omega)).wide hb3.size (Nat.le_refl _)
  have HB2 := Lib.hid hB2
  have HO2 := Lib.hid hO2
  clear hB2 hO2 hB ho hb4 hrd hb3 hz3 c10 c11 c20 c21 f10 f11 f21 hw3
  go_wp2
  exact bodyPost_ret (v := .agg #[.int .i64 m, .slice B n n]) (by simp [results, Tryd.results7, go_sem, d10, d11]) rfl ⟨B, rfl, by simpa using HO2.out, HB2.out⟩
theorem toPuzzle_any (m : Int) (A : Option Addr) (n c : Nat) (xs : List Clu) (w : World) (hn : xs.length = n) (hm : n ≤ 1048576) (ha : Rd w w.heap.size A (c64 xs)) :
    Calls Tryd.prog 7 #[.agg #[.int .i64 m, .slice A n c]] w fun e w' => ∃ B d, e = .returned (.agg #[.int .i64 m, .slice B n d]) ∧ Own w' w.heap.size w'.heap.size B (c64 xs) ∧ Below w.heap.size w w' :=
  (toPuzzle_cap m A n c xs w hn hm ha).mono fun _ _ ⟨B, h1, h2, h3⟩ => ⟨B, n, h1, h2, h3⟩
set_option maxHeartbeats 800000 in
theorem eqPuzzle_same (m : Int) (A B : Option Addr) (n c d l1 h1 l2 h2 : Nat) (xs : List Clu) (w : World) (hn : xs.length = n) (hm : n ≤ 1000000000)
    (ha : Own w l1 h1 A (c64 xs)) (hb : Own w l2 h2 B (c64 xs)) (hz1 : h1 ≤ w.heap.size) (hz2 : h2 ≤ w.heap.size) :
    Calls Tryd.prog 9 #[.agg #[.int .i64 m, .slice A n c], .agg #[.int .i64 m, .slice B n d]] w fun e w' => e = .returned (.bool true) ∧ Below w.heap.size w w' := by
  have hb2 : Below w.heap.size w ((w.alloc (.cells #[.int .i64 m, .slice A n c] 30)).alloc (.cells #[.int .i64 m, .slice B n d] 30)) := ((Below.refl _ _).alloc (Nat.le_refl _) _).alloc (by simp) _
  have HE := Lib.hid (eqClueS_same A B n c d l1 h1 l2 h2 xs _ hn hm (ha.below hb2 hz1) (hb.below hb2 hz2) (Nat.le_trans hz1 hb2.size) (Nat.le_trans hz2 hb2.size))
  have HB := Lib.hid hb2
  clear hb2 ha hb
  go_enter Tryd.func9, Tryd.ntmps9
  go_wp2_with (go_at_call 20; refine HE.out.mono ?_; rintro e w' ⟨rfl, hb3⟩)
  go_ret
  exact ⟨rfl, HB.out.trans (hb3.mono HB.out.size)⟩
set_option maxHeartbeats 800000 in
theorem markPuzzle_any (p : Int) (A : Option Addr) (n c lo hi : Nat) (cs : List Value) (m : Int) (w : World) (hn : cs.length = n * 3) (hm : n ≤ 1000000000) (m0 : 0 ≤ m) (m1 : m ≤ 1000000000)
    (ha : Own w lo hi A cs) (hlo : lo ≤ w.heap.size) (hhi : hi ≤ w.heap.size) :
    Calls Tryd.prog 12 #[.agg #[.int .i64 p, .slice A n c], .int .i64 m] w fun e w' => e = .returned (.int .i64 (m + 3 * n)) ∧ Own w' lo hi A (i64s (marks m (n * 3))) ∧ Below lo w w' ∧ ∀ l h B ys, Own w l h B ys → h ≤ w.heap.size → (h ≤ lo ∨ hi ≤ l) → Own w' l h B ys := by
  have hb2 : Below w.heap.size w (w.alloc (.cells #[.int .i64 p, .slice A n c] 30)) := (Below.refl _ _).alloc (Nat.le_refl _) _
  have HE := Lib.hid (markClueS_any A n c lo hi cs m _ hn hm m0 m1 (ha.below hb2 hhi))
  have HB : Hid (Below lo w (w.alloc (.cells #[.int .i64 p, .slice A n c] 30))) := Lib.hid (hb2.mono hlo)
  have HK := Lib.hid fun l h B ys (ho : Own w l h B ys) (hh : h ≤ w.heap.size) => ho.below hb2 hh
  clear hb2 ha
  go_enter Tryd.func12, Tryd.ntmps12
  go_wp2_with (go_at_call 26; refine HE.out.mono ?_; rintro e w' ⟨rfl, ho, hb3, hf3⟩; have HO := Lib.hid ho; have HB3 := Lib.hid hb3; have HF3 := Lib.hid hf3; clear ho hb3 hf3)
  go_ret
  exact ⟨rfl, HO.out, HB.out.trans HB3.out, fun l h B ys ho hh hd => (HK.out l h B ys ho hh).far8 HF3.out hd⟩
set_option maxHeartbeats 800000 in
theorem heldPuzzle_any (p : Int) (A : Option Addr) (n c lo hi : Nat) (m : Int) (w : World) (hm : n ≤ 1000000000) (m0 : 0 ≤ m) (m1 : m ≤ 1000000000)
    (ha : Own w lo hi A (i64s (marks m (n * 3)))) (hhi : hi ≤ w.heap.size) :
    Calls Tryd.prog 13 #[.agg #[.int .i64 p, .slice A n c], .int .i64 m] w fun e w' => e = .returned (.int .i64 (m + 3 * n)) ∧ Below w.heap.size w w' := by
  have hb2 : Below w.heap.size w (w.alloc (.cells #[.int .i64 p, .slice A n c] 30)) := (Below.refl _ _).alloc (Nat.le_refl _) _
  have HE := Lib.hid (heldClueS_any A n c lo hi m _ hm m0 m1 (ha.below hb2 hhi))
  have HB := Lib.hid hb2
  clear hb2 ha
  go_enter Tryd.func13, Tryd.ntmps13
  go_wp2_with (go_at_call 27; refine HE.out.mono ?_; rintro e w' ⟨rfl, rfl⟩)
  go_ret
  exact ⟨rfl, HB.out⟩
end Go.Proofs.YtlhdapeamdpicaaDoor
