/- Chapter 9: slices of clues; what the laws' helpers do with them. -/
import Derived.Test.YtljleceepghfjaaDoorTfB
import Derived.Test.YtljleceepghfjaaDoorSuP
import Derived.Test.YtljleceepghfjaaDoorSdK
import Derived.Test.YtljleceepghfjaaDoorTbN
namespace Go.Proofs.YtljleceepghfjaaDoor
open Go.ChangeShapes Go.WideShapes Go.ChangeAt Go.RowKit

theorem infoClue : (Tryd.prog.info? 34).map (fun i => (i.zero, i.size, i.bytes)) = some (some (.agg #[.int .i64 0, .int .i64 0, .int .i64 0]), 3, 24) := by kernel_rfl
/-- A clue as a value. -/
def cv (c : Clu) : Value := .agg #[.int .i64 c.k, .int .i64 c.a, .int .i64 c.b]
/-- Clues as cells. -/
abbrev c64 (cs : List Clu) : List Value := i64s (flat9 cs)
theorem c64_len (cs : List Clu) : (c64 cs).length = cs.length * 3 := by simp [flat9_len]
theorem c64_app (a b : List Clu) : c64 (a ++ b) = c64 a ++ c64 b := by
  show i64s (flat9 (a ++ b)) = i64s (flat9 a) ++ i64s (flat9 b)
  rw [flat9_app]
  exact List.map_append
theorem c64_at (cs : List Clu) (k : Nat) (h : k < cs.length) : (c64 cs)[k * 3]? = some (.int .i64 (cs.getD k clu0).k) ∧ (c64 cs)[k * 3 + 1]? = some (.int .i64 (cs.getD k clu0).a) ∧ (c64 cs)[k * 3 + 2]? = some (.int .i64 (cs.getD k clu0).b) := by
  obtain ⟨h1, h2, h3⟩ := flat9_at cs k h
  simp [h1, h2, h3]
theorem Own.clue_ {w : World} {lo hi : Nat} {A : Option Addr} {cs : List Clu} (h : Own w lo hi A (c64 cs)) {k : Nat} (hk : k < cs.length) :
    ∃ g o, A = some ⟨g, o, none⟩ ∧ lo ≤ g ∧ g < hi ∧ w.cell? ⟨g, o + k * 3, none⟩ = some (.int .i64 (cs.getD k clu0).k) ∧ w.cell? ⟨g, o + k * 3 + 1, none⟩ = some (.int .i64 (cs.getD k clu0).a) ∧ w.cell? ⟨g, o + k * 3 + 2, none⟩ = some (.int .i64 (cs.getD k clu0).b) := by
  obtain ⟨g, o, e, h1, h2, hc⟩ := h (by rw [c64_len]; omega)
  obtain ⟨p1, p2, p3⟩ := c64_at cs k hk
  exact ⟨g, o, e, h1, h2, (hc _ _ p1).1, by rw [Nat.add_assoc]; exact (hc _ _ p2).1, by rw [Nat.add_assoc]; exact (hc _ _ p3).1⟩
theorem Rd.clue_ {w : World} {hi : Nat} {A : Option Addr} {cs : List Clu} (h : Rd w hi A (c64 cs)) {k : Nat} (hk : k < cs.length) :
    ∃ ad, A = some ad ∧ ad.block < hi ∧ w.cell? (ad.add (k * 3)) = some (.int .i64 (cs.getD k clu0).k) ∧ w.cell? (ad.add (k * 3 + 1)) = some (.int .i64 (cs.getD k clu0).a) ∧ w.cell? (ad.add (k * 3 + 2)) = some (.int .i64 (cs.getD k clu0).b) := by
  obtain ⟨ad, e, h1, hc⟩ := h (by rw [c64_len]; omega)
  obtain ⟨p1, p2, p3⟩ := c64_at cs k hk
  exact ⟨ad, e, h1, hc _ _ p1, hc _ _ p2, hc _ _ p3⟩
/-- A slice from a clue on. -/
theorem take_succ9 (cs : List Clu) (k : Nat) (h : k < cs.length) : cs.take (k + 1) = cs.take k ++ [cs.getD k clu0] := by
  rw [List.take_succ_eq_append_getElem h, List.getD_eq_getElem?_getD, List.getElem?_eq_getElem h]
  rfl
/-- Three cells of a slice that are written one after the other. -/
theorem three_step {w : World} {lo hi k n : Nat} {A : Option Addr} {xs : List Int} {cs : List Value} (x y z : Int) (h : Own w lo hi A (i64s xs ++ cs.drop (k * 3))) (hx : xs.length = k * 3) (hn : cs.length = n * 3) (hk : k < n) :
    ∃ g o u v t, A = some ⟨g, o, none⟩ ∧ lo ≤ g ∧ w.cell? ⟨g, o + k * 3, none⟩ = some u ∧ w.frozen? ⟨g, o + k * 3, none⟩ = false ∧ w.cell? ⟨g, o + k * 3 + 1, none⟩ = some v ∧ w.frozen? ⟨g, o + k * 3 + 1, none⟩ = false ∧ w.cell? ⟨g, o + k * 3 + 2, none⟩ = some t ∧ w.frozen? ⟨g, o + k * 3 + 2, none⟩ = false ∧
      Own (((w.setCell ⟨g, o + k * 3, none⟩ (.int .i64 x)).setCell ⟨g, o + k * 3 + 1, none⟩ (.int .i64 y)).setCell ⟨g, o + k * 3 + 2, none⟩ (.int .i64 z)) lo hi (some ⟨g, o, none⟩) (i64s (xs ++ [x, y, z]) ++ cs.drop ((k + 1) * 3)) := by
  obtain ⟨c0, c1, c2, rest, hd⟩ : ∃ c0 c1 c2 rest, cs.drop (k * 3) = c0 :: c1 :: c2 :: rest := by
    have hl : (cs.drop (k * 3)).length ≥ 3 := by simp; omega
    match hm : cs.drop (k * 3), hl with
    | c0 :: c1 :: c2 :: rest, _ => exact ⟨c0, c1, c2, rest, rfl⟩
    | [], h => rw [hm] at hl; simp at hl
    | [_], h => rw [hm] at hl; simp at hl
    | [_, _], h => rw [hm] at hl; simp at hl
  have hr : cs.drop ((k + 1) * 3) = rest := by
    rw [show (k + 1) * 3 = k * 3 + 3 by omega, ← List.drop_drop, hd]
    rfl
  rw [hd] at h
  rw [hr]
  have hl : (i64s xs).length = k * 3 := by simp [hx]
  obtain ⟨g, o, rfl, hg1, hg2, hc⟩ := h (by simp; omega)
  have e0 : (i64s xs ++ c0 :: c1 :: c2 :: rest)[k * 3]? = some c0 := by rw [List.getElem?_append_right (by omega), hl, Nat.sub_self]; rfl
  have e1 : (i64s xs ++ c0 :: c1 :: c2 :: rest)[k * 3 + 1]? = some c1 := by rw [List.getElem?_append_right (by omega), hl, Nat.add_sub_cancel_left]; rfl
  have e2 : (i64s xs ++ c0 :: c1 :: c2 :: rest)[k * 3 + 2]? = some c2 := by rw [List.getElem?_append_right (by omega), hl, Nat.add_sub_cancel_left]; rfl
  have o1 := h.set_ (k * 3) (by simp [hx]) (.int .i64 x)
  have o2 := o1.set_ (k * 3 + 1) (by simp [hx]) (.int .i64 y)
  have o3 := o2.set_ (k * 3 + 2) (by simp [hx]) (.int .i64 z)
  have es : (((i64s xs ++ c0 :: c1 :: c2 :: rest).set (k * 3) (.int .i64 x)).set (k * 3 + 1) (.int .i64 y)).set (k * 3 + 2) (.int .i64 z) = i64s (xs ++ [x, y, z]) ++ rest := by
    rw [List.set_append_right _ _ (by omega), hl, Nat.sub_self, List.set_append_right _ _ (by omega), hl, Nat.add_sub_cancel_left, List.set_append_right _ _ (by omega), hl, Nat.add_sub_cancel_left]
    simp
  rw [es] at o3
  exact ⟨g, o, c0, c1, c2, rfl, hg1, (hc _ _ e0).1, (hc _ _ e0).2, by rw [Nat.add_assoc]; exact (hc _ _ e1).1, by rw [Nat.add_assoc]; exact (hc _ _ e1).2, by rw [Nat.add_assoc]; exact (hc _ _ e2).1, by rw [Nat.add_assoc]; exact (hc _ _ e2).2, o3⟩
theorem marks_three (m : Int) (k : Nat) : marks m (k * 3) ++ [m + 3 * (k : Int), m + 3 * (k : Int) + 1, m + 3 * (k : Int) + 2] = marks m ((k + 1) * 3) := by
  unfold marks
  rw [show (k + 1) * 3 = k * 3 + 1 + 1 + 1 by omega, List.range_succ, List.range_succ, List.range_succ]
  simp
  omega

theorem eqClue_same (a b c : Int) (w : World) :
    Calls Tryd.prog 27 #[.agg #[.int .i64 a, .int .i64 b, .int .i64 c], .agg #[.int .i64 a, .int .i64 b, .int .i64 c]] w fun e w' => e = .returned (.bool true) ∧ Below w.heap.size w w' := by
  go_enter Tryd.func27, Tryd.ntmps27
  go_wp2
  go_ret
  exact ⟨rfl, ((Below.refl _ _).alloc (Nat.le_refl _) _).alloc (by simp) _⟩
set_option maxHeartbeats 1600000 in
theorem eqClueS_same (A B : Option Addr) (n c d l1 h1 l2 h2 : Nat) (xs : List Clu) (w : World) (hn : xs.length = n) (hm : n ≤ 1000000000)
    (ha : Own w l1 h1 A (c64 xs)) (hb : Own w l2 h2 B (c64 xs)) (hz1 : h1 ≤ w.heap.size) (hz2 : h2 ≤ w.heap.size) :
    Calls Tryd.prog 16 #[.slice A n c, .slice B n d] w fun e w' => e = .returned (.bool true) ∧ Below w.heap.size w w' := by
  have HA := Lib.hid ha
  have HB := Lib.hid hb
  have HN := Lib.hid hn
  clear ha hb hn
  go_enter Tryd.func16, Tryd.ntmps16
  go_wp2
  go_loopw [5] (fun i wr => ∃ k : Nat, k ≤ n ∧ i = .int .i64 k ∧ Below w.heap.size w wr) (fun i _ => n - (intOf i).toNat)
  case atStart => exact ⟨0, Nat.zero_le _, rfl, Below.refl _ _⟩
  case round =>
    obtain ⟨k, hk, rfl, hw⟩ := hrel
    by_cases hlt : k < n
    · have hlen : k < xs.length := by rw [HN.out]; exact hlt
      obtain ⟨g, o, rfl, _, hg, hca0, hca1, hca2⟩ := (HA.out.below hw hz1).clue_ hlen
      obtain ⟨g', o', rfl, _, hg', hcb0, hcb1, hcb2⟩ := (HB.out.below hw hz2).clue_ hlen
      generalize (xs.getD k clu0).k = x at hca0 hcb0
      generalize (xs.getD k clu0).a = y at hca1 hcb1
      generalize (xs.getD k clu0).b = z at hca2 hcb2
      have hi : (k : Int) < (n : Int) := by omega
      have hgz : g < wr.heap.size := by have := hw.size; omega
      have hgz' : g' < wr.heap.size := by have := hw.size; omega
      clear hlen
      go_wp2
      go_region_held3 (fun w' => w'.cell? ⟨g, o + k * 3, none⟩ = some (.int .i64 x) ∧ w'.cell? ⟨g, o + k * 3 + 1, none⟩ = some (.int .i64 y) ∧ w'.cell? ⟨g, o + k * 3 + 2, none⟩ = some (.int .i64 z) ∧ w'.cell? ⟨g', o' + k * 3, none⟩ = some (.int .i64 x) ∧ w'.cell? ⟨g', o' + k * 3 + 1, none⟩ = some (.int .i64 y) ∧ w'.cell? ⟨g', o' + k * 3 + 2, none⟩ = some (.int .i64 z))
        (first | exact ⟨hca0, hca1, hca2, hcb0, hcb1, hcb2⟩ | exact ⟨(hb1.cell (p := ⟨g, o + k * 3, none⟩) hgz).trans hca0, (hb1.cell (p := ⟨g, o + k * 3 + 1, none⟩) hgz).trans hca1, (hb1.cell (p := ⟨g, o + k * 3 + 2, none⟩) hgz).trans hca2, (hb1.cell (p := ⟨g', o' + k * 3, none⟩) hgz').trans hcb0, (hb1.cell (p := ⟨g', o' + k * 3 + 1, none⟩) hgz').trans hcb1, (hb1.cell (p := ⟨g', o' + k * 3 + 2, none⟩) hgz').trans hcb2⟩)
        (first | (go_at_call 27; refine (eqClue_same _ _ _ _).mono ?_; rintro e w1 ⟨rfl, hb1⟩))
      go_wp2
      go_roundw
      case rel => exact ⟨k + 1, by omega, by go_num, hw.trans ((Below.refl _ _).drew.trans (hb1.mono hw.size))⟩
      case measure => simp [intOf]; omega
    · go_wp2
      go_ret
      exact ⟨rfl, hw⟩
set_option maxHeartbeats 1600000 in
theorem markClueS_any (A : Option Addr) (n c lo hi : Nat) (cs : List Value) (m : Int) (w : World) (hn : cs.length = n * 3) (hm : n ≤ 1000000000) (m0 : 0 ≤ m) (m1 : m ≤ 1000000000)
    (ha : Own w lo hi A cs) :
    Calls Tryd.prog 17 #[.slice A n c, .int .i64 m] w fun e w' => e = .returned (.int .i64 (m + 3 * n)) ∧ Own w' lo hi A (i64s (marks m (n * 3))) ∧ Below lo w w' ∧ Far lo hi w w' := by
  have HA := Lib.hid ha
  have HN := Lib.hid hn
  clear ha hn
  go_enter Tryd.func17, Tryd.ntmps17
  go_wp2
  go_loopw [1, 5] (fun v i wr => ∃ k : Nat, k ≤ n ∧ i = .int .i64 k ∧ v = .int .i64 (m + 3 * k) ∧ Hid (Own wr lo hi A (i64s (marks m (k * 3)) ++ cs.drop (k * 3))) ∧ Below lo w wr ∧ Hid (Far lo hi w wr)) (fun _ i _ => n - (intOf i).toNat)
  case atStart => exact ⟨0, Nat.zero_le _, rfl, by simp, by simpa [marks] using HA, Below.refl _ _, Lib.hid (Far.refl _ _ _)⟩
  case round =>
    obtain ⟨k, hk, rfl, rfl, HO, hb, HF⟩ := hrel
    by_cases hlt : k < n
    · have hg2 : ∀ g o, A = some ⟨g, o, none⟩ → g < hi := fun g o e => by
        obtain ⟨g', o', e', _, h2, _⟩ := HO.out (by simp [marks_len, HN.out]; omega)
        rw [e] at e'
        injection e' with e'
        injection e' with e1 _ _
        omega
      obtain ⟨g, o, z, z', z'', rfl, hg1, hca, hfa, hcb, hfb, hcc, hfc, hown2⟩ := three_step (n := n) (m + 3 * (k : Int)) (m + 3 * (k : Int) + 1) (m + 3 * (k : Int) + 1 + 1) HO.out (marks_len _ _) HN.out hlt
      rw [show m + 3 * (k : Int) + 1 + 1 = m + 3 * (k : Int) + 2 by omega, marks_three, show m + 3 * (k : Int) + 2 = m + 3 * (k : Int) + 1 + 1 by omega] at hown2
      have HO2 := Lib.hid hown2
      have hb2 := ((hb.setCell (p := ⟨g, o + k * 3, none⟩) hg1 (.int .i64 (m + 3 * (k : Int)))).setCell (p := ⟨g, o + k * 3 + 1, none⟩) hg1 (.int .i64 (m + 3 * (k : Int) + 1))).setCell (p := ⟨g, o + k * 3 + 2, none⟩) hg1 (.int .i64 (m + 3 * (k : Int) + 1 + 1))
      have HF2 := Lib.hid (((HF.out.set_ (o := o + k * 3) hg1 (hg2 _ _ rfl) (.int .i64 (m + 3 * (k : Int)))).set_ (o := o + k * 3 + 1) hg1 (hg2 _ _ rfl) (.int .i64 (m + 3 * (k : Int) + 1))).set_ (o := o + k * 3 + 2) hg1 (hg2 _ _ rfl) (.int .i64 (m + 3 * (k : Int) + 1 + 1)))
      clear hown2 hg2
      go_wp2
      go_roundw
      case rel => exact ⟨k + 1, by omega, by go_num, by go_num, HO2, hb2, HF2⟩
      case measure => simp [intOf]; omega
    · obtain rfl : k = n := by omega
      have hO := HO.out
      rw [List.drop_eq_nil_of_le (by rw [HN.out]; exact Nat.le_refl _), List.append_nil] at hO
      have HO3 := Lib.hid hO
      clear hO
      go_wp2
      go_ret
      exact ⟨rfl, HO3.out, hb, HF.out⟩
set_option maxHeartbeats 1600000 in
theorem heldClueS_any (A : Option Addr) (n c lo hi : Nat) (m : Int) (w : World) (hm : n ≤ 1000000000) (m0 : 0 ≤ m) (m1 : m ≤ 1000000000)
    (ha : Own w lo hi A (i64s (marks m (n * 3)))) :
    Calls Tryd.prog 18 #[.slice A n c, .int .i64 m] w fun e w' => e = .returned (.int .i64 (m + 3 * n)) ∧ w = w' := by
  have HA := Lib.hid ha
  clear ha
  go_enter Tryd.func18, Tryd.ntmps18
  go_wp2
  go_loop [1, 5] (fun v i => ∃ k : Nat, k ≤ n ∧ i = .int .i64 k ∧ v = .int .i64 (m + 3 * k)) (fun _ i => n - (intOf i).toNat)
  case atStart => exact ⟨0, Nat.zero_le _, rfl, by simp⟩
  case round =>
    obtain ⟨k, hk, rfl, rfl⟩ := hrel
    by_cases hlt : k < n
    · obtain ⟨g, o, rfl, _, _, hc⟩ := HA.out (by simp [marks_len]; omega)
      have e0 := (hc (k * 3) (.int .i64 (m + 3 * k)) (by simp [marks_get m (n * 3) (k * 3) (by omega)]; omega)).1
      have e1 := (hc (k * 3 + 1) (.int .i64 (m + 3 * k + 1)) (by simp [marks_get m (n * 3) (k * 3 + 1) (by omega)]; omega)).1
      have e2 := (hc (k * 3 + 2) (.int .i64 (m + 3 * k + 2)) (by simp [marks_get m (n * 3) (k * 3 + 2) (by omega)]; omega)).1
      rw [← Nat.add_assoc] at e1 e2
      clear hc
      go_wp2
      go_round
      case rel => exact ⟨k + 1, by omega, by go_num, by go_num⟩
      case measure => simp [intOf]; omega
    · obtain rfl : k = n := by omega
      go_wp2
      go_ret
      exact ⟨rfl, rfl⟩
end Go.Proofs.YtljleceepghfjaaDoor
