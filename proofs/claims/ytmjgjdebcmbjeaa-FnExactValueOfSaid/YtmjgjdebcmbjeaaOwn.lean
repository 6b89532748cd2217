/- A slice whose cells are known; what the laws' helpers do with slices of numbers: compare, mark, look again. -/
import Derived.Test.YtmjgjdebcmbjeaaChecked
import Derived.WalkKit
import Derived.WalkSpells
import Derived.Lib.Hide
import Derived.Deep.QuietTactic
import Derived.BigQuiet
namespace Go.Proofs.Ytmjgjdebcmbjeaa
open Go.RowKit

/-- A slice at the address A has the cells cs, in a block from lo up to below hi, none of them frozen. -/
def Own (w : World) (lo hi : Nat) (A : Option Addr) (cs : List Value) : Prop :=
  0 < cs.length → ∃ g o, A = some ⟨g, o, none⟩ ∧ lo ≤ g ∧ g < hi ∧ ∀ j u, cs[j]? = some u → w.cell? ⟨g, o + j, none⟩ = some u ∧ w.frozen? ⟨g, o + j, none⟩ = false

section
variable {w w' : World} {lo hi : Nat} {A : Option Addr} {cs : List Value}
theorem Own.none_ : Own w lo hi none [] := fun h => absurd h (by simp)
theorem Own.nil_ : Own w lo hi A [] := fun h => absurd h (by simp)
theorem Own.below {B : Nat} (h : Own w lo hi A cs) (hb : Below B w w') (hB : hi ≤ B) : Own w' lo hi A cs := fun hn => by
  obtain ⟨g, o, e, h1, h2, hc⟩ := h hn
  refine ⟨g, o, e, h1, h2, fun j u hu => ?_⟩
  rw [hb.cell (p := ⟨g, o + j, none⟩) (Nat.lt_of_lt_of_le h2 hB), hb.frozen (p := ⟨g, o + j, none⟩) (Nat.lt_of_lt_of_le h2 hB)]
  exact hc j u hu
theorem Own.drewN (h : Own w lo hi A cs) (k : Nat) : Own (w.drewN k) lo hi A cs := h
theorem Own.wide (h : Own w lo hi A cs) {lo' hi' : Nat} (h1 : lo' ≤ lo) (h2 : hi ≤ hi') : Own w lo' hi' A cs := fun hn => by
  obtain ⟨g, o, e, h3, h4, hc⟩ := h hn
  exact ⟨g, o, e, by omega, by omega, hc⟩
theorem Own.at_ (h : Own w lo hi A cs) {k : Nat} (hk : k < cs.length) : ∃ g o, A = some ⟨g, o, none⟩ ∧ lo ≤ g ∧ g < hi ∧ w.cell? ⟨g, o + k, none⟩ = some cs[k] ∧ w.frozen? ⟨g, o + k, none⟩ = false := by
  obtain ⟨g, o, e, h1, h2, hc⟩ := h (by omega)
  obtain ⟨h3, h4⟩ := hc k _ (List.getElem?_eq_getElem hk)
  exact ⟨g, o, e, h1, h2, h3, h4⟩
/-- out of the library's word for a row of the call's own -/
theorem own_of_row {base : Nat} {e : TypeId} {size n c : Nat} (h : w.ownsRow base e size (.slice A n c) n cs) : Own w base w.heap.size A cs := fun hn => by
  obtain ⟨hl, h2⟩ := h
  rcases h2 with ⟨hv, h0⟩ | ⟨g, cap, cur, hv, hg, hh, hnc, hcm, hcs, ht⟩
  · subst h0
    simp at hl
    subst hl
    simp at hn
  · injection hv with hA _ _
    subst hA
    have hown : w.ownsRow base e size (.slice (some ⟨g, 0, none⟩) n cap) n cs := ⟨hl, .inr ⟨g, cap, cur, rfl, hg, hh, hnc, hcm, hcs, ht⟩⟩
    have hlt : g < w.heap.size := by
      rcases Nat.lt_or_ge g w.heap.size with h | h
      · exact h
      · rw [Array.getElem?_eq_none h] at hh; cases hh
    refine ⟨g, 0, rfl, hg, hlt, fun j u hu => ?_⟩
    have hj : j < n * size := by
      rw [← hl]
      exact (List.getElem?_eq_some_iff.1 hu).1
    rw [Nat.zero_add]
    exact ⟨(hown.cellAt j hj).trans hu, hown.frozenAt j⟩
theorem row_form {base : Nat} {e : TypeId} {size n : Nat} {v : Value} (h : w.ownsRow base e size v n cs) : ∃ A c, v = .slice A n c := by
  rcases h.2 with ⟨rfl, rfl⟩ | ⟨g, cap, cur, rfl, _⟩
  · exact ⟨_, _, rfl⟩
  · exact ⟨_, _, rfl⟩
end

theorem row_below {w w' : World} {base B : Nat} {e : TypeId} {size n : Nat} {v : Value} {cs : List Value} (h : w.ownsRow base e size v n cs) (hb : Below B w w') (hB : w.heap.size ≤ B) : w'.ownsRow base e size v n cs :=
  h.kept (row := none) ⟨hb.os, hb.tape, hb.output, hb.size, fun i hi _ => hb.block i (by omega)⟩ (by cases hv : v.ownBlock <;> simp)

/-- Numbers as cells. -/
abbrev i64s (xs : List Int) : List Value := xs.map (Value.int .i64)

/-- What a function with a slice of numbers and a bool hands back: the numbers xs, in memory of its own. -/
def ResI (ok : Bool) (xs : List Int) (w : World) (e : Ending) (w' : World) : Prop :=
  ∃ A c, e = .returned (.tuple #[.slice A xs.length c, .bool ok]) ∧ Own w' w.heap.size w'.heap.size A (i64s xs) ∧ Below w.heap.size w w'
theorem resI_nil {ok : Bool} {w w' : World} (hb : Below w.heap.size w w') : ResI ok [] w (.returned (.tuple #[.slice none 0 0, .bool ok])) w' := ⟨none, 0, rfl, Own.none_, hb⟩
theorem below_drewN {B : Nat} {a w : World} (h : Below B a w) (n : Nat) : Below B a (w.drewN n) := ⟨h.os, h.tape, h.output, h.size, h.block⟩

set_option maxHeartbeats 400000 in
theorem eqIntS_same (A B : Option Addr) (n c d l1 h1 l2 h2 : Nat) (xs : List Int) (w : World) (hn : xs.length = n) (hm : n ≤ 1000000000)
    (ha : Own w l1 h1 A (i64s xs)) (hb : Own w l2 h2 B (i64s xs)) :
    Calls Try.prog 22 #[.slice A n c, .slice B n d] w fun e w' => e = .returned (.bool true) ∧ ∃ q, w' = w.drewN q := by
  have HA := Lib.hid ha
  have HB := Lib.hid hb
  have HN := Lib.hid hn
  clear ha hb hn
  go_enter Try.func22, Try.ntmps22
  go_wp2
  go_loopw [5] (fun i wr => ∃ k q : Nat, k ≤ n ∧ i = .int .i64 k ∧ wr = w.drewN q) (fun i _ => n - (intOf i).toNat)
  case atStart => exact ⟨0, 0, Nat.zero_le _, rfl, rfl⟩
  case round =>
    obtain ⟨k, q, hk, rfl, rfl⟩ := hrel
    by_cases hlt : k < n
    · obtain ⟨g, o, rfl, _, _, hca, _⟩ := HA.out.at_ (k := k) (by simp [HN.out]; omega)
      obtain ⟨g', o', rfl, _, _, hcb, _⟩ := HB.out.at_ (k := k) (by simp [HN.out]; omega)
      have hcx : w.cell? ⟨g, o + k, none⟩ = some (.int .i64 (xs[k]'(by rw [HN.out]; exact hlt))) := by simpa using hca
      have hcy : w.cell? ⟨g', o' + k, none⟩ = some (.int .i64 (xs[k]'(by rw [HN.out]; exact hlt))) := by simpa using hcb
      generalize xs[k]'(by rw [HN.out]; exact hlt) = z at hcx hcy
      clear hca hcb
      have hi : (k : Int) < (n : Int) := by omega
      go_wp2
      go_quiet (fail)
      go_wp2
      go_roundw
      case rel => exact ⟨k + 1, _, by omega, by go_num, rfl⟩
      case measure => simp [intOf]; omega
    · go_wp2
      go_ret
      exact ⟨rfl, q, rfl⟩

/-- The numbers m, m + 1, .., n of them. -/
def marks (m : Int) (n : Nat) : List Int := (List.range n).map fun (j : Nat) => m + (j : Int)
theorem marks_len (m : Int) (n : Nat) : (marks m n).length = n := by simp [marks]
theorem marks_get (m : Int) (n k : Nat) (h : k < n) : (marks m n)[k]? = some (m + k) := by simp [marks, h]
theorem marks_set (m : Int) (cs : List Value) (k : Nat) (h : k < cs.length) : (i64s (marks m k) ++ cs.drop k).set k (.int .i64 (m + k)) = i64s (marks m (k + 1)) ++ cs.drop (k + 1) := by
  rw [List.set_append_right _ _ (by simp [marks_len])]
  simp only [List.length_map, marks_len, Nat.sub_self]
  rw [List.drop_eq_getElem_cons h, List.set_cons_zero]
  simp [marks, List.range_succ]
theorem Own.set_ {w : World} {lo hi g o : Nat} {cs : List Value} (h : Own w lo hi (some ⟨g, o, none⟩) cs) (k : Nat) (hk : k < cs.length) (u : Value) : Own (w.setCell ⟨g, o + k, none⟩ u) lo hi (some ⟨g, o, none⟩) (cs.set k u) := fun hn => by
  obtain ⟨g', o', e, h1, h2, hc⟩ := h (by omega)
  injection e with e
  injection e with e1 e2 _
  subst e1
  subst e2
  refine ⟨g, o, rfl, h1, h2, fun j v hv => ?_⟩
  rw [World.frozen?_setCell]
  by_cases hj : j = k
  · subst hj
    rw [List.getElem?_set_self hk] at hv
    injection hv with hv
    subst hv
    obtain ⟨h3, h4⟩ := hc j _ (List.getElem?_eq_getElem hk)
    exact ⟨World.cell?_setCell_same w _ _ h3, h4⟩
  · rw [List.getElem?_set_ne (fun e => hj e.symm)] at hv
    obtain ⟨h3, h4⟩ := hc j v hv
    refine ⟨(World.cell?_setCell_other w _ _ _ (fun e => ?_)).trans h3, h4⟩
    injection e with _ e _
    omega

set_option maxHeartbeats 400000 in
theorem markIntS_any (A : Option Addr) (n c lo hi : Nat) (cs : List Value) (m : Int) (w : World) (hn : cs.length = n) (hm : n ≤ 1000000000) (m0 : 0 ≤ m) (m1 : m ≤ 1000000000)
    (ha : Own w lo hi A cs) :
    Calls Try.prog 23 #[.slice A n c, .int .i64 m] w fun e w' => e = .returned (.int .i64 (m + n)) ∧ Own w' lo hi A (i64s (marks m n)) ∧ Below lo w w' := by
  have HA := Lib.hid ha
  have HN := Lib.hid hn
  clear ha hn
  go_enter Try.func23, Try.ntmps23
  go_wp2
  go_loopw [1, 5] (fun v i wr => ∃ k : Nat, k ≤ n ∧ i = .int .i64 k ∧ v = .int .i64 (m + k) ∧ Hid (Own wr lo hi A (i64s (marks m k) ++ cs.drop k)) ∧ Below lo w wr) (fun _ i _ => n - (intOf i).toNat)
  case atStart => exact ⟨0, Nat.zero_le _, rfl, by simp, by simpa [marks] using HA, Below.refl _ _⟩
  case round =>
    obtain ⟨k, hk, rfl, rfl, HO, hb⟩ := hrel
    by_cases hlt : k < n
    · have hlen : k < (i64s (marks m k) ++ cs.drop k).length := by simp [marks_len, HN.out]; omega
      obtain ⟨g, o, rfl, hg1, hg2, hca, hfa⟩ := HO.out.at_ hlen
      have hown := HO.out.set_ k hlen (.int .i64 (m + k))
      rw [marks_set m cs k (by rw [HN.out]; exact hlt)] at hown
      have HO2 := Lib.hid hown
      have hb2 : Below lo w (wr.setCell ⟨g, o + k, none⟩ (.int .i64 (m + k))) := hb.setCell hg1 _
      generalize (i64s (marks m k) ++ cs.drop k)[k]'hlen = z at hca
      clear hown hlen
      go_wp2
      go_roundw
      case rel => exact ⟨k + 1, by omega, by go_num, by go_num, HO2, hb2⟩
      case measure => simp [intOf]; omega
    · obtain rfl : k = n := by omega
      have hO := HO.out
      rw [List.drop_eq_nil_of_le (by rw [HN.out]; exact Nat.le_refl _), List.append_nil] at hO
      have HO3 := Lib.hid hO
      clear hO
      go_wp2
      go_ret
      exact ⟨rfl, HO3.out, hb⟩

set_option maxHeartbeats 400000 in
theorem heldIntS_any (A : Option Addr) (n c lo hi : Nat) (m : Int) (w : World) (hm : n ≤ 1000000000) (m0 : 0 ≤ m) (m1 : m ≤ 1000000000)
    (ha : Own w lo hi A (i64s (marks m n))) :
    Calls Try.prog 24 #[.slice A n c, .int .i64 m] w fun e w' => e = .returned (.int .i64 (m + n)) ∧ w = w' := by
  have HA := Lib.hid ha
  clear ha
  go_enter Try.func24, Try.ntmps24
  go_wp2
  go_loop [1, 5] (fun v i => ∃ k : Nat, k ≤ n ∧ i = .int .i64 k ∧ v = .int .i64 (m + k)) (fun _ i => n - (intOf i).toNat)
  case atStart => exact ⟨0, Nat.zero_le _, rfl, by simp⟩
  case round =>
    obtain ⟨k, hk, rfl, rfl⟩ := hrel
    by_cases hlt : k < n
    · obtain ⟨g, o, rfl, _, _, hca, _⟩ := HA.out.at_ (k := k) (by simp [marks_len]; exact hlt)
      have hcx : w.cell? ⟨g, o + k, none⟩ = some (.int .i64 (m + k)) := by
        rw [hca]
        simp [marks]
      clear hca
      go_wp2
      go_round
      case rel => exact ⟨k + 1, by omega, by go_num, by go_num⟩
      case measure => simp [intOf]; omega
    · obtain rfl : k = n := by omega
      go_wp2
      go_ret
      exact ⟨rfl, rfl⟩
end Go.Proofs.Ytmjgjdebcmbjeaa
