/- Slices of structs of two numbers: what the laws' helpers do with them. -/
import Derived.Test.YtmeiioiilpieiaaOwn
import Derived.Deep.RegionHeld3
namespace Go.Proofs.Ytmeiioiilpieiaa
open Go.RowKit

/-- Pairs of numbers as cells. -/
def prs (xs : List (Int × Int)) : List Value := xs.flatMap fun x => [.int .i64 x.1, .int .i64 x.2]
theorem prs_len (xs : List (Int × Int)) : (prs xs).length = 2 * xs.length := by
  induction xs with
  | nil => rfl
  | cons x xs ih => simp [prs] at ih ⊢; omega
theorem prs_get (xs : List (Int × Int)) (k : Nat) (h : k < xs.length) : (prs xs)[2 * k]? = some (.int .i64 xs[k].1) ∧ (prs xs)[2 * k + 1]? = some (.int .i64 xs[k].2) := by
  induction xs generalizing k with
  | nil => simp at h
  | cons x xs ih =>
    cases k with
    | zero => simp [prs]
    | succ k =>
      have := ih k (by simpa using h)
      have e1 : 2 * (k + 1) = 2 * k + 1 + 1 := by omega
      have e2 : 2 * (k + 1) + 1 = 2 * k + 1 + 1 + 1 := by omega
      rw [e2, e1]
      simpa [prs] using this
theorem prs_app (xs : List (Int × Int)) (a b : Int) : prs xs ++ [.int .i64 a, .int .i64 b] = prs (xs ++ [(a, b)]) := by simp [prs]
theorem Own.pair_ {w : World} {lo hi : Nat} {A : Option Addr} {xs : List (Int × Int)} (h : Own w lo hi A (prs xs)) {k : Nat} (hk : k < xs.length) :
    ∃ g o, A = some ⟨g, o, none⟩ ∧ lo ≤ g ∧ g < hi ∧ w.cell? ⟨g, o + k * 2, none⟩ = some (.int .i64 xs[k].1) ∧ w.cell? ⟨g, o + k * 2 + 1, none⟩ = some (.int .i64 xs[k].2) := by
  obtain ⟨g, o, e, h1, h2, hc⟩ := h (by rw [prs_len]; omega)
  obtain ⟨p1, p2⟩ := prs_get xs k hk
  refine ⟨g, o, e, h1, h2, ?_, ?_⟩
  · rw [Nat.mul_comm k 2]; exact (hc _ _ p1).1
  · rw [Nat.mul_comm k 2, Nat.add_assoc]; exact (hc _ _ p2).1
theorem mark2_step {w : World} {lo hi n k : Nat} {A : Option Addr} {cs : List Value} {m : Int} (h : Own w lo hi A (i64s (marks m (2 * k)) ++ cs.drop (2 * k))) (hn : cs.length = 2 * n) (hk : k < n) :
    ∃ g o z z', A = some ⟨g, o, none⟩ ∧ lo ≤ g ∧ w.cell? ⟨g, o + k * 2, none⟩ = some z ∧ w.frozen? ⟨g, o + k * 2, none⟩ = false ∧ w.cell? ⟨g, o + k * 2 + 1, none⟩ = some z' ∧ w.frozen? ⟨g, o + k * 2 + 1, none⟩ = false ∧
      Own ((w.setCell ⟨g, o + k * 2, none⟩ (.int .i64 (m + 2 * k))).setCell ⟨g, o + k * 2 + 1, none⟩ (.int .i64 (m + 2 * k + 1))) lo hi (some ⟨g, o, none⟩) (i64s (marks m (2 * (k + 1))) ++ cs.drop (2 * (k + 1))) := by
  have hl0 : 2 * k < cs.length := by omega
  have hl1 : 2 * k + 1 < cs.length := by omega
  have hlen : 2 * k < (i64s (marks m (2 * k)) ++ cs.drop (2 * k)).length := by simp [marks_len]; omega
  have hlen1 : 2 * k + 1 < (i64s (marks m (2 * k)) ++ cs.drop (2 * k)).length := by simp [marks_len]; omega
  obtain ⟨g, o, rfl, hg1, hg2, hc⟩ := h (by omega)
  obtain ⟨c0, f0⟩ := hc _ _ (List.getElem?_eq_getElem hlen)
  obtain ⟨c1, f1⟩ := hc _ _ (List.getElem?_eq_getElem hlen1)
  have o1 := h.set_ (2 * k) hlen (.int .i64 (m + (2 * k : Nat)))
  rw [marks_set m cs (2 * k) hl0] at o1
  have o2 := o1.set_ (2 * k + 1) (by simp [marks_len]; omega) (.int .i64 (m + (2 * k + 1 : Nat)))
  rw [marks_set m cs (2 * k + 1) hl1] at o2
  have a0 : o + 2 * k = o + k * 2 := by omega
  have a1 : o + (2 * k + 1) = o + k * 2 + 1 := by omega
  have a2 : m + ((2 * k : Nat) : Int) = m + 2 * k := by omega
  have a3 : m + ((2 * k + 1 : Nat) : Int) = m + 2 * k + 1 := by omega
  have a4 : 2 * k + 1 + 1 = 2 * (k + 1) := by omega
  rw [a0, a1, a2, a3, a4] at o2
  refine ⟨g, o, _, _, rfl, hg1, by rw [← a0]; exact c0, by rw [← a0]; exact f0, by rw [← a1]; exact c1, by rw [← a1]; exact f1, o2⟩
/-- What a function with a slice of pairs and a bool hands back. -/
def ResP (ok : Bool) (xs : List (Int × Int)) (w : World) (e : Ending) (w' : World) : Prop :=
  ∃ A c, e = .returned (.tuple #[.slice A xs.length c, .bool ok]) ∧ Own w' w.heap.size w'.heap.size A (prs xs) ∧ Below w.heap.size w w'
theorem resP_nil {ok : Bool} {w w' : World} (hb : Below w.heap.size w w') : ResP ok [] w (.returned (.tuple #[.slice none 0 0, .bool ok])) w' := ⟨none, 0, rfl, Own.none_, hb⟩




theorem eqRun_same (a b : Int) (w : World) :
    Calls Try.prog 30 #[.agg #[.int .i64 a, .int .i64 b], .agg #[.int .i64 a, .int .i64 b]] w fun e w' => e = .returned (.bool true) ∧ Below w.heap.size w w' := by
  go_enter Try.func30, Try.ntmps30
  go_wp2
  go_ret
  exact ⟨rfl, ((Below.refl _ _).alloc (Nat.le_refl _) _).alloc (by simp) _⟩

set_option maxHeartbeats 800000 in
theorem eqRunS_same (A B : Option Addr) (n c d l1 h1 l2 h2 : Nat) (xs : List (Int × Int)) (w : World) (hn : xs.length = n) (hm : n ≤ 1000000000)
    (ha : Own w l1 h1 A (prs xs)) (hb : Own w l2 h2 B (prs xs)) (hz1 : h1 ≤ w.heap.size) (hz2 : h2 ≤ w.heap.size) :
    Calls Try.prog 23 #[.slice A n c, .slice B n d] w fun e w' => e = .returned (.bool true) ∧ Below w.heap.size w w' := by
  have HA := Lib.hid ha
  have HB := Lib.hid hb
  have HN := Lib.hid hn
  clear ha hb hn
  go_enter Try.func23, Try.ntmps23
  go_wp2
  go_loopw [5] (fun i wr => ∃ k : Nat, k ≤ n ∧ i = .int .i64 k ∧ Below w.heap.size w wr) (fun i _ => n - (intOf i).toNat)
  case atStart => exact ⟨0, Nat.zero_le _, rfl, Below.refl _ _⟩
  case round =>
    obtain ⟨k, hk, rfl, hw⟩ := hrel
    by_cases hlt : k < n
    · have hlen : k < xs.length := by rw [HN.out]; exact hlt
      obtain ⟨g, o, rfl, _, hg, hca0, hca1⟩ := (HA.out.below hw hz1).pair_ hlen
      obtain ⟨g', o', rfl, _, hg', hcb0, hcb1⟩ := (HB.out.below hw hz2).pair_ hlen
      generalize (xs[k]'hlen).1 = x at hca0 hcb0
      generalize (xs[k]'hlen).2 = y at hca1 hcb1
      have hi : (k : Int) < (n : Int) := by omega
      have hgz : g < wr.heap.size := by have := hw.size; omega
      have hgz' : g' < wr.heap.size := by have := hw.size; omega
      clear hlen
      go_wp2
      go_region_held3 (fun w' => w'.cell? ⟨g, o + k * 2, none⟩ = some (.int .i64 x) ∧ w'.cell? ⟨g, o + k * 2 + 1, none⟩ = some (.int .i64 y) ∧ w'.cell? ⟨g', o' + k * 2, none⟩ = some (.int .i64 x) ∧ w'.cell? ⟨g', o' + k * 2 + 1, none⟩ = some (.int .i64 y))
        (first | exact ⟨hca0, hca1, hcb0, hcb1⟩ | exact ⟨(hb1.cell (p := ⟨g, o + k * 2, none⟩) hgz).trans hca0, (hb1.cell (p := ⟨g, o + k * 2 + 1, none⟩) hgz).trans hca1, (hb1.cell (p := ⟨g', o' + k * 2, none⟩) hgz').trans hcb0, (hb1.cell (p := ⟨g', o' + k * 2 + 1, none⟩) hgz').trans hcb1⟩)
        (first | (go_at_call 30; refine (eqRun_same _ _ _).mono ?_; rintro e w1 ⟨rfl, hb1⟩))
      go_wp2
      go_roundw
      case rel => exact ⟨k + 1, by omega, by go_num, hw.trans ((Below.refl _ _).drew.trans (hb1.mono hw.size))⟩
      case measure => simp [intOf]; omega
    · go_wp2
      go_ret
      exact ⟨rfl, hw⟩

set_option maxHeartbeats 800000 in
theorem markRunS_any (A : Option Addr) (n c lo hi : Nat) (cs : List Value) (m : Int) (w : World) (hn : cs.length = 2 * n) (hm : n ≤ 1000000000) (m0 : 0 ≤ m) (m1 : m ≤ 1000000000)
    (ha : Own w lo hi A cs) :
    Calls Try.prog 24 #[.slice A n c, .int .i64 m] w fun e w' => e = .returned (.int .i64 (m + 2 * n)) ∧ Own w' lo hi A (i64s (marks m (2 * n))) ∧ Below lo w w' := by
  have HA := Lib.hid ha
  have HN := Lib.hid hn
  clear ha hn
  go_enter Try.func24, Try.ntmps24
  go_wp2
  go_loopw [1, 5] (fun v i wr => ∃ k : Nat, k ≤ n ∧ i = .int .i64 k ∧ v = .int .i64 (m + 2 * k) ∧ Hid (Own wr lo hi A (i64s (marks m (2 * k)) ++ cs.drop (2 * k))) ∧ Below lo w wr) (fun _ i _ => n - (intOf i).toNat)
  case atStart => exact ⟨0, Nat.zero_le _, rfl, by simp, by simpa [marks] using HA, Below.refl _ _⟩
  case round =>
    obtain ⟨k, hk, rfl, rfl, HO, hb⟩ := hrel
    by_cases hlt : k < n
    · obtain ⟨g, o, z, z', rfl, hg1, hca, hfa, hcb, hfb, hown2⟩ := mark2_step (n := n) HO.out HN.out hlt
      have HO2 := Lib.hid hown2
      have hb2 : Below lo w ((wr.setCell ⟨g, o + k * 2, none⟩ (.int .i64 (m + 2 * k))).setCell ⟨g, o + k * 2 + 1, none⟩ (.int .i64 (m + 2 * k + 1))) := (hb.setCell hg1 _).setCell hg1 _
      clear hown2
      go_wp2
      go_roundw
      case rel => exact ⟨k + 1, by omega, by go_num, by go_num, HO2, hb2⟩
      case measure => simp [intOf]; omega
    · obtain rfl : k = n := by omega
      have hO := HO.out
      rw [List.drop_eq_nil_of_le (by rw [HN.out]; exact Nat.le_refl _), List.append_nil] at hO
      have HO3 := Lib.hid hO
      clear hO
      go_wp2
      go_ret
      exact ⟨rfl, HO3.out, hb⟩

set_option maxHeartbeats 800000 in
theorem heldRunS_any (A : Option Addr) (n c lo hi : Nat) (m : Int) (w : World) (hm : n ≤ 1000000000) (m0 : 0 ≤ m) (m1 : m ≤ 1000000000)
    (ha : Own w lo hi A (i64s (marks m (2 * n)))) :
    Calls Try.prog 25 #[.slice A n c, .int .i64 m] w fun e w' => e = .returned (.int .i64 (m + 2 * n)) ∧ w = w' := by
  have HA := Lib.hid ha
  clear ha
  go_enter Try.func25, Try.ntmps25
  go_wp2
  go_loop [1, 5] (fun v i => ∃ k : Nat, k ≤ n ∧ i = .int .i64 k ∧ v = .int .i64 (m + 2 * k)) (fun _ i => n - (intOf i).toNat)
  case atStart => exact ⟨0, Nat.zero_le _, rfl, by simp⟩
  case round =>
    obtain ⟨k, hk, rfl, rfl⟩ := hrel
    by_cases hlt : k < n
    · obtain ⟨g, o, rfl, _, _, hca, _⟩ := HA.out.at_ (k := 2 * k) (by simp [marks_len]; omega)
      obtain ⟨g', o', he, _, _, hcb, _⟩ := HA.out.at_ (k := 2 * k + 1) (by simp [marks_len]; omega)
      injection he with he
      injection he with he1 he2 _
      subst he1
      subst he2
      have hcx : w.cell? ⟨g, o + k * 2, none⟩ = some (.int .i64 (m + 2 * k)) := by
        rw [Nat.mul_comm k 2, hca]
        simp [marks]
      have hcy : w.cell? ⟨g, o + k * 2 + 1, none⟩ = some (.int .i64 (m + 2 * k + 1)) := by
        rw [Nat.mul_comm k 2, Nat.add_assoc, hcb]
        simp [marks]
        omega
      clear hca hcb
      go_wp2
      go_round
      case rel => exact ⟨k + 1, by omega, by go_num, by go_num⟩
      case measure => simp [intOf]; omega
    · obtain rfl : k = n := by omega
      go_wp2
      go_ret
      exact ⟨rfl, rfl⟩



end Go.Proofs.Ytmeiioiilpieiaa
