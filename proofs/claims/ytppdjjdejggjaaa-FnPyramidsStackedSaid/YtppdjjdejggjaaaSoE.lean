/- The pile of layers and the layers of a pyramid, one by one. -/
import Derived.Test.YtppdjjdejggjaaaSoA
import Derived.Test.YtppdjjdejggjaaaSuK
namespace Go.Proofs.Ytppdjjdejggjaaa
open Go.ChangeShapes Go.WideShapes Go.ChangeAt Go.RowKit

set_option maxRecDepth 4000 in
/-- The pile is a function of its own cell. -/
theorem newPile_any (w : World) :
    Calls Try.prog 165 #[] w fun e w' => e = .returned (.func (.func 194) #[] #[.pointer (some ⟨w.heap.size, 0, none⟩)]) ∧ w'.cell? ⟨w.heap.size, 0, none⟩ = some (.int .i64 0) ∧ w'.frozen? ⟨w.heap.size, 0, none⟩ = false ∧ w'.heap.size = w.heap.size + 1 ∧ Below w.heap.size w w' := by
  have hmf : ∀ (fn : Fn) (first cap : Array Value) (w : World), (Instr.makeFunc fn first cap).run Try.prog w = .ok (.func fn first cap) w := fun _ _ _ _ => rfl
  go_enter Try.func165, Try.ntmps165
  go_wp2
  go_ret
  exact ⟨rfl, by simp [go_sem], by simp, by simp, (Below.refl _ _).alloc (Nat.le_refl _) _⟩

/-- The sum of the first k numbers of a list. -/
def sumTo (xs : List Int) : Nat → Int
  | 0 => 0
  | k + 1 => sumTo xs k + xs.getD k 0
set_option maxRecDepth 4000 in
theorem cf_pile : ∀ (args : Array Value) (W : World), (callFunc 194 args).run Try.prog W = .ok (.enter 194 args) W := fun _ _ => by kernel_rfl
set_option maxRecDepth 4000 in
theorem sum_bds (xs : List Int) (n : Nat) (hx : ∀ k, k < n → 0 ≤ xs.getD k 0 ∧ xs.getD k 0 ≤ 1000000000000) : ∀ k, k ≤ n → 0 ≤ sumTo xs k ∧ sumTo xs k ≤ 1000000000000 * k := by
  intro k
  induction k with
  | zero => intro _; simp [sumTo]
  | succ k ih =>
    intro h
    have h1 := ih (by omega)
    have h2 := hx k (by omega)
    rw [sumTo]
    omega
set_option maxRecDepth 4000 in
theorem grown_set {w w' : World} {r : Nat} (h : w.grownBy w' (some r)) (v : Value) : w.grownBy (w'.setCell ⟨r, 0, none⟩ v) (some r) where
  os := h.os
  tape := h.tape
  output := h.output
  size := by simpa [World.setCell] using h.size
  block := fun i hi hr => by rw [← h.block i hi hr]; exact Below.heap_setCell _ _ _ _ (fun e => hr (by rw [e]))
set_option maxRecDepth 4000 in
set_option maxHeartbeats 800000 in
/-- Layers are added to the pile. -/
theorem pile_any (A : Option Addr) (n c r hi : Nat) (xs : List Int) (p : Int) (w : World) (hn : xs.length = n) (hm : n ≤ 100000) (ha : Rd w hi A (i64s xs)) (hne : ∀ a, A = some a → a.block ≠ r) (hw : hi ≤ w.heap.size)
    (hx : ∀ k, k < n → 0 ≤ xs.getD k 0 ∧ xs.getD k 0 ≤ 1000000000000) (hp0 : 0 ≤ p) (hp1 : p ≤ 1000000000000)
    (hc : w.cell? ⟨r, 0, none⟩ = some (.int .i64 p)) (hf : w.frozen? ⟨r, 0, none⟩ = false) :
    Calls Try.prog 194 #[.slice A n c, .pointer (some ⟨r, 0, none⟩)] w fun e w' => e = .returned (.int .i64 (p + sumTo xs n)) ∧ w'.cell? ⟨r, 0, none⟩ = some (.int .i64 (p + sumTo xs n)) ∧ w'.frozen? ⟨r, 0, none⟩ = false ∧ w.grownBy w' (some r) := by
  have HA := Lib.hid ha
  have HN := Lib.hid hn
  have HNE := Lib.hid hne
  have HX := Lib.hid hx
  have HS := Lib.hid (sum_bds xs n hx)
  clear ha hn hne hx
  go_enter Try.func194, Try.ntmps194
  go_wp2
  go_loopw [8] (fun i wr => ∃ k : Nat, k ≤ n ∧ i = .int .i64 k ∧ wr.cell? ⟨r, 0, none⟩ = some (.int .i64 (p + sumTo xs k)) ∧ wr.frozen? ⟨r, 0, none⟩ = false ∧ Hid (w.grownBy wr (some r))) (fun i _ => n - (intOf i).toNat)
  case atStart => exact ⟨0, Nat.zero_le _, rfl, by simpa [sumTo] using hc, hf, Lib.hid (World.grownBy.refl _ _)⟩
  case round =>
    obtain ⟨k, hk, rfl, hcr, hfr, hg⟩ := hrel
    by_cases hlt : k < n
    · obtain ⟨ad, rfl, hb, hca⟩ := HA.out.at_ (k := k) (by simp [HN.out]; omega)
      have hca2 : wr.cell? (ad.add k) = some (.int .i64 (xs.getD k 0)) := by
        rw [World.cell?_of_block (w := w) (hg.out.block _ (by rw [addr_block]; omega) (by rw [addr_block]; intro e; injection e with e; exact HNE.out ad rfl e)), hca]
        have : k < xs.length := by rw [HN.out]; exact hlt
        simp [List.getD_eq_getElem?_getD, this]
      have hxk := HX.out k hlt
      have hsk := HS.out k (by omega)
      have hst : sumTo xs (k + 1) = sumTo xs k + xs.getD k 0 := rfl
      have HST := Lib.hid hst
      have hi' : (k : Int) < (n : Int) := by omega
      clear hca hst
      generalize xs.getD k 0 = z at *
      generalize sumTo xs k = y at *
      have hg2 := Lib.hid (grown_set hg.out (.int .i64 (p + y + z)))
      have hc2 := World.cell?_setCell_same wr ⟨r, 0, none⟩ (.int .i64 (p + y + z)) hcr
      have hf2 : (wr.setCell ⟨r, 0, none⟩ (.int .i64 (p + y + z))).frozen? ⟨r, 0, none⟩ = false := by rw [World.frozen?_setCell]; exact hfr
      go_wp2
      go_roundw
      case rel => exact ⟨k + 1, by omega, by go_num, by rw [HST.out, ← Int.add_assoc]; exact hc2, hf2, hg2⟩
      case measure => simp [intOf]; omega
    · obtain rfl : k = n := by omega
      go_wp2
      go_ret
      exact ⟨rfl, hcr, hfr, hg.out⟩

/-- The polygonal numbers of the places 0, .., n - 1. -/
def nl (s : Int) (n : Nat) : List Int := (List.range n).map fun (j : Nat) => num s (j : Int)
set_option maxRecDepth 4000 in
theorem nl_len (s : Int) (n : Nat) : (nl s n).length = n := by simp [nl]
set_option maxRecDepth 4000 in
theorem nl_app (s : Int) (n : Nat) : i64s (nl s n) ++ [.int .i64 (num s (n : Int))] = i64s (nl s (n + 1)) := by simp [nl, List.range_succ]
set_option maxRecDepth 4000 in
theorem nl_get (s : Int) (n j : Nat) (h : j < n) : (i64s (nl s n))[j]? = some (.int .i64 (num s (j : Int))) := by simp [nl, h]
/-- The polygonal numbers of the places a, .., a + n - 1. -/
def nr (s : Int) (a n : Nat) : List Int := (List.range n).map fun (j : Nat) => num s ((a + j : Nat) : Int)
set_option maxRecDepth 4000 in
theorem nr_len (s : Int) (a n : Nat) : (nr s a n).length = n := by simp [nr]
set_option maxRecDepth 4000 in
theorem nr_get (s : Int) (a n j : Nat) (h : j < n) : (i64s (nr s a n))[j]? = some (.int .i64 (num s ((a + j : Nat) : Int))) := by simp [nr, h]
set_option maxRecDepth 4000 in
theorem nr_getD (s : Int) (a n j : Nat) (h : j < n) : (nr s a n).getD j 0 = num s ((a + j : Nat) : Int) := by simp [nr, h]
set_option maxRecDepth 4000 in
theorem nr_one (s : Int) (n : Nat) : nr s 1 n = nums s n := by
  simp only [nr, nums]
  apply List.map_congr_left
  intro j _
  congr 1
  omega

set_option maxHeartbeats 1600000 in
set_option maxRecDepth 4000 in
/-- The layers of the places a, .., to, a at most to + 1. -/
theorem layersBetween_any (s : Int) (a to : Nat) (w : World) (h1 : 3 ≤ s) (h2 : s ≤ 24) (ha : a ≤ to + 1) (ht : to ≤ 2000) :
    Calls Try.prog 163 #[.int .i64 s, .int .i64 a, .int .i64 to] w fun e w' => (∃ A, e = .returned (.slice A (to + 1 - a) (to + 1 - a)) ∧ Own w' w.heap.size w'.heap.size A (i64s (nr s a (to + 1 - a)))) ∧ Below w.heap.size w w' := by
  obtain ⟨i0, hi0, hz0, hz1, hz2⟩ := info_parts infoInt
  go_enter Try.func163, Try.ntmps163
  go_wp2_with (first
    | (go_at_call 123; refine (polygonRule_any _ _ h1 h2).mono ?_; rintro e w1 ⟨rfl, hb1⟩))
  generalize hw2 : w1.alloc (.cells #[.int .i64 0, .int .i64 (4 - s), .int .i64 (s - 2)] 75) = w2
  have d0 : w2.cell? ⟨w1.heap.size, 0, none⟩ = some (.int .i64 0) := by rw [← hw2]; simp [go_sem]
  have d1 : w2.cell? ⟨w1.heap.size, 1, none⟩ = some (.int .i64 (4 - s)) := by rw [← hw2]; simp [go_sem]
  have d2 : w2.cell? ⟨w1.heap.size, 2, none⟩ = some (.int .i64 (s - 2)) := by rw [← hw2]; simp [go_sem]
  have hz : w2.heap.size = w1.heap.size + 1 := by rw [← hw2]; simp
  have hB : Below w.heap.size w w2 := by rw [← hw2]; exact hb1.alloc hb1.size _
  generalize w1.heap.size = R at *
  have HZ := Lib.hid hz
  have HW := Lib.hid hB
  clear hw2 hb1 hz hB
  go_loopw [8, 9] (fun v i wr => ∃ k : Nat, k ≤ to + 1 ∧ i = .int .i64 (k : Int) ∧ Hid (wr.ownsRow w2.heap.size 3 1 v k (i64s (nl s k))) ∧ Below w2.heap.size w2 wr) (fun _ i _ => to + 1 - (intOf i).toNat)
  case atStart => exact ⟨0, by omega, rfl, Lib.hid (World.ownsRow_nil _ _ _ _), Below.refl _ _⟩
  case round =>
    obtain ⟨k, hk, rfl, hown, hb⟩ := hrel
    by_cases hlt : k < to + 1
    · have hR : R < w2.heap.size := by have := HZ.out; omega
      have e0 := (hb.cell (p := ⟨R, 0, none⟩) hR).trans d0
      have e1 := (hb.cell (p := ⟨R, 1, none⟩) hR).trans d1
      have e2 := (hb.cell (p := ⟨R, 2, none⟩) hR).trans d2
      have rb := polyRule_bds s (k : Int) h1 h2 (by omega) (by omega)
      have hkI : (k : Int) ≤ (to : Int) := by omega
      go_wp2_with (first
        | (go_at_call 128; refine (numberAt_any _ _ _ _ _ _ rb).mono ?_; rintro e w4 ⟨rfl, hb4⟩; have ho4 := Lib.hid (row_below hown.out hb4 (Nat.le_refl _)); have hb24 : Below w2.heap.size w2 w4 := hb.trans (hb4.mono hb.size))
        | (at_builtin; refine wpList_append_own _ rfl _ _ 39 rfl w2.heap.size 3 i0 (.int .i64 0) 1 8 Try.underlying39 hi0 hz0 hz1 hz2 rfl (by decide) _ _ _ rfl (ho4.out.alloc _) ⟨w4.heap.size, 0, none⟩ 1 1 [.int .i64 (num s (k : Int))] rfl rfl ?c1 ?c2 ?c3 ?c4 ?c5 ?_))
      case c1 =>
        intro j u hj
        match j, hj with
        | 0, hj => simp at hj; subst hj; simp [Addr.add]
      case c2 => intro u hu; simp at hu; subst hu; rfl
      case c3 => unfold maxLen; omega
      case c4 => omega
      case c5 => have := hb24.size; simp; omega
      · intro v' w5 hown' hgrow _
        rw [nl_app] at hown'
        have hb5 : Below w2.heap.size w2 w5 := (hb24.alloc hb24.size _).grown hgrow (by have := hb24.size; simp; omega) fun g hg => (ho4.out.lt g hg).1
        have HO := Lib.hid hown'
        clear hown' hgrow hb24 ho4 hb4
        go_wp2
        go_roundw
        case rel => exact ⟨k + 1, by omega, by go_num, HO, hb5⟩
        case measure => simp [intOf]; omega
    · obtain rfl : k = to + 1 := by omega
      have hnk : decide ((to : Int) + 1 ≤ (to : Int)) = false := by simp; omega
      have hcast : ((to + 1 : Nat) : Int) = (to : Int) + 1 := by omega
      rw [hcast]
      clear hcast
      rcases hown.out.2 with ⟨_, h0⟩ | ⟨g, c, cur, rfl, hg, hh, hnc, hcm, hcs, htk⟩
      · omega
      have HO := Lib.hid (own_of_row hown.out)
      have n1 : (to : Int) + 1 ≤ (c : Int) := by omega
      have n2 : (a : Int) ≤ (to : Int) + 1 := by omega
      clear hh hcs htk hown
      have hw2 : w.heap.size ≤ w2.heap.size := HW.out.size
      have HP : Hid (Own wr w.heap.size wr.heap.size (some ⟨g, a, none⟩) (i64s (nr s a (to + 1 - a)))) := Lib.hid fun hn => by
        obtain ⟨g', o', e, h3, h4, h5⟩ := HO.out (by simp [nl])
        injection e with e
        injection e with e1 e2 _
        subst e1
        subst e2
        refine ⟨g, a, rfl, by omega, h4, fun j u hu => ?_⟩
        have hj : j < to + 1 - a := by
          have := (List.getElem?_eq_some_iff.1 hu).1
          simpa [nr] using this
        rw [nr_get _ _ _ _ hj] at hu
        have := h5 (a + j) u (by rw [nl_get _ _ _ (by omega)]; exact hu)
        rwa [Nat.zero_add] at this
      go_wp2
      all_goals go_ret
      · rename_i h0
        exact ⟨⟨_, rfl, fun hn => by simp [nr] at hn <;> omega⟩, HW.out.trans (hb.mono hw2)⟩
      · exact ⟨⟨_, rfl, HP.out⟩, HW.out.trans (hb.mono hw2)⟩
end Go.Proofs.Ytppdjjdejggjaaa
