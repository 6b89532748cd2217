/- The program adds up the numbers at places. -/
import Derived.Test.YtiloljldefodkaaDoorSuH2
import Derived.Test.YtiloljldefodkaaDoorSuI
namespace Go.Proofs.YtiloljldefodkaaDoor
open Go.ChangeShapes Go.WideShapes Go.ChangeAt Go.RowKit
/-- The numbers at the first k places of xs together. -/
def ps (s : Int) (xs : List Int) : Nat → Int
  | 0 => 0
  | k + 1 => ps s xs k + num s (xs.getD k 0)
theorem ps_app (s : Int) (xs ys : List Int) (k : Nat) (h : k ≤ xs.length) : ps s (xs ++ ys) k = ps s xs k := by
  induction k with
  | zero => rfl
  | succ k ih =>
    rw [ps, ps, ih (by omega)]
    congr 2
    simp only [List.getD_eq_getElem?_getD]
    rw [List.getElem?_append_left (by omega)]
theorem ps_snoc (s : Int) (xs : List Int) (x : Int) : ps s (xs ++ [x]) (xs ++ [x]).length = ps s xs xs.length + num s x := by
  rw [List.length_append, List.length_singleton, ps, ps_app _ _ _ _ (Nat.le_refl _)]
  simp
theorem ps_bds (s : Int) (xs : List Int) (h1 : 3 ≤ s) (h2 : s ≤ 24) (hx : ∀ x ∈ xs, 0 ≤ x ∧ x ≤ 100) (k : Nat) (hk : k ≤ xs.length) : 0 ≤ ps s xs k ∧ ps s xs k ≤ 1000000 * k := by
  induction k with
  | zero => simp [ps]
  | succ k ih =>
    have h3 := ih (by omega)
    have hm := hx (xs.getD k 0) (by
      rw [List.getD_eq_getElem?_getD, List.getElem?_eq_getElem (by omega)]
      simp)
    have h4 := num_nn s (xs.getD k 0) h1
    have h5 := num_small s (xs.getD k 0) h1 h2 hm.1 hm.2
    rw [ps]
    omega
set_option maxHeartbeats 800000 in
theorem together_any (s : Int) (K np cp base g c lo hi : Nat) (A : Option Addr) (xs : List Int) (w : World) (h1 : 3 ≤ s) (h2 : s ≤ 24) (hK : K ≤ 77) (hn : xs.length = np) (hm : np ≤ 24) (hx : ∀ x ∈ xs, 0 ≤ x ∧ x ≤ (K : Int))
    (hr : Row w base g (K + 1) c (fun j => num s (j : Int))) (hp : Own w lo hi A (i64s xs)) :
    Calls Tryd.prog 69 #[.slice (some ⟨g, 0, none⟩) (K + 1) c, .slice A np cp] w fun e w' => e = .returned (.int .i64 (ps s xs np)) ∧ w = w' := by
  have HR := Lib.hid hr
  have HP := Lib.hid hp
  have HN := Lib.hid hn
  have HX := Lib.hid hx
  have HB := Lib.hid (fun k (hk : k ≤ np) => ps_bds s xs h1 h2 (fun x h => ⟨(hx x h).1, by have := (hx x h).2; omega⟩) k (by omega))
  clear hr hp hn hx
  go_enter Tryd.func69, Tryd.ntmps69
  go_wp2
  go_loopw [5, 10] (fun v i wr => ∃ k : Nat, k ≤ np ∧ i = .int .i64 k ∧ v = .int .i64 (ps s xs k) ∧ w = wr) (fun _ i _ => np - (intOf i).toNat)
  case atStart => exact ⟨0, Nat.zero_le _, rfl, rfl, rfl⟩
  case round =>
    obtain ⟨k, hk, rfl, rfl, rfl⟩ := hrel
    by_cases hlt : k < np
    · obtain ⟨ga, o, rfl, _, _, hca, _⟩ := HP.out.at_ (k := k) (by simp [HN.out]; omega)
      have hkl : k < xs.length := by rw [HN.out]; exact hlt
      have hxm := HX.out _ (List.getElem_mem hkl)
      have hcx : w.cell? ⟨ga, o + k, none⟩ = some (.int .i64 (xs[k]'hkl)) := by simpa using hca
      have HS : Hid (ps s xs (k + 1) = ps s xs k + num s (xs[k]'hkl)) := Lib.hid (by
        rw [ps, List.getD_eq_getElem?_getD, List.getElem?_eq_getElem hkl]; rfl)
      clear hca
      generalize xs[k]'hkl = x at *
      obtain ⟨y, rfl⟩ := Int.eq_ofNat_of_zero_le hxm.1
      have hy : y < K + 1 := by have := hxm.2; omega
      have hcy := HR.out.cell (j := y) hy
      have hy0 : (0 : Int) ≤ (y : Int) := hxm.1
      have hyI : (y : Int) < (K : Int) + 1 := by omega
      have hi : (k : Int) < (np : Int) := by omega
      have b0 := HB.out k (by omega)
      have b1 := HB.out (k + 1) (by omega)
      rw [HS.out] at b1
      have b00 := b0.1
      have b01 := b0.2
      have b10 := b1.1
      have b11 := b1.2
      clear hxm b0 b1
      generalize ps s xs k = sm at *
      generalize num s (y : Int) = z at *
      go_wp2
      go_roundw
      case rel => exact ⟨k + 1, by omega, by go_num, by rw [HS.out], by first | rfl | trivial⟩
      case measure => simp [intOf]; omega
    · obtain rfl : k = np := by omega
      go_wp2
      go_ret
      exact ⟨rfl, rfl⟩

set_option maxHeartbeats 800000 in
theorem clonePath_any (A : Option Addr) (n c hi : Nat) (xs : List Int) (w : World) (hn : xs.length = n) (hm : n ≤ 1000) (ha : Rd w hi A (i64s xs)) (hh : hi ≤ w.heap.size) (hc : A = none → c = 0) :
    Calls Tryd.prog 71 #[.slice A n c] w fun e w' => (∃ v, e = .returned v ∧ w'.ownsRow w.heap.size 3 1 v n (i64s xs)) ∧ Below w.heap.size w w' := by
  obtain ⟨i0, hi0, hz0, hz1, hz2⟩ := info_parts infoInt
  cases A with
  | none =>
    have hx : xs = [] := by
      cases xs with
      | nil => rfl
      | cons x xs => obtain ⟨ad, e, _⟩ := ha (by simp); cases e
    subst hx
    have hn0 : n = 0 := by simpa using hn.symm
    subst hn0
    have hc0 := hc rfl
    subst hc0
    have hne : ∀ w : World, (binOp .eql 26 (.slice none 0 0) (.slice none 0 0)).run Tryd.prog w = .ok (.bool true) w := fun w => by
      rw [Lib.run_eql_slice_nil w _ _ _ _ _ _ _ Tryd.underlying26]
      rfl
    clear ha hn hc
    go_enter Tryd.func71, Tryd.ntmps71
    go_wp2_with fail
    go_ret
    exact ⟨⟨_, rfl, World.ownsRow_nil _ _ _ _⟩, Below.refl _ _⟩
  | some ad =>
    have hne : ∀ w : World, (binOp .eql 26 (.slice (some ad) n c) (.slice none 0 0)).run Tryd.prog w = .ok (.bool false) w := fun w => by
      rw [Lib.run_eql_slice_nil w _ _ _ _ _ _ _ Tryd.underlying26]
      rfl
    have HA := Lib.hid (ha.below ((Below.refl w.heap.size w).alloc (Nat.le_refl _) (.cells #[] 3)) hh)
    have HN := Lib.hid hn
    have hlit : (w.alloc (.cells #[] 3)).ownsRow w.heap.size 3 1 (.slice (some ⟨w.heap.size, 0, none⟩) 0 0) 0 [] := World.ownsRow_lit w #[] 0 (Nat.le_refl _) (by unfold maxLen; omega) rfl
    have HL := Lib.hid hlit
    clear ha hn hlit hc
    go_enter Tryd.func71, Tryd.ntmps71
    go_wp2_with (at_builtin; refine wpList_append_src rfl _ _ 26 rfl w.heap.size 3 i0 (.int .i64 0) 8 Tryd.underlying26 hi0 hz0 hz1 hz2 rfl (.slice (some ⟨w.heap.size, 0, none⟩) 0 0) 0 [] rfl HL.out (some ad) n c (i64s xs) rfl (by simp [HN.out]) hi HA.out (i64s_one _) (by unfold maxLen; omega) (by omega) (by simp) ?_; intro v' w3 hown' hgrow)
    have hb3 : Below w.heap.size w w3 := ((Below.refl w.heap.size w).alloc (Nat.le_refl _) (.cells #[] 3)).grown hgrow (by simp) fun g hg => by
      simp [Value.ownBlock] at hg
      omega
    have HO : Hid (w3.ownsRow w.heap.size 3 1 v' n (i64s xs)) := Lib.hid (by simpa using hown')
    clear hown' hgrow
    go_wp2
    go_ret
    exact ⟨⟨_, rfl, HO.out⟩, hb3⟩
end Go.Proofs.YtiloljldefodkaaDoor
