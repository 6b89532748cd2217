/- Chapter 5: runs sorted by a key: the comparison, and what the sort leaves. -/
import Derived.Test.YtcfpdlkkniilpaaGreatDoorRuD
import Derived.Test.YtcfpdlkkniilpaaGreatDoorRuJ
import Derived.Test.YtcfpdlkkniilpaaGreatDoorShelf
import Derived.Shelf.SlSortCmp.QuietGrown
namespace Go.Proofs.YtcfpdlkkniilpaaGreatDoor
open Go.ChangeShapes Go.WideShapes Go.ChangeAt Go.RowKit Go.Shelf Go.Sort

/-- What cmp.Compare says of two numbers. -/
def cmpI (x y : Int) : Int := if x < y then -1 else if y < x then 1 else 0
theorem cmpI_lt (x y : Int) : decide (cmpI x y < 0) = decide (x < y) := by
  unfold cmpI
  by_cases h : x < y
  · simp [h]
  · by_cases h2 : y < x <;> simp [h, h2]
theorem ltOf_key {α : Type} (key : α → Int) (x y : α) : ltOf (fun a b => cmpI (key a) (key b)) x y = decide (key x < key y) := cmpI_lt _ _
theorem swo_key {α : Type} (key : α → Int) : SWO (ltOf fun a b : α => cmpI (key a) (key b)) where
  irrefl x := by rw [ltOf_key]; simp
  trans x y z h1 h2 := by rw [ltOf_key] at *; simp at *; omega
  ntrans x y z h1 h2 := by rw [ltOf_key] at *; simp at *; omega
/-- A row that is sorted by a key, one of whose permutations has rising keys, is that one. -/
theorem sorted_is {α : Type} [Inhabited α] (key : α → Int) {d d' : Array α} {l : List α} (hp : PermIn 0 d.size d d') (hs : SortedIn (ltOf fun a b => cmpI (key a) (key b)) 0 d.size d') (hl : d.toList.Perm l) (hk : l.Pairwise fun x y => key x < key y) : d'.toList = l := by
  obtain ⟨h1, _, h3⟩ := hp
  have e1 : d'.extract 0 d.size = d' := by rw [← h1]; simp
  have e2 : d.extract 0 d.size = d := by simp
  rw [e1, e2] at h3
  refine sort_uniq key (h3.trans hl) hk ?_
  rw [List.pairwise_iff_getElem]
  intro i j hi hj hij
  simp at hi hj
  have h := hs i j (Nat.zero_le _) hij (by omega)
  rw [ltOf_key, getElem!_pos d' i hi, getElem!_pos d' j hj] at h
  simpa using h

theorem compare_any (x y : Int) (w : World) : Calls Tryz.prog 57 #[.int .i64 x, .int .i64 y] w fun e w' => e = .returned (.int .i64 (cmpI x y)) ∧ w' = w := by
  have HN := Lib.hid fun x W => Tryz.cmp_isNaN_int2 x W
  obtain ⟨r, hr⟩ : ∃ r, r = cmpI x y := ⟨_, rfl⟩
  rw [← hr]
  by_cases h : x < y
  · have HR : Hid (r = -1) := Lib.hid (by rw [hr, cmpI, if_pos h])
    clear hr
    go_enter Tryz.func57, Tryz.ntmps57
    go_wp2_with (go_at_call 65; refine (HN.out _ _).mono ?_; rintro e w' ⟨rfl, rfl⟩)
    go_ret
    exact ⟨ret_int HR.out.symm, rfl⟩
  · by_cases h2 : y < x
    · have HR : Hid (r = 1) := Lib.hid (by rw [hr, cmpI, if_neg h, if_pos h2])
      have h' : decide (x < y) = false := by simpa using h
      clear hr h
      go_enter Tryz.func57, Tryz.ntmps57
      go_wp2_with (go_at_call 65; refine (HN.out _ _).mono ?_; rintro e w' ⟨rfl, rfl⟩)
      go_ret
      exact ⟨ret_int HR.out.symm, rfl⟩
    · have HR : Hid (r = 0) := Lib.hid (by rw [hr, cmpI, if_neg h, if_neg h2])
      have h' : decide (x < y) = false := by simpa using h
      have h2' : decide (y < x) = false := by simpa using h2
      clear hr h h2
      go_enter Tryz.func57, Tryz.ntmps57
      go_wp2_with (go_at_call 65; refine (HN.out _ _).mono ?_; rintro e w' ⟨rfl, rfl⟩)
      go_ret
      exact ⟨ret_int HR.out.symm, rfl⟩

theorem keyLen_any (f l : Int) (w : World) : Calls Tryz.prog 39 #[.agg #[.int .i64 f, .int .i64 l]] w fun e w' => e = .returned (.int .i64 l) ∧ ∃ q os', w' = grow (w.drewN q) os' := by
  go_enter Tryz.func39, Tryz.ntmps39
  go_wp2
  go_ret
  exact ⟨rfl, 0, #[.cells #[.int .i64 f, .int .i64 l] 31], by rw [alloc_eq_grow]; rfl⟩

set_option maxHeartbeats 1600000 in
/-- The comparison of two runs by a key that is a function value in a cell. -/
theorem cmpRun_any (a b c d : Int) (K : Nat) (w : World) (hK : w.cell? ⟨K, 0, none⟩ = some (.func (.func 39) #[] #[])) (hz : K < w.heap.size) :
    Calls Tryz.prog 56 #[.agg #[.int .i64 a, .int .i64 b], .agg #[.int .i64 c, .int .i64 d], .pointer (some ⟨K, 0, none⟩)] w fun e w' => e = .returned (.int .i64 (cmpI b d)) ∧ ∃ q os', w' = grow (w.drewN q) os' := by
  have hm : Tryz.prog.follows .mixedOrders = true := by kernel_rfl
  have HC := Lib.hid fun x y W => compare_any x y W
  have HL := Lib.hid fun f l W => keyLen_any f l W
  obtain ⟨r, hr⟩ : ∃ r, r = cmpI b d := ⟨_, rfl⟩
  rw [← hr]
  have HR := Lib.hid hr.symm
  clear hr
  go_enter Tryz.func56, Tryz.ntmps56
  go_wp2_with fail
  have k0 : ∀ n os, (grow ((((w.alloc (.cells #[.int .i64 a, .int .i64 b] 31)).alloc (.cells #[.int .i64 c, .int .i64 d] 31))).drewN n) os).cell? ⟨K, 0, none⟩ = some (.func (.func 39) #[] #[]) := fun n os => cell_grown (by simp; omega) (by
    rw [(((Below.refl w.heap.size w).alloc (Nat.le_refl _) _).alloc (by simp) _).cell (p := ⟨K, 0, none⟩) hz]; exact hK) n os
  have a0 : ∀ n os, (grow ((((w.alloc (.cells #[.int .i64 a, .int .i64 b] 31)).alloc (.cells #[.int .i64 c, .int .i64 d] 31))).drewN n) os).cell? ⟨w.heap.size, 0, none⟩ = some (.int .i64 a) := fun n os => cell_grown (by simp; omega) (by simp [go_sem]) n os
  have a1 : ∀ n os, (grow ((((w.alloc (.cells #[.int .i64 a, .int .i64 b] 31)).alloc (.cells #[.int .i64 c, .int .i64 d] 31))).drewN n) os).cell? ⟨w.heap.size, 1, none⟩ = some (.int .i64 b) := fun n os => cell_grown (by simp; omega) (by simp [go_sem]) n os
  have b0 : ∀ n os, (grow ((((w.alloc (.cells #[.int .i64 a, .int .i64 b] 31)).alloc (.cells #[.int .i64 c, .int .i64 d] 31))).drewN n) os).cell? ⟨w.heap.size + 1, 0, none⟩ = some (.int .i64 c) := fun n os => cell_grown (by simp) (by simp [go_sem]) n os
  have b1 : ∀ n os, (grow ((((w.alloc (.cells #[.int .i64 a, .int .i64 b] 31)).alloc (.cells #[.int .i64 c, .int .i64 d] 31))).drewN n) os).cell? ⟨w.heap.size + 1, 1, none⟩ = some (.int .i64 d) := fun n os => cell_grown (by simp) (by simp [go_sem]) n os
  have HE : Hid (∀ n os, ∃ q os', grow ((((w.alloc (.cells #[.int .i64 a, .int .i64 b] 31)).alloc (.cells #[.int .i64 c, .int .i64 d] 31))).drewN n) os = grow (w.drewN q) os') := Lib.hid fun n os => ⟨n, _, by rw [alloc_eq_grow, alloc_eq_grow, grow_grow]; show grow (grow (w.drewN n) _) os = _; rw [grow_grow]⟩
  generalize (w.alloc (.cells #[.int .i64 a, .int .i64 b] 31)).alloc (.cells #[.int .i64 c, .int .i64 d] 31) = W2 at *
  go_quiet_grown (first
    | (go_at_call 57; exact Calls.grown_of ((HC.out _ _ _).mono fun _ _ ⟨he, hw⟩ => ⟨he, 0, #[], by rw [hw, grow_empty]; rfl⟩))
    | (exact Calls.grown_of (HL.out _ _ _)))
  go_wp2
  go_ret
  exact ⟨ret_int HR.out, HE.out _ _⟩
end Go.Proofs.YtcfpdlkkniilpaaGreatDoor
