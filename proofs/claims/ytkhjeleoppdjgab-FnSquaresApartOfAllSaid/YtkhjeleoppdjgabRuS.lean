/- Chapter 5: runs sorted by a key: the comparison, and what the sort leaves. -/
import Derived.Test.YtkhjeleoppdjgabRuD
import Derived.Test.YtkhjeleoppdjgabRuJ
import Derived.Test.YtkhjeleoppdjgabShelf
import Derived.Shelf.SlSortCmp.QuietGrown
namespace Go.Proofs.Ytkhjeleoppdjgab
open Go.ChangeShapes Go.WideShapes Go.ChangeAt Go.RowKit Go.Shelf Go.Sort

/-- What cmp.Compare says of two numbers. -/
def cmpI (x y : Int) : Int := if x < y then -1 else if y < x then 1 else 0
theorem cmpI_lt (x y : Int) : decide (cmpI x y < 0) = decide (x < y) := by
  unfold cmpI
  by_cases h : x < y
  · simp [h]
  · by_cases h2 : y < x <;> simp [h, h2]
theorem ltOf_key {α : Type} (key : α → Int) (x y : α) : ltOf (fun a b => cmpI (key a) (key b)) x y = decide (key x < key y) := cmpI_lt _ _
theorem swo_key {α : Type} (key : α → Int) : SWO (ltOf fun a b : α => cmpI (key a) (key b)) where
  irrefl x := by rw [ltOf_key]; simp
  trans x y z h1 h2 := by rw [ltOf_key] at *; simp at *; omega
  ntrans x y z h1 h2 := by rw [ltOf_key] at *; simp at *; omega
/-- A row that is sorted by a key, one of whose permutations has rising keys, is that one. -/
theorem sorted_is {α : Type} [Inhabited α] (key : α → Int) {d d' : Array α} {l : List α} (hp : PermIn 0 d.size d d') (hs : SortedIn (ltOf fun a b => cmpI (key a) (key b)) 0 d.size d') (hl : d.toList.Perm l) (hk : l.Pairwise fun x y => key x < key y) : d'.toList = l := by
  obtain ⟨h1, _, h3⟩ := hp
  have e1 : d'.extract 0 d.size = d' := by rw [← h1]; simp
  have e2 : d.extract 0 d.size = d := by simp
  rw [e1, e2] at h3
  refine sort_uniq key (h3.trans hl) hk ?_
  rw [List.pairwise_iff_getElem]
  intro i j hi hj hij
  simp at hi hj
  have h := hs i j (Nat.zero_le _) hij (by omega)
  rw [ltOf_key, getElem!_pos d' i hi, getElem!_pos d' j hj] at h
  simpa using h

theorem compare_any (x y : Int) (w : World) : Calls Try.prog 146 #[.int .i64 x, .int .i64 y] w fun e w' => e = .returned (.int .i64 (cmpI x y)) ∧ w' = w := by
  have HN := Lib.hid fun x W => Try.cmp_isNaN_int2 x W
  obtain ⟨r, hr⟩ : ∃ r, r = cmpI x y := ⟨_, rfl⟩
  rw [← hr]
  by_cases h : x < y
  · have HR : Hid (r = -1) := Lib.hid (by rw [hr, cmpI, if_pos h])
    clear hr
    go_enter Try.func146, Try.ntmps146
    go_wp2_with (go_at_call 151; refine (HN.out _ _).mono ?_; rintro e w' ⟨rfl, rfl⟩)
    go_ret
    exact ⟨ret_int HR.out.symm, rfl⟩
  · by_cases h2 : y < x
    · have HR : Hid (r = 1) := Lib.hid (by rw [hr, cmpI, if_neg h, if_pos h2])
      have h' : decide (x < y) = false := by simpa using h
      clear hr h
      go_enter Try.func146, Try.ntmps146
      go_wp2_with (go_at_call 151; refine (HN.out _ _).mono ?_; rintro e w' ⟨rfl, rfl⟩)
      go_ret
      exact ⟨ret_int HR.out.symm, rfl⟩
    · have HR : Hid (r = 0) := Lib.hid (by rw [hr, cmpI, if_neg h, if_neg h2])
      have h' : decide (x < y) = false := by simpa using h
      have h2' : decide (y < x) = false := by simpa using h2
      clear hr h h2
      go_enter Try.func146, Try.ntmps146
      go_wp2_with (go_at_call 151; refine (HN.out _ _).mono ?_; rintro e w' ⟨rfl, rfl⟩)
      go_ret
      exact ⟨ret_int HR.out.symm, rfl⟩

end Go.Proofs.Ytkhjeleoppdjgab
