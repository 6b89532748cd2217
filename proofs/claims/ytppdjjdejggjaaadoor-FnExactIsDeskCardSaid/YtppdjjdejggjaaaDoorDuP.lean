/- Chapter 7: pictures drawn by whatever function tells where dots are. -/
import Derived.Test.YtppdjjdejggjaaaDoorDuJ
import Derived.Lib.Builder
namespace Go.Proofs.YtppdjjdejggjaaaDoor
open Go.ChangeShapes Go.WideShapes Go.ChangeAt Go.RowKit Go.Maps

/-- The dots among the first k places. -/
def drF (W : Nat) (f : Int → Int → Bool) (k : Nat) (x y : Int) : Bool := decide (0 ≤ x ∧ x < (W : Int) ∧ 0 ≤ y ∧ y.toNat * W + x.toNat < k) && f x y
theorem place_eq {W k a b : Nat} (ha : a < W) : b * W + a = k ↔ a = k % W ∧ b = k / W := by
  constructor
  · rintro rfl
    exact ⟨(place_x ha).symm, (place_y ha).symm⟩
  · rintro ⟨rfl, rfl⟩
    rw [Nat.mul_comm]
    exact Nat.div_add_mod k W
theorem dr_zero (W : Nat) (f : Int → Int → Bool) (x y : Int) : false = drF W f 0 x y := by simp [drF]
theorem dr_iff {W : Nat} {f : Int → Int → Bool} {k : Nat} {x y : Int} : drF W f k x y = true ↔ (0 ≤ x ∧ x < (W : Int) ∧ 0 ≤ y ∧ y.toNat * W + x.toNat < k) ∧ f x y = true := by simp [drF]
theorem dr_more {W : Nat} {k : Nat} (hW : 1 ≤ W) {x y : Int} : (0 ≤ x ∧ x < (W : Int) ∧ 0 ≤ y ∧ y.toNat * W + x.toNat < k + 1) ↔ (0 ≤ x ∧ x < (W : Int) ∧ 0 ≤ y ∧ y.toNat * W + x.toNat < k) ∨ (x = ((k % W : Nat) : Int) ∧ y = ((k / W : Nat) : Int)) := by
  constructor
  · rintro ⟨h1, h2, h3, h4⟩
    obtain ⟨a, rfl⟩ := Int.eq_ofNat_of_zero_le h1
    obtain ⟨b, rfl⟩ := Int.eq_ofNat_of_zero_le h3
    simp only [Int.toNat_natCast] at h4 ⊢
    rcases Nat.lt_or_ge (b * W + a) k with h | h
    · exact .inl ⟨h1, h2, h3, h⟩
    · have e := (place_eq (W := W) (k := k) (a := a) (b := b) (by omega)).1 (by omega)
      exact .inr ⟨by rw [← e.1], by rw [← e.2]⟩
  · rintro (⟨h1, h2, h3, h4⟩ | ⟨rfl, rfl⟩)
    · exact ⟨h1, h2, h3, by omega⟩
    · have hm := Nat.mod_lt k (show 0 < W by omega)
      refine ⟨Int.natCast_nonneg _, Int.ofNat_lt.2 hm, Int.natCast_nonneg _, ?_⟩
      rw [Int.toNat_natCast, Int.toNat_natCast, Nat.mul_comm, Nat.div_add_mod]
      omega
theorem dr_yes {W : Nat} {f : Int → Int → Bool} {k : Nat} (hW : 1 ≤ W) (h : f ((k % W : Nat) : Int) ((k / W : Nat) : Int) = true) (x y : Int) : aS (drF W f k) ((k % W : Nat) : Int) ((k / W : Nat) : Int) x y = drF W f (k + 1) x y := by
  rw [Bool.eq_iff_iff]
  unfold aS
  rw [Bool.or_eq_true, dr_iff, dr_iff, dr_more hW, Bool.and_eq_true, decide_eq_true_eq, decide_eq_true_eq]
  constructor
  · rintro (⟨h1, h2⟩ | ⟨rfl, rfl⟩)
    · exact ⟨.inl h1, h2⟩
    · exact ⟨.inr ⟨rfl, rfl⟩, h⟩
  · rintro ⟨h1 | h1, h2⟩
    · exact .inl ⟨h1, h2⟩
    · exact .inr h1
theorem dr_no {W : Nat} {f : Int → Int → Bool} {k : Nat} (hW : 1 ≤ W) (h : f ((k % W : Nat) : Int) ((k / W : Nat) : Int) = false) (x y : Int) : drF W f k x y = drF W f (k + 1) x y := by
  rw [Bool.eq_iff_iff, dr_iff, dr_iff, dr_more hW]
  constructor
  · rintro ⟨h1, h2⟩
    exact ⟨.inl h1, h2⟩
  · rintro ⟨h1 | ⟨rfl, rfl⟩, h2⟩
    · exact ⟨h1, h2⟩
    · rw [h] at h2; cases h2
theorem dr_all (W H : Nat) (f : Int → Int → Bool) (x y : Int) : drF W f (W * H) x y = (inP W H x y && f x y) := by
  unfold drF inP
  congr 1
  refine decide_eq_decide.2 ⟨?_, ?_⟩
  · rintro ⟨h1, h2, h3, h4⟩
    obtain ⟨a, rfl⟩ := Int.eq_ofNat_of_zero_le h1
    obtain ⟨b, rfl⟩ := Int.eq_ofNat_of_zero_le h3
    simp only [Int.toNat_natCast] at h4
    refine ⟨h1, h2, h3, ?_⟩
    rcases Nat.lt_or_ge b H with h | h
    · omega
    · have := Nat.mul_le_mul_left W h
      rw [Nat.mul_comm W b] at this
      omega
  · rintro ⟨h1, h2, h3, h4⟩
    obtain ⟨a, rfl⟩ := Int.eq_ofNat_of_zero_le h1
    obtain ⟨b, rfl⟩ := Int.eq_ofNat_of_zero_le h3
    simp only [Int.toNat_natCast]
    exact ⟨h1, h2, h3, place_lt (by omega) (by omega)⟩
/-- A function value that tells the dots f of a picture of W columns and H rows, in worlds that have grown from w. -/
structure Dw (F : Nat) (first cap : Array Value) (f : Int → Int → Bool) (W H : Nat) (w : World) : Prop where
  cf : ∀ (args : Array Value) (V : World), (callFunc F args).run Tryd.prog V = .ok (.enter F args) V
  dw : ∀ (x y : Int) (V : World), 0 ≤ x ∧ x < (W : Int) ∧ 0 ≤ y ∧ y < (H : Int) → w.grownBy V none → Calls Tryd.prog F (first ++ (#[.int .i64 x, .int .i64 y] ++ cap)) V fun e w' => e = .returned (.bool (f x y)) ∧ Below V.heap.size V w'
theorem grown_heap {w w' : World} {row : Option Nat} {k : Nat} {o : Obj} (h : w.heap[k]? = some o) (hg : w.grownBy w' row) (hne : some k ≠ row) : w'.heap[k]? = some o :=
  (hg.block k (Array.getElem?_eq_some_iff.1 h).1 hne).trans h
theorem put_farD {W : World} {R o o' : Nat} {v u : Value} (h : W.cell? ⟨R, o', none⟩ = some u) (hne : ¬ o' = o) : (W.setCell ⟨R, o, none⟩ v).cell? ⟨R, o', none⟩ = some u :=
  (World.cell?_setCell_other W _ _ _ (by intro e; simp only [Addr.mk.injEq] at e; exact hne (by omega))).trans h
theorem put3D {W : World} {R : Nat} {a b c : Value} (c0 : W.cell? ⟨R, 0, none⟩ = some a) (c1 : W.cell? ⟨R, 1, none⟩ = some b) (c2 : W.cell? ⟨R, 2, none⟩ = some c) (p q r : Value) :
    (((W.setCell ⟨R, 0, none⟩ p).setCell ⟨R, 1, none⟩ q).setCell ⟨R, 2, none⟩ r).cell? ⟨R, 0, none⟩ = some p ∧ (((W.setCell ⟨R, 0, none⟩ p).setCell ⟨R, 1, none⟩ q).setCell ⟨R, 2, none⟩ r).cell? ⟨R, 1, none⟩ = some q ∧
    (((W.setCell ⟨R, 0, none⟩ p).setCell ⟨R, 1, none⟩ q).setCell ⟨R, 2, none⟩ r).cell? ⟨R, 2, none⟩ = some r :=
  ⟨put_farD (put_farD (World.cell?_setCell_same W _ _ c0) (by omega)) (by omega), put_farD (World.cell?_setCell_same _ _ _ (put_farD c1 (by omega))) (by omega), World.cell?_setCell_same _ _ _ (put_farD (put_farD c2 (by omega)) (by omega))⟩
theorem grown_set3 (w : World) (R : Nat) (p q r : Value) : w.grownBy (((w.setCell ⟨R, 0, none⟩ p).setCell ⟨R, 1, none⟩ q).setCell ⟨R, 2, none⟩ r) (some R) := by
  have one : ∀ (W : World) (o : Nat) (v : Value), W.grownBy (W.setCell ⟨R, o, none⟩ v) (some R) := fun W o v => ⟨rfl, rfl, rfl, by simp [World.setCell], fun k _ hk => Below.heap_setCell _ _ _ _ (fun e => hk (by simp [e]))⟩
  exact grown_tr (grown_tr (one _ _ _) (one _ _ _)) (one _ _ _)
end Go.Proofs.YtppdjjdejggjaaaDoor
