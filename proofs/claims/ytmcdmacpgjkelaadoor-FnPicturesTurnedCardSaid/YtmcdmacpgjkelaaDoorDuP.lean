/- Chapter 7: pictures drawn by whatever function tells where dots are. -/
import Derived.Test.YtmcdmacpgjkelaaDoorDuJ
import Derived.Lib.Builder
namespace Go.Proofs.YtmcdmacpgjkelaaDoor
open Go.ChangeShapes Go.WideShapes Go.ChangeAt Go.RowKit Go.Maps

/-- The dots among the first k places. -/
def drF (W : Nat) (f : Int → Int → Bool) (k : Nat) (x y : Int) : Bool := decide (0 ≤ x ∧ x < (W : Int) ∧ 0 ≤ y ∧ y.toNat * W + x.toNat < k) && f x y
theorem place_eq {W k a b : Nat} (ha : a < W) : b * W + a = k ↔ a = k % W ∧ b = k / W := by
  constructor
  · rintro rfl
    exact ⟨(place_x ha).symm, (place_y ha).symm⟩
  · rintro ⟨rfl, rfl⟩
    rw [Nat.mul_comm]
    exact Nat.div_add_mod k W
theorem dr_zero (W : Nat) (f : Int → Int → Bool) (x y : Int) : false = drF W f 0 x y := by simp [drF]
theorem dr_iff {W : Nat} {f : Int → Int → Bool} {k : Nat} {x y : Int} : drF W f k x y = true ↔ (0 ≤ x ∧ x < (W : Int) ∧ 0 ≤ y ∧ y.toNat * W + x.toNat < k) ∧ f x y = true := by simp [drF]
theorem dr_more {W : Nat} {k : Nat} (hW : 1 ≤ W) {x y : Int} : (0 ≤ x ∧ x < (W : Int) ∧ 0 ≤ y ∧ y.toNat * W + x.toNat < k + 1) ↔ (0 ≤ x ∧ x < (W : Int) ∧ 0 ≤ y ∧ y.toNat * W + x.toNat < k) ∨ (x = ((k % W : Nat) : Int) ∧ y = ((k / W : Nat) : Int)) := by
  constructor
  · rintro ⟨h1, h2, h3, h4⟩
    obtain ⟨a, rfl⟩ := Int.eq_ofNat_of_zero_le h1
    obtain ⟨b, rfl⟩ := Int.eq_ofNat_of_zero_le h3
    simp only [Int.toNat_natCast] at h4 ⊢
    rcases Nat.lt_or_ge (b * W + a) k with h | h
    · exact .inl ⟨h1, h2, h3, h⟩
    · have e := (place_eq (W := W) (k := k) (a := a) (b := b) (by omega)).1 (by omega)
      exact .inr ⟨by rw [← e.1], by rw [← e.2]⟩
  · rintro (⟨h1, h2, h3, h4⟩ | ⟨rfl, rfl⟩)
    · exact ⟨h1, h2, h3, by omega⟩
    · have hm := Nat.mod_lt k (show 0 < W by omega)
      refine ⟨Int.natCast_nonneg _, Int.ofNat_lt.2 hm, Int.natCast_nonneg _, ?_⟩
      rw [Int.toNat_natCast, Int.toNat_natCast, Nat.mul_comm, Nat.div_add_mod]
      omega
theorem dr_yes {W : Nat} {f : Int → Int → Bool} {k : Nat} (hW : 1 ≤ W) (h : f ((k % W : Nat) : Int) ((k / W : Nat) : Int) = true) (x y : Int) : aS (drF W f k) ((k % W : Nat) : Int) ((k / W : Nat) : Int) x y = drF W f (k + 1) x y := by
  rw [Bool.eq_iff_iff]
  unfold aS
  rw [Bool.or_eq_true, dr_iff, dr_iff, dr_more hW, Bool.and_eq_true, decide_eq_true_eq, decide_eq_true_eq]
  constructor
  · rintro (⟨h1, h2⟩ | ⟨rfl, rfl⟩)
    · exact ⟨.inl h1, h2⟩
    · exact ⟨.inr ⟨rfl, rfl⟩, h⟩
  · rintro ⟨h1 | h1, h2⟩
    · exact .inl ⟨h1, h2⟩
    · exact .inr h1
theorem dr_no {W : Nat} {f : Int → Int → Bool} {k : Nat} (hW : 1 ≤ W) (h : f ((k % W : Nat) : Int) ((k / W : Nat) : Int) = false) (x y : Int) : drF W f k x y = drF W f (k + 1) x y := by
  rw [Bool.eq_iff_iff, dr_iff, dr_iff, dr_more hW]
  constructor
  · rintro ⟨h1, h2⟩
    exact ⟨.inl h1, h2⟩
  · rintro ⟨h1 | ⟨rfl, rfl⟩, h2⟩
    · exact ⟨h1, h2⟩
    · rw [h] at h2; cases h2
theorem dr_all (W H : Nat) (f : Int → Int → Bool) (x y : Int) : drF W f (W * H) x y = (inP W H x y && f x y) := by
  unfold drF inP
  congr 1
  refine decide_eq_decide.2 ⟨?_, ?_⟩
  · rintro ⟨h1, h2, h3, h4⟩
    obtain ⟨a, rfl⟩ := Int.eq_ofNat_of_zero_le h1
    obtain ⟨b, rfl⟩ := Int.eq_ofNat_of_zero_le h3
    simp only [Int.toNat_natCast] at h4
    refine ⟨h1, h2, h3, ?_⟩
    rcases Nat.lt_or_ge b H with h | h
    · omega
    · have := Nat.mul_le_mul_left W h
      rw [Nat.mul_comm W b] at this
      omega
  · rintro ⟨h1, h2, h3, h4⟩
    obtain ⟨a, rfl⟩ := Int.eq_ofNat_of_zero_le h1
    obtain ⟨b, rfl⟩ := Int.eq_ofNat_of_zero_le h3
    simp only [Int.toNat_natCast]
    exact ⟨h1, h2, h3, place_lt (by omega) (by omega)⟩
/-- A function value that tells the dots f of a picture of W columns and H rows, in worlds that have grown from w. -/
structure Dw (F : Nat) (first cap : Array Value) (f : Int → Int → Bool) (W H : Nat) (w : World) : Prop where
  cf : ∀ (args : Array Value) (V : World), (callFunc F args).run Tryd.prog V = .ok (.enter F args) V
  dw : ∀ (x y : Int) (V : World), 0 ≤ x ∧ x < (W : Int) ∧ 0 ≤ y ∧ y < (H : Int) → w.grownBy V none → Calls Tryd.prog F (first ++ (#[.int .i64 x, .int .i64 y] ++ cap)) V fun e w' => e = .returned (.bool (f x y)) ∧ Below V.heap.size V w'
theorem grown_heap {w w' : World} {row : Option Nat} {k : Nat} {o : Obj} (h : w.heap[k]? = some o) (hg : w.grownBy w' row) (hne : some k ≠ row) : w'.heap[k]? = some o :=
  (hg.block k (Array.getElem?_eq_some_iff.1 h).1 hne).trans h
theorem put_farD {W : World} {R o o' : Nat} {v u : Value} (h : W.cell? ⟨R, o', none⟩ = some u) (hne : ¬ o' = o) : (W.setCell ⟨R, o, none⟩ v).cell? ⟨R, o', none⟩ = some u :=
  (World.cell?_setCell_other W _ _ _ (by intro e; simp only [Addr.mk.injEq] at e; exact hne (by omega))).trans h
theorem put3D {W : World} {R : Nat} {a b c : Value} (c0 : W.cell? ⟨R, 0, none⟩ = some a) (c1 : W.cell? ⟨R, 1, none⟩ = some b) (c2 : W.cell? ⟨R, 2, none⟩ = some c) (p q r : Value) :
    (((W.setCell ⟨R, 0, none⟩ p).setCell ⟨R, 1, none⟩ q).setCell ⟨R, 2, none⟩ r).cell? ⟨R, 0, none⟩ = some p ∧ (((W.setCell ⟨R, 0, none⟩ p).setCell ⟨R, 1, none⟩ q).setCell ⟨R, 2, none⟩ r).cell? ⟨R, 1, none⟩ = some q ∧
    (((W.setCell ⟨R, 0, none⟩ p).setCell ⟨R, 1, none⟩ q).setCell ⟨R, 2, none⟩ r).cell? ⟨R, 2, none⟩ = some r :=
  ⟨put_farD (put_farD (World.cell?_setCell_same W _ _ c0) (by omega)) (by omega), put_farD (World.cell?_setCell_same _ _ _ (put_farD c1 (by omega))) (by omega), World.cell?_setCell_same _ _ _ (put_farD (put_farD c2 (by omega)) (by omega))⟩
theorem grown_set3 (w : World) (R : Nat) (p q r : Value) : w.grownBy (((w.setCell ⟨R, 0, none⟩ p).setCell ⟨R, 1, none⟩ q).setCell ⟨R, 2, none⟩ r) (some R) := by
  have one : ∀ (W : World) (o : Nat) (v : Value), W.grownBy (W.setCell ⟨R, o, none⟩ v) (some R) := fun W o v => ⟨rfl, rfl, rfl, by simp [World.setCell], fun k _ hk => Below.heap_setCell _ _ _ _ (fun e => hk (by simp [e]))⟩
  exact grown_tr (grown_tr (one _ _ _) (one _ _ _)) (one _ _ _)
set_option maxRecDepth 8000 in
set_option maxHeartbeats 3200000 in
theorem draw_any (W H n F : Nat) (first cap : Array Value) (f : Int → Int → Bool) (w : World) (hf : Dw F first cap f W H w) (hn : n = W * H) (w0 : 1 ≤ W) (w1 : W ≤ 50) (hH : H ≤ 50) :
    Calls Tryd.prog 52 #[.int .i64 (W : Int), .int .i64 (H : Int), .func (.func F) first cap] w fun e w' => (∃ c, e = .returned (.agg #[.int .i64 (W : Int), .int .i64 (H : Int), .map (some c)]) ∧ w.heap.size ≤ c ∧ Ds w' c (fun x y => inP W H x y && f x y)) ∧ Below w.heap.size w w' := by
  have hmm := @run_makeMap Tryd.prog
  have hcf := hf.cf
  have HF := Lib.hid hf.dw
  have HALL := Lib.hid (show ∀ x y, drF W f n x y = (inP W H x y && f x y) by rw [hn]; exact dr_all W H f)
  have hn2 : n ≤ 2500 := by rw [hn]; exact Nat.mul_le_mul (n₁ := W) (n₂ := 50) (m₁ := H) (m₂ := 50) w1 hH
  have HPL := Lib.hid fun b w => places_any W H n b w hn (by omega) (by omega)
  have HPA : Hid (∀ k, k < n → (prs (plcs W n))[2 * k]? = some (.int .i64 ((k % W : Nat) : Int)) ∧ (prs (plcs W n))[2 * k + 1]? = some (.int .i64 ((k / W : Nat) : Int))) := Lib.hid fun k h => by
    have := prs_get (plcs W n) k (by rw [plcs_len]; exact h)
    rw [plcs_at W n k h] at this
    exact this
  have HPN : Hid (0 < n → 0 < (prs (plcs W n)).length) := Lib.hid fun h => by rw [prs_len, plcs_len]; omega
  have HXY : Hid (∀ k, k < n → 0 ≤ ((k % W : Nat) : Int) ∧ ((k % W : Nat) : Int) < (W : Int) ∧ 0 ≤ ((k / W : Nat) : Int) ∧ ((k / W : Nat) : Int) < (H : Int)) := Lib.hid fun k hk => by
    obtain ⟨h1, h2, _⟩ := place_of (W := W) (H := H) (i := k) (by rw [← hn]; exact hk)
    refine ⟨Int.natCast_nonneg _, Int.ofNat_lt.2 h1, Int.natCast_nonneg _, Int.ofNat_lt.2 h2⟩
  have HYES := Lib.hid fun k (h : f ((k % W : Nat) : Int) ((k / W : Nat) : Int) = true) => dr_yes w0 h
  have HNO := Lib.hid fun k (h : f ((k % W : Nat) : Int) ((k / W : Nat) : Int) = false) => dr_no w0 h
  have HZ := Lib.hid (dr_zero W f)
  clear hf hn
  generalize prs (plcs W n) = pl at *
  go_enter Tryd.func52, Tryd.ntmps52
  go_wp2_with (go_at_call 66; refine (HPL.out _ _).mono ?_; rintro e wp ⟨⟨A, c, base, rfl, hbase, hrow⟩, hbp⟩)
  obtain ⟨W3, hW3⟩ : ∃ W3, W3 = ((w.alloc (.cells #[.int .i64 0, .int .i64 0, .map none] 42)).alloc (.map #[] 0)).alloc (.cells #[.int .i64 (W : Int), .int .i64 (H : Int), .map (some (w.heap.size + 1))] 42) := ⟨_, rfl⟩
  rw [← hW3] at hbp hbase
  have hz3 : W3.heap.size = w.heap.size + 3 := by rw [hW3]; simp
  have k0 : W3.heap[w.heap.size]? = some (.cells #[.int .i64 0, .int .i64 0, .map none] 42) := by
    rw [hW3, (MapKept.heap_alloc _ _).2 _ (by simp; omega), (MapKept.heap_alloc _ _).2 _ (by simp)]
    exact (MapKept.heap_alloc _ _).1
  have k2 : W3.heap[w.heap.size + 2]? = some (.cells #[.int .i64 (W : Int), .int .i64 (H : Int), .map (some (w.heap.size + 1))] 42) := by
    have h := (MapKept.heap_alloc ((w.alloc (.cells #[.int .i64 0, .int .i64 0, .map none] 42)).alloc (.map #[] 0)) (.cells #[.int .i64 (W : Int), .int .i64 (H : Int), .map (some (w.heap.size + 1))] 42)).1
    rw [show ((w.alloc (.cells #[.int .i64 0, .int .i64 0, .map none] 42)).alloc (.map #[] 0)).heap.size = w.heap.size + 2 by simp] at h
    rw [hW3]
    exact h
  have g3 : w.grownBy W3 none := by rw [hW3]; exact ((World.grownBy_alloc w _ none).andThen (World.grownBy_alloc _ _ none) (by simp)).andThen (World.grownBy_alloc _ _ none) (by simp)
  have d3 : Ds W3 (w.heap.size + 1) (fun _ _ => false) := by
    have h := Dots.made (P := Tryd.prog) (k := 68) (w.alloc (.cells #[.int .i64 0, .int .i64 0, .map none] 42))
    rw [show (w.alloc (.cells #[.int .i64 0, .int .i64 0, .map none] 42)).heap.size = w.heap.size + 1 by simp] at h
    rw [hW3]
    exact h.alloc _
  have gp := grown_of_below hbp (Nat.le_refl _)
  have j0 := grown_heap k0 gp (by simp)
  have j2 := grown_heap k2 gp (by simp)
  have HD := Lib.hid ((d3.kept gp (by simp)).congr HZ.out)
  have HG := Lib.hid (g3.andThen gp (by simp))
  have HRW := Lib.hid hrow
  have hzp : w.heap.size + 3 ≤ wp.heap.size := by have := hbp.size; omega
  clear hbp hrow k0 k2 g3 d3 gp hW3 HPL
  go_loopw [17] (fun i wr => ∃ k : Nat, k ≤ n ∧ i = .int .i64 (k : Int) ∧ Hid (Ds wr (w.heap.size + 1) (drF W f k)) ∧ Hid (wp.grownBy wr (some (w.heap.size + 1)))) (fun i _ => n - (intOf i).toNat)
  case atStart => exact ⟨0, by omega, by simp, HD, Lib.hid (grown_refl _ _)⟩
  case round =>
    obtain ⟨k, hk, rfl, HDk, HGk⟩ := hrel
    have hzr : wp.heap.size ≤ wr.heap.size := HGk.out.size
    have i0 := grown_heap j0 HGk.out (by simp)
    have i2 := grown_heap j2 HGk.out (by simp)
    have HGW := Lib.hid (HG.out.andThen HGk.out (by intro j hj; cases hj; exact Or.inl (by omega)))
    by_cases hlt : k < n
    · have hlt2 : (k : Int) < (n : Int) := by omega
      have hp := HPA.out k hlt
      have hrr := HRW.out.kept HGk.out (.inr fun e => by have := (HRW.out.lt _ e).1; omega)
      obtain ⟨g, o, rfl, hg0, hg1, hcs⟩ := own_of_row hrr (HPN.out (by omega))
      have s0 := (hcs _ _ hp.1).1
      have s1 := (hcs _ _ hp.2).1
      rw [Nat.mul_comm 2 k] at s0 s1
      rw [← Nat.add_assoc] at s1
      have hxy := HXY.out k hlt
      have hyes := HYES.out k
      have hno := HNO.out k
      generalize ((k % W : Nat) : Int) = x at *
      generalize ((k / W : Nat) : Int) = y at *
      have HF1 := Lib.hid fun V hg => HF.out x y V hxy hg
      clear hp hcs hrr
      cases hc : f x y with
      | true =>
        have HY := Lib.hid (hyes hc)
        rw [hc] at HF1
        clear hc hyes hno
        go_wp2_with (first
          | ((refine (HF1.out _ (HGW.out.andThen (World.grownBy_alloc _ _ none) (by simp))).mono ?_; rintro e w5 ⟨rfl, hb5⟩; have HG5 := Lib.hid ((World.grownBy_alloc wr (.cells #[.int .i64 x, .int .i64 y] 68) none).andThen (grown_of_below hb5 (Nat.le_refl _)) (by simp)); have HD5 := Lib.hid (HDk.out.kept HG5.out (by simp)); have q2 : w5.cell? ⟨w.heap.size + 2, 2, none⟩ = some (.map (some (w.heap.size + 1))) := Lib.cell_of_heap (grown_heap i2 HG5.out (by simp)) 2; have e0 := (hb5.cell (p := ⟨wr.heap.size, 0, none⟩) (by simp)).trans (show (wr.alloc (.cells #[.int .i64 x, .int .i64 y] 68)).cell? ⟨wr.heap.size, 0, none⟩ = some (.int .i64 x) by simp [go_sem]); have e1 := (hb5.cell (p := ⟨wr.heap.size, 1, none⟩) (by simp)).trans (show (wr.alloc (.cells #[.int .i64 x, .int .i64 y] 68)).cell? ⟨wr.heap.size, 1, none⟩ = some (.int .i64 y) by simp [go_sem]); clear hb5))
          | (go_at_call 70; refine (add_any _ _ _ _ _ HD5.out (by omega)).mono ?_; rintro e w6 ⟨rfl, hd6, hg6⟩))
        have HD6 := Lib.hid (hd6.congr HY.out)
        have HG6 := Lib.hid ((HGk.out.andThen HG5.out (by simp)).andThen hg6 (by intro j hj; exact Or.inr (by rw [hj])))
        clear hd6 hg6
        go_wp2
        go_roundw
        case rel => exact ⟨k + 1, by omega, by go_num, HD6, HG6⟩
        case measure => simp [intOf]; omega
      | false =>
        have HY := Lib.hid (hno hc)
        rw [hc] at HF1
        clear hc hyes hno
        go_wp2_with (refine (HF1.out _ (HGW.out.andThen (World.grownBy_alloc _ _ none) (by simp))).mono ?_; rintro e w5 ⟨rfl, hb5⟩)
        have hg5 := (World.grownBy_alloc wr (.cells #[.int .i64 x, .int .i64 y] 68) none).andThen (grown_of_below hb5 (Nat.le_refl _)) (by simp)
        have HD6 := Lib.hid ((HDk.out.kept hg5 (by simp)).congr HY.out)
        have HG6 := Lib.hid (HGk.out.andThen hg5 (by simp))
        clear hb5 hg5
        go_wp2
        go_roundw
        case rel => exact ⟨k + 1, by omega, by go_num, HD6, HG6⟩
        case measure => simp [intOf]; omega
    · obtain rfl : k = n := by omega
      have a0 := Lib.cell_of_heap i0 0
      have a1 := Lib.cell_of_heap i0 1
      have a2 := Lib.cell_of_heap i0 2
      have f0 := Lib.frozen_of_heap i0 0
      have f1 := Lib.frozen_of_heap i0 1
      have f2 := Lib.frozen_of_heap i0 2
      have b0 := Lib.cell_of_heap i2 0
      have b1 := Lib.cell_of_heap i2 1
      have b2 := Lib.cell_of_heap i2 2
      obtain ⟨e0, e1, e2⟩ := put3D a0 a1 a2 (.int .i64 (W : Int)) (.int .i64 (H : Int)) (.map (some (w.heap.size + 1)))
      have hgE := grown_set3 wr w.heap.size (.int .i64 (W : Int)) (.int .i64 (H : Int)) (.map (some (w.heap.size + 1)))
      have HDE := Lib.hid ((HDk.out.kept hgE (by simp)).congr HALL.out)
      have HBE := Lib.hid ((Below.refl w.heap.size w).grown (HGW.out.andThen hgE (by intro j hj; cases hj; exact Or.inl (Nat.le_refl _))) (Nat.le_refl _) (by simp))
      clear hgE
      go_wp2
      exact bodyPost_ret (v := .agg #[.int .i64 (W : Int), .int .i64 (H : Int), .map (some (w.heap.size + 1))]) (by simp [results, Tryd.results52, go_sem, e0, e1, e2]) rfl ⟨⟨_, rfl, Nat.le_succ _, HDE.out⟩, HBE.out⟩
end Go.Proofs.YtmcdmacpgjkelaaDoor
