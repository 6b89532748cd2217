/- The texts XDuP XDuT XDuU XDuO joined. -/
import Derived.Test.YtbcgidgjdedkiaaDoorMtH
import Derived.Lib.Builder
import Derived.Shelf.SlMaps.Clone
/- Chapter 7: pictures drawn by whatever function tells where dots are. -/
namespace Go.Proofs.YtbcgidgjdedkiaaDoor
open Go.ChangeShapes Go.WideShapes Go.ChangeAt Go.RowKit Go.Maps

/-- The dots among the first k places. -/
def drF (W : Nat) (f : Int → Int → Bool) (k : Nat) (x y : Int) : Bool := decide (0 ≤ x ∧ x < (W : Int) ∧ 0 ≤ y ∧ y.toNat * W + x.toNat < k) && f x y
theorem place_eq {W k a b : Nat} (ha : a < W) : b * W + a = k ↔ a = k % W ∧ b = k / W := by
  constructor
  · rintro rfl
    exact ⟨(place_x ha).symm, (place_y ha).symm⟩
  · rintro ⟨rfl, rfl⟩
    rw [Nat.mul_comm]
    exact Nat.div_add_mod k W
theorem dr_zero (W : Nat) (f : Int → Int → Bool) (x y : Int) : false = drF W f 0 x y := by simp [drF]
theorem dr_iff {W : Nat} {f : Int → Int → Bool} {k : Nat} {x y : Int} : drF W f k x y = true ↔ (0 ≤ x ∧ x < (W : Int) ∧ 0 ≤ y ∧ y.toNat * W + x.toNat < k) ∧ f x y = true := by simp [drF]
theorem dr_more {W : Nat} {k : Nat} (hW : 1 ≤ W) {x y : Int} : (0 ≤ x ∧ x < (W : Int) ∧ 0 ≤ y ∧ y.toNat * W + x.toNat < k + 1) ↔ (0 ≤ x ∧ x < (W : Int) ∧ 0 ≤ y ∧ y.toNat * W + x.toNat < k) ∨ (x = ((k % W : Nat) : Int) ∧ y = ((k / W : Nat) : Int)) := by
  constructor
  · rintro ⟨h1, h2, h3, h4⟩
    obtain ⟨a, rfl⟩ := Int.eq_ofNat_of_zero_le h1
    obtain ⟨b, rfl⟩ := Int.eq_ofNat_of_zero_le h3
    simp only [Int.toNat_natCast] at h4 ⊢
    rcases Nat.lt_or_ge (b * W + a) k with h | h
    · exact .inl ⟨h1, h2, h3, h⟩
    · have e := (place_eq (W := W) (k := k) (a := a) (b := b) (by omega)).1 (by omega)
      exact .inr ⟨by rw [← e.1], by rw [← e.2]⟩
  · rintro (⟨h1, h2, h3, h4⟩ | ⟨rfl, rfl⟩)
    · exact ⟨h1, h2, h3, by omega⟩
    · have hm := Nat.mod_lt k (show 0 < W by omega)
      refine ⟨Int.natCast_nonneg _, Int.ofNat_lt.2 hm, Int.natCast_nonneg _, ?_⟩
      rw [Int.toNat_natCast, Int.toNat_natCast, Nat.mul_comm, Nat.div_add_mod]
      omega
theorem dr_yes {W : Nat} {f : Int → Int → Bool} {k : Nat} (hW : 1 ≤ W) (h : f ((k % W : Nat) : Int) ((k / W : Nat) : Int) = true) (x y : Int) : aS (drF W f k) ((k % W : Nat) : Int) ((k / W : Nat) : Int) x y = drF W f (k + 1) x y := by
  rw [Bool.eq_iff_iff]
  unfold aS
  rw [Bool.or_eq_true, dr_iff, dr_iff, dr_more hW, Bool.and_eq_true, decide_eq_true_eq, decide_eq_true_eq]
  constructor
  · rintro (⟨h1, h2⟩ | ⟨rfl, rfl⟩)
    · exact ⟨.inl h1, h2⟩
    · exact ⟨.inr ⟨rfl, rfl⟩, h⟩
  · rintro ⟨h1 | h1, h2⟩
    · exact .inl ⟨h1, h2⟩
    · exact .inr h1
theorem dr_no {W : Nat} {f : Int → Int → Bool} {k : Nat} (hW : 1 ≤ W) (h : f ((k % W : Nat) : Int) ((k / W : Nat) : Int) = false) (x y : Int) : drF W f k x y = drF W f (k + 1) x y := by
  rw [Bool.eq_iff_iff, dr_iff, dr_iff, dr_more hW]
  constructor
  · rintro ⟨h1, h2⟩
    exact ⟨.inl h1, h2⟩
  · rintro ⟨h1 | ⟨rfl, rfl⟩, h2⟩
    · exact ⟨h1, h2⟩
    · rw [h] at h2; cases h2
theorem dr_all (W H : Nat) (f : Int → Int → Bool) (x y : Int) : drF W f (W * H) x y = (inP W H x y && f x y) := by
  unfold drF inP
  congr 1
  refine decide_eq_decide.2 ⟨?_, ?_⟩
  · rintro ⟨h1, h2, h3, h4⟩
    obtain ⟨a, rfl⟩ := Int.eq_ofNat_of_zero_le h1
    obtain ⟨b, rfl⟩ := Int.eq_ofNat_of_zero_le h3
    simp only [Int.toNat_natCast] at h4
    refine ⟨h1, h2, h3, ?_⟩
    rcases Nat.lt_or_ge b H with h | h
    · omega
    · have := Nat.mul_le_mul_left W h
      rw [Nat.mul_comm W b] at this
      omega
  · rintro ⟨h1, h2, h3, h4⟩
    obtain ⟨a, rfl⟩ := Int.eq_ofNat_of_zero_le h1
    obtain ⟨b, rfl⟩ := Int.eq_ofNat_of_zero_le h3
    simp only [Int.toNat_natCast]
    exact ⟨h1, h2, h3, place_lt (by omega) (by omega)⟩
/-- A function value that tells the dots f of a picture of W columns and H rows, in worlds that have grown from w. -/
structure Dw (F : Nat) (first cap : Array Value) (f : Int → Int → Bool) (W H : Nat) (w : World) : Prop where
  cf : ∀ (args : Array Value) (V : World), (callFunc F args).run Tryd.prog V = .ok (.enter F args) V
  dw : ∀ (x y : Int) (V : World), 0 ≤ x ∧ x < (W : Int) ∧ 0 ≤ y ∧ y < (H : Int) → w.grownBy V none → Calls Tryd.prog F (first ++ (#[.int .i64 x, .int .i64 y] ++ cap)) V fun e w' => e = .returned (.bool (f x y)) ∧ Below V.heap.size V w'
theorem grown_heap {w w' : World} {row : Option Nat} {k : Nat} {o : Obj} (h : w.heap[k]? = some o) (hg : w.grownBy w' row) (hne : some k ≠ row) : w'.heap[k]? = some o :=
  (hg.block k (Array.getElem?_eq_some_iff.1 h).1 hne).trans h
theorem put_farD {W : World} {R o o' : Nat} {v u : Value} (h : W.cell? ⟨R, o', none⟩ = some u) (hne : ¬ o' = o) : (W.setCell ⟨R, o, none⟩ v).cell? ⟨R, o', none⟩ = some u :=
  (World.cell?_setCell_other W _ _ _ (by intro e; simp only [Addr.mk.injEq] at e; exact hne (by omega))).trans h
theorem put3D {W : World} {R : Nat} {a b c : Value} (c0 : W.cell? ⟨R, 0, none⟩ = some a) (c1 : W.cell? ⟨R, 1, none⟩ = some b) (c2 : W.cell? ⟨R, 2, none⟩ = some c) (p q r : Value) :
    (((W.setCell ⟨R, 0, none⟩ p).setCell ⟨R, 1, none⟩ q).setCell ⟨R, 2, none⟩ r).cell? ⟨R, 0, none⟩ = some p ∧ (((W.setCell ⟨R, 0, none⟩ p).setCell ⟨R, 1, none⟩ q).setCell ⟨R, 2, none⟩ r).cell? ⟨R, 1, none⟩ = some q ∧
    (((W.setCell ⟨R, 0, none⟩ p).setCell ⟨R, 1, none⟩ q).setCell ⟨R, 2, none⟩ r).cell? ⟨R, 2, none⟩ = some r :=
  ⟨put_farD (put_farD (World.cell?_setCell_same W _ _ c0) (by omega)) (by omega), put_farD (World.cell?_setCell_same _ _ _ (put_farD c1 (by omega))) (by omega), World.cell?_setCell_same _ _ _ (put_farD (put_farD c2 (by omega)) (by omega))⟩
theorem grown_set3 (w : World) (R : Nat) (p q r : Value) : w.grownBy (((w.setCell ⟨R, 0, none⟩ p).setCell ⟨R, 1, none⟩ q).setCell ⟨R, 2, none⟩ r) (some R) := by
  have one : ∀ (W : World) (o : Nat) (v : Value), W.grownBy (W.setCell ⟨R, o, none⟩ v) (some R) := fun W o v => ⟨rfl, rfl, rfl, by simp [World.setCell], fun k _ hk => Below.heap_setCell _ _ _ _ (fun e => hk (by simp [e]))⟩
  exact grown_tr (grown_tr (one _ _ _) (one _ _ _)) (one _ _ _)
set_option maxRecDepth 8000 in
set_option maxHeartbeats 3200000 in
theorem draw_any (W H n F : Nat) (first cap : Array Value) (f : Int → Int → Bool) (w : World) (hf : Dw F first cap f W H w) (hn : n = W * H) (w0 : 1 ≤ W) (w1 : W ≤ 50) (hH : H ≤ 50) :
    Calls Tryd.prog 85 #[.int .i64 (W : Int), .int .i64 (H : Int), .func (.func F) first cap] w fun e w' => (∃ c, e = .returned (.agg #[.int .i64 (W : Int), .int .i64 (H : Int), .map (some c)]) ∧ w.heap.size ≤ c ∧ Ds w' c (fun x y => inP W H x y && f x y)) ∧ Below w.heap.size w w' := by
  have hmm := @run_makeMap Tryd.prog
  have hcf := hf.cf
  have HF := Lib.hid hf.dw
  have HALL := Lib.hid (show ∀ x y, drF W f n x y = (inP W H x y && f x y) by rw [hn]; exact dr_all W H f)
  have hn2 : n ≤ 2500 := by rw [hn]; exact Nat.mul_le_mul (n₁ := W) (n₂ := 50) (m₁ := H) (m₂ := 50) w1 hH
  have HPL := Lib.hid fun b w => places_any W H n b w hn (by omega) (by omega)
  have HPA : Hid (∀ k, k < n → (prs (plcs W n))[2 * k]? = some (.int .i64 ((k % W : Nat) : Int)) ∧ (prs (plcs W n))[2 * k + 1]? = some (.int .i64 ((k / W : Nat) : Int))) := Lib.hid fun k h => by
    have := prs_get (plcs W n) k (by rw [plcs_len]; exact h)
    rw [plcs_at W n k h] at this
    exact this
  have HPN : Hid (0 < n → 0 < (prs (plcs W n)).length) := Lib.hid fun h => by rw [prs_len, plcs_len]; omega
  have HXY : Hid (∀ k, k < n → 0 ≤ ((k % W : Nat) : Int) ∧ ((k % W : Nat) : Int) < (W : Int) ∧ 0 ≤ ((k / W : Nat) : Int) ∧ ((k / W : Nat) : Int) < (H : Int)) := Lib.hid fun k hk => by
    obtain ⟨h1, h2, _⟩ := place_of (W := W) (H := H) (i := k) (by rw [← hn]; exact hk)
    refine ⟨Int.natCast_nonneg _, Int.ofNat_lt.2 h1, Int.natCast_nonneg _, Int.ofNat_lt.2 h2⟩
  have HYES := Lib.hid fun k (h : f ((k % W : Nat) : Int) ((k / W : Nat) : Int) = true) => dr_yes w0 h
  have HNO := Lib.hid fun k (h : f ((k % W : Nat) : Int) ((k / W : Nat) : Int) = false) => dr_no w0 h
  have HZ := Lib.hid (dr_zero W f)
  clear hf hn
  generalize prs (plcs W n) = pl at *
  go_enter Tryd.func85, Tryd.ntmps85
  go_wp2_with (go_at_call 62; refine (HPL.out _ _).mono ?_; rintro e wp ⟨⟨A, c, base, rfl, hbase, hrow⟩, hbp⟩)
  obtain ⟨W3, hW3⟩ : ∃ W3, W3 = ((w.alloc (.cells #[.int .i64 0, .int .i64 0, .map none] 44)).alloc (.map #[] 0)).alloc (.cells #[.int .i64 (W : Int), .int .i64 (H : Int), .map (some (w.heap.size + 1))] 44) := ⟨_, rfl⟩
  rw [← hW3] at hbp hbase
  have hz3 : W3.heap.size = w.heap.size + 3 := by rw [hW3]; simp
  have k0 : W3.heap[w.heap.size]? = some (.cells #[.int .i64 0, .int .i64 0, .map none] 44) := by
    rw [hW3, (MapKept.heap_alloc _ _).2 _ (by simp; omega), (MapKept.heap_alloc _ _).2 _ (by simp)]
    exact (MapKept.heap_alloc _ _).1
  have k2 : W3.heap[w.heap.size + 2]? = some (.cells #[.int .i64 (W : Int), .int .i64 (H : Int), .map (some (w.heap.size + 1))] 44) := by
    have h := (MapKept.heap_alloc ((w.alloc (.cells #[.int .i64 0, .int .i64 0, .map none] 44)).alloc (.map #[] 0)) (.cells #[.int .i64 (W : Int), .int .i64 (H : Int), .map (some (w.heap.size + 1))] 44)).1
    rw [show ((w.alloc (.cells #[.int .i64 0, .int .i64 0, .map none] 44)).alloc (.map #[] 0)).heap.size = w.heap.size + 2 by simp] at h
    rw [hW3]
    exact h
  have g3 : w.grownBy W3 none := by rw [hW3]; exact ((World.grownBy_alloc w _ none).andThen (World.grownBy_alloc _ _ none) (by simp)).andThen (World.grownBy_alloc _ _ none) (by simp)
  have d3 : Ds W3 (w.heap.size + 1) (fun _ _ => false) := by
    have h := Dots.made (P := Tryd.prog) (k := 58) (w.alloc (.cells #[.int .i64 0, .int .i64 0, .map none] 44))
    rw [show (w.alloc (.cells #[.int .i64 0, .int .i64 0, .map none] 44)).heap.size = w.heap.size + 1 by simp] at h
    rw [hW3]
    exact h.alloc _
  have gp := grown_of_below hbp (Nat.le_refl _)
  have j0 := grown_heap k0 gp (by simp)
  have j2 := grown_heap k2 gp (by simp)
  have HD := Lib.hid ((d3.kept gp (by simp)).congr HZ.out)
  have HG := Lib.hid (g3.andThen gp (by simp))
  have HRW := Lib.hid hrow
  have hzp : w.heap.size + 3 ≤ wp.heap.size := by have := hbp.size; omega
  clear hbp hrow k0 k2 g3 d3 gp hW3 HPL
  go_loopw [17] (fun i wr => ∃ k : Nat, k ≤ n ∧ i = .int .i64 (k : Int) ∧ Hid (Ds wr (w.heap.size + 1) (drF W f k)) ∧ Hid (wp.grownBy wr (some (w.heap.size + 1)))) (fun i _ => n - (intOf i).toNat)
  case atStart => exact ⟨0, by omega, by simp, HD, Lib.hid (grown_refl _ _)⟩
  case round =>
    obtain ⟨k, hk, rfl, HDk, HGk⟩ := hrel
    have hzr : wp.heap.size ≤ wr.heap.size := HGk.out.size
    have i0 := grown_heap j0 HGk.out (by simp)
    have i2 := grown_heap j2 HGk.out (by simp)
    have HGW := Lib.hid (HG.out.andThen HGk.out (by intro j hj; cases hj; exact Or.inl (by omega)))
    by_cases hlt : k < n
    · have hlt2 : (k : Int) < (n : Int) := by omega
      have hp := HPA.out k hlt
      have hrr := HRW.out.kept HGk.out (.inr fun e => by have := (HRW.out.lt _ e).1; omega)
      obtain ⟨g, o, rfl, hg0, hg1, hcs⟩ := own_of_row hrr (HPN.out (by omega))
      have s0 := (hcs _ _ hp.1).1
      have s1 := (hcs _ _ hp.2).1
      rw [Nat.mul_comm 2 k] at s0 s1
      rw [← Nat.add_assoc] at s1
      have hxy := HXY.out k hlt
      have hyes := HYES.out k
      have hno := HNO.out k
      generalize ((k % W : Nat) : Int) = x at *
      generalize ((k / W : Nat) : Int) = y at *
      have HF1 := Lib.hid fun V hg => HF.out x y V hxy hg
      clear hp hcs hrr
      cases hc : f x y with
      | true =>
        have HY := Lib.hid (hyes hc)
        rw [hc] at HF1
        clear hc hyes hno
        go_wp2_with (first
          | ((refine (HF1.out _ (HGW.out.andThen (World.grownBy_alloc _ _ none) (by simp))).mono ?_; rintro e w5 ⟨rfl, hb5⟩; have HG5 := Lib.hid ((World.grownBy_alloc wr (.cells #[.int .i64 x, .int .i64 y] 58) none).andThen (grown_of_below hb5 (Nat.le_refl _)) (by simp)); have HD5 := Lib.hid (HDk.out.kept HG5.out (by simp)); have q2 : w5.cell? ⟨w.heap.size + 2, 2, none⟩ = some (.map (some (w.heap.size + 1))) := Lib.cell_of_heap (grown_heap i2 HG5.out (by simp)) 2; have e0 := (hb5.cell (p := ⟨wr.heap.size, 0, none⟩) (by simp)).trans (show (wr.alloc (.cells #[.int .i64 x, .int .i64 y] 58)).cell? ⟨wr.heap.size, 0, none⟩ = some (.int .i64 x) by simp [go_sem]); have e1 := (hb5.cell (p := ⟨wr.heap.size, 1, none⟩) (by simp)).trans (show (wr.alloc (.cells #[.int .i64 x, .int .i64 y] 58)).cell? ⟨wr.heap.size, 1, none⟩ = some (.int .i64 y) by simp [go_sem]); clear hb5))
          | (go_at_call 93; refine (add_any _ _ _ _ _ HD5.out (by omega)).mono ?_; rintro e w6 ⟨rfl, hd6, hg6⟩))
        have HD6 := Lib.hid (hd6.congr HY.out)
        have HG6 := Lib.hid ((HGk.out.andThen HG5.out (by simp)).andThen hg6 (by intro j hj; exact Or.inr (by rw [hj])))
        clear hd6 hg6
        go_wp2
        go_roundw
        case rel => exact ⟨k + 1, by omega, by go_num, HD6, HG6⟩
        case measure => simp [intOf]; omega
      | false =>
        have HY := Lib.hid (hno hc)
        rw [hc] at HF1
        clear hc hyes hno
        go_wp2_with (refine (HF1.out _ (HGW.out.andThen (World.grownBy_alloc _ _ none) (by simp))).mono ?_; rintro e w5 ⟨rfl, hb5⟩)
        have hg5 := (World.grownBy_alloc wr (.cells #[.int .i64 x, .int .i64 y] 58) none).andThen (grown_of_below hb5 (Nat.le_refl _)) (by simp)
        have HD6 := Lib.hid ((HDk.out.kept hg5 (by simp)).congr HY.out)
        have HG6 := Lib.hid (HGk.out.andThen hg5 (by simp))
        clear hb5 hg5
        go_wp2
        go_roundw
        case rel => exact ⟨k + 1, by omega, by go_num, HD6, HG6⟩
        case measure => simp [intOf]; omega
    · obtain rfl : k = n := by omega
      have a0 := Lib.cell_of_heap i0 0
      have a1 := Lib.cell_of_heap i0 1
      have a2 := Lib.cell_of_heap i0 2
      have f0 := Lib.frozen_of_heap i0 0
      have f1 := Lib.frozen_of_heap i0 1
      have f2 := Lib.frozen_of_heap i0 2
      have b0 := Lib.cell_of_heap i2 0
      have b1 := Lib.cell_of_heap i2 1
      have b2 := Lib.cell_of_heap i2 2
      obtain ⟨e0, e1, e2⟩ := put3D a0 a1 a2 (.int .i64 (W : Int)) (.int .i64 (H : Int)) (.map (some (w.heap.size + 1)))
      have hgE := grown_set3 wr w.heap.size (.int .i64 (W : Int)) (.int .i64 (H : Int)) (.map (some (w.heap.size + 1)))
      have HDE := Lib.hid ((HDk.out.kept hgE (by simp)).congr HALL.out)
      have HBE := Lib.hid ((Below.refl w.heap.size w).grown (HGW.out.andThen hgE (by intro j hj; cases hj; exact Or.inl (Nat.le_refl _))) (Nat.le_refl _) (by simp))
      clear hgE
      go_wp2
      exact bodyPost_ret (v := .agg #[.int .i64 (W : Int), .int .i64 (H : Int), .map (some (w.heap.size + 1))]) (by simp [results, Tryd.results85, go_sem, e0, e1, e2]) rfl ⟨⟨_, rfl, Nat.le_succ _, HDE.out⟩, HBE.out⟩
end Go.Proofs.YtbcgidgjdedkiaaDoor
/- Chapter 7: the program's pictures with other dots, turned, mirrored. -/
namespace Go.Proofs.YtbcgidgjdedkiaaDoor
open Go.ChangeShapes Go.WideShapes Go.ChangeAt Go.RowKit Go.Maps

theorem grown_undrew {V w : World} {row : Option Nat} (h : V.drew.grownBy w row) : V.grownBy w row := ⟨h.os, h.tape, h.output, h.size, h.block⟩
theorem withDots_any (W H : Int) (b c : Nat) (w : World) :
    Calls Tryd.prog 64 #[.agg #[.int .i64 W, .int .i64 H, .map (some b)], .map (some c)] w fun e w' => e = .returned (.agg #[.int .i64 W, .int .i64 H, .map (some c)]) ∧ Below w.heap.size w w' := by
  go_enter Tryd.func64, Tryd.ntmps64
  go_wp2
  exact bodyPost_ret (v := .agg #[.int .i64 W, .int .i64 H, .map (some c)]) (by simp [results, Tryd.results64, go_sem]) rfl ⟨rfl, ((Below.refl _ _).alloc (Nat.le_refl _) _).alloc (by simp) _⟩
theorem turned1_any (x y H : Int) (K : Nat) (w : World) (c1 : w.cell? ⟨K, 1, none⟩ = some (.int .i64 H)) (_ : 0 ≤ x) (_ : x < 100) (y0 : 0 ≤ y) (y1 : y < 100) (h0 : 0 ≤ H) (h1 : H ≤ 100) :
    Calls Tryd.prog 79 #[.agg #[.int .i64 x, .int .i64 y], .pointer (some ⟨K, 0, none⟩)] w fun e w' => e = .returned (.agg #[.int .i64 (H - 1 - y), .int .i64 x]) ∧ Below w.heap.size w w' := by
  have e1 : IntKind.i64.wrap (H - 1) = H - 1 := IntWalk.i64_in _ (by omega)
  have e2 : IntKind.i64.wrap (H - 1 - y) = H - 1 - y := IntWalk.i64_in _ (by omega)
  have c1a := fun o => cell_old c1 o
  have c1b := fun o p => cell_old (cell_old c1 o) p
  go_enter Tryd.func79, Tryd.ntmps79
  go_wp2
  exact bodyPost_ret (v := .agg #[.int .i64 (H - 1 - y), .int .i64 x]) (by simp [results, Tryd.results79, go_sem]) rfl ⟨rfl, ((Below.refl _ _).alloc (Nat.le_refl _) _).alloc (by simp) _⟩
theorem mirrored1_any (x y W : Int) (K : Nat) (w : World) (c1 : w.cell? ⟨K, 0, none⟩ = some (.int .i64 W)) (x0 : 0 ≤ x) (x1 : x < 100) (_ : 0 ≤ y) (_ : y < 100) (h0 : 0 ≤ W) (h1 : W ≤ 100) :
    Calls Tryd.prog 81 #[.agg #[.int .i64 x, .int .i64 y], .pointer (some ⟨K, 0, none⟩)] w fun e w' => e = .returned (.agg #[.int .i64 (W - 1 - x), .int .i64 y]) ∧ Below w.heap.size w w' := by
  have e1 : IntKind.i64.wrap (W - 1) = W - 1 := IntWalk.i64_in _ (by omega)
  have e2 : IntKind.i64.wrap (W - 1 - x) = W - 1 - x := IntWalk.i64_in _ (by omega)
  have c1a := fun o => cell_old c1 o
  have c1b := fun o p => cell_old (cell_old c1 o) p
  go_enter Tryd.func81, Tryd.ntmps81
  go_wp2
  exact bodyPost_ret (v := .agg #[.int .i64 (W - 1 - x), .int .i64 y]) (by simp [results, Tryd.results81, go_sem]) rfl ⟨rfl, ((Below.refl _ _).alloc (Nat.le_refl _) _).alloc (by simp) _⟩
/-- A change of pictures: what a function makes of one. -/
def Chg (F : Nat) (W H : Nat) (S : Int → Int → Bool) (W' H' : Nat) (S' : Int → Int → Bool) : Prop :=
  ∀ (V : World) (b : Nat), Ds V b S → Calls Tryd.prog F #[.agg #[.int .i64 (W : Int), .int .i64 (H : Int), .map (some b)]] V fun e V' => (∃ c, e = .returned (.agg #[.int .i64 (W' : Int), .int .i64 (H' : Int), .map (some c)]) ∧ Ds V' c S') ∧ Below V.heap.size V V'
theorem cf_turned1 : ∀ (args : Array Value) (V : World), (callFunc 79 args).run Tryd.prog V = .ok (.enter 79 args) V := fun _ _ => by kernel_rfl
set_option maxRecDepth 8000 in
set_option maxHeartbeats 1600000 in
theorem turned_chg (W H : Nat) (S : Int → Int → Bool) (hS : Bd W H S) (hW : W ≤ 50) (hH : H ≤ 50) : Chg 51 W H S H W (fun x y => S y ((H : Int) - 1 - x)) := by
  intro w b hd
  have hbl := hd.lt
  obtain ⟨V, hV⟩ : ∃ V, V = (w.alloc (.cells #[.int .i64 (W : Int), .int .i64 (H : Int), .map (some b)] 44)).alloc (.cells #[.int .i64 0, .int .i64 0, .map none] 44) := ⟨_, rfl⟩
  have k0 : V.heap[w.heap.size]? = some (.cells #[.int .i64 (W : Int), .int .i64 (H : Int), .map (some b)] 44) := by
    rw [hV, (MapKept.heap_alloc _ _).2 _ (by simp)]
    exact (MapKept.heap_alloc _ _).1
  have k1 : V.heap[w.heap.size + 1]? = some (.cells #[.int .i64 0, .int .i64 0, .map none] 44) := by
    have h := (MapKept.heap_alloc (w.alloc (.cells #[.int .i64 (W : Int), .int .i64 (H : Int), .map (some b)] 44)) (.cells #[.int .i64 0, .int .i64 0, .map none] 44)).1
    rw [show (w.alloc (.cells #[.int .i64 (W : Int), .int .i64 (H : Int), .map (some b)] 44)).heap.size = w.heap.size + 1 by simp] at h
    rw [hV]
    exact h
  have hgV : w.grownBy V none := by rw [hV]; exact (World.grownBy_alloc w _ none).andThen (World.grownBy_alloc _ _ none) (by simp)
  have HD := Lib.hid (hd.kept hgV (by simp))
  have HMV : Hid (Mv 79 w.heap.size S (fun _ y => (H : Int) - 1 - y) (fun x _ => x) (fun _ v => v) (fun u _ => (H : Int) - 1 - u) V.drew) := Lib.hid
    { cf := cf_turned1
      mv := fun x y W' hs hg => by
        have hb := hS x y hs
        exact turned1_any x y H w.heap.size W' (hg.cell (show V.cell? ⟨w.heap.size, 1, none⟩ = _ from Lib.cell_of_heap k0 1) (by simp)) (by omega) (by omega) (by omega) (by omega) (by omega) (by omega)
      inv := fun x y _ u v => by constructor <;> rintro ⟨rfl, rfl⟩ <;> constructor <;> omega
      bd := fun x y hs => by have hb := hS x y hs; omega }
  have q0 : V.cell? ⟨w.heap.size, 0, none⟩ = some (.int .i64 (W : Int)) := Lib.cell_of_heap k0 0
  have q1 : V.cell? ⟨w.heap.size, 1, none⟩ = some (.int .i64 (H : Int)) := Lib.cell_of_heap k0 1
  have q2 : V.cell? ⟨w.heap.size, 2, none⟩ = some (.map (some b)) := Lib.cell_of_heap k0 2
  have hzV : V.heap.size = w.heap.size + 2 := by rw [hV]; simp
  go_enter Tryd.func51, Tryd.ntmps51
  go_wp2
  rw [← hV]
  clear hV
  have z1 : w.heap.size + 1 < V.drew.heap.size := by show w.heap.size + 1 < V.heap.size; omega
  have z0 : w.heap.size < V.drew.heap.size := by show w.heap.size < V.heap.size; omega
  go_region_held3 (fun w' => w'.cell? ⟨w.heap.size, 0, none⟩ = some (.int .i64 (W : Int)) ∧ w'.cell? ⟨w.heap.size, 1, none⟩ = some (.int .i64 (H : Int)) ∧ w'.cell? ⟨w.heap.size, 2, none⟩ = some (.map (some b)))
    (first | with_reducible exact ⟨t0, t1, t2⟩ | with_reducible exact ⟨(grown_set3 w3 _ _ _ _).cell t0 (by simp), (grown_set3 w3 _ _ _ _).cell t1 (by simp), (grown_set3 w3 _ _ _ _).cell t2 (by simp)⟩ | exact ⟨q0, q1, q2⟩)
    (first | (go_at_call 80; refine (moved_any _ _ _ _ _ _ _ _ _ HD.out.drew HMV.out).mono ?_; rintro e w3 ⟨⟨c, rfl, hc, hd3⟩, hb3⟩; have t0 := (hb3.cell (p := ⟨w.heap.size, 0, none⟩) z0).trans q0; have t1 := (hb3.cell (p := ⟨w.heap.size, 1, none⟩) z0).trans q1; have t2 := (hb3.cell (p := ⟨w.heap.size, 2, none⟩) z0).trans q2; have i3 := (hb3.block (w.heap.size + 1) z1).trans k1; have s0 := Lib.cell_of_heap i3 0; have s1 := Lib.cell_of_heap i3 1; have s2 := Lib.cell_of_heap i3 2; have f0 := Lib.frozen_of_heap i3 0; have f1 := Lib.frozen_of_heap i3 1; have f2 := Lib.frozen_of_heap i3 2; have HDF := Lib.hid hd3; have HGF := Lib.hid (grown_undrew (grown_of_below hb3 (Nat.le_refl _))); have hcV : V.heap.size ≤ c := hc))
  obtain ⟨e0, e1, e2⟩ := put3D s0 s1 s2 (.int .i64 (H : Int)) (.int .i64 (W : Int)) (.map (some c))
  have hgE := grown_set3 w3 (w.heap.size + 1) (.int .i64 (H : Int)) (.int .i64 (W : Int)) (.map (some c))
  have HDE := Lib.hid (HDF.out.kept hgE (by simp; omega))
  have HBE := Lib.hid ((Below.refl w.heap.size w).grown ((hgV.andThen HGF.out (by simp)).andThen hgE (by intro j hj; cases hj; exact Or.inl (by omega))) (Nat.le_refl _) (by simp))
  clear hgE
  go_wp2
  exact bodyPost_ret (v := .agg #[.int .i64 (H : Int), .int .i64 (W : Int), .map (some c)]) (by simp [results, Tryd.results51, go_sem, e0, e1, e2]) rfl ⟨⟨c, rfl, HDE.out⟩, HBE.out⟩
theorem cf_mirrored1 : ∀ (args : Array Value) (V : World), (callFunc 81 args).run Tryd.prog V = .ok (.enter 81 args) V := fun _ _ => by kernel_rfl
set_option maxRecDepth 8000 in
set_option maxHeartbeats 1600000 in
theorem mirrored_chg (W H : Nat) (S : Int → Int → Bool) (hS : Bd W H S) (hW : W ≤ 50) (hH : H ≤ 50) : Chg 53 W H S W H (fun x y => S ((W : Int) - 1 - x) y) := by
  intro w b hd
  have hbl := hd.lt
  obtain ⟨V, hV⟩ : ∃ V, V = (w.alloc (.cells #[.int .i64 (W : Int), .int .i64 (H : Int), .map (some b)] 44)).alloc (.cells #[.int .i64 0, .int .i64 0, .map none] 44) := ⟨_, rfl⟩
  have k0 : V.heap[w.heap.size]? = some (.cells #[.int .i64 (W : Int), .int .i64 (H : Int), .map (some b)] 44) := by
    rw [hV, (MapKept.heap_alloc _ _).2 _ (by simp)]
    exact (MapKept.heap_alloc _ _).1
  have k1 : V.heap[w.heap.size + 1]? = some (.cells #[.int .i64 0, .int .i64 0, .map none] 44) := by
    have h := (MapKept.heap_alloc (w.alloc (.cells #[.int .i64 (W : Int), .int .i64 (H : Int), .map (some b)] 44)) (.cells #[.int .i64 0, .int .i64 0, .map none] 44)).1
    rw [show (w.alloc (.cells #[.int .i64 (W : Int), .int .i64 (H : Int), .map (some b)] 44)).heap.size = w.heap.size + 1 by simp] at h
    rw [hV]
    exact h
  have hgV : w.grownBy V none := by rw [hV]; exact (World.grownBy_alloc w _ none).andThen (World.grownBy_alloc _ _ none) (by simp)
  have HD := Lib.hid (hd.kept hgV (by simp))
  have HMV : Hid (Mv 81 w.heap.size S (fun x _ => (W : Int) - 1 - x) (fun _ y => y) (fun u _ => (W : Int) - 1 - u) (fun _ v => v) V.drew) := Lib.hid
    { cf := cf_mirrored1
      mv := fun x y W' hs hg => by
        have hb := hS x y hs
        exact mirrored1_any x y W w.heap.size W' (hg.cell (show V.cell? ⟨w.heap.size, 0, none⟩ = _ from Lib.cell_of_heap k0 0) (by simp)) (by omega) (by omega) (by omega) (by omega) (by omega) (by omega)
      inv := fun x y _ u v => by constructor <;> rintro ⟨rfl, rfl⟩ <;> constructor <;> omega
      bd := fun x y hs => by have hb := hS x y hs; omega }
  have q0 : V.cell? ⟨w.heap.size, 0, none⟩ = some (.int .i64 (W : Int)) := Lib.cell_of_heap k0 0
  have q1 : V.cell? ⟨w.heap.size, 1, none⟩ = some (.int .i64 (H : Int)) := Lib.cell_of_heap k0 1
  have q2 : V.cell? ⟨w.heap.size, 2, none⟩ = some (.map (some b)) := Lib.cell_of_heap k0 2
  have hzV : V.heap.size = w.heap.size + 2 := by rw [hV]; simp
  go_enter Tryd.func53, Tryd.ntmps53
  go_wp2
  rw [← hV]
  clear hV
  have z1 : w.heap.size + 1 < V.drew.heap.size := by show w.heap.size + 1 < V.heap.size; omega
  have z0 : w.heap.size < V.drew.heap.size := by show w.heap.size < V.heap.size; omega
  go_region_held3 (fun w' => w'.cell? ⟨w.heap.size, 0, none⟩ = some (.int .i64 (W : Int)) ∧ w'.cell? ⟨w.heap.size, 1, none⟩ = some (.int .i64 (H : Int)) ∧ w'.cell? ⟨w.heap.size, 2, none⟩ = some (.map (some b)))
    (first | with_reducible exact ⟨t0, t1, t2⟩ | with_reducible exact ⟨(grown_set3 w4 _ _ _ _).cell t0 (by simp), (grown_set3 w4 _ _ _ _).cell t1 (by simp), (grown_set3 w4 _ _ _ _).cell t2 (by simp)⟩ | exact ⟨q0, q1, q2⟩)
    (first
      | (go_at_call 80; refine (moved_any _ _ _ _ _ _ _ _ _ HD.out.drew HMV.out).mono ?_; rintro e w3 ⟨⟨c, rfl, hc, hd3⟩, hb3⟩; have t0 := (hb3.cell (p := ⟨w.heap.size, 0, none⟩) z0).trans q0; have t1 := (hb3.cell (p := ⟨w.heap.size, 1, none⟩) z0).trans q1; have t2 := (hb3.cell (p := ⟨w.heap.size, 2, none⟩) z0).trans q2; have i3 := (hb3.block (w.heap.size + 1) z1).trans k1; have HDF := Lib.hid hd3; have HGF := Lib.hid (grown_undrew (grown_of_below hb3 (Nat.le_refl _))); have hcV : V.heap.size ≤ c := hc; have hz3 : V.heap.size ≤ w3.heap.size := HGF.out.size)
      | (go_at_call 64; refine (withDots_any _ _ _ _ _).mono ?_; rintro e w4 ⟨rfl, hb4⟩; have HDF := Lib.hid (HDF.out.below hb4); have hg4 := grown_of_below hb4 (Nat.le_refl _); have HGF := Lib.hid (HGF.out.andThen hg4 (by simp)); have t0 := hg4.cell t0 (by simp); have t1 := hg4.cell t1 (by simp); have t2 := hg4.cell t2 (by simp); have i3 := grown_heap i3 hg4 (by simp); have s0 := Lib.cell_of_heap i3 0; have s1 := Lib.cell_of_heap i3 1; have s2 := Lib.cell_of_heap i3 2; have f0 := Lib.frozen_of_heap i3 0; have f1 := Lib.frozen_of_heap i3 1; have f2 := Lib.frozen_of_heap i3 2))
  obtain ⟨e0, e1, e2⟩ := put3D s0 s1 s2 (.int .i64 (W : Int)) (.int .i64 (H : Int)) (.map (some c))
  have hgE := grown_set3 w4 (w.heap.size + 1) (.int .i64 (W : Int)) (.int .i64 (H : Int)) (.map (some c))
  have HDE := Lib.hid (HDF.out.kept hgE (by simp; omega))
  have HBE := Lib.hid ((Below.refl w.heap.size w).grown ((hgV.andThen HGF.out (by simp)).andThen hgE (by intro j hj; cases hj; exact Or.inl (by omega))) (Nat.le_refl _) (by simp))
  clear hgE
  go_wp2
  exact bodyPost_ret (v := .agg #[.int .i64 (W : Int), .int .i64 (H : Int), .map (some c)]) (by simp [results, Tryd.results53, go_sem, e0, e1, e2]) rfl ⟨⟨c, rfl, HDE.out⟩, HBE.out⟩
set_option maxRecDepth 8000 in
set_option maxHeartbeats 1600000 in
theorem borderAlone_chg (W H : Nat) (S : Int → Int → Bool) (_ : Bd W H S) (_ : W ≤ 50) (_ : H ≤ 50) : Chg 69 W H S W H (bS S) := by
  intro w b hd
  have hbl := hd.lt
  obtain ⟨V, hV⟩ : ∃ V, V = (w.alloc (.cells #[.int .i64 (W : Int), .int .i64 (H : Int), .map (some b)] 44)).alloc (.cells #[.int .i64 0, .int .i64 0, .map none] 44) := ⟨_, rfl⟩
  have k0 : V.heap[w.heap.size]? = some (.cells #[.int .i64 (W : Int), .int .i64 (H : Int), .map (some b)] 44) := by
    rw [hV, (MapKept.heap_alloc _ _).2 _ (by simp)]
    exact (MapKept.heap_alloc _ _).1
  have k1 : V.heap[w.heap.size + 1]? = some (.cells #[.int .i64 0, .int .i64 0, .map none] 44) := by
    have h := (MapKept.heap_alloc (w.alloc (.cells #[.int .i64 (W : Int), .int .i64 (H : Int), .map (some b)] 44)) (.cells #[.int .i64 0, .int .i64 0, .map none] 44)).1
    rw [show (w.alloc (.cells #[.int .i64 (W : Int), .int .i64 (H : Int), .map (some b)] 44)).heap.size = w.heap.size + 1 by simp] at h
    rw [hV]
    exact h
  have hgV : w.grownBy V none := by rw [hV]; exact (World.grownBy_alloc w _ none).andThen (World.grownBy_alloc _ _ none) (by simp)
  have HD := Lib.hid (hd.kept hgV (by simp))
  have q0 : V.cell? ⟨w.heap.size, 0, none⟩ = some (.int .i64 (W : Int)) := Lib.cell_of_heap k0 0
  have q1 : V.cell? ⟨w.heap.size, 1, none⟩ = some (.int .i64 (H : Int)) := Lib.cell_of_heap k0 1
  have q2 : V.cell? ⟨w.heap.size, 2, none⟩ = some (.map (some b)) := Lib.cell_of_heap k0 2
  have hzV : V.heap.size = w.heap.size + 2 := by rw [hV]; simp
  go_enter Tryd.func69, Tryd.ntmps69
  go_wp2
  rw [← hV]
  clear hV
  have z1 : w.heap.size + 1 < V.drew.heap.size := by show w.heap.size + 1 < V.heap.size; omega
  have z0 : w.heap.size < V.drew.heap.size := by show w.heap.size < V.heap.size; omega
  go_region_held3 (fun w' => w'.cell? ⟨w.heap.size, 0, none⟩ = some (.int .i64 (W : Int)) ∧ w'.cell? ⟨w.heap.size, 1, none⟩ = some (.int .i64 (H : Int)) ∧ w'.cell? ⟨w.heap.size, 2, none⟩ = some (.map (some b)))
    (first | with_reducible exact ⟨t0, t1, t2⟩ | with_reducible exact ⟨(grown_set3 w4 _ _ _ _).cell t0 (by simp), (grown_set3 w4 _ _ _ _).cell t1 (by simp), (grown_set3 w4 _ _ _ _).cell t2 (by simp)⟩ | exact ⟨q0, q1, q2⟩)
    (first
      | (go_at_call 72; refine (border_any _ _ _ HD.out.drew).mono ?_; rintro e w3 ⟨⟨c, rfl, hc, hd3⟩, hb3⟩; have t0 := (hb3.cell (p := ⟨w.heap.size, 0, none⟩) z0).trans q0; have t1 := (hb3.cell (p := ⟨w.heap.size, 1, none⟩) z0).trans q1; have t2 := (hb3.cell (p := ⟨w.heap.size, 2, none⟩) z0).trans q2; have i3 := (hb3.block (w.heap.size + 1) z1).trans k1; have HDF := Lib.hid hd3; have HGF := Lib.hid (grown_undrew (grown_of_below hb3 (Nat.le_refl _))); have hcV : V.heap.size ≤ c := hc; have hz3 : V.heap.size ≤ w3.heap.size := HGF.out.size)
      | (go_at_call 64; refine (withDots_any _ _ _ _ _).mono ?_; rintro e w4 ⟨rfl, hb4⟩; have HDF := Lib.hid (HDF.out.below hb4); have hg4 := grown_of_below hb4 (Nat.le_refl _); have HGF := Lib.hid (HGF.out.andThen hg4 (by simp)); have t0 := hg4.cell t0 (by simp); have t1 := hg4.cell t1 (by simp); have t2 := hg4.cell t2 (by simp); have i3 := grown_heap i3 hg4 (by simp); have s0 := Lib.cell_of_heap i3 0; have s1 := Lib.cell_of_heap i3 1; have s2 := Lib.cell_of_heap i3 2; have f0 := Lib.frozen_of_heap i3 0; have f1 := Lib.frozen_of_heap i3 1; have f2 := Lib.frozen_of_heap i3 2))
  obtain ⟨e0, e1, e2⟩ := put3D s0 s1 s2 (.int .i64 (W : Int)) (.int .i64 (H : Int)) (.map (some c))
  have hgE := grown_set3 w4 (w.heap.size + 1) (.int .i64 (W : Int)) (.int .i64 (H : Int)) (.map (some c))
  have HDE := Lib.hid (HDF.out.kept hgE (by simp; omega))
  have HBE := Lib.hid ((Below.refl w.heap.size w).grown ((hgV.andThen HGF.out (by simp)).andThen hgE (by intro j hj; cases hj; exact Or.inl (by omega))) (Nat.le_refl _) (by simp))
  clear hgE
  go_wp2
  exact bodyPost_ret (v := .agg #[.int .i64 (W : Int), .int .i64 (H : Int), .map (some c)]) (by simp [results, Tryd.results69, go_sem, e0, e1, e2]) rfl ⟨⟨c, rfl, HDE.out⟩, HBE.out⟩
end Go.Proofs.YtbcgidgjdedkiaaDoor
/- Chapter 7: the program's pictures with other dots, without borders. -/
namespace Go.Proofs.YtbcgidgjdedkiaaDoor
open Go.ChangeShapes Go.WideShapes Go.ChangeAt Go.RowKit Go.Maps

theorem cf_other1 : ∀ (args : Array Value) (V : World), (callFunc 86 args).run Tryd.prog V = .ok (.enter 86 args) V := fun _ _ => by kernel_rfl
theorem other1_any (x y : Int) (K b : Nat) (S : Int → Int → Bool) (w : World) (c2 : w.cell? ⟨K, 2, none⟩ = some (.map (some b))) (hd : Ds w b S) (hw : wf2 x y) :
    Calls Tryd.prog 86 #[.int .i64 x, .int .i64 y, .pointer (some ⟨K, 0, none⟩)] w fun e w' => e = .returned (.bool (!S x y)) ∧ Below w.heap.size w w' := by
  have HH := Lib.hid fun V (h : Ds V b S) => has_any b S x y V h hw
  go_enter Tryd.func86, Tryd.ntmps86
  go_wp2_with (go_at_call 63; refine (HH.out _ hd).mono ?_; rintro e w1 ⟨rfl, hb1⟩)
  go_ret
  exact ⟨rfl, hb1⟩
set_option maxRecDepth 100000 in
set_option maxHeartbeats 1600000 in
theorem withOtherDots_chg (W H : Nat) (S : Int → Int → Bool) (w0 : 1 ≤ W) (hW : W ≤ 50) (hH : H ≤ 50) : Chg 60 W H S W H (fun x y => inP W H x y && !S x y) := by
  intro w b hd
  have hbl := hd.lt
  obtain ⟨V, hV⟩ : ∃ V, V = (w.alloc (.cells #[.int .i64 (W : Int), .int .i64 (H : Int), .map (some b)] 44)).alloc (.cells #[.int .i64 0, .int .i64 0, .map none] 44) := ⟨_, rfl⟩
  have k0 : V.heap[w.heap.size]? = some (.cells #[.int .i64 (W : Int), .int .i64 (H : Int), .map (some b)] 44) := by
    rw [hV, (MapKept.heap_alloc _ _).2 _ (by simp)]
    exact (MapKept.heap_alloc _ _).1
  have k1 : V.heap[w.heap.size + 1]? = some (.cells #[.int .i64 0, .int .i64 0, .map none] 44) := by
    have h := (MapKept.heap_alloc (w.alloc (.cells #[.int .i64 (W : Int), .int .i64 (H : Int), .map (some b)] 44)) (.cells #[.int .i64 0, .int .i64 0, .map none] 44)).1
    rw [show (w.alloc (.cells #[.int .i64 (W : Int), .int .i64 (H : Int), .map (some b)] 44)).heap.size = w.heap.size + 1 by simp] at h
    rw [hV]
    exact h
  have hgV : w.grownBy V none := by rw [hV]; exact (World.grownBy_alloc w _ none).andThen (World.grownBy_alloc _ _ none) (by simp)
  have HD := Lib.hid (hd.kept hgV (by simp))
  have HDW : Hid (Dw 86 #[] #[.pointer (some ⟨w.heap.size, 0, none⟩)] (fun x y => !S x y) W H V) := Lib.hid
    { cf := cf_other1
      dw := fun x y V' hxy hg => other1_any x y w.heap.size b S V' (hg.cell (show V.cell? ⟨w.heap.size, 2, none⟩ = _ from Lib.cell_of_heap k0 2) (by simp)) (HD.out.kept hg (by simp)) (wf2_of (by omega) (by omega) (by omega) (by omega)) }
  have hzV : V.heap.size = w.heap.size + 2 := by rw [hV]; simp
  go_enter Tryd.func60, Tryd.ntmps60
  go_wp2_with fail
  rw [← hV]
  clear hV
  refine (draw_any W H _ _ _ _ _ V HDW.out rfl w0 hW hH).mono ?_
  rintro e w3 ⟨⟨c, rfl, hc, hd3⟩, hb3⟩
  have hg3 := grown_of_below hb3 (Nat.le_refl _)
  have i3 := grown_heap k1 hg3 (by simp)
  have s0 := Lib.cell_of_heap i3 0
  have s1 := Lib.cell_of_heap i3 1
  have s2 := Lib.cell_of_heap i3 2
  have f0 := Lib.frozen_of_heap i3 0
  have f1 := Lib.frozen_of_heap i3 1
  have f2 := Lib.frozen_of_heap i3 2
  have HDF := Lib.hid hd3
  have HGF := Lib.hid hg3
  have HGV := Lib.hid hgV
  clear hd3 hb3 hg3 hgV HDW HD
  have HC := Lib.hid (show w.heap.size + 2 ≤ c by omega)
  clear hc hzV
  go_wp2
  obtain ⟨e0, e1, e2⟩ := put3D s0 s1 s2 (.int .i64 (W : Int)) (.int .i64 (H : Int)) (.map (some c))
  have hgE := grown_set3 w3 (w.heap.size + 1) (.int .i64 (W : Int)) (.int .i64 (H : Int)) (.map (some c))
  have HDE := Lib.hid (HDF.out.kept hgE (by have := HC.out; simp; omega))
  have HBE := Lib.hid ((Below.refl w.heap.size w).grown ((HGV.out.andThen HGF.out (by simp)).andThen hgE (by intro j hj; cases hj; exact Or.inl (by omega))) (Nat.le_refl _) (by simp))
  exact bodyPost_ret (v := .agg #[.int .i64 (W : Int), .int .i64 (H : Int), .map (some c)]) (by simp [results, Tryd.results60, go_sem, e0, e1, e2]) rfl ⟨⟨c, rfl, HDE.out⟩, HBE.out⟩
set_option maxRecDepth 8000 in
set_option maxHeartbeats 1600000 in
theorem clone_any (b : Nat) (S : Int → Int → Bool) (w : World) (h : Ds w b S) :
    Calls Tryd.prog 91 #[.map (some b)] w fun e w' => e = .returned (.map (some w.heap.size)) ∧ Ds w' w.heap.size S ∧ w.heap.size < w'.heap.size ∧ Below w.heap.size w w' := by
  obtain ⟨D, ⟨es, clock, hb, F, hs, hD⟩, hS⟩ := h
  have hq := fun w => run_eql_map_nil_sl (P := Tryd.prog) w 42 _ _ (some b) Tryd.underlying42
  have hext : (callFunc 97 #[.iface 42 (.map (some b))]).run Tryd.prog w = .ok (.value (.iface 42 (.map (some w.heap.size)))) (w.alloc (.map es clock)) := by
    rw [run_callFunc_extern Tryd.func97 (by kernel_rfl) (by kernel_rfl) (by kernel_rfl) (e := Extern.MapsClone.clone) (by kernel_rfl), run_maps_clone_sl w 42 hb]
    rfl
  go_enter Tryd.func91, Tryd.ntmps91
  go_wp2
  rw [run_typeAssert_map_sl _ 42 20 _ _ _ Tryd.underlying42]
  simp only [Result.andThen]
  rw [Oper.upon_value]
  go_wp2
  go_ret
  exact ⟨rfl, ⟨D, ⟨es, clock, (MapKept.heap_alloc w _).1, F, hs, hD⟩, hS⟩, by simp, (Below.refl _ _).alloc (Nat.le_refl _) _⟩
end Go.Proofs.YtbcgidgjdedkiaaDoor
/- Chapter 7: the text of the program's picture. -/
namespace Go.Proofs.YtbcgidgjdedkiaaDoor
open Go.ChangeShapes Go.WideShapes Go.ChangeAt Go.RowKit Go.Maps

/-- The text, as far as the first k places. -/
def txP (W : Nat) (d : Nat → Bool) : Nat → List UInt8
  | 0 => []
  | k + 1 => txP W d k ++ (if k % W = 0 ∧ 0 < k / W then [47] else []) ++ [sgn (d k)]
theorem txP_len (W : Nat) (d : Nat → Bool) (k : Nat) : (txP W d k).length ≤ 2 * k := by
  induction k with
  | zero => simp [txP]
  | succ k ih =>
    rw [txP]
    simp only [List.length_append, List.length_singleton]
    split <;> simp <;> omega
theorem txP_row (W : Nat) (d : Nat → Bool) (y : Nat) (hy : txP W d (y * W) = joinP 47 (gRows W y d)) (x : Nat) (hx : x < W) : txP W d (y * W + (x + 1)) = joinP 47 (gRows W y d ++ [(List.range (x + 1)).map fun i => sgn (d (y * W + i))]) := by
  induction x with
  | zero =>
    rw [Nat.zero_add, txP, hy, ← Nat.add_zero (y * W), place_x (x := 0) hx, place_y (x := 0) hx]
    rcases Nat.eq_zero_or_pos y with rfl | h
    · simp [gRows, joinP]
    · rw [if_pos ⟨rfl, h⟩, joinP_snoc _ _ _ (fun e => by have := gRows_len W y d; rw [e] at this; simp at this; omega)]
      simp
  | succ x ih =>
    rw [← Nat.add_assoc, txP, ih (by omega), place_x (x := x + 1) hx, if_neg (by omega), List.append_nil, List.range_succ (n := x + 1), List.map_append, ← joinP_ext]
    rfl
theorem txP_rows (W : Nat) (d : Nat → Bool) (hW : 1 ≤ W) (y : Nat) : txP W d (y * W) = joinP 47 (gRows W y d) := by
  induction y with
  | zero => simp [txP, gRows, joinP]
  | succ y ih =>
    have h := txP_row W d y ih (W - 1) (by omega)
    rw [show W - 1 + 1 = W by omega] at h
    rw [Nat.succ_mul, h]
    congr 1
    simp [gRows, List.range_succ, gRow]
theorem txP_all (W H : Nat) (d : Nat → Bool) (hW : 1 ≤ W) : txP W d (W * H) = gText W H d := by
  rw [Nat.mul_comm, txP_rows W d hW]
  rfl
theorem Bdr.below {w w' : World} {B b : Nat} {bs : List UInt8} (h : Bdr w B b bs) (hb : Below w.heap.size w w') : Bdr w' B b bs := by
  have hg := grown_of_below hb (Nat.le_refl _)
  have key : ∀ p, Lib.BuilderAtF 92 5 B b p (Lib.byteCells bs) w → Lib.BuilderAtF 92 5 B b p (Lib.byteCells bs) w' := by
    rintro p ⟨hB, v, hh, ho, hn⟩
    have hlt : b < w.heap.size := (Array.getElem?_eq_some_iff.1 hh).1
    exact ⟨hB, v, (hb.block b hlt).trans hh, ho.kept hg (by cases hv : v.ownBlock <;> simp), hn⟩
  exact h.elim (fun h => .inl (key _ h)) (fun h => .inr (key _ h))
theorem oth_row {w w' : World} {b base n : Nat} {v : Value} {cs : List Value} {e size : Nat} (h : w.ownsRow base e size v n cs) (hk : Oth w w' b) (he : e ≠ 5) (hb : b < base) : w'.ownsRow base e size v n cs := by
  obtain ⟨h1, h2⟩ := h
  refine ⟨h1, h2.imp id ?_⟩
  rintro ⟨g, cap, cur, hv, hg, hh, r⟩
  exact ⟨g, cap, cur, hv, hg, hk g _ hh (by simp; omega) (by intro c fz e1; cases e1; exact he rfl), r⟩
theorem oth_cell {w w' : World} {b g j : Nat} {cs : Array Value} {t : TypeId} {fr : Nat × Nat} {v : Value} (h : w.heap[g]? = some (.cells cs t fr)) (hk : Oth w w' b) (ht : t ≠ 5) (hb : g ≠ b) (hv : cs[j]? = some v) : w'.cell? ⟨g, j, none⟩ = some v := by
  have h2 := hk g _ h (by simp; exact hb) (by intro c fz e1; cases e1; exact ht rfl)
  rw [Lib.cell_of_heap h2]
  exact hv
theorem writeO (B b : Nat) (bs : List UInt8) (w : World) (h : Bdr w B b bs) (hl : bs.length ≤ 100000) (hBw : B ≤ w.heap.size) :
    Calls Tryd.prog 89 #[.pointer (some ⟨b, 0, none⟩), .int .u8 111] w fun e w' => e = .returned .nilIface ∧ Bdr w' B b (bs ++ [sgn true]) ∧ Below B w w' ∧ Oth w w' b := writeByte_any B b bs 111 w h hl hBw
theorem writeE (B b : Nat) (bs : List UInt8) (w : World) (h : Bdr w B b bs) (hl : bs.length ≤ 100000) (hBw : B ≤ w.heap.size) :
    Calls Tryd.prog 89 #[.pointer (some ⟨b, 0, none⟩), .int .u8 46] w fun e w' => e = .returned .nilIface ∧ Bdr w' B b (bs ++ [sgn false]) ∧ Below B w w' ∧ Oth w w' b := writeByte_any B b bs 46 w h hl hBw
theorem writeB (B b : Nat) (bs : List UInt8) (w : World) (h : Bdr w B b bs) (hl : bs.length ≤ 100000) (hBw : B ≤ w.heap.size) :
    Calls Tryd.prog 88 #[.pointer (some ⟨b, 0, none⟩), .string ⟨#[47]⟩] w fun e w' => e = .returned (.tuple #[.int .i64 1, .nilIface]) ∧ Bdr w' B b (bs ++ [47]) ∧ Below B w w' ∧ Oth w w' b := writeString_any B b bs ⟨#[47]⟩ w h hl (by decide) hBw
theorem infoNe8 : 58 ≠ 5 := by decide
set_option maxRecDepth 8000 in
set_option maxHeartbeats 3200000 in
theorem text_any (W H n b : Nat) (S : Int → Int → Bool) (w : World) (h : Ds w b S) (hn : n = W * H) (w0 : 1 ≤ W) (w1 : W ≤ 50) (hH : H ≤ 50) :
    Calls Tryd.prog 66 #[.agg #[.int .i64 (W : Int), .int .i64 (H : Int), .map (some b)]] w fun e w' => e = .returned (.string (bt (sT W H S))) ∧ Below w.heap.size w w' := by
  have hbl := h.lt
  have HFIN : Hid (txP W (sD W S) n = sT W H S) := Lib.hid (by rw [hn]; exact txP_all W H _ w0)
  have HLEN := Lib.hid fun k => txP_len W (sD W S) k
  have hn2 : n ≤ 2500 := by rw [hn]; exact Nat.mul_le_mul (n₁ := W) (n₂ := 50) (m₁ := H) (m₂ := 50) w1 hH
  have HPL := Lib.hid fun w => places_any W H n b w hn (by omega) (by omega)
  have HPA : Hid (∀ k, k < n → (prs (plcs W n))[2 * k]? = some (.int .i64 ((k % W : Nat) : Int)) ∧ (prs (plcs W n))[2 * k + 1]? = some (.int .i64 ((k / W : Nat) : Int))) := Lib.hid fun k h => by
    have := prs_get (plcs W n) k (by rw [plcs_len]; exact h)
    rw [plcs_at W n k h] at this
    exact this
  have HPN : Hid (0 < n → 0 < (prs (plcs W n)).length) := Lib.hid fun h => by rw [prs_len, plcs_len]; omega
  have HST : Hid (∀ k, k < n → txP W (sD W S) (k + 1) = txP W (sD W S) k ++ (if k % W = 0 ∧ 0 < k / W then [47] else []) ++ [sgn (S ((k % W : Nat) : Int) ((k / W : Nat) : Int))]) := Lib.hid fun k _ => rfl
  have HXY : Hid (∀ k, k < n → k % W < 50 ∧ k / W < 50) := Lib.hid fun k hk => by
    obtain ⟨h1, h2, _⟩ := place_of (W := W) (H := H) (i := k) (by rw [← hn]; exact hk)
    omega
  have HT0 : Hid (txP W (sD W S) 0 = []) := Lib.hid rfl
  have HH := Lib.hid h
  clear h hn
  generalize sT W H S = t at *
  generalize txP W (sD W S) = tx at *
  generalize prs (plcs W n) = pl at *
  have hW0 : Bdr ((w.alloc (.cells #[.int .i64 (W : Int), .int .i64 (H : Int), .map (some b)] 44)).alloc (.cells #[.pointer none, .slice none 0 0] 92)) (w.heap.size + 1) (w.heap.size + 1) [] := by
    have := Lib.IsBuilderF.of (Lib.fresh_isBuilder 92 5 (w.alloc (.cells #[.int .i64 (W : Int), .int .i64 (H : Int), .map (some b)] 44)))
    rw [show (w.alloc (.cells #[.int .i64 (W : Int), .int .i64 (H : Int), .map (some b)] 44)).heap.size = w.heap.size + 1 by simp] at this
    exact this
  go_enter Tryd.func66, Tryd.ntmps66
  go_wp2_with (go_at_call 62; refine (HPL.out _).mono ?_; rintro e wp ⟨⟨A, c, base, rfl, hbase, hrow⟩, hbp⟩)
  have hz0 : ((w.alloc (.cells #[.int .i64 (W : Int), .int .i64 (H : Int), .map (some b)] 44)).alloc (.cells #[.pointer none, .slice none 0 0] 92)).heap.size = w.heap.size + 1 + 1 := by simp
  have hb0 : Below w.heap.size w ((w.alloc (.cells #[.int .i64 (W : Int), .int .i64 (H : Int), .map (some b)] 44)).alloc (.cells #[.pointer none, .slice none 0 0] 92)) := ((Below.refl _ _).alloc (Nat.le_refl _) _).alloc (by simp) _
  have HB := Lib.hid (hb0.trans (hbp.mono hb0.size))
  have m0 : wp.cell? ⟨w.heap.size, 2, none⟩ = some (.map (some b)) := (hbp.cell (p := ⟨w.heap.size, 2, none⟩) (by simp; omega)).trans (by simp [go_sem])
  have HBD := Lib.hid (hW0.below hbp)
  have HD := Lib.hid (((HH.out.alloc (.cells #[.int .i64 (W : Int), .int .i64 (H : Int), .map (some b)] 44)).alloc (.cells #[.pointer none, .slice none 0 0] 92)).below hbp)
  have HRW := Lib.hid hrow
  rw [hz0] at hbase
  have hzp : w.heap.size + 2 ≤ wp.heap.size := by have := hbp.size; omega
  clear hb0 hbp hrow hW0 HH HPL hz0
  go_loopw [9] (fun i wr => ∃ k : Nat, k ≤ n ∧ i = .int .i64 (k : Int) ∧ Hid (Bdr wr (w.heap.size + 1) (w.heap.size + 1) (tx k)) ∧ Hid (wr.ownsRow base 58 2 (.slice A n c) n pl) ∧ Hid (Below (w.heap.size + 1) wp wr)) (fun i _ => n - (intOf i).toNat)
  case atStart => exact ⟨0, by omega, by simp, by rw [HT0.out]; exact HBD, HRW, Lib.hid (Below.refl _ _)⟩
  case round =>
    obtain ⟨k, hk, rfl, HBk, HRk, HWk⟩ := hrel
    have hzr : wp.heap.size ≤ wr.heap.size := HWk.out.size
    by_cases hlt : k < n
    · have hlt2 : (k : Int) < (n : Int) := by omega
      have hp := HPA.out k hlt
      obtain ⟨g, o, rfl, hg0, hg1, hcs⟩ := own_of_row HRk.out (HPN.out (by omega))
      have s0 := (hcs _ _ hp.1).1
      have s1 := (hcs _ _ hp.2).1
      rw [Nat.mul_comm 2 k] at s0 s1
      rw [← Nat.add_assoc] at s1
      have m1 : wr.cell? ⟨w.heap.size, 2, none⟩ = some (.map (some b)) := (HWk.out.cell (p := ⟨w.heap.size, 2, none⟩) (by simp)).trans m0
      have m1a := fun ob => cell_old m1 ob
      have hst := HST.out k hlt
      have hxy := HXY.out k hlt
      have hln := HLEN.out k
      have HDk := Lib.hid (HD.out.below2 HWk.out (by omega))
      have hcond : (k % W = 0 ∧ 0 < k / W) ↔ (((k % W : Nat) : Int) = 0 ∧ 0 < ((k / W : Nat) : Int)) := by
        generalize k % W = x
        generalize k / W = y
        omega
      have hX0 : 0 ≤ ((k % W : Nat) : Int) ∧ ((k % W : Nat) : Int) < 50 ∧ 0 ≤ ((k / W : Nat) : Int) ∧ ((k / W : Nat) : Int) < 50 := by
        generalize k % W = x at *
        generalize k / W = y at *
        omega
      simp only [hcond] at hst
      generalize ((k % W : Nat) : Int) = x at *
      generalize ((k / W : Nat) : Int) = y at *
      have HHAS := Lib.hid fun V (hd : Ds V b S) => has_any b S x y V hd (wf2_of (by omega) (by omega) (by omega) (by omega))
      clear hp hcs hcond hxy
      by_cases hsep : x = 0 ∧ 0 < y
      · obtain ⟨rfl, hy⟩ := hsep
        rw [if_pos ⟨rfl, hy⟩] at hst
        have HSK := Lib.hid hst
        clear hst
        cases hc : S 0 y with
        | true =>
          rw [hc] at HHAS HSK
          clear hc
          have HW1 := Lib.hid (HWk.out.alloc (by omega) (.cells #[.int .i64 0, .int .i64 y] 58))
          have HBx := Lib.hid (HBk.out.below ((Below.refl _ _).alloc (Nat.le_refl _) (.cells #[.int .i64 0, .int .i64 y] 58)))
          have HRx := Lib.hid (HRk.out.alloc (.cells #[.int .i64 0, .int .i64 y] 58))
          have HDx := Lib.hid (HDk.out.alloc (.cells #[.int .i64 0, .int .i64 y] 58))
          go_wp2_with (first
            | (go_at_call 88; refine (writeB _ _ _ _ HBx.out (by omega) (by simp; omega)).mono ?_; rintro e w2 ⟨rfl, hB2, hb2, hk2⟩; have HBy := Lib.hid hB2; have HRy := Lib.hid (oth_row HRx.out hk2 infoNe8 (by omega)); have HDy := Lib.hid (HDx.out.below2 hb2 (by omega)); have HW2 := Lib.hid (HW1.out.trans hb2); have m2 := (hb2.cell (p := ⟨w.heap.size, 2, none⟩) (by simp)).trans (m1a (.cells #[.int .i64 0, .int .i64 y] 58)); have e0 := oth_cell (j := 0) (v := .int .i64 0) (MapKept.heap_alloc wr (.cells #[.int .i64 0, .int .i64 y] 58)).1 hk2 infoNe8 (by omega) rfl; have e1 := oth_cell (j := 1) (v := .int .i64 y) (MapKept.heap_alloc wr (.cells #[.int .i64 0, .int .i64 y] 58)).1 hk2 infoNe8 (by omega) rfl; clear hB2 hb2 hk2)
            | (go_at_call 63; refine (HHAS.out _ HDy.out).mono ?_; rintro e w3 ⟨rfl, hb3⟩; have HBz := Lib.hid (HBy.out.below hb3); have HRz := Lib.hid (row_below HRy.out hb3 (Nat.le_refl _)); have hz3 := HW2.out.size; have HW3 := Lib.hid (HW2.out.trans (hb3.mono (by omega))); clear hb3)
            | (go_at_call 89; refine (writeO _ _ _ _ HBz.out (by (try simp); omega) (by have := HW3.out.size; omega)).mono ?_; rintro e w4 ⟨rfl, hB4, hb4, hk4⟩; have HB4 := Lib.hid hB4; have HR4 := Lib.hid (oth_row HRz.out hk4 infoNe8 (by omega)); have HW4 := Lib.hid (HW3.out.trans hb4); clear hB4 hb4 hk4))
          go_wp2
          go_roundw
          case rel => exact ⟨k + 1, by omega, by go_num, by rw [HSK.out]; exact HB4, HR4, HW4⟩
          case measure => simp [intOf]; omega
        | false =>
          rw [hc] at HHAS HSK
          clear hc
          have HW1 := Lib.hid (HWk.out.alloc (by omega) (.cells #[.int .i64 0, .int .i64 y] 58))
          have HBx := Lib.hid (HBk.out.below ((Below.refl _ _).alloc (Nat.le_refl _) (.cells #[.int .i64 0, .int .i64 y] 58)))
          have HRx := Lib.hid (HRk.out.alloc (.cells #[.int .i64 0, .int .i64 y] 58))
          have HDx := Lib.hid (HDk.out.alloc (.cells #[.int .i64 0, .int .i64 y] 58))
          go_wp2_with (first
            | (go_at_call 88; refine (writeB _ _ _ _ HBx.out (by omega) (by simp; omega)).mono ?_; rintro e w2 ⟨rfl, hB2, hb2, hk2⟩; have HBy := Lib.hid hB2; have HRy := Lib.hid (oth_row HRx.out hk2 infoNe8 (by omega)); have HDy := Lib.hid (HDx.out.below2 hb2 (by omega)); have HW2 := Lib.hid (HW1.out.trans hb2); have m2 := (hb2.cell (p := ⟨w.heap.size, 2, none⟩) (by simp)).trans (m1a (.cells #[.int .i64 0, .int .i64 y] 58)); have e0 := oth_cell (j := 0) (v := .int .i64 0) (MapKept.heap_alloc wr (.cells #[.int .i64 0, .int .i64 y] 58)).1 hk2 infoNe8 (by omega) rfl; have e1 := oth_cell (j := 1) (v := .int .i64 y) (MapKept.heap_alloc wr (.cells #[.int .i64 0, .int .i64 y] 58)).1 hk2 infoNe8 (by omega) rfl; clear hB2 hb2 hk2)
            | (go_at_call 63; refine (HHAS.out _ HDy.out).mono ?_; rintro e w3 ⟨rfl, hb3⟩; have HBz := Lib.hid (HBy.out.below hb3); have HRz := Lib.hid (row_below HRy.out hb3 (Nat.le_refl _)); have hz3 := HW2.out.size; have HW3 := Lib.hid (HW2.out.trans (hb3.mono (by omega))); clear hb3)
            | (go_at_call 89; refine (writeE _ _ _ _ HBz.out (by (try simp); omega) (by have := HW3.out.size; omega)).mono ?_; rintro e w4 ⟨rfl, hB4, hb4, hk4⟩; have HB4 := Lib.hid hB4; have HR4 := Lib.hid (oth_row HRz.out hk4 infoNe8 (by omega)); have HW4 := Lib.hid (HW3.out.trans hb4); clear hB4 hb4 hk4))
          go_wp2
          go_roundw
          case rel => exact ⟨k + 1, by omega, by go_num, by rw [HSK.out]; exact HB4, HR4, HW4⟩
          case measure => simp [intOf]; omega
      · rw [if_neg hsep] at hst
        have HSK := Lib.hid hst
        clear hst
        by_cases hx : x = 0
        · subst hx
          obtain rfl : y = 0 := by
            rcases Int.lt_or_le 0 y with hl | hl
            · exact absurd ⟨rfl, hl⟩ hsep
            · omega
          cases hc : S 0 0 with
          | true =>
            rw [hc] at HHAS HSK
            clear hc
            have HW1 := Lib.hid (HWk.out.alloc (by omega) (.cells #[.int .i64 0, .int .i64 0] 58))
            have HBx := Lib.hid (HBk.out.below ((Below.refl _ _).alloc (Nat.le_refl _) (.cells #[.int .i64 0, .int .i64 0] 58)))
            have HRx := Lib.hid (HRk.out.alloc (.cells #[.int .i64 0, .int .i64 0] 58))
            have HDx := Lib.hid (HDk.out.alloc (.cells #[.int .i64 0, .int .i64 0] 58))
            have HBy := HBx
            have HRy := HRx
            have HDy := HDx
            have HW2 := HW1
            go_wp2_with (first
              | (go_at_call 63; refine (HHAS.out _ HDy.out).mono ?_; rintro e w3 ⟨rfl, hb3⟩; have HBz := Lib.hid (HBy.out.below hb3); have HRz := Lib.hid (row_below HRy.out hb3 (Nat.le_refl _)); have hz3 := HW2.out.size; have HW3 := Lib.hid (HW2.out.trans (hb3.mono (by omega))); clear hb3)
              | (go_at_call 89; refine (writeO _ _ _ _ HBz.out (by (try simp); omega) (by have := HW3.out.size; omega)).mono ?_; rintro e w4 ⟨rfl, hB4, hb4, hk4⟩; have HB4 := Lib.hid hB4; have HR4 := Lib.hid (oth_row HRz.out hk4 infoNe8 (by omega)); have HW4 := Lib.hid (HW3.out.trans hb4); clear hB4 hb4 hk4))
            go_wp2
            go_roundw
            case rel => exact ⟨k + 1, by omega, by go_num, by rw [HSK.out, List.append_nil]; exact HB4, HR4, HW4⟩
            case measure => simp [intOf]; omega
          | false =>
            rw [hc] at HHAS HSK
            clear hc
            have HW1 := Lib.hid (HWk.out.alloc (by omega) (.cells #[.int .i64 0, .int .i64 0] 58))
            have HBx := Lib.hid (HBk.out.below ((Below.refl _ _).alloc (Nat.le_refl _) (.cells #[.int .i64 0, .int .i64 0] 58)))
            have HRx := Lib.hid (HRk.out.alloc (.cells #[.int .i64 0, .int .i64 0] 58))
            have HDx := Lib.hid (HDk.out.alloc (.cells #[.int .i64 0, .int .i64 0] 58))
            have HBy := HBx
            have HRy := HRx
            have HDy := HDx
            have HW2 := HW1
            go_wp2_with (first
              | (go_at_call 63; refine (HHAS.out _ HDy.out).mono ?_; rintro e w3 ⟨rfl, hb3⟩; have HBz := Lib.hid (HBy.out.below hb3); have HRz := Lib.hid (row_below HRy.out hb3 (Nat.le_refl _)); have hz3 := HW2.out.size; have HW3 := Lib.hid (HW2.out.trans (hb3.mono (by omega))); clear hb3)
              | (go_at_call 89; refine (writeE _ _ _ _ HBz.out (by (try simp); omega) (by have := HW3.out.size; omega)).mono ?_; rintro e w4 ⟨rfl, hB4, hb4, hk4⟩; have HB4 := Lib.hid hB4; have HR4 := Lib.hid (oth_row HRz.out hk4 infoNe8 (by omega)); have HW4 := Lib.hid (HW3.out.trans hb4); clear hB4 hb4 hk4))
            go_wp2
            go_roundw
            case rel => exact ⟨k + 1, by omega, by go_num, by rw [HSK.out, List.append_nil]; exact HB4, HR4, HW4⟩
            case measure => simp [intOf]; omega
        · have hxb : (x == 0) = false := by simpa using hx
          cases hc : S x y with
          | true =>
            rw [hc] at HHAS HSK
            clear hc
            have HW1 := Lib.hid (HWk.out.alloc (by omega) (.cells #[.int .i64 x, .int .i64 y] 58))
            have HBx := Lib.hid (HBk.out.below ((Below.refl _ _).alloc (Nat.le_refl _) (.cells #[.int .i64 x, .int .i64 y] 58)))
            have HRx := Lib.hid (HRk.out.alloc (.cells #[.int .i64 x, .int .i64 y] 58))
            have HDx := Lib.hid (HDk.out.alloc (.cells #[.int .i64 x, .int .i64 y] 58))
            have HBy := HBx
            have HRy := HRx
            have HDy := HDx
            have HW2 := HW1
            go_wp2_with (first
              | (go_at_call 63; refine (HHAS.out _ HDy.out).mono ?_; rintro e w3 ⟨rfl, hb3⟩; have HBz := Lib.hid (HBy.out.below hb3); have HRz := Lib.hid (row_below HRy.out hb3 (Nat.le_refl _)); have hz3 := HW2.out.size; have HW3 := Lib.hid (HW2.out.trans (hb3.mono (by omega))); clear hb3)
              | (go_at_call 89; refine (writeO _ _ _ _ HBz.out (by (try simp); omega) (by have := HW3.out.size; omega)).mono ?_; rintro e w4 ⟨rfl, hB4, hb4, hk4⟩; have HB4 := Lib.hid hB4; have HR4 := Lib.hid (oth_row HRz.out hk4 infoNe8 (by omega)); have HW4 := Lib.hid (HW3.out.trans hb4); clear hB4 hb4 hk4))
            go_wp2
            go_roundw
            case rel => exact ⟨k + 1, by omega, by go_num, by rw [HSK.out, List.append_nil]; exact HB4, HR4, HW4⟩
            case measure => simp [intOf]; omega
          | false =>
            rw [hc] at HHAS HSK
            clear hc
            have HW1 := Lib.hid (HWk.out.alloc (by omega) (.cells #[.int .i64 x, .int .i64 y] 58))
            have HBx := Lib.hid (HBk.out.below ((Below.refl _ _).alloc (Nat.le_refl _) (.cells #[.int .i64 x, .int .i64 y] 58)))
            have HRx := Lib.hid (HRk.out.alloc (.cells #[.int .i64 x, .int .i64 y] 58))
            have HDx := Lib.hid (HDk.out.alloc (.cells #[.int .i64 x, .int .i64 y] 58))
            have HBy := HBx
            have HRy := HRx
            have HDy := HDx
            have HW2 := HW1
            go_wp2_with (first
              | (go_at_call 63; refine (HHAS.out _ HDy.out).mono ?_; rintro e w3 ⟨rfl, hb3⟩; have HBz := Lib.hid (HBy.out.below hb3); have HRz := Lib.hid (row_below HRy.out hb3 (Nat.le_refl _)); have hz3 := HW2.out.size; have HW3 := Lib.hid (HW2.out.trans (hb3.mono (by omega))); clear hb3)
              | (go_at_call 89; refine (writeE _ _ _ _ HBz.out (by (try simp); omega) (by have := HW3.out.size; omega)).mono ?_; rintro e w4 ⟨rfl, hB4, hb4, hk4⟩; have HB4 := Lib.hid hB4; have HR4 := Lib.hid (oth_row HRz.out hk4 infoNe8 (by omega)); have HW4 := Lib.hid (HW3.out.trans hb4); clear hB4 hb4 hk4))
            go_wp2
            go_roundw
            case rel => exact ⟨k + 1, by omega, by go_num, by rw [HSK.out, List.append_nil]; exact HB4, HR4, HW4⟩
            case measure => simp [intOf]; omega
    · obtain rfl : k = n := by omega
      rw [HFIN.out] at HBk
      go_wp2_with (go_at_call 90; refine (Tryd.Builder_String_any_k _ _ _ _ HBk.out (by omega)).mono ?_; rintro e w5 ⟨rfl, _, hb5, _⟩)
      go_ret
      exact ⟨rfl, HB.out.trans ((HWk.out.trans hb5).mono (Nat.le_succ _))⟩
end Go.Proofs.YtbcgidgjdedkiaaDoor
