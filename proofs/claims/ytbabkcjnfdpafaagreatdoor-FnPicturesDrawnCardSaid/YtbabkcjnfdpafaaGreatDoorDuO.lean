/- Chapter 7: the text of the program's picture. -/
import Derived.Test.YtbabkcjnfdpafaaGreatDoorDuL
import Derived.Test.YtbabkcjnfdpafaaGreatDoorMd
namespace Go.Proofs.YtbabkcjnfdpafaaGreatDoor
open Go.ChangeShapes Go.WideShapes Go.ChangeAt Go.RowKit Go.Maps

/-- The text, as far as the first k places. -/
def txP (W : Nat) (d : Nat → Bool) : Nat → List UInt8
  | 0 => []
  | k + 1 => txP W d k ++ (if k % W = 0 ∧ 0 < k / W then [47] else []) ++ [sgn (d k)]
theorem txP_len (W : Nat) (d : Nat → Bool) (k : Nat) : (txP W d k).length ≤ 2 * k := by
  induction k with
  | zero => simp [txP]
  | succ k ih =>
    rw [txP]
    simp only [List.length_append, List.length_singleton]
    split <;> simp <;> omega
theorem txP_row (W : Nat) (d : Nat → Bool) (y : Nat) (hy : txP W d (y * W) = joinP 47 (gRows W y d)) (x : Nat) (hx : x < W) : txP W d (y * W + (x + 1)) = joinP 47 (gRows W y d ++ [(List.range (x + 1)).map fun i => sgn (d (y * W + i))]) := by
  induction x with
  | zero =>
    rw [Nat.zero_add, txP, hy, ← Nat.add_zero (y * W), place_x (x := 0) hx, place_y (x := 0) hx]
    rcases Nat.eq_zero_or_pos y with rfl | h
    · simp [gRows, joinP]
    · rw [if_pos ⟨rfl, h⟩, joinP_snoc _ _ _ (fun e => by have := gRows_len W y d; rw [e] at this; simp at this; omega)]
      simp
  | succ x ih =>
    rw [← Nat.add_assoc, txP, ih (by omega), place_x (x := x + 1) hx, if_neg (by omega), List.append_nil, List.range_succ (n := x + 1), List.map_append, ← joinP_ext]
    rfl
theorem txP_rows (W : Nat) (d : Nat → Bool) (hW : 1 ≤ W) (y : Nat) : txP W d (y * W) = joinP 47 (gRows W y d) := by
  induction y with
  | zero => simp [txP, gRows, joinP]
  | succ y ih =>
    have h := txP_row W d y ih (W - 1) (by omega)
    rw [show W - 1 + 1 = W by omega] at h
    rw [Nat.succ_mul, h]
    congr 1
    simp [gRows, List.range_succ, gRow]
theorem txP_all (W H : Nat) (d : Nat → Bool) (hW : 1 ≤ W) : txP W d (W * H) = gText W H d := by
  rw [Nat.mul_comm, txP_rows W d hW]
  rfl
theorem Bdr.below {w w' : World} {B b : Nat} {bs : List UInt8} (h : Bdr w B b bs) (hb : Below w.heap.size w w') : Bdr w' B b bs := by
  have hg := grown_of_below hb (Nat.le_refl _)
  have key : ∀ p, Lib.BuilderAtF 105 5 B b p (Lib.byteCells bs) w → Lib.BuilderAtF 105 5 B b p (Lib.byteCells bs) w' := by
    rintro p ⟨hB, v, hh, ho, hn⟩
    have hlt : b < w.heap.size := (Array.getElem?_eq_some_iff.1 hh).1
    exact ⟨hB, v, (hb.block b hlt).trans hh, ho.kept hg (by cases hv : v.ownBlock <;> simp), hn⟩
  exact h.elim (fun h => .inl (key _ h)) (fun h => .inr (key _ h))
theorem oth_row {w w' : World} {b base n : Nat} {v : Value} {cs : List Value} {e size : Nat} (h : w.ownsRow base e size v n cs) (hk : Oth w w' b) (he : e ≠ 5) (hb : b < base) : w'.ownsRow base e size v n cs := by
  obtain ⟨h1, h2⟩ := h
  refine ⟨h1, h2.imp id ?_⟩
  rintro ⟨g, cap, cur, hv, hg, hh, r⟩
  exact ⟨g, cap, cur, hv, hg, hk g _ hh (by simp; omega) (by intro c fz e1; cases e1; exact he rfl), r⟩
theorem oth_cell {w w' : World} {b g j : Nat} {cs : Array Value} {t : TypeId} {fr : Nat × Nat} {v : Value} (h : w.heap[g]? = some (.cells cs t fr)) (hk : Oth w w' b) (ht : t ≠ 5) (hb : g ≠ b) (hv : cs[j]? = some v) : w'.cell? ⟨g, j, none⟩ = some v := by
  have h2 := hk g _ h (by simp; exact hb) (by intro c fz e1; cases e1; exact ht rfl)
  rw [Lib.cell_of_heap h2]
  exact hv
theorem writeO (B b : Nat) (bs : List UInt8) (w : World) (h : Bdr w B b bs) (hl : bs.length ≤ 100000) (hBw : B ≤ w.heap.size) :
    Calls Tryz.prog 100 #[.pointer (some ⟨b, 0, none⟩), .int .u8 111] w fun e w' => e = .returned .nilIface ∧ Bdr w' B b (bs ++ [sgn true]) ∧ Below B w w' ∧ Oth w w' b := writeByte_any B b bs 111 w h hl hBw
theorem writeE (B b : Nat) (bs : List UInt8) (w : World) (h : Bdr w B b bs) (hl : bs.length ≤ 100000) (hBw : B ≤ w.heap.size) :
    Calls Tryz.prog 100 #[.pointer (some ⟨b, 0, none⟩), .int .u8 46] w fun e w' => e = .returned .nilIface ∧ Bdr w' B b (bs ++ [sgn false]) ∧ Below B w w' ∧ Oth w w' b := writeByte_any B b bs 46 w h hl hBw
theorem writeB (B b : Nat) (bs : List UInt8) (w : World) (h : Bdr w B b bs) (hl : bs.length ≤ 100000) (hBw : B ≤ w.heap.size) :
    Calls Tryz.prog 99 #[.pointer (some ⟨b, 0, none⟩), .string ⟨#[47]⟩] w fun e w' => e = .returned (.tuple #[.int .i64 1, .nilIface]) ∧ Bdr w' B b (bs ++ [47]) ∧ Below B w w' ∧ Oth w w' b := writeString_any B b bs ⟨#[47]⟩ w h hl (by decide) hBw
theorem infoNe8 : 71 ≠ 5 := by decide
set_option maxRecDepth 8000 in
set_option maxHeartbeats 3200000 in
theorem text_any (W H n b : Nat) (S : Int → Int → Bool) (w : World) (h : Ds w b S) (hn : n = W * H) (w0 : 1 ≤ W) (w1 : W ≤ 50) (hH : H ≤ 50) :
    Calls Tryz.prog 75 #[.agg #[.int .i64 (W : Int), .int .i64 (H : Int), .map (some b)]] w fun e w' => e = .returned (.string (bt (sT W H S))) ∧ Below w.heap.size w w' := by
  have hbl := h.lt
  have HFIN : Hid (txP W (sD W S) n = sT W H S) := Lib.hid (by rw [hn]; exact txP_all W H _ w0)
  have HLEN := Lib.hid fun k => txP_len W (sD W S) k
  have hn2 : n ≤ 2500 := by rw [hn]; exact Nat.mul_le_mul (n₁ := W) (n₂ := 50) (m₁ := H) (m₂ := 50) w1 hH
  have HPL := Lib.hid fun w => places_any W H n b w hn (by omega) (by omega)
  have HPA : Hid (∀ k, k < n → (prs (plcs W n))[2 * k]? = some (.int .i64 ((k % W : Nat) : Int)) ∧ (prs (plcs W n))[2 * k + 1]? = some (.int .i64 ((k / W : Nat) : Int))) := Lib.hid fun k h => by
    have := prs_get (plcs W n) k (by rw [plcs_len]; exact h)
    rw [plcs_at W n k h] at this
    exact this
  have HPN : Hid (0 < n → 0 < (prs (plcs W n)).length) := Lib.hid fun h => by rw [prs_len, plcs_len]; omega
  have HST : Hid (∀ k, k < n → txP W (sD W S) (k + 1) = txP W (sD W S) k ++ (if k % W = 0 ∧ 0 < k / W then [47] else []) ++ [sgn (S ((k % W : Nat) : Int) ((k / W : Nat) : Int))]) := Lib.hid fun k _ => rfl
  have HXY : Hid (∀ k, k < n → k % W < 50 ∧ k / W < 50) := Lib.hid fun k hk => by
    obtain ⟨h1, h2, _⟩ := place_of (W := W) (H := H) (i := k) (by rw [← hn]; exact hk)
    omega
  have HT0 : Hid (txP W (sD W S) 0 = []) := Lib.hid rfl
  have HH := Lib.hid h
  clear h hn
  generalize sT W H S = t at *
  generalize txP W (sD W S) = tx at *
  generalize prs (plcs W n) = pl at *
  have hW0 : Bdr ((w.alloc (.cells #[.int .i64 (W : Int), .int .i64 (H : Int), .map (some b)] 57)).alloc (.cells #[.pointer none, .slice none 0 0] 105)) (w.heap.size + 1) (w.heap.size + 1) [] := by
    have := Lib.IsBuilderF.of (Lib.fresh_isBuilder 105 5 (w.alloc (.cells #[.int .i64 (W : Int), .int .i64 (H : Int), .map (some b)] 57)))
    rw [show (w.alloc (.cells #[.int .i64 (W : Int), .int .i64 (H : Int), .map (some b)] 57)).heap.size = w.heap.size + 1 by simp] at this
    exact this
  go_enter Tryz.func75, Tryz.ntmps75
  go_wp2_with (go_at_call 71; refine (HPL.out _).mono ?_; rintro e wp ⟨⟨A, c, base, rfl, hbase, hrow⟩, hbp⟩)
  have hz0 : ((w.alloc (.cells #[.int .i64 (W : Int), .int .i64 (H : Int), .map (some b)] 57)).alloc (.cells #[.pointer none, .slice none 0 0] 105)).heap.size = w.heap.size + 1 + 1 := by simp
  have hb0 : Below w.heap.size w ((w.alloc (.cells #[.int .i64 (W : Int), .int .i64 (H : Int), .map (some b)] 57)).alloc (.cells #[.pointer none, .slice none 0 0] 105)) := ((Below.refl _ _).alloc (Nat.le_refl _) _).alloc (by simp) _
  have HB := Lib.hid (hb0.trans (hbp.mono hb0.size))
  have m0 : wp.cell? ⟨w.heap.size, 2, none⟩ = some (.map (some b)) := (hbp.cell (p := ⟨w.heap.size, 2, none⟩) (by simp; omega)).trans (by simp [go_sem])
  have HBD := Lib.hid (hW0.below hbp)
  have HD := Lib.hid (((HH.out.alloc (.cells #[.int .i64 (W : Int), .int .i64 (H : Int), .map (some b)] 57)).alloc (.cells #[.pointer none, .slice none 0 0] 105)).below hbp)
  have HRW := Lib.hid hrow
  rw [hz0] at hbase
  have hzp : w.heap.size + 2 ≤ wp.heap.size := by have := hbp.size; omega
  clear hb0 hbp hrow hW0 HH HPL hz0
  go_loopw [9] (fun i wr => ∃ k : Nat, k ≤ n ∧ i = .int .i64 (k : Int) ∧ Hid (Bdr wr (w.heap.size + 1) (w.heap.size + 1) (tx k)) ∧ Hid (wr.ownsRow base 71 2 (.slice A n c) n pl) ∧ Hid (Below (w.heap.size + 1) wp wr)) (fun i _ => n - (intOf i).toNat)
  case atStart => exact ⟨0, by omega, by simp, by rw [HT0.out]; exact HBD, HRW, Lib.hid (Below.refl _ _)⟩
  case round =>
    obtain ⟨k, hk, rfl, HBk, HRk, HWk⟩ := hrel
    have hzr : wp.heap.size ≤ wr.heap.size := HWk.out.size
    by_cases hlt : k < n
    · have hlt2 : (k : Int) < (n : Int) := by omega
      have hp := HPA.out k hlt
      obtain ⟨g, o, rfl, hg0, hg1, hcs⟩ := own_of_row HRk.out (HPN.out (by omega))
      have s0 := (hcs _ _ hp.1).1
      have s1 := (hcs _ _ hp.2).1
      rw [Nat.mul_comm 2 k] at s0 s1
      rw [← Nat.add_assoc] at s1
      have m1 : wr.cell? ⟨w.heap.size, 2, none⟩ = some (.map (some b)) := (HWk.out.cell (p := ⟨w.heap.size, 2, none⟩) (by simp)).trans m0
      have m1a := fun ob => cell_old m1 ob
      have hst := HST.out k hlt
      have hxy := HXY.out k hlt
      have hln := HLEN.out k
      have HDk := Lib.hid (HD.out.below2 HWk.out (by omega))
      have hcond : (k % W = 0 ∧ 0 < k / W) ↔ (((k % W : Nat) : Int) = 0 ∧ 0 < ((k / W : Nat) : Int)) := by
        generalize k % W = x
        generalize k / W = y
        omega
      have hX0 : 0 ≤ ((k % W : Nat) : Int) ∧ ((k % W : Nat) : Int) < 50 ∧ 0 ≤ ((k / W : Nat) : Int) ∧ ((k / W : Nat) : Int) < 50 := by
        generalize k % W = x at *
        generalize k / W = y at *
        omega
      simp only [hcond] at hst
      generalize ((k % W : Nat) : Int) = x at *
      generalize ((k / W : Nat) : Int) = y at *
      have HHAS := Lib.hid fun V (hd : Ds V b S) => has_any b S x y V hd (wf2_of (by omega) (by omega) (by omega) (by omega))
      clear hp hcs hcond hxy
      by_cases hsep : x = 0 ∧ 0 < y
      · obtain ⟨rfl, hy⟩ := hsep
        rw [if_pos ⟨rfl, hy⟩] at hst
        have HSK := Lib.hid hst
        clear hst
        cases hc : S 0 y with
        | true =>
          rw [hc] at HHAS HSK
          clear hc
          have HW1 := Lib.hid (HWk.out.alloc (by omega) (.cells #[.int .i64 0, .int .i64 y] 71))
          have HBx := Lib.hid (HBk.out.below ((Below.refl _ _).alloc (Nat.le_refl _) (.cells #[.int .i64 0, .int .i64 y] 71)))
          have HRx := Lib.hid (HRk.out.alloc (.cells #[.int .i64 0, .int .i64 y] 71))
          have HDx := Lib.hid (HDk.out.alloc (.cells #[.int .i64 0, .int .i64 y] 71))
          go_wp2_with (first
            | (go_at_call 99; refine (writeB _ _ _ _ HBx.out (by omega) (by simp; omega)).mono ?_; rintro e w2 ⟨rfl, hB2, hb2, hk2⟩; have HBy := Lib.hid hB2; have HRy := Lib.hid (oth_row HRx.out hk2 infoNe8 (by omega)); have HDy := Lib.hid (HDx.out.below2 hb2 (by omega)); have HW2 := Lib.hid (HW1.out.trans hb2); have m2 := (hb2.cell (p := ⟨w.heap.size, 2, none⟩) (by simp)).trans (m1a (.cells #[.int .i64 0, .int .i64 y] 71)); have e0 := oth_cell (j := 0) (v := .int .i64 0) (MapKept.heap_alloc wr (.cells #[.int .i64 0, .int .i64 y] 71)).1 hk2 infoNe8 (by omega) rfl; have e1 := oth_cell (j := 1) (v := .int .i64 y) (MapKept.heap_alloc wr (.cells #[.int .i64 0, .int .i64 y] 71)).1 hk2 infoNe8 (by omega) rfl; clear hB2 hb2 hk2)
            | (go_at_call 72; refine (HHAS.out _ HDy.out).mono ?_; rintro e w3 ⟨rfl, hb3⟩; have HBz := Lib.hid (HBy.out.below hb3); have HRz := Lib.hid (row_below HRy.out hb3 (Nat.le_refl _)); have hz3 := HW2.out.size; have HW3 := Lib.hid (HW2.out.trans (hb3.mono (by omega))); clear hb3)
            | (go_at_call 100; refine (writeO _ _ _ _ HBz.out (by (try simp); omega) (by have := HW3.out.size; omega)).mono ?_; rintro e w4 ⟨rfl, hB4, hb4, hk4⟩; have HB4 := Lib.hid hB4; have HR4 := Lib.hid (oth_row HRz.out hk4 infoNe8 (by omega)); have HW4 := Lib.hid (HW3.out.trans hb4); clear hB4 hb4 hk4))
          go_wp2
          go_roundw
          case rel => exact ⟨k + 1, by omega, by go_num, by rw [HSK.out]; exact HB4, HR4, HW4⟩
          case measure => simp [intOf]; omega
        | false =>
          rw [hc] at HHAS HSK
          clear hc
          have HW1 := Lib.hid (HWk.out.alloc (by omega) (.cells #[.int .i64 0, .int .i64 y] 71))
          have HBx := Lib.hid (HBk.out.below ((Below.refl _ _).alloc (Nat.le_refl _) (.cells #[.int .i64 0, .int .i64 y] 71)))
          have HRx := Lib.hid (HRk.out.alloc (.cells #[.int .i64 0, .int .i64 y] 71))
          have HDx := Lib.hid (HDk.out.alloc (.cells #[.int .i64 0, .int .i64 y] 71))
          go_wp2_with (first
            | (go_at_call 99; refine (writeB _ _ _ _ HBx.out (by omega) (by simp; omega)).mono ?_; rintro e w2 ⟨rfl, hB2, hb2, hk2⟩; have HBy := Lib.hid hB2; have HRy := Lib.hid (oth_row HRx.out hk2 infoNe8 (by omega)); have HDy := Lib.hid (HDx.out.below2 hb2 (by omega)); have HW2 := Lib.hid (HW1.out.trans hb2); have m2 := (hb2.cell (p := ⟨w.heap.size, 2, none⟩) (by simp)).trans (m1a (.cells #[.int .i64 0, .int .i64 y] 71)); have e0 := oth_cell (j := 0) (v := .int .i64 0) (MapKept.heap_alloc wr (.cells #[.int .i64 0, .int .i64 y] 71)).1 hk2 infoNe8 (by omega) rfl; have e1 := oth_cell (j := 1) (v := .int .i64 y) (MapKept.heap_alloc wr (.cells #[.int .i64 0, .int .i64 y] 71)).1 hk2 infoNe8 (by omega) rfl; clear hB2 hb2 hk2)
            | (go_at_call 72; refine (HHAS.out _ HDy.out).mono ?_; rintro e w3 ⟨rfl, hb3⟩; have HBz := Lib.hid (HBy.out.below hb3); have HRz := Lib.hid (row_below HRy.out hb3 (Nat.le_refl _)); have hz3 := HW2.out.size; have HW3 := Lib.hid (HW2.out.trans (hb3.mono (by omega))); clear hb3)
            | (go_at_call 100; refine (writeE _ _ _ _ HBz.out (by (try simp); omega) (by have := HW3.out.size; omega)).mono ?_; rintro e w4 ⟨rfl, hB4, hb4, hk4⟩; have HB4 := Lib.hid hB4; have HR4 := Lib.hid (oth_row HRz.out hk4 infoNe8 (by omega)); have HW4 := Lib.hid (HW3.out.trans hb4); clear hB4 hb4 hk4))
          go_wp2
          go_roundw
          case rel => exact ⟨k + 1, by omega, by go_num, by rw [HSK.out]; exact HB4, HR4, HW4⟩
          case measure => simp [intOf]; omega
      · rw [if_neg hsep] at hst
        have HSK := Lib.hid hst
        clear hst
        by_cases hx : x = 0
        · subst hx
          obtain rfl : y = 0 := by
            rcases Int.lt_or_le 0 y with hl | hl
            · exact absurd ⟨rfl, hl⟩ hsep
            · omega
          cases hc : S 0 0 with
          | true =>
            rw [hc] at HHAS HSK
            clear hc
            have HW1 := Lib.hid (HWk.out.alloc (by omega) (.cells #[.int .i64 0, .int .i64 0] 71))
            have HBx := Lib.hid (HBk.out.below ((Below.refl _ _).alloc (Nat.le_refl _) (.cells #[.int .i64 0, .int .i64 0] 71)))
            have HRx := Lib.hid (HRk.out.alloc (.cells #[.int .i64 0, .int .i64 0] 71))
            have HDx := Lib.hid (HDk.out.alloc (.cells #[.int .i64 0, .int .i64 0] 71))
            have HBy := HBx
            have HRy := HRx
            have HDy := HDx
            have HW2 := HW1
            go_wp2_with (first
              | (go_at_call 72; refine (HHAS.out _ HDy.out).mono ?_; rintro e w3 ⟨rfl, hb3⟩; have HBz := Lib.hid (HBy.out.below hb3); have HRz := Lib.hid (row_below HRy.out hb3 (Nat.le_refl _)); have hz3 := HW2.out.size; have HW3 := Lib.hid (HW2.out.trans (hb3.mono (by omega))); clear hb3)
              | (go_at_call 100; refine (writeO _ _ _ _ HBz.out (by (try simp); omega) (by have := HW3.out.size; omega)).mono ?_; rintro e w4 ⟨rfl, hB4, hb4, hk4⟩; have HB4 := Lib.hid hB4; have HR4 := Lib.hid (oth_row HRz.out hk4 infoNe8 (by omega)); have HW4 := Lib.hid (HW3.out.trans hb4); clear hB4 hb4 hk4))
            go_wp2
            go_roundw
            case rel => exact ⟨k + 1, by omega, by go_num, by rw [HSK.out, List.append_nil]; exact HB4, HR4, HW4⟩
            case measure => simp [intOf]; omega
          | false =>
            rw [hc] at HHAS HSK
            clear hc
            have HW1 := Lib.hid (HWk.out.alloc (by omega) (.cells #[.int .i64 0, .int .i64 0] 71))
            have HBx := Lib.hid (HBk.out.below ((Below.refl _ _).alloc (Nat.le_refl _) (.cells #[.int .i64 0, .int .i64 0] 71)))
            have HRx := Lib.hid (HRk.out.alloc (.cells #[.int .i64 0, .int .i64 0] 71))
            have HDx := Lib.hid (HDk.out.alloc (.cells #[.int .i64 0, .int .i64 0] 71))
            have HBy := HBx
            have HRy := HRx
            have HDy := HDx
            have HW2 := HW1
            go_wp2_with (first
              | (go_at_call 72; refine (HHAS.out _ HDy.out).mono ?_; rintro e w3 ⟨rfl, hb3⟩; have HBz := Lib.hid (HBy.out.below hb3); have HRz := Lib.hid (row_below HRy.out hb3 (Nat.le_refl _)); have hz3 := HW2.out.size; have HW3 := Lib.hid (HW2.out.trans (hb3.mono (by omega))); clear hb3)
              | (go_at_call 100; refine (writeE _ _ _ _ HBz.out (by (try simp); omega) (by have := HW3.out.size; omega)).mono ?_; rintro e w4 ⟨rfl, hB4, hb4, hk4⟩; have HB4 := Lib.hid hB4; have HR4 := Lib.hid (oth_row HRz.out hk4 infoNe8 (by omega)); have HW4 := Lib.hid (HW3.out.trans hb4); clear hB4 hb4 hk4))
            go_wp2
            go_roundw
            case rel => exact ⟨k + 1, by omega, by go_num, by rw [HSK.out, List.append_nil]; exact HB4, HR4, HW4⟩
            case measure => simp [intOf]; omega
        · have hxb : (x == 0) = false := by simpa using hx
          cases hc : S x y with
          | true =>
            rw [hc] at HHAS HSK
            clear hc
            have HW1 := Lib.hid (HWk.out.alloc (by omega) (.cells #[.int .i64 x, .int .i64 y] 71))
            have HBx := Lib.hid (HBk.out.below ((Below.refl _ _).alloc (Nat.le_refl _) (.cells #[.int .i64 x, .int .i64 y] 71)))
            have HRx := Lib.hid (HRk.out.alloc (.cells #[.int .i64 x, .int .i64 y] 71))
            have HDx := Lib.hid (HDk.out.alloc (.cells #[.int .i64 x, .int .i64 y] 71))
            have HBy := HBx
            have HRy := HRx
            have HDy := HDx
            have HW2 := HW1
            go_wp2_with (first
              | (go_at_call 72; refine (HHAS.out _ HDy.out).mono ?_; rintro e w3 ⟨rfl, hb3⟩; have HBz := Lib.hid (HBy.out.below hb3); have HRz := Lib.hid (row_below HRy.out hb3 (Nat.le_refl _)); have hz3 := HW2.out.size; have HW3 := Lib.hid (HW2.out.trans (hb3.mono (by omega))); clear hb3)
              | (go_at_call 100; refine (writeO _ _ _ _ HBz.out (by (try simp); omega) (by have := HW3.out.size; omega)).mono ?_; rintro e w4 ⟨rfl, hB4, hb4, hk4⟩; have HB4 := Lib.hid hB4; have HR4 := Lib.hid (oth_row HRz.out hk4 infoNe8 (by omega)); have HW4 := Lib.hid (HW3.out.trans hb4); clear hB4 hb4 hk4))
            go_wp2
            go_roundw
            case rel => exact ⟨k + 1, by omega, by go_num, by rw [HSK.out, List.append_nil]; exact HB4, HR4, HW4⟩
            case measure => simp [intOf]; omega
          | false =>
            rw [hc] at HHAS HSK
            clear hc
            have HW1 := Lib.hid (HWk.out.alloc (by omega) (.cells #[.int .i64 x, .int .i64 y] 71))
            have HBx := Lib.hid (HBk.out.below ((Below.refl _ _).alloc (Nat.le_refl _) (.cells #[.int .i64 x, .int .i64 y] 71)))
            have HRx := Lib.hid (HRk.out.alloc (.cells #[.int .i64 x, .int .i64 y] 71))
            have HDx := Lib.hid (HDk.out.alloc (.cells #[.int .i64 x, .int .i64 y] 71))
            have HBy := HBx
            have HRy := HRx
            have HDy := HDx
            have HW2 := HW1
            go_wp2_with (first
              | (go_at_call 72; refine (HHAS.out _ HDy.out).mono ?_; rintro e w3 ⟨rfl, hb3⟩; have HBz := Lib.hid (HBy.out.below hb3); have HRz := Lib.hid (row_below HRy.out hb3 (Nat.le_refl _)); have hz3 := HW2.out.size; have HW3 := Lib.hid (HW2.out.trans (hb3.mono (by omega))); clear hb3)
              | (go_at_call 100; refine (writeE _ _ _ _ HBz.out (by (try simp); omega) (by have := HW3.out.size; omega)).mono ?_; rintro e w4 ⟨rfl, hB4, hb4, hk4⟩; have HB4 := Lib.hid hB4; have HR4 := Lib.hid (oth_row HRz.out hk4 infoNe8 (by omega)); have HW4 := Lib.hid (HW3.out.trans hb4); clear hB4 hb4 hk4))
            go_wp2
            go_roundw
            case rel => exact ⟨k + 1, by omega, by go_num, by rw [HSK.out, List.append_nil]; exact HB4, HR4, HW4⟩
            case measure => simp [intOf]; omega
    · obtain rfl : k = n := by omega
      rw [HFIN.out] at HBk
      go_wp2_with (go_at_call 101; refine (Tryz.Builder_String_any_k _ _ _ _ HBk.out (by omega)).mono ?_; rintro e w5 ⟨rfl, _, hb5, _⟩)
      go_ret
      exact ⟨rfl, HB.out.trans ((HWk.out.trans hb5).mono (Nat.le_succ _))⟩
end Go.Proofs.YtbabkcjnfdpafaaGreatDoor
