/- Chapter 7: LeastPicture, by the program. -/
import Derived.Test.YtmcdmacpgjkelaaDoorMa
import Derived.Test.YtmcdmacpgjkelaaDoorDuW
import Derived.Test.YtmcdmacpgjkelaaDoorDuO
import Derived.Deep.RegionHeld3
namespace Go.Proofs.YtmcdmacpgjkelaaDoor
open Go.ChangeShapes Go.WideShapes Go.ChangeAt Go.RowKit Go.Maps

theorem bt_toL (l : List UInt8) : (bt l).toList = l := by
  have h : (bt l).toList = (bt l).data.toList := ByteArray.toList_eq _
  rw [h]
  rfl
theorem run_min2 (P : Program) (a b : List UInt8) (W : World) : (Builtin.min2 (.string (bt a)) (.string (bt b))).run P W = .ok (.string (bt (mn a b))) W := by
  rw [← mn_other]
  simp only [Builtin.min2, Op.stringOp, bt_toL]
  cases h : (Op.bytesLess a b || a == b) <;> simp [asBool]
theorem run_min3 (P : Program) (ts : Array TypeId) (t : TypeId) (a b c : List UInt8) (W : World) : (Builtin.min_ ts t #[.string (bt a), .string (bt b), .string (bt c)]).run P W = .ok (.string (bt (mn (mn a b) c))) W := by
  simp [Builtin.min_, run_min2]
theorem cells_no {w : World} {R : Nat} {cs : Array Value} {t : TypeId} {fr : Nat × Nat} (h : w.heap[R]? = some (.cells cs t fr)) : ∀ c S, Ds w c S → R ≠ c := by
  rintro c S ⟨D, ⟨es, clock, hh, _⟩, _⟩ rfl
  rw [h] at hh
  cases hh
theorem heap_set1 {W : World} {R o : Nat} {cs : Array Value} {t : TypeId} {fr : Nat × Nat} (h : W.heap[R]? = some (.cells cs t fr)) (v : Value) :
    (W.setCell ⟨R, o, none⟩ v).heap[R]? = some (.cells (cs.setIfInBounds o v) t fr) := by
  simp [World.setCell, Array.getElem?_modify, h]
theorem heap_set3 {W : World} {R : Nat} {a b c : Value} {t : TypeId} {fr : Nat × Nat} (h : W.heap[R]? = some (.cells #[a, b, c] t fr)) (p q r : Value) :
    (((W.setCell ⟨R, 0, none⟩ p).setCell ⟨R, 1, none⟩ q).setCell ⟨R, 2, none⟩ r).heap[R]? = some (.cells #[p, q, r] t fr) :=
  heap_set1 (heap_set1 (heap_set1 h p) q) r
theorem three {V : World} {k : Nat} {a b c : Value} {t : TypeId} {f : Nat × Nat} (h : V.heap[k]? = some (.cells #[a, b, c] t f)) :
    V.cell? ⟨k, 0, none⟩ = some a ∧ V.cell? ⟨k, 1, none⟩ = some b ∧ V.cell? ⟨k, 2, none⟩ = some c := ⟨Lib.cell_of_heap h 0, Lib.cell_of_heap h 1, Lib.cell_of_heap h 2⟩
structure Okp (q : Pc) : Prop where
  w0 : 1 ≤ q.1
  w1 : q.1 ≤ 24
  h0 : 1 ≤ q.2.1
  h1 : q.2.1 ≤ 24
  bd : Bd q.1 q.2.1 q.2.2
theorem Okp.trn {q : Pc} (h : Okp q) : Okp (trn q) := ⟨h.h0, h.h1, h.w0, h.w1, turn_bd h.bd⟩
theorem Okp.itr {q : Pc} (h : Okp q) : ∀ k, Okp (itr q k)
  | 0 => h
  | k + 1 => (h.itr k).trn
/-- A picture's fields. -/
abbrev fld (q : Pc) (c : Nat) : Array Value := #[.int .i64 (q.1 : Int), .int .i64 (q.2.1 : Int), .map (some c)]
set_option maxRecDepth 8000 in
set_option maxHeartbeats 3200000 in
theorem least_any (q : Pc) (b : Nat) (w : World) (hd : Ds w b q.2.2) (hq : Okp q) :
    Calls Tryd.prog 36 #[.agg (fld q b)] w fun e w' => e = .returned (.string (bt (bsp (txt q) q 4))) ∧ Below w.heap.size w w' := by
  have HTX := Lib.hid fun (r : Pc) (h : Okp r) c V (hd : Ds V c r.2.2) => (show Calls Tryd.prog 45 #[.agg (fld r c)] V fun e w' => e = .returned (.string (bt (txt r))) ∧ Below V.heap.size V w' from text_any r.1 r.2.1 (r.1 * r.2.1) c r.2.2 V hd rfl h.w0 (by have := h.w1; omega) (by have := h.h1; omega))
  have HTU := Lib.hid fun (r : Pc) (h : Okp r) c V (hd : Ds V c r.2.2) => (show Calls Tryd.prog 26 #[.agg (fld r c)] V fun e w' => (∃ c', e = .returned (.agg (fld (trn r) c')) ∧ Ds w' c' (trn r).2.2) ∧ Below V.heap.size V w' from turned_chg r.1 r.2.1 r.2.2 h.bd (by have := h.w1; omega) (by have := h.h1; omega) V c hd)
  have HMI := Lib.hid fun (r : Pc) (h : Okp r) c V (hd : Ds V c r.2.2) => (show Calls Tryd.prog 30 #[.agg (fld r c)] V fun e w' => (∃ c', e = .returned (.agg (fld (mir r) c')) ∧ Ds w' c' (mir r).2.2) ∧ Below V.heap.size V w' from mirrored_chg r.1 r.2.1 r.2.2 h.bd (by have := h.w1; omega) (by have := h.h1; omega) V c hd)
  have HMK := Lib.hid (show ∀ r : Pc, Okp r → Okp (mir r) from fun r h => ⟨h.w0, h.w1, h.h0, h.h1, mirror_bd h.bd⟩)
  have HOK := Lib.hid hq.itr
  have k0 := (MapKept.heap_alloc w (.cells (fld q b) 42)).1
  have HD := Lib.hid (hd.alloc (.cells (fld q b) 42))
  have HB := Lib.hid (show Below w.heap.size w (w.alloc (.cells (fld q b) 42)) from (Below.refl _ _).alloc (Nat.le_refl _) _)
  have hT0 := Lib.hid (HTX.out q hq b (w.alloc (.cells (fld q b) 42)) HD.out)
  have hz0 : (w.alloc (.cells (fld q b) 42)).heap.size = w.heap.size + 1 := by simp
  have HS := Lib.hid (show ∀ i, bsp (txt q) q (i + 1) = mn (mn (bsp (txt q) q i) (txt (itr q (i + 1)))) (txt (mir (itr q (i + 1)))) from fun _ => rfl)
  have HS0 := Lib.hid (show txt q = bsp (txt q) q 0 from rfl)
  have HN := Lib.hid (show ∀ i, itr q (i + 1) = trn (itr q i) from fun _ => rfl)
  have HN0 := Lib.hid (show q = itr q 0 from rfl)
  generalize bsp (txt q) q = bs at *
  clear hd hq
  go_enter Tryd.func36, Tryd.ntmps36
  go_wp2_with (go_at_call 45; refine (hT0.out).mono ?_; rintro e w1 ⟨rfl, hb1⟩)
  have k1 := grown_heap k0 (grown_of_below hb1 (Nat.le_refl _)) (by simp)
  have HD1 := Lib.hid (HD.out.below hb1)
  have HB1 := Lib.hid (HB.out.trans (hb1.mono HB.out.size))
  have hz1 : w.heap.size + 1 ≤ w1.heap.size := by have := hb1.size; omega
  clear hb1 k0 HD HB hT0
  rw [HS0.out]
  clear HS0
  go_loopw [3, 6] (fun v i wr => ∃ j c : Nat, j ≤ 4 ∧ i = .int .i64 (j : Int) ∧ v = .string (bt (bs j)) ∧ Hid (Ds wr c (itr q j).2.2) ∧ wr.heap[w.heap.size]? = some (.cells (fld (itr q j) c) 42) ∧ Hid (Below w.heap.size w wr) ∧ w.heap.size + 1 ≤ wr.heap.size) (fun _ i _ => 4 - (intOf i).toNat)
  case atStart => exact ⟨0, b, by omega, by simp, rfl, HD1, k1, HB1, hz1⟩
  case round =>
    obtain ⟨j, c, hj, rfl, rfl, hd, hk, hb, hz⟩ := hrel
    clear HD1 k1 HB1 hz1
    by_cases hlt : j < 4
    · have hlt2 : (j : Int) < 4 := by omega
      have hok := HOK.out j
      have hok1 := HOK.out (j + 1)
      have hn := HN.out j
      have hs := HS.out j
      rw [hn] at hok1 hs
      generalize itr q j = p at *
      have HU := Lib.hid (HTU.out p hok c wr hd.out)
      have c0 := Lib.cell_of_heap hk 0
      have c1 := Lib.cell_of_heap hk 1
      have c2 := Lib.cell_of_heap hk 2
      go_wp2_with (go_at_call 26; refine (HU.out).mono ?_; rintro e w2 ⟨⟨c', rfl, hd2⟩, hb2⟩; have k2 := grown_heap hk (grown_of_below hb2 (Nat.le_refl _)) (by simp); have s0 := Lib.cell_of_heap k2 0; have s1 := Lib.cell_of_heap k2 1; have s2 := Lib.cell_of_heap k2 2; have f0 := Lib.frozen_of_heap k2 0; have f1 := Lib.frozen_of_heap k2 1; have f2 := Lib.frozen_of_heap k2 2; have HD2 := Lib.hid hd2; have HB2 := Lib.hid (hb.out.trans (hb2.mono hb.out.size)); have hz2 : wr.heap.size ≤ w2.heap.size := hb2.size; clear hd2 hb2)
      have kV := heap_set3 k2 (.int .i64 ((trn p).1 : Int)) (.int .i64 ((trn p).2.1 : Int)) (.map (some c'))
      have gV := grown_set3 w2 w.heap.size (.int .i64 ((trn p).1 : Int)) (.int .i64 ((trn p).2.1 : Int)) (.map (some c'))
      have hck := cells_no k2 c' _ HD2.out
      have HDV := Lib.hid (HD2.out.kept gV (by simp; omega))
      have HBV := Lib.hid (HB2.out.grown gV (by omega) (fun j hj => by cases hj; omega))
      have hzV := gV.size
      generalize (((w2.setCell ⟨w.heap.size, 0, none⟩ (.int .i64 ((trn p).1 : Int))).setCell ⟨w.heap.size, 1, none⟩ (.int .i64 ((trn p).2.1 : Int))).setCell ⟨w.heap.size, 2, none⟩ (.map (some c'))) = V at *
      have HT1 := Lib.hid fun W (h : Ds W c' (trn p).2.2) => HTX.out (trn p) hok1 c' W h
      have HM1 := Lib.hid fun W (h : Ds W c' (trn p).2.2) => HMI.out (trn p) hok1 c' W h
      have HT2 := Lib.hid fun c W (h : Ds W c (mir (trn p)).2.2) => HTX.out (mir (trn p)) (HMK.out _ hok1) c W h
      have hmin := fun ts t W => run_min3 Tryd.prog ts t (bs j) (txt (trn p)) (txt (mir (trn p))) W
      clear HTX HTU HMI HMK HU hok
      generalize mir (trn p) = m at *
      generalize trn p = r at *
      have b0 := Lib.cell_of_heap kV 0
      have b1 := Lib.cell_of_heap kV 1
      have b2 := Lib.cell_of_heap kV 2
      clear c0 c1 c2 k2 s0 s1 s2 f0 f1 f2 gV HD2 HB2
      go_region_held3 (fun w' => w'.cell? ⟨w.heap.size, 0, none⟩ = some (.int .i64 (r.1 : Int)) ∧ w'.cell? ⟨w.heap.size, 1, none⟩ = some (.int .i64 (r.2.1 : Int)) ∧ w'.cell? ⟨w.heap.size, 2, none⟩ = some (.map (some c')))
        (first | with_reducible exact sE | with_reducible exact sD | with_reducible exact sC | exact ⟨b0, b1, b2⟩)
        (first
          | (go_at_call 45; refine (HT2.out c4 _ HM4.out).mono ?_; rintro e w5 ⟨rfl, hb5⟩; have k5 := grown_heap k4 (grown_of_below hb5 (Nat.le_refl _)) (by simp); have sE := And.intro (three k5).1 (And.intro (three k5).2.1 (three k5).2.2); have x0 := sE.1; have x1 := sE.2.1; have x2 := sE.2.2; have HD5 := Lib.hid (HD4.out.below hb5); have HB5 := Lib.hid (HB4.out.trans (hb5.mono HB4.out.size)); have hz5 : w4.heap.size ≤ w5.heap.size := hb5.size; clear hb5)
          | (go_at_call 30; refine (HM1.out _ HD3.out).mono ?_; rintro e w4 ⟨⟨c4, rfl, hd4⟩, hb4⟩; have k4 := grown_heap k3 (grown_of_below hb4 (Nat.le_refl _)) (by simp); have sD := And.intro (three k4).1 (And.intro (three k4).2.1 (three k4).2.2); have v0 := sD.1; have v1 := sD.2.1; have v2 := sD.2.2; have HM4 := Lib.hid hd4; have HD4 := Lib.hid (HD3.out.below hb4); have HB4 := Lib.hid (HB3.out.trans (hb4.mono HB3.out.size)); have hz4 : w3.heap.size ≤ w4.heap.size := hb4.size; clear hd4 hb4)
          | (go_at_call 45; refine (HT1.out _ HDV.out.drew).mono ?_; rintro e w3 ⟨rfl, hb3⟩; have k3 := grown_heap kV (grown_undrew (grown_of_below hb3 (Nat.le_refl _))) (by simp); have sC := And.intro (three k3).1 (And.intro (three k3).2.1 (three k3).2.2); have u0 := sC.1; have u1 := sC.2.1; have u2 := sC.2.2; have HD3 := Lib.hid (HDV.out.drew.below hb3); have HB3 := Lib.hid (HBV.out.drew.trans (hb3.mono HBV.out.size)); have hz3 : V.heap.size ≤ w3.heap.size := hb3.size; clear hb3)
          | fail)
      rw [← hs]
      go_wp2
      go_roundw
      case rel => exact ⟨j + 1, c', by omega, by go_num, rfl, by rw [hn]; exact HD5, by rw [hn]; exact k5, HB5, by omega⟩
      case measure => simp [intOf]; omega
    · obtain rfl : j = 4 := by omega
      go_wp2
      go_ret
      exact ⟨rfl, hb.out⟩
end Go.Proofs.YtmcdmacpgjkelaaDoor
