/- Chapter 8, by the specification: TransformOf, UndoTransform. -/
import Derived.Test.YtjfpnecnmdclfaaTbY
namespace Go.Proofs.Ytjfpnecnmdclfaa
open Go.RowKit

theorem gd8_fst {S : List Int → List Int} (n : Nat) (xs : List Int) (h : 1 ≤ n) : gd8 (fst8 S n xs) = ent8 (fst8 S n xs) := by
  rw [gd8_ent, decide_eq_true (by rw [fst8_len]; omega), Bool.true_and]
theorem spec_TransformOf_no (A : Option Addr) (n c lo : Nat) (xs : List Int) (w : World) (hn : xs.length = n) (hm : n ≤ 1048576) (ha : Own w lo w.heap.size A (i64s xs)) (h : gd8 xs = false) :
    Calls Try.prog 17 #[.slice A n c] w (ResI false [] w) := by
  have HG := Lib.hid fun W (h : Own W lo w.heap.size A (i64s xs)) => dfGood_any A n c lo w.heap.size xs W hn hm h
  rw [h] at HG
  have HA := Lib.hid ha
  clear ha hn h
  go_enter Try.func17, Try.ntmps17
  go_wp2_with (go_at_call 47; refine (HG.out _ HA.out).mono ?_; rintro e w' ⟨rfl, rfl⟩)
  go_ret2
  exact resI_nil (Below.refl _ _)
set_option maxRecDepth 8000 in
set_option maxHeartbeats 1600000 in
theorem spec_TransformOf_yes (A : Option Addr) (n c lo : Nat) (xs : List Int) (w : World) (hn : xs.length = n) (ha : Own w lo w.heap.size A (i64s xs)) (h : gd8 xs = true) :
    Calls Try.prog 17 #[.slice A n c] w (ResI (ent8 (fst8 stp8 n xs)) (ans8 (ent8 (fst8 stp8 n xs)) (fst8 stp8 n xs)) w) := by
  have hl := gd8_len h
  rw [hn] at hl
  have HA := Lib.hid ha
  have HG := Lib.hid (dfGood_any A n c lo w.heap.size xs w hn (by omega) ha)
  rw [h] at HG
  have HT := Lib.hid fun W (h1 : Own W lo w.heap.size A (i64s xs)) hh => dfTransform_false A n c lo w.heap.size xs W hn hl.2 (gd8_bd h) h1 hh
  have hTe : tab (trn8 false xs) n = fst8 stp8 n xs := trn8_stp xs n
  rw [hTe] at HT
  have HG2 := Lib.hid fun B d l W (h : Own W l W.heap.size B (i64s (fst8 stp8 n xs))) => dfGood_any B n d l W.heap.size (fst8 stp8 n xs) W (fst8_len _ _ _) (by omega) h
  rw [gd8_fst n xs hl.1] at HG2
  have HLn : Hid ((fst8 stp8 n xs).length = n) := Lib.hid (fst8_len _ _ _)
  obtain ⟨r, hr⟩ : ∃ r, r = ent8 (fst8 stp8 n xs) := ⟨_, rfl⟩
  rw [← hr] at HG2 ⊢
  generalize fst8 stp8 n xs = ts at *
  clear ha hn h hr hTe
  cases r with
  | false =>
    show Calls _ _ _ _ (ResI false [] w)
    go_enter Try.func17, Try.ntmps17
    go_wp2_with (first
      | (go_at_call 47; refine (HG2.out _ _ _ _ HO1.out).mono ?_; rintro e w' ⟨rfl, rfl⟩)
      | (go_at_call 47; refine HG.out.mono ?_; rintro e w' ⟨rfl, rfl⟩)
      | (go_at_call 48; refine (HT.out _ HA.out (Nat.le_refl _)).mono ?_; rintro e w1 ⟨⟨B1, d1, rfl, hO1⟩, hb1⟩; have HO1 := Lib.hid hO1; have HB1 := Lib.hid hb1; clear hO1 hb1)
      | fail)
    go_ret2
    exact resI_nil HB1.out
  | true =>
    show Calls _ _ _ _ (ResI true ts w)
    go_enter Try.func17, Try.ntmps17
    go_wp2_with (first
      | (go_at_call 47; refine (HG2.out _ _ _ _ HO1.out).mono ?_; rintro e w' ⟨rfl, rfl⟩; have HB2 := HB1; clear HO1)
      | (go_at_call 47; refine HG.out.mono ?_; rintro e w' ⟨rfl, rfl⟩)
      | (go_at_call 48; refine (HT.out _ (HA.out.below HB2.out (Nat.le_refl _)) HB2.out.size).mono ?_; rintro e w3 ⟨⟨B3, d3, rfl, hO3⟩, hb3⟩)
      | (go_at_call 48; refine (HT.out _ HA.out (Nat.le_refl _)).mono ?_; rintro e w1 ⟨⟨B1, d1, rfl, hO1⟩, hb1⟩; have HO1 := Lib.hid hO1; have HB1 := Lib.hid hb1; clear hO1 hb1)
      | fail)
    go_ret2
    exact ⟨B3, d3, by rw [HLn.out]; rfl, hO3.wide HB2.out.size (Nat.le_refl _), HB2.out.trans (hb3.mono HB2.out.size)⟩
theorem spec_UndoTransform_no (A : Option Addr) (n c lo : Nat) (xs : List Int) (w : World) (hn : xs.length = n) (hm : n ≤ 1048576) (ha : Own w lo w.heap.size A (i64s xs)) (h : gd8 xs = false) :
    Calls Try.prog 19 #[.slice A n c] w (ResI false [] w) := by
  have HG := Lib.hid fun W (h : Own W lo w.heap.size A (i64s xs)) => dfGood_any A n c lo w.heap.size xs W hn hm h
  rw [h] at HG
  have HA := Lib.hid ha
  clear ha hn h
  go_enter Try.func19, Try.ntmps19
  go_wp2_with (go_at_call 47; refine (HG.out _ HA.out).mono ?_; rintro e w' ⟨rfl, rfl⟩)
  go_ret2
  exact resI_nil (Below.refl _ _)
set_option maxRecDepth 8000 in
set_option maxHeartbeats 1600000 in
theorem spec_UndoTransform_yes (A : Option Addr) (n c lo : Nat) (xs : List Int) (w : World) (hn : xs.length = n) (ha : Own w lo w.heap.size A (i64s xs)) (h : gd8 xs = true) :
    Calls Try.prog 19 #[.slice A n c] w (ResI (ent8 (fst8 dif8 n xs)) (ans8 (ent8 (fst8 dif8 n xs)) (fst8 dif8 n xs)) w) := by
  have hl := gd8_len h
  rw [hn] at hl
  have HA := Lib.hid ha
  have HG := Lib.hid (dfGood_any A n c lo w.heap.size xs w hn (by omega) ha)
  rw [h] at HG
  have HT := Lib.hid fun W (h1 : Own W lo w.heap.size A (i64s xs)) hh => dfTransform_true A n c lo w.heap.size xs W hn hl.2 (gd8_bd h) h1 hh
  have hTe : tab (trn8 true xs) n = fst8 dif8 n xs := by rw [← hn]; exact trn8_dif xs
  rw [hTe] at HT
  have HG2 := Lib.hid fun B d l W (h : Own W l W.heap.size B (i64s (fst8 dif8 n xs))) => dfGood_any B n d l W.heap.size (fst8 dif8 n xs) W (fst8_len _ _ _) (by omega) h
  rw [gd8_fst n xs hl.1] at HG2
  have HLn : Hid ((fst8 dif8 n xs).length = n) := Lib.hid (fst8_len _ _ _)
  obtain ⟨r, hr⟩ : ∃ r, r = ent8 (fst8 dif8 n xs) := ⟨_, rfl⟩
  rw [← hr] at HG2 ⊢
  generalize fst8 dif8 n xs = ts at *
  clear ha hn h hr hTe
  cases r with
  | false =>
    show Calls _ _ _ _ (ResI false [] w)
    go_enter Try.func19, Try.ntmps19
    go_wp2_with (first
      | (go_at_call 47; refine (HG2.out _ _ _ _ HO1.out).mono ?_; rintro e w' ⟨rfl, rfl⟩)
      | (go_at_call 47; refine HG.out.mono ?_; rintro e w' ⟨rfl, rfl⟩)
      | (go_at_call 48; refine (HT.out _ HA.out (Nat.le_refl _)).mono ?_; rintro e w1 ⟨⟨B1, d1, rfl, hO1⟩, hb1⟩; have HO1 := Lib.hid hO1; have HB1 := Lib.hid hb1; clear hO1 hb1)
      | fail)
    go_ret2
    exact resI_nil HB1.out
  | true =>
    show Calls _ _ _ _ (ResI true ts w)
    go_enter Try.func19, Try.ntmps19
    go_wp2_with (first
      | (go_at_call 47; refine (HG2.out _ _ _ _ HO1.out).mono ?_; rintro e w' ⟨rfl, rfl⟩; have HB2 := HB1; clear HO1)
      | (go_at_call 47; refine HG.out.mono ?_; rintro e w' ⟨rfl, rfl⟩)
      | (go_at_call 48; refine (HT.out _ (HA.out.below HB2.out (Nat.le_refl _)) HB2.out.size).mono ?_; rintro e w3 ⟨⟨B3, d3, rfl, hO3⟩, hb3⟩)
      | (go_at_call 48; refine (HT.out _ HA.out (Nat.le_refl _)).mono ?_; rintro e w1 ⟨⟨B1, d1, rfl, hO1⟩, hb1⟩; have HO1 := Lib.hid hO1; have HB1 := Lib.hid hb1; clear hO1 hb1)
      | fail)
    go_ret2
    exact ⟨B3, d3, by rw [HLn.out]; rfl, hO3.wide HB2.out.size (Nat.le_refl _), HB2.out.trans (hb3.mono HB2.out.size)⟩
end Go.Proofs.Ytjfpnecnmdclfaa
