/- Chapter 7: the laws of the shapes' pictures, whatever the number. -/
import Derived.Test.YtbabkcjnfdpafaaGreatDoorDvJ
import Derived.Test.YtbabkcjnfdpafaaGreatDoorDtV
namespace Go.Proofs.YtbabkcjnfdpafaaGreatDoor
open Go.ChangeShapes Go.WideShapes Go.ChangeAt Go.RowKit Go.Maps

set_option maxRecDepth 16000 in
theorem impl_TrianglePicture_no (k : Int) (w : World) (h : k < 1 ∨ 24 < k) :
    Calls Tryz.prog 7 #[.int .i64 k] w fun e w' => e = .returned (.tuple #[.string ⟨#[]⟩, .bool false]) ∧ Below w.heap.size w w' := by
  have HC := Lib.hid fun V => side_any k V
  rw [betr_no h] at HC
  clear h
  go_enter Tryz.func7, Tryz.ntmps7
  go_wp2_with (go_at_call 39; refine (HC.out _).mono ?_; rintro e w1 ⟨rfl, rfl⟩)
  go_ret2
  exact ⟨rfl, Below.refl _ _⟩
theorem text_triangle (k : Nat) (k0 : 1 ≤ k) : sT k k (fun x y => inP k k x y && decide (x ≤ y)) = gText k k (shD 116 k) := sT_of fun x y hx hy => by
  have hi := (inP_iff (W := k) (H := k) (x := (x : Int)) (y := (y : Int))).2 (by omega)
  rw [shD_at _ _ _ _ hx]
  simp only [hi, Bool.true_and]
  unfold shp
  simp
set_option maxRecDepth 16000 in
theorem impl_TrianglePicture_yes (k : Nat) (w : World) (k0 : 1 ≤ k) (k1 : k ≤ 24) :
    Calls Tryz.prog 7 #[.int .i64 (k : Int)] w fun e w' => e = .returned (.tuple #[.string (bt (gText k k (shD 116 k))), .bool true]) ∧ Below w.heap.size w w' := by
  have HC := Lib.hid fun V => side_any (k : Int) V
  rw [betr_yes (by omega) (by omega)] at HC
  have HS := Lib.hid (square_any k (k : Int) rfl 41 #[] #[] (fun x y => decide (x ≤ y)) w { cf := cf_triangle1, dw := fun x y V' _ _ => triangle1_any x y V' } k0 (by omega))
  rw [← text_triangle k k0]
  go_enter Tryz.func7, Tryz.ntmps7
  go_wp2_with (first
    | (go_at_call 39; refine (HC.out _).mono ?_; rintro e w1 ⟨rfl, rfl⟩)
    | (go_at_call 40; refine (HS.out).mono ?_; rintro e w1 ⟨rfl, hb1⟩))
  go_ret2
  exact ⟨rfl, hb1⟩
set_option maxRecDepth 16000 in
theorem impl_SquarePicture_no (k : Int) (w : World) (h : k < 1 ∨ 24 < k) :
    Calls Tryz.prog 9 #[.int .i64 k] w fun e w' => e = .returned (.tuple #[.string ⟨#[]⟩, .bool false]) ∧ Below w.heap.size w w' := by
  have HC := Lib.hid fun V => side_any k V
  rw [betr_no h] at HC
  clear h
  go_enter Tryz.func9, Tryz.ntmps9
  go_wp2_with (go_at_call 39; refine (HC.out _).mono ?_; rintro e w1 ⟨rfl, rfl⟩)
  go_ret2
  exact ⟨rfl, Below.refl _ _⟩
theorem text_square (k : Nat) (k0 : 1 ≤ k) : sT k k (fun x y => inP k k x y && true) = gText k k (shD 115 k) := sT_of fun x y hx hy => by
  have hi := (inP_iff (W := k) (H := k) (x := (x : Int)) (y := (y : Int))).2 (by omega)
  rw [shD_at _ _ _ _ hx]
  simp only [hi, Bool.true_and]
  unfold shp
  simp
set_option maxRecDepth 16000 in
theorem impl_SquarePicture_yes (k : Nat) (w : World) (k0 : 1 ≤ k) (k1 : k ≤ 24) :
    Calls Tryz.prog 9 #[.int .i64 (k : Int)] w fun e w' => e = .returned (.tuple #[.string (bt (gText k k (shD 115 k))), .bool true]) ∧ Below w.heap.size w w' := by
  have HC := Lib.hid fun V => side_any (k : Int) V
  rw [betr_yes (by omega) (by omega)] at HC
  have HS := Lib.hid (show Calls Tryz.prog 40 #[.int .i64 (k : Int), .func (.func 44) #[] #[]] w fun e w' => e = .returned (.string (bt (gText k k (shD 115 k)))) ∧ Below w.heap.size w w' from by
    rw [← text_square k k0]
    exact square_any k (k : Int) rfl 44 #[] #[] (fun _ _ => true) w { cf := cf_square1, dw := fun x y V' _ _ => square1_any x y V' } k0 (by omega))
  generalize gText k k (shD 115 k) = tt at *
  go_enter Tryz.func9, Tryz.ntmps9
  go_wp2_with (first
    | (go_at_call 39; refine (HC.out _).mono ?_; rintro e w1 ⟨rfl, rfl⟩)
    | (go_at_call 40; refine (HS.out).mono ?_; rintro e w1 ⟨rfl, hb1⟩))
  go_ret2
  exact ⟨rfl, hb1⟩
set_option maxRecDepth 16000 in
theorem impl_GnomonPicture_no (k : Int) (w : World) (h : k < 1 ∨ 24 < k) :
    Calls Tryz.prog 15 #[.int .i64 k] w fun e w' => e = .returned (.tuple #[.string ⟨#[]⟩, .bool false]) ∧ Below w.heap.size w w' := by
  have HC := Lib.hid fun V => side_any k V
  rw [betr_no h] at HC
  clear h
  go_enter Tryz.func15, Tryz.ntmps15
  go_wp2_with (go_at_call 39; refine (HC.out _).mono ?_; rintro e w1 ⟨rfl, rfl⟩)
  go_ret2
  exact ⟨rfl, (Below.refl _ _).alloc (Nat.le_refl _) _⟩
theorem text_gnomon (k : Nat) (k0 : 1 ≤ k) : sT k k (fun x y => inP k k x y && decide (max x y = (k : Int) - 1)) = gText k k (shD 103 k) := sT_of fun x y hx hy => by
  have hi := (inP_iff (W := k) (H := k) (x := (x : Int)) (y := (y : Int))).2 (by omega)
  rw [shD_at _ _ _ _ hx]
  simp only [hi, Bool.true_and]
  unfold shp
  rw [if_neg (by decide), if_pos rfl, Bool.eq_iff_iff, Bool.or_eq_true, decide_eq_true_iff, decide_eq_true_iff, decide_eq_true_iff]
  omega
set_option maxRecDepth 16000 in
theorem impl_GnomonPicture_yes (k : Nat) (w : World) (k0 : 1 ≤ k) (k1 : k ≤ 24) :
    Calls Tryz.prog 15 #[.int .i64 (k : Int)] w fun e w' => e = .returned (.tuple #[.string (bt (gText k k (shD 103 k))), .bool true]) ∧ Below w.heap.size w w' := by
  have HC := Lib.hid fun V => side_any (k : Int) V
  rw [betr_yes (by omega) (by omega)] at HC
  have q0 : (w.alloc (.cells #[.int .i64 (k : Int)] 3)).cell? ⟨w.heap.size, 0, none⟩ = some (.int .i64 (k : Int)) := by simp [go_sem]
  have HB := Lib.hid (show Below w.heap.size w (w.alloc (.cells #[.int .i64 (k : Int)] 3)) from (Below.refl _ _).alloc (Nat.le_refl _) _)
  have HS := Lib.hid (square_any k (k : Int) rfl 50 #[] #[.pointer (some ⟨w.heap.size, 0, none⟩)] (fun x y => decide (max x y = (k : Int) - 1)) (w.alloc (.cells #[.int .i64 (k : Int)] 3)) { cf := cf_gnomon1, dw := fun x y V' _ hg => gnomon1_any k w.heap.size x y V' (hg.cell q0 (by simp)) (by omega) } k0 (by omega))
  rw [← text_gnomon k k0]
  clear q0
  go_enter Tryz.func15, Tryz.ntmps15
  go_wp2_with (first
    | (go_at_call 39; refine (HC.out _).mono ?_; rintro e w1 ⟨rfl, rfl⟩)
    | (go_at_call 40; refine (HS.out).mono ?_; rintro e w1 ⟨rfl, hb1⟩))
  go_ret2
  exact ⟨rfl, HB.out.trans (hb1.mono HB.out.size)⟩
set_option maxRecDepth 16000 in
theorem impl_DiamondPicture_no (k : Int) (w : World) (h : k < 1 ∨ 12 < k) :
    Calls Tryz.prog 11 #[.int .i64 k] w fun e w' => e = .returned (.tuple #[.string ⟨#[]⟩, .bool false]) ∧ Below w.heap.size w w' := by
  have HC := Lib.hid fun V => mid_any k V
  rw [betr_no h] at HC
  clear h
  go_enter Tryz.func11, Tryz.ntmps11
  go_wp2_with (go_at_call 45; refine (HC.out _).mono ?_; rintro e w1 ⟨rfl, rfl⟩)
  go_ret2
  exact ⟨rfl, (Below.refl _ _).alloc (Nat.le_refl _) _⟩
theorem text_diamond (k : Nat) (k0 : 1 ≤ k) : sT (2 * k - 1) (2 * k - 1) (fun x y => inP (2 * k - 1) (2 * k - 1) x y && decide (far0 (x - ((k : Int) - 1)) + far0 (y - ((k : Int) - 1)) < (k : Int))) = gText (2 * k - 1) (2 * k - 1) (shD 100 (2 * k - 1)) := sT_of fun x y hx hy => by
  have hi := (inP_iff (W := (2 * k - 1)) (H := (2 * k - 1)) (x := (x : Int)) (y := (y : Int))).2 (by omega)
  rw [shD_at _ _ _ _ hx]
  simp only [hi, Bool.true_and]
  unfold shp
  have hh : ((2 * k - 1 : Nat) : Int) / 2 = (k : Int) - 1 := by omega
  rw [if_neg (by decide), if_neg (by decide), if_pos rfl, hh, Bool.eq_iff_iff, decide_eq_true_iff, decide_eq_true_iff]
  unfold far0
  omega
set_option maxRecDepth 16000 in
theorem impl_DiamondPicture_yes (k : Nat) (w : World) (k0 : 1 ≤ k) (k1 : k ≤ 12) :
    Calls Tryz.prog 11 #[.int .i64 (k : Int)] w fun e w' => e = .returned (.tuple #[.string (bt (gText (2 * k - 1) (2 * k - 1) (shD 100 (2 * k - 1)))), .bool true]) ∧ Below w.heap.size w w' := by
  have HC := Lib.hid fun V => mid_any (k : Int) V
  rw [betr_yes (by omega) (by omega)] at HC
  have q0 : (w.alloc (.cells #[.int .i64 (k : Int)] 3)).cell? ⟨w.heap.size, 0, none⟩ = some (.int .i64 (k : Int)) := by simp [go_sem]
  have HB := Lib.hid (show Below w.heap.size w (w.alloc (.cells #[.int .i64 (k : Int)] 3)) from (Below.refl _ _).alloc (Nat.le_refl _) _)
  have HS := Lib.hid (middled_any k 47 #[] #[.pointer (some ⟨w.heap.size, 0, none⟩)] (fun x y => decide (far0 x + far0 y < (k : Int))) (w.alloc (.cells #[.int .i64 (k : Int)] 3)) { cf := cf_diamond1, dz := fun x y V' hxy hg => diamond1_any k w.heap.size x y V' (hg.cell q0 (by simp)) (by omega) } k0 k1)
  rw [← text_diamond k k0]
  clear q0
  go_enter Tryz.func11, Tryz.ntmps11
  go_wp2_with (first
    | (go_at_call 45; refine (HC.out _).mono ?_; rintro e w1 ⟨rfl, rfl⟩)
    | (go_at_call 46; refine (HS.out).mono ?_; rintro e w1 ⟨rfl, hb1⟩))
  go_ret2
  exact ⟨rfl, HB.out.trans (hb1.mono HB.out.size)⟩
set_option maxRecDepth 16000 in
theorem impl_HexagonPicture_no (k : Int) (w : World) (h : k < 1 ∨ 12 < k) :
    Calls Tryz.prog 13 #[.int .i64 k] w fun e w' => e = .returned (.tuple #[.string ⟨#[]⟩, .bool false]) ∧ Below w.heap.size w w' := by
  have HC := Lib.hid fun V => mid_any k V
  rw [betr_no h] at HC
  clear h
  go_enter Tryz.func13, Tryz.ntmps13
  go_wp2_with (go_at_call 45; refine (HC.out _).mono ?_; rintro e w1 ⟨rfl, rfl⟩)
  go_ret2
  exact ⟨rfl, (Below.refl _ _).alloc (Nat.le_refl _) _⟩
theorem text_hexagon (k : Nat) (k0 : 1 ≤ k) : sT (2 * k - 1) (2 * k - 1) (fun x y => inP (2 * k - 1) (2 * k - 1) x y && decide (far0 (x - ((k : Int) - 1) + (y - ((k : Int) - 1))) < (k : Int))) = gText (2 * k - 1) (2 * k - 1) (shD 104 (2 * k - 1)) := sT_of fun x y hx hy => by
  have hi := (inP_iff (W := (2 * k - 1)) (H := (2 * k - 1)) (x := (x : Int)) (y := (y : Int))).2 (by omega)
  rw [shD_at _ _ _ _ hx]
  simp only [hi, Bool.true_and]
  unfold shp
  have hh : ((2 * k - 1 : Nat) : Int) / 2 = (k : Int) - 1 := by omega
  rw [if_neg (by decide), if_neg (by decide), if_neg (by decide), if_pos rfl, hh, Bool.eq_iff_iff, decide_eq_true_iff, decide_eq_true_iff]
  unfold far0
  omega
set_option maxRecDepth 16000 in
theorem impl_HexagonPicture_yes (k : Nat) (w : World) (k0 : 1 ≤ k) (k1 : k ≤ 12) :
    Calls Tryz.prog 13 #[.int .i64 (k : Int)] w fun e w' => e = .returned (.tuple #[.string (bt (gText (2 * k - 1) (2 * k - 1) (shD 104 (2 * k - 1)))), .bool true]) ∧ Below w.heap.size w w' := by
  have HC := Lib.hid fun V => mid_any (k : Int) V
  rw [betr_yes (by omega) (by omega)] at HC
  have q0 : (w.alloc (.cells #[.int .i64 (k : Int)] 3)).cell? ⟨w.heap.size, 0, none⟩ = some (.int .i64 (k : Int)) := by simp [go_sem]
  have HB := Lib.hid (show Below w.heap.size w (w.alloc (.cells #[.int .i64 (k : Int)] 3)) from (Below.refl _ _).alloc (Nat.le_refl _) _)
  have HS := Lib.hid (middled_any k 49 #[] #[.pointer (some ⟨w.heap.size, 0, none⟩)] (fun x y => decide (far0 (x + y) < (k : Int))) (w.alloc (.cells #[.int .i64 (k : Int)] 3)) { cf := cf_hexagon1, dz := fun x y V' hxy hg => hexagon1_any k w.heap.size x y V' (hg.cell q0 (by simp)) (by omega) } k0 k1)
  rw [← text_hexagon k k0]
  clear q0
  go_enter Tryz.func13, Tryz.ntmps13
  go_wp2_with (first
    | (go_at_call 45; refine (HC.out _).mono ?_; rintro e w1 ⟨rfl, rfl⟩)
    | (go_at_call 46; refine (HS.out).mono ?_; rintro e w1 ⟨rfl, hb1⟩))
  go_ret2
  exact ⟨rfl, HB.out.trans (hb1.mono HB.out.size)⟩
end Go.Proofs.YtbabkcjnfdpafaaGreatDoor
