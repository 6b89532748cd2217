/- Chapter 7: the laws of the shapes' pictures, whatever the number. -/
import Derived.Test.YtbcgidgjdedkiaaDvJ
import Derived.Test.YtbcgidgjdedkiaaDtV
namespace Go.Proofs.Ytbcgidgjdedkiaa
open Go.ChangeShapes Go.WideShapes Go.ChangeAt Go.RowKit Go.Maps

set_option maxRecDepth 8000 in
theorem impl_TrianglePicture_no (k : Int) (w : World) (h : k < 1 ∨ 24 < k) :
    Calls Try.prog 9 #[.int .i64 k] w fun e w' => e = .returned (.tuple #[.string ⟨#[]⟩, .bool false]) ∧ Below w.heap.size w w' := by
  have HC := Lib.hid fun V => side_any k V
  rw [betr_no h] at HC
  clear h
  go_enter Try.func9, Try.ntmps9
  go_wp2_with (go_at_call 20; refine (HC.out _).mono ?_; rintro e w1 ⟨rfl, rfl⟩)
  go_ret2
  exact ⟨rfl, Below.refl _ _⟩
theorem text_triangle (k : Nat) (k0 : 1 ≤ k) : sT k k (fun x y => inP k k x y && decide (x ≤ y)) = gText k k (shD 116 k) := sT_of fun x y hx hy => by
  have hi := (inP_iff (W := k) (H := k) (x := (x : Int)) (y := (y : Int))).2 (by omega)
  rw [shD_at _ _ _ _ hx]
  simp only [hi, Bool.true_and]
  unfold shp
  simp
set_option maxRecDepth 8000 in
theorem impl_TrianglePicture_yes (k : Nat) (w : World) (k0 : 1 ≤ k) (k1 : k ≤ 24) :
    Calls Try.prog 9 #[.int .i64 (k : Int)] w fun e w' => e = .returned (.tuple #[.string (bt (gText k k (shD 116 k))), .bool true]) ∧ Below w.heap.size w w' := by
  have HC := Lib.hid fun V => side_any (k : Int) V
  rw [betr_yes (by omega) (by omega)] at HC
  have HS := Lib.hid (square_any k (k : Int) rfl 22 #[] #[] (fun x y => decide (x ≤ y)) w { cf := cf_triangle1, dw := fun x y V' _ _ => triangle1_any x y V' } k0 (by omega))
  rw [← text_triangle k k0]
  go_enter Try.func9, Try.ntmps9
  go_wp2_with (first
    | (go_at_call 20; refine (HC.out _).mono ?_; rintro e w1 ⟨rfl, rfl⟩)
    | (go_at_call 21; refine (HS.out).mono ?_; rintro e w1 ⟨rfl, hb1⟩))
  go_ret2
  exact ⟨rfl, hb1⟩
theorem walk_TrianglePicture (k : Int) (w : World) :
    Calls Try.prog 3 #[.int .i64 k] w fun e w' => e = .returned (.bool true) ∧ Below w.heap.size w w' := by
  by_cases h : k < 1 ∨ 24 < k
  · exact lawP_TrianglePicture k _ _ (fun w => spec_TrianglePicture_no k w h) (fun w => impl_TrianglePicture_no k w h) w
  · obtain ⟨k, rfl⟩ := Int.eq_ofNat_of_zero_le (show 0 ≤ k by omega)
    exact lawP_TrianglePicture k _ _ (fun w => spec_TrianglePicture_yes k w (by omega) (by omega)) (fun w => impl_TrianglePicture_yes k w (by omega) (by omega)) w
set_option maxRecDepth 8000 in
theorem impl_SquarePicture_no (k : Int) (w : World) (h : k < 1 ∨ 24 < k) :
    Calls Try.prog 11 #[.int .i64 k] w fun e w' => e = .returned (.tuple #[.string ⟨#[]⟩, .bool false]) ∧ Below w.heap.size w w' := by
  have HC := Lib.hid fun V => side_any k V
  rw [betr_no h] at HC
  clear h
  go_enter Try.func11, Try.ntmps11
  go_wp2_with (go_at_call 20; refine (HC.out _).mono ?_; rintro e w1 ⟨rfl, rfl⟩)
  go_ret2
  exact ⟨rfl, Below.refl _ _⟩
theorem text_square (k : Nat) (k0 : 1 ≤ k) : sT k k (fun x y => inP k k x y && true) = gText k k (shD 115 k) := sT_of fun x y hx hy => by
  have hi := (inP_iff (W := k) (H := k) (x := (x : Int)) (y := (y : Int))).2 (by omega)
  rw [shD_at _ _ _ _ hx]
  simp only [hi, Bool.true_and]
  unfold shp
  simp
set_option maxRecDepth 8000 in
theorem impl_SquarePicture_yes (k : Nat) (w : World) (k0 : 1 ≤ k) (k1 : k ≤ 24) :
    Calls Try.prog 11 #[.int .i64 (k : Int)] w fun e w' => e = .returned (.tuple #[.string (bt (gText k k (shD 115 k))), .bool true]) ∧ Below w.heap.size w w' := by
  have HC := Lib.hid fun V => side_any (k : Int) V
  rw [betr_yes (by omega) (by omega)] at HC
  have HS := Lib.hid (show Calls Try.prog 21 #[.int .i64 (k : Int), .func (.func 23) #[] #[]] w fun e w' => e = .returned (.string (bt (gText k k (shD 115 k)))) ∧ Below w.heap.size w w' from by
    rw [← text_square k k0]
    exact square_any k (k : Int) rfl 23 #[] #[] (fun _ _ => true) w { cf := cf_square1, dw := fun x y V' _ _ => square1_any x y V' } k0 (by omega))
  generalize gText k k (shD 115 k) = tt at *
  go_enter Try.func11, Try.ntmps11
  go_wp2_with (first
    | (go_at_call 20; refine (HC.out _).mono ?_; rintro e w1 ⟨rfl, rfl⟩)
    | (go_at_call 21; refine (HS.out).mono ?_; rintro e w1 ⟨rfl, hb1⟩))
  go_ret2
  exact ⟨rfl, hb1⟩
theorem walk_SquarePicture (k : Int) (w : World) :
    Calls Try.prog 4 #[.int .i64 k] w fun e w' => e = .returned (.bool true) ∧ Below w.heap.size w w' := by
  by_cases h : k < 1 ∨ 24 < k
  · exact lawP_SquarePicture k _ _ (fun w => spec_SquarePicture_no k w h) (fun w => impl_SquarePicture_no k w h) w
  · obtain ⟨k, rfl⟩ := Int.eq_ofNat_of_zero_le (show 0 ≤ k by omega)
    exact lawP_SquarePicture k _ _ (fun w => spec_SquarePicture_yes k w (by omega) (by omega)) (fun w => impl_SquarePicture_yes k w (by omega) (by omega)) w
set_option maxRecDepth 8000 in
theorem impl_GnomonPicture_no (k : Int) (w : World) (h : k < 1 ∨ 24 < k) :
    Calls Try.prog 17 #[.int .i64 k] w fun e w' => e = .returned (.tuple #[.string ⟨#[]⟩, .bool false]) ∧ Below w.heap.size w w' := by
  have HC := Lib.hid fun V => side_any k V
  rw [betr_no h] at HC
  clear h
  go_enter Try.func17, Try.ntmps17
  go_wp2_with (go_at_call 20; refine (HC.out _).mono ?_; rintro e w1 ⟨rfl, rfl⟩)
  go_ret2
  exact ⟨rfl, (Below.refl _ _).alloc (Nat.le_refl _) _⟩
theorem text_gnomon (k : Nat) (k0 : 1 ≤ k) : sT k k (fun x y => inP k k x y && decide (max x y = (k : Int) - 1)) = gText k k (shD 103 k) := sT_of fun x y hx hy => by
  have hi := (inP_iff (W := k) (H := k) (x := (x : Int)) (y := (y : Int))).2 (by omega)
  rw [shD_at _ _ _ _ hx]
  simp only [hi, Bool.true_and]
  unfold shp
  rw [if_neg (by decide), if_pos rfl, Bool.eq_iff_iff, Bool.or_eq_true, decide_eq_true_iff, decide_eq_true_iff, decide_eq_true_iff]
  omega
set_option maxRecDepth 8000 in
theorem impl_GnomonPicture_yes (k : Nat) (w : World) (k0 : 1 ≤ k) (k1 : k ≤ 24) :
    Calls Try.prog 17 #[.int .i64 (k : Int)] w fun e w' => e = .returned (.tuple #[.string (bt (gText k k (shD 103 k))), .bool true]) ∧ Below w.heap.size w w' := by
  have HC := Lib.hid fun V => side_any (k : Int) V
  rw [betr_yes (by omega) (by omega)] at HC
  have q0 : (w.alloc (.cells #[.int .i64 (k : Int)] 3)).cell? ⟨w.heap.size, 0, none⟩ = some (.int .i64 (k : Int)) := by simp [go_sem]
  have HB := Lib.hid (show Below w.heap.size w (w.alloc (.cells #[.int .i64 (k : Int)] 3)) from (Below.refl _ _).alloc (Nat.le_refl _) _)
  have HS := Lib.hid (square_any k (k : Int) rfl 29 #[] #[.pointer (some ⟨w.heap.size, 0, none⟩)] (fun x y => decide (max x y = (k : Int) - 1)) (w.alloc (.cells #[.int .i64 (k : Int)] 3)) { cf := cf_gnomon1, dw := fun x y V' _ hg => gnomon1_any k w.heap.size x y V' (hg.cell q0 (by simp)) (by omega) } k0 (by omega))
  rw [← text_gnomon k k0]
  clear q0
  go_enter Try.func17, Try.ntmps17
  go_wp2_with (first
    | (go_at_call 20; refine (HC.out _).mono ?_; rintro e w1 ⟨rfl, rfl⟩)
    | (go_at_call 21; refine (HS.out).mono ?_; rintro e w1 ⟨rfl, hb1⟩))
  go_ret2
  exact ⟨rfl, HB.out.trans (hb1.mono HB.out.size)⟩
theorem walk_GnomonPicture (k : Int) (w : World) :
    Calls Try.prog 7 #[.int .i64 k] w fun e w' => e = .returned (.bool true) ∧ Below w.heap.size w w' := by
  by_cases h : k < 1 ∨ 24 < k
  · exact lawP_GnomonPicture k _ _ (fun w => spec_GnomonPicture_no k w h) (fun w => impl_GnomonPicture_no k w h) w
  · obtain ⟨k, rfl⟩ := Int.eq_ofNat_of_zero_le (show 0 ≤ k by omega)
    exact lawP_GnomonPicture k _ _ (fun w => spec_GnomonPicture_yes k w (by omega) (by omega)) (fun w => impl_GnomonPicture_yes k w (by omega) (by omega)) w
set_option maxRecDepth 8000 in
theorem impl_DiamondPicture_no (k : Int) (w : World) (h : k < 1 ∨ 12 < k) :
    Calls Try.prog 13 #[.int .i64 k] w fun e w' => e = .returned (.tuple #[.string ⟨#[]⟩, .bool false]) ∧ Below w.heap.size w w' := by
  have HC := Lib.hid fun V => mid_any k V
  rw [betr_no h] at HC
  clear h
  go_enter Try.func13, Try.ntmps13
  go_wp2_with (go_at_call 24; refine (HC.out _).mono ?_; rintro e w1 ⟨rfl, rfl⟩)
  go_ret2
  exact ⟨rfl, (Below.refl _ _).alloc (Nat.le_refl _) _⟩
theorem text_diamond (k : Nat) (k0 : 1 ≤ k) : sT (2 * k - 1) (2 * k - 1) (fun x y => inP (2 * k - 1) (2 * k - 1) x y && decide (far0 (x - ((k : Int) - 1)) + far0 (y - ((k : Int) - 1)) < (k : Int))) = gText (2 * k - 1) (2 * k - 1) (shD 100 (2 * k - 1)) := sT_of fun x y hx hy => by
  have hi := (inP_iff (W := (2 * k - 1)) (H := (2 * k - 1)) (x := (x : Int)) (y := (y : Int))).2 (by omega)
  rw [shD_at _ _ _ _ hx]
  simp only [hi, Bool.true_and]
  unfold shp
  have hh : ((2 * k - 1 : Nat) : Int) / 2 = (k : Int) - 1 := by omega
  rw [if_neg (by decide), if_neg (by decide), if_pos rfl, hh, Bool.eq_iff_iff, decide_eq_true_iff, decide_eq_true_iff]
  unfold far0
  omega
set_option maxRecDepth 8000 in
theorem impl_DiamondPicture_yes (k : Nat) (w : World) (k0 : 1 ≤ k) (k1 : k ≤ 12) :
    Calls Try.prog 13 #[.int .i64 (k : Int)] w fun e w' => e = .returned (.tuple #[.string (bt (gText (2 * k - 1) (2 * k - 1) (shD 100 (2 * k - 1)))), .bool true]) ∧ Below w.heap.size w w' := by
  have HC := Lib.hid fun V => mid_any (k : Int) V
  rw [betr_yes (by omega) (by omega)] at HC
  have q0 : (w.alloc (.cells #[.int .i64 (k : Int)] 3)).cell? ⟨w.heap.size, 0, none⟩ = some (.int .i64 (k : Int)) := by simp [go_sem]
  have HB := Lib.hid (show Below w.heap.size w (w.alloc (.cells #[.int .i64 (k : Int)] 3)) from (Below.refl _ _).alloc (Nat.le_refl _) _)
  have HS := Lib.hid (middled_any k 26 #[] #[.pointer (some ⟨w.heap.size, 0, none⟩)] (fun x y => decide (far0 x + far0 y < (k : Int))) (w.alloc (.cells #[.int .i64 (k : Int)] 3)) { cf := cf_diamond1, dz := fun x y V' hxy hg => diamond1_any k w.heap.size x y V' (hg.cell q0 (by simp)) (by omega) } k0 k1)
  rw [← text_diamond k k0]
  clear q0
  go_enter Try.func13, Try.ntmps13
  go_wp2_with (first
    | (go_at_call 24; refine (HC.out _).mono ?_; rintro e w1 ⟨rfl, rfl⟩)
    | (go_at_call 25; refine (HS.out).mono ?_; rintro e w1 ⟨rfl, hb1⟩))
  go_ret2
  exact ⟨rfl, HB.out.trans (hb1.mono HB.out.size)⟩
theorem walk_DiamondPicture (k : Int) (w : World) :
    Calls Try.prog 5 #[.int .i64 k] w fun e w' => e = .returned (.bool true) ∧ Below w.heap.size w w' := by
  by_cases h : k < 1 ∨ 12 < k
  · exact lawP_DiamondPicture k _ _ (fun w => spec_DiamondPicture_no k w h) (fun w => impl_DiamondPicture_no k w h) w
  · obtain ⟨k, rfl⟩ := Int.eq_ofNat_of_zero_le (show 0 ≤ k by omega)
    exact lawP_DiamondPicture k _ _ (fun w => spec_DiamondPicture_yes k w (by omega) (by omega)) (fun w => impl_DiamondPicture_yes k w (by omega) (by omega)) w
set_option maxRecDepth 8000 in
theorem impl_HexagonPicture_no (k : Int) (w : World) (h : k < 1 ∨ 12 < k) :
    Calls Try.prog 15 #[.int .i64 k] w fun e w' => e = .returned (.tuple #[.string ⟨#[]⟩, .bool false]) ∧ Below w.heap.size w w' := by
  have HC := Lib.hid fun V => mid_any k V
  rw [betr_no h] at HC
  clear h
  go_enter Try.func15, Try.ntmps15
  go_wp2_with (go_at_call 24; refine (HC.out _).mono ?_; rintro e w1 ⟨rfl, rfl⟩)
  go_ret2
  exact ⟨rfl, (Below.refl _ _).alloc (Nat.le_refl _) _⟩
theorem text_hexagon (k : Nat) (k0 : 1 ≤ k) : sT (2 * k - 1) (2 * k - 1) (fun x y => inP (2 * k - 1) (2 * k - 1) x y && decide (far0 (x - ((k : Int) - 1) + (y - ((k : Int) - 1))) < (k : Int))) = gText (2 * k - 1) (2 * k - 1) (shD 104 (2 * k - 1)) := sT_of fun x y hx hy => by
  have hi := (inP_iff (W := (2 * k - 1)) (H := (2 * k - 1)) (x := (x : Int)) (y := (y : Int))).2 (by omega)
  rw [shD_at _ _ _ _ hx]
  simp only [hi, Bool.true_and]
  unfold shp
  have hh : ((2 * k - 1 : Nat) : Int) / 2 = (k : Int) - 1 := by omega
  rw [if_neg (by decide), if_neg (by decide), if_neg (by decide), if_pos rfl, hh, Bool.eq_iff_iff, decide_eq_true_iff, decide_eq_true_iff]
  unfold far0
  omega
set_option maxRecDepth 8000 in
theorem impl_HexagonPicture_yes (k : Nat) (w : World) (k0 : 1 ≤ k) (k1 : k ≤ 12) :
    Calls Try.prog 15 #[.int .i64 (k : Int)] w fun e w' => e = .returned (.tuple #[.string (bt (gText (2 * k - 1) (2 * k - 1) (shD 104 (2 * k - 1)))), .bool true]) ∧ Below w.heap.size w w' := by
  have HC := Lib.hid fun V => mid_any (k : Int) V
  rw [betr_yes (by omega) (by omega)] at HC
  have q0 : (w.alloc (.cells #[.int .i64 (k : Int)] 3)).cell? ⟨w.heap.size, 0, none⟩ = some (.int .i64 (k : Int)) := by simp [go_sem]
  have HB := Lib.hid (show Below w.heap.size w (w.alloc (.cells #[.int .i64 (k : Int)] 3)) from (Below.refl _ _).alloc (Nat.le_refl _) _)
  have HS := Lib.hid (middled_any k 28 #[] #[.pointer (some ⟨w.heap.size, 0, none⟩)] (fun x y => decide (far0 (x + y) < (k : Int))) (w.alloc (.cells #[.int .i64 (k : Int)] 3)) { cf := cf_hexagon1, dz := fun x y V' hxy hg => hexagon1_any k w.heap.size x y V' (hg.cell q0 (by simp)) (by omega) } k0 k1)
  rw [← text_hexagon k k0]
  clear q0
  go_enter Try.func15, Try.ntmps15
  go_wp2_with (first
    | (go_at_call 24; refine (HC.out _).mono ?_; rintro e w1 ⟨rfl, rfl⟩)
    | (go_at_call 25; refine (HS.out).mono ?_; rintro e w1 ⟨rfl, hb1⟩))
  go_ret2
  exact ⟨rfl, HB.out.trans (hb1.mono HB.out.size)⟩
theorem walk_HexagonPicture (k : Int) (w : World) :
    Calls Try.prog 6 #[.int .i64 k] w fun e w' => e = .returned (.bool true) ∧ Below w.heap.size w w' := by
  by_cases h : k < 1 ∨ 12 < k
  · exact lawP_HexagonPicture k _ _ (fun w => spec_HexagonPicture_no k w h) (fun w => impl_HexagonPicture_no k w h) w
  · obtain ⟨k, rfl⟩ := Int.eq_ofNat_of_zero_le (show 0 ≤ k by omega)
    exact lawP_HexagonPicture k _ _ (fun w => spec_HexagonPicture_yes k w (by omega) (by omega)) (fun w => impl_HexagonPicture_yes k w (by omega) (by omega)) w
end Go.Proofs.Ytbcgidgjdedkiaa
