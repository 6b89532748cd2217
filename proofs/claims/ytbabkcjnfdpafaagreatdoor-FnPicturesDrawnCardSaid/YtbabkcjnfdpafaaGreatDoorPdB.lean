/- Chapter 7's law of pictures drawn: what every function that it calls answers, one statement a function, said of the text's bytes. Condition, by the program where it reads a picture: the library's variable of internal/bytealg holds some number. -/
import Derived.Test.YtbabkcjnfdpafaaGreatDoorPdA
import Derived.Test.YtbabkcjnfdpafaaGreatDoorPtB
import Derived.Test.YtbabkcjnfdpafaaGreatDoorDvE
import Derived.Test.YtbabkcjnfdpafaaGreatDoorDvH
import Derived.Test.YtbabkcjnfdpafaaGreatDoorDvK
import Derived.Test.YtbabkcjnfdpafaaGreatDoorMc
import Derived.Test.YtbabkcjnfdpafaaGreatDoorDtY
import Derived.Test.YtbabkcjnfdpafaaGreatDoorMe
namespace Go.Proofs.YtbabkcjnfdpafaaGreatDoor
open Go.ChangeShapes Go.WideShapes Go.ChangeAt Go.RowKit

def trB (k : Int) : Bool := decide (1 ≤ k ∧ k ≤ 24)
def dmB (k : Int) : Bool := decide (1 ≤ k ∧ k ≤ 12)
def shL (c : Nat) (k : Int) : List UInt8 := bif trB k then gText k.toNat k.toNat (shD c k.toNat) else []
def dhL (c : Nat) (k : Int) : List UInt8 := bif dmB k then gText (2 * k.toNat - 1) (2 * k.toNat - 1) (shD c (2 * k.toNat - 1)) else []

theorem spec_TrianglePicture_L (k : Int) (w : World) : Calls Tryz.prog 8 #[.int .i64 k] w fun e w' => e = .returned (.tuple #[.string (bt (shL 116 k)), .bool (trB k)]) ∧ Below w.heap.size w w' := by
  by_cases h : 1 ≤ k ∧ k ≤ 24
  · obtain ⟨m, rfl⟩ := Int.eq_ofNat_of_zero_le (show 0 ≤ k by omega)
    have e : trB (m : Int) = true := by rw [trB, decide_eq_true_eq]; exact h
    rw [shL, e, cond_true, Int.toNat_natCast]
    exact spec_TrianglePicture_yes m w (by omega) (by omega)
  · have e : trB k = false := by rw [trB, decide_eq_false_iff_not]; exact h
    rw [shL, e, cond_false]
    exact spec_TrianglePicture_no k w (by omega)

theorem spec_SquarePicture_L (k : Int) (w : World) : Calls Tryz.prog 10 #[.int .i64 k] w fun e w' => e = .returned (.tuple #[.string (bt (shL 115 k)), .bool (trB k)]) ∧ Below w.heap.size w w' := by
  by_cases h : 1 ≤ k ∧ k ≤ 24
  · obtain ⟨m, rfl⟩ := Int.eq_ofNat_of_zero_le (show 0 ≤ k by omega)
    have e : trB (m : Int) = true := by rw [trB, decide_eq_true_eq]; exact h
    rw [shL, e, cond_true, Int.toNat_natCast]
    exact spec_SquarePicture_yes m w (by omega) (by omega)
  · have e : trB k = false := by rw [trB, decide_eq_false_iff_not]; exact h
    rw [shL, e, cond_false]
    exact spec_SquarePicture_no k w (by omega)

theorem spec_GnomonPicture_L (k : Int) (w : World) : Calls Tryz.prog 16 #[.int .i64 k] w fun e w' => e = .returned (.tuple #[.string (bt (shL 103 k)), .bool (trB k)]) ∧ Below w.heap.size w w' := by
  by_cases h : 1 ≤ k ∧ k ≤ 24
  · obtain ⟨m, rfl⟩ := Int.eq_ofNat_of_zero_le (show 0 ≤ k by omega)
    have e : trB (m : Int) = true := by rw [trB, decide_eq_true_eq]; exact h
    rw [shL, e, cond_true, Int.toNat_natCast]
    exact spec_GnomonPicture_yes m w (by omega) (by omega)
  · have e : trB k = false := by rw [trB, decide_eq_false_iff_not]; exact h
    rw [shL, e, cond_false]
    exact spec_GnomonPicture_no k w (by omega)

theorem spec_DiamondPicture_L (k : Int) (w : World) : Calls Tryz.prog 12 #[.int .i64 k] w fun e w' => e = .returned (.tuple #[.string (bt (dhL 100 k)), .bool (dmB k)]) ∧ Below w.heap.size w w' := by
  by_cases h : 1 ≤ k ∧ k ≤ 12
  · obtain ⟨m, rfl⟩ := Int.eq_ofNat_of_zero_le (show 0 ≤ k by omega)
    have e : dmB (m : Int) = true := by rw [dmB, decide_eq_true_eq]; exact h
    rw [dhL, e, cond_true, Int.toNat_natCast]
    exact spec_DiamondPicture_yes m w (by omega) (by omega)
  · have e : dmB k = false := by rw [dmB, decide_eq_false_iff_not]; exact h
    rw [dhL, e, cond_false]
    exact spec_DiamondPicture_no k w (by omega)

theorem spec_HexagonPicture_L (k : Int) (w : World) : Calls Tryz.prog 14 #[.int .i64 k] w fun e w' => e = .returned (.tuple #[.string (bt (dhL 104 k)), .bool (dmB k)]) ∧ Below w.heap.size w w' := by
  by_cases h : 1 ≤ k ∧ k ≤ 12
  · obtain ⟨m, rfl⟩ := Int.eq_ofNat_of_zero_le (show 0 ≤ k by omega)
    have e : dmB (m : Int) = true := by rw [dmB, decide_eq_true_eq]; exact h
    rw [dhL, e, cond_true, Int.toNat_natCast]
    exact spec_HexagonPicture_yes m w (by omega) (by omega)
  · have e : dmB k = false := by rw [dmB, decide_eq_false_iff_not]; exact h
    rw [dhL, e, cond_false]
    exact spec_HexagonPicture_no k w (by omega)

theorem spec_BorderDots_L (l : List UInt8) (w : World) (hl : l.length ≤ 1048576) : Calls Tryz.prog 27 #[.string (bt l)] w fun e w' => e = .returned (.tuple #[.string (bt (boL l)), .bool (isPic l)]) ∧ Below w.heap.size w w' := by
  have hz : (bt l).size ≤ 2000000 := by rw [bt_size]; omega
  cases h : isPic l with
  | true =>
    have q := spec_BorderDots_yes (bt l) _ _ _ _ w (isP_of (bt l) hz (by rw [bt_list]; exact h))
    simp only [bt_list] at q
    rw [boL, h, cond_true]
    exact q
  | false =>
    rw [boL, h, cond_false]
    exact spec_BorderDots_no (bt l) w hz (by rw [bt_list]; exact h)

theorem spec_TakeBorder_L (l : List UInt8) (w : World) (hl : l.length ≤ 1048576) : Calls Tryz.prog 29 #[.string (bt l)] w fun e w' => e = .returned (.tuple #[.string (bt (taL l)), .bool (isPic l)]) ∧ Below w.heap.size w w' := by
  have hz : (bt l).size ≤ 2000000 := by rw [bt_size]; omega
  cases h : isPic l with
  | true =>
    have q := spec_TakeBorder_yes (bt l) _ _ _ _ w (isP_of (bt l) hz (by rw [bt_list]; exact h))
    simp only [bt_list] at q
    rw [taL, h, cond_true]
    exact q
  | false =>
    rw [taL, h, cond_false]
    exact spec_TakeBorder_no (bt l) w hz (by rw [bt_list]; exact h)

theorem spec_LayersOfPicture_L (l : List UInt8) (w : World) (hl : l.length ≤ 1048576) : Calls Tryz.prog 25 #[.string (bt l)] w (ResI (isPic l) (lyL l) w) := by
  have hz : (bt l).size ≤ 2000000 := by rw [bt_size]; omega
  cases h : isPic l with
  | true =>
    have q := spec_LayersOfPicture_yes (bt l) _ _ _ _ w (isP_of (bt l) hz (by rw [bt_list]; exact h))
    simp only [bt_list] at q
    rw [lyL, h, cond_true]
    exact q
  | false =>
    rw [lyL, h, cond_false]
    exact (spec_LayersOfPicture_no (bt l) w hz (by rw [bt_list]; exact h)).mono fun e w' ⟨he, hb⟩ => ⟨none, 0, he, Own.none_, hb⟩

theorem spec_PiecesOfPicture_L (l : List UInt8) (w : World) (hl : l.length ≤ 1048576) : Calls Tryz.prog 31 #[.string (bt l)] w (ResT (isPic l) (peL l) w) := by
  have hz : (bt l).size ≤ 2000000 := by rw [bt_size]; omega
  cases h : isPic l with
  | true =>
    have q := spec_PiecesOfPicture_yes (bt l) _ _ _ _ w (isP_of (bt l) hz (by rw [bt_list]; exact h))
    simp only [bt_list] at q
    rw [peL, h, cond_true]
    exact q
  | false =>
    rw [peL, h, cond_false]
    exact (spec_PiecesOfPicture_no (bt l) w hz (by rw [bt_list]; exact h)).mono fun e w' ⟨he, hb⟩ => ⟨none, 0, he, Own.none_, hb⟩

theorem impl_TrianglePicture_L (k : Int) (w : World) : Calls Tryz.prog 7 #[.int .i64 k] w fun e w' => e = .returned (.tuple #[.string (bt (shL 116 k)), .bool (trB k)]) ∧ Below w.heap.size w w' := by
  by_cases h : 1 ≤ k ∧ k ≤ 24
  · obtain ⟨m, rfl⟩ := Int.eq_ofNat_of_zero_le (show 0 ≤ k by omega)
    have e : trB (m : Int) = true := by rw [trB, decide_eq_true_eq]; exact h
    rw [shL, e, cond_true, Int.toNat_natCast]
    exact impl_TrianglePicture_yes m w (by omega) (by omega)
  · have e : trB k = false := by rw [trB, decide_eq_false_iff_not]; exact h
    rw [shL, e, cond_false]
    exact impl_TrianglePicture_no k w (by omega)

theorem impl_SquarePicture_L (k : Int) (w : World) : Calls Tryz.prog 9 #[.int .i64 k] w fun e w' => e = .returned (.tuple #[.string (bt (shL 115 k)), .bool (trB k)]) ∧ Below w.heap.size w w' := by
  by_cases h : 1 ≤ k ∧ k ≤ 24
  · obtain ⟨m, rfl⟩ := Int.eq_ofNat_of_zero_le (show 0 ≤ k by omega)
    have e : trB (m : Int) = true := by rw [trB, decide_eq_true_eq]; exact h
    rw [shL, e, cond_true, Int.toNat_natCast]
    exact impl_SquarePicture_yes m w (by omega) (by omega)
  · have e : trB k = false := by rw [trB, decide_eq_false_iff_not]; exact h
    rw [shL, e, cond_false]
    exact impl_SquarePicture_no k w (by omega)

theorem impl_GnomonPicture_L (k : Int) (w : World) : Calls Tryz.prog 15 #[.int .i64 k] w fun e w' => e = .returned (.tuple #[.string (bt (shL 103 k)), .bool (trB k)]) ∧ Below w.heap.size w w' := by
  by_cases h : 1 ≤ k ∧ k ≤ 24
  · obtain ⟨m, rfl⟩ := Int.eq_ofNat_of_zero_le (show 0 ≤ k by omega)
    have e : trB (m : Int) = true := by rw [trB, decide_eq_true_eq]; exact h
    rw [shL, e, cond_true, Int.toNat_natCast]
    exact impl_GnomonPicture_yes m w (by omega) (by omega)
  · have e : trB k = false := by rw [trB, decide_eq_false_iff_not]; exact h
    rw [shL, e, cond_false]
    exact impl_GnomonPicture_no k w (by omega)

theorem impl_DiamondPicture_L (k : Int) (w : World) : Calls Tryz.prog 11 #[.int .i64 k] w fun e w' => e = .returned (.tuple #[.string (bt (dhL 100 k)), .bool (dmB k)]) ∧ Below w.heap.size w w' := by
  by_cases h : 1 ≤ k ∧ k ≤ 12
  · obtain ⟨m, rfl⟩ := Int.eq_ofNat_of_zero_le (show 0 ≤ k by omega)
    have e : dmB (m : Int) = true := by rw [dmB, decide_eq_true_eq]; exact h
    rw [dhL, e, cond_true, Int.toNat_natCast]
    exact impl_DiamondPicture_yes m w (by omega) (by omega)
  · have e : dmB k = false := by rw [dmB, decide_eq_false_iff_not]; exact h
    rw [dhL, e, cond_false]
    exact impl_DiamondPicture_no k w (by omega)

theorem impl_HexagonPicture_L (k : Int) (w : World) : Calls Tryz.prog 13 #[.int .i64 k] w fun e w' => e = .returned (.tuple #[.string (bt (dhL 104 k)), .bool (dmB k)]) ∧ Below w.heap.size w w' := by
  by_cases h : 1 ≤ k ∧ k ≤ 12
  · obtain ⟨m, rfl⟩ := Int.eq_ofNat_of_zero_le (show 0 ≤ k by omega)
    have e : dmB (m : Int) = true := by rw [dmB, decide_eq_true_eq]; exact h
    rw [dhL, e, cond_true, Int.toNat_natCast]
    exact impl_HexagonPicture_yes m w (by omega) (by omega)
  · have e : dmB k = false := by rw [dmB, decide_eq_false_iff_not]; exact h
    rw [dhL, e, cond_false]
    exact impl_HexagonPicture_no k w (by omega)

theorem impl_BorderDots_L (l : List UInt8) (w : World) (hl : l.length ≤ 1048576) (hM : MaxL w) : Calls Tryz.prog 26 #[.string (bt l)] w fun e w' => e = .returned (.tuple #[.string (bt (boL l)), .bool (isPic l)]) ∧ Below w.heap.size w w' := by
  have hz : (bt l).size ≤ 2000000 := by rw [bt_size]; omega
  cases h : isPic l with
  | true =>
    have q := impl_BorderDots_yes (bt l) w hz hM (by rw [bt_list]; exact h)
    simp only [bt_list] at q
    rw [boL, h, cond_true]
    exact q
  | false =>
    rw [boL, h, cond_false]
    exact impl_BorderDots_no (bt l) w hz hM (by rw [bt_list]; exact h)

theorem impl_TakeBorder_L (l : List UInt8) (w : World) (hl : l.length ≤ 1048576) (hM : MaxL w) : Calls Tryz.prog 28 #[.string (bt l)] w fun e w' => e = .returned (.tuple #[.string (bt (taL l)), .bool (isPic l)]) ∧ Below w.heap.size w w' := by
  have hz : (bt l).size ≤ 2000000 := by rw [bt_size]; omega
  cases h : isPic l with
  | true =>
    have q := impl_TakeBorder_yes (bt l) w hz hM (by rw [bt_list]; exact h)
    simp only [bt_list] at q
    rw [taL, h, cond_true]
    exact q
  | false =>
    rw [taL, h, cond_false]
    exact impl_TakeBorder_no (bt l) w hz hM (by rw [bt_list]; exact h)

theorem impl_LayersOfPicture_L (l : List UInt8) (w : World) (hl : l.length ≤ 1048576) (hM : MaxL w) : Calls Tryz.prog 24 #[.string (bt l)] w (ResI (isPic l) (lyL l) w) := by
  have hz : (bt l).size ≤ 2000000 := by rw [bt_size]; omega
  cases h : isPic l with
  | true =>
    have q := impl_LayersOfPicture_yes (bt l) w hz hM (by rw [bt_list]; exact h)
    simp only [bt_list] at q
    rw [lyL, h, cond_true]
    exact q
  | false =>
    rw [lyL, h, cond_false]
    exact impl_LayersOfPicture_no (bt l) w hz hM (by rw [bt_list]; exact h)

theorem impl_PiecesOfPicture_L (l : List UInt8) (w : World) (hl : l.length ≤ 1048576) (hM : MaxL w) : Calls Tryz.prog 30 #[.string (bt l)] w (ResT (isPic l) (peL l) w) := by
  have hz : (bt l).size ≤ 2000000 := by rw [bt_size]; omega
  cases h : isPic l with
  | true =>
    have q := impl_PiecesOfPicture_yes (bt l) w hz hM (by rw [bt_list]; exact h)
    simp only [bt_list] at q
    rw [peL, h, cond_true]
    exact q
  | false =>
    rw [peL, h, cond_false]
    exact impl_PiecesOfPicture_no (bt l) w hz hM (by rw [bt_list]; exact h)

theorem resC_of {w w' : World} {v : Value} {xs : List Int} {base : Nat} (h : w'.ownsRow base 3 1 v xs.length (i64s xs)) (hB : w.heap.size ≤ base) (hb : Below w.heap.size w w') : ResC true xs w (.returned (.tuple #[v, .bool true])) w' := by
  obtain ⟨A, c, rfl⟩ := row_form h
  exact ⟨A, c, row_cap h, rfl, (own_of_row h).wide hB (Nat.le_refl _), hb⟩
set_option maxRecDepth 8000 in
set_option maxHeartbeats 3200000 in
theorem impl_LayersOfPicture_cap (s : ByteArray) (w : World) (hs : s.size ≤ 2000000) (hM : MaxL w) (hp : isPic s.data.toList = true) :
    Calls Tryz.prog 24 #[.string s] w (ResC true (lys (pW s.data.toList) (pH s.data.toList) (pW s.data.toList * pH s.data.toList + 1) (pD s.data.toList)) w) := by
  have HRR := Lib.hid (readPicture_yes s w hs hM hp)
  have pa := pic_b hp
  obtain ⟨a0, a1, a2, a3⟩ : 1 ≤ pW s.data.toList ∧ pW s.data.toList ≤ 24 ∧ 1 ≤ pH s.data.toList ∧ pH s.data.toList ≤ 24 := ⟨pa.w0, pa.w1, pa.h0, pa.h1⟩
  clear hM hp pa
  generalize pW s.data.toList = W at *
  generalize pH s.data.toList = H at *
  generalize pD s.data.toList = d at *
  have hn2 : W * H ≤ 2500 := Nat.mul_le_mul (n₁ := W) (n₂ := 50) (m₁ := H) (m₂ := 50) (by omega) (by omega)
  have HLE := Lib.hid fun f d (h : cnt (brd W H d) (W * H) = 0) => lys_end W H f d h
  have HLM := Lib.hid fun f d (h : ¬ cnt (brd W H d) (W * H) = 0) => lys_more W H f d h
  have HCT := Lib.hid fun d => cnt_tkn W H d (W * H)
  have HCN := Lib.hid fun d => cnt_le d (W * H)
  have HBS := Lib.hid fun d => brd_some W H d
  have HCG := Lib.hid fun d => cnt_gS W H d
  have HBD := Lib.hid fun d => gS_bd W H d
  have HBR := Lib.hid fun d x y => brd_set W H d x y
  have HTK := Lib.hid fun d x y => tkn_set W H d x y
  obtain ⟨n, hn⟩ : ∃ n, n = W * H := ⟨_, rfl⟩
  have HN := Lib.hid hn
  rw [← hn] at HLE HLM HCT HCN HBS hn2
  obtain ⟨L, hL⟩ : ∃ L, L = lys W H (W * H + 1) d := ⟨_, rfl⟩
  rw [← hL]
  rw [← hn] at hL
  have HL := Lib.hid hL
  clear hn hL
  go_enter Tryz.func24, Tryz.ntmps24
  go_wp2_with (go_at_call 51; refine (HRR.out).mono ?_; rintro e w1 ⟨⟨c, rfl, hcl, hd⟩, hb1⟩)
  have k0 : (w1.alloc (.cells #[.int .i64 (W : Int), .int .i64 (H : Int), .map (some c)] 57)).cell? ⟨w1.heap.size, 2, none⟩ = some (.map (some c)) := by simp [go_sem]
  have HD := Lib.hid (hd.alloc (.cells #[.int .i64 (W : Int), .int .i64 (H : Int), .map (some c)] 57))
  have HB := Lib.hid (hb1.alloc hb1.size (.cells #[.int .i64 (W : Int), .int .i64 (H : Int), .map (some c)] 57))
  have hcl2 : c < w1.heap.size := hd.lt
  have hz : (w1.alloc (.cells #[.int .i64 (W : Int), .int .i64 (H : Int), .map (some c)] 57)).heap.size = w1.heap.size + 1 := by simp
  have hw1 := hb1.size
  generalize w1.alloc (.cells #[.int .i64 (W : Int), .int .i64 (H : Int), .map (some c)] 57) = w2 at *
  generalize w1.heap.size = k at *
  have HG : Hid (w2.ownsRow (k + 1) 3 1 (.slice none 0 0) ([] : List Int).length (i64s [])) := Lib.hid (World.ownsRow_nil _ _ _ _)
  clear hd hb1
  go_loopw [6, 7] (fun v _ wr => ∃ (xs : List Int) (f : Nat) (e : Nat → Bool), L = xs ++ lys W H f e ∧ xs.length + f = n + 1 ∧ cnt e n < f ∧ Hid (Ds wr c (gS W H e)) ∧ wr.cell? ⟨k, 2, none⟩ = some (.map (some c)) ∧ Hid (wr.ownsRow (k + 1) 3 1 v xs.length (i64s xs)) ∧ Hid (Below w.heap.size w wr) ∧ k + 1 ≤ wr.heap.size) (fun v _ _ => n + 1 - lenV v)
  case atStart => exact ⟨[], n + 1, d, by rw [HL.out]; rfl, by simp, by have := HCN.out d; omega, HD, k0, HG, HB, by omega⟩
  case round =>
    obtain ⟨xs, f, e, hL, hlen, hcf, hd, hk, hG, hb, hS⟩ := hrel
    clear HD HG HB k0
    obtain ⟨A, cc, rfl⟩ := row_form hG.out
    by_cases hc0 : cnt e n = 0
    · have HF : Hid (L = xs) := Lib.hid (by rw [hL, HLE.out f e (by have := HCT.out e; omega), List.append_nil])
      have hcz : ((cnt (sD W (gS W H e)) (W * H) : Nat) : Int) = 0 := by rw [HCG.out, ← HN.out]; omega
      clear hL
      go_wp2_with (at_len; refine dots_len vkey _ rfl _ 55 96 rfl Tryz.underlying55 c W H _ rfl hd.out (HBD.out e) ?_; rw [hcz])
      go_ret2
      rw [HF.out]
      exact resC_of hG.out (by omega) hb.out
    · have hcz : ∃ q : Nat, cnt (sD W (gS W H e)) (W * H) = q + 1 := ⟨cnt e n - 1, by rw [HCG.out, ← HN.out]; omega⟩
      obtain ⟨q1, hcz⟩ := hcz
      have hcz : cnt (sD W (gS W H e)) (W * H) = q1 + 1 := hcz
      obtain ⟨f, rfl⟩ : ∃ f', f = f' + 1 := ⟨f - 1, by omega⟩
      have hq0 : ¬ cnt (brd W H e) n = 0 := fun h => hc0 (HBS.out e h)
      have HF : Hid (L = (xs ++ [(cnt (brd W H e) n : Int)]) ++ lys W H f (tkn W H e)) := Lib.hid (by rw [hL, HLM.out f e hq0]; simp)
      have HCE := HCT.out e
      have hxl : xs.length ≤ 100000 := by omega
      have hqe : cnt (sD W (gS W H (brd W H e))) (W * H) = cnt (brd W H e) n := by rw [HCG.out, ← HN.out]
      have HQE := Lib.hid hqe
      have hgt : ((q1 + 1 : Nat) : Int) > 0 := by omega
      clear hL hqe
      go_wp2_with (first
        | (at_len; refine dots_len vkey _ rfl _ 55 96 rfl Tryz.underlying55 c W H _ rfl hd.out (HBD.out e) ?_; rw [hcz])
        | (go_at_call 62; refine (border_any c _ wr hd.out).mono ?_; rintro ending w3 ⟨⟨c2, rfl, hc2, hd2⟩, hb3⟩; have HD2 := Lib.hid (hd2.congr (HBR.out e)); have HD3 := Lib.hid (hd.out.below hb3); have k3 := (hb3.cell (p := ⟨k, 2, none⟩) (by simp; omega)).trans hk; have HG3 := Lib.hid (hG.out.kept (grown_of_below hb3 (Nat.le_refl _)) (by have := Classical.em ((Value.slice A xs.length cc).ownBlock = none); simp; exact this)); have HB3 := Lib.hid (hb.out.trans (hb3.mono hb.out.size)); have hz3 : wr.heap.size ≤ w3.heap.size := hb3.size; clear hd2 hb3))
      refine (drop_any c c2 _ _ w3 HD3.out HD2.out (by omega)).mono ?_
      rintro ending w4 ⟨rfl, hd4, hg4⟩
      have HD4 := Lib.hid (show Ds w4 c (gS W H (tkn W H e)) from hd4.congr fun x y => by rw [show dS (gS W H e) (gS W H (brd W H e)) x y = dS (gS W H e) (bS (gS W H e)) x y by unfold dS; rw [HBR.out]]; exact HTK.out e x y)
      have HD5 := Lib.hid (HD2.out.kept hg4 (by simp; omega))
      have k4 := (hg4.cell k3 (by simp; omega))
      have HG4 := Lib.hid (HG3.out.kept hg4 (.inr fun e => by have h1 := HG3.out.lt _ e; omega))
      have HB4 := Lib.hid (HB3.out.grown hg4 (by omega) fun j hj => by cases hj; omega)
      have hz4 : w3.heap.size ≤ w4.heap.size := hg4.size
      clear hd4 hg4 HB3 HG3 k3 HD2 HD3
      go_wp2_with (first
        | (at_len; refine dots_len vkey _ rfl _ 55 96 rfl Tryz.underlying55 c2 W H _ rfl HD5.out (HBD.out _) ?_; rw [HQE.out])
        | (at_builtin; refine app_num (k + 1) _ rfl _ _ rfl _ _ rfl HG4.out (by omega) _ rfl hxl ?_; intro v' w5 hG5 hg5))
      have HX : Hid (∀ j, Value.ownBlock (.slice A xs.length cc) = some j → k + 1 ≤ j) := Lib.hid fun j hj => (HG4.out.lt j hj).1
      have HD6 := Lib.hid (HD4.out.kept (hg5) fun e => by have := HX.out _ e.symm; omega)
      have k5 := hg5.cell k4 (fun e => absurd (HX.out _ e.symm) (by simp))
      have HB5 := Lib.hid (HB4.out.grown hg5 (by omega) fun j hj => by have := HX.out j hj; omega)
      have hz5 : k + 1 ≤ w5.heap.size := Nat.le_trans (by omega) hg5.size
      obtain ⟨A', cc', rfl⟩ := row_form hG5
      refine ⟨⟨xs ++ [(cnt (brd W H e) n : Int)], f, tkn W H e, HF.out, by simp; omega, by omega, HD6, k5, Lib.hid hG5, HB5, hz5⟩, ?_⟩
      simp [lenV]
      omega
theorem impl_LayersOfPicture_C (l : List UInt8) (w : World) (hl : l.length ≤ 1048576) (hM : MaxL w) : Calls Tryz.prog 24 #[.string (bt l)] w (ResC (isPic l) (lyL l) w) := by
  have hz : (bt l).size ≤ 2000000 := by rw [bt_size]; omega
  cases h : isPic l with
  | true =>
    have q := impl_LayersOfPicture_cap (bt l) w hz hM (by rw [bt_list]; exact h)
    simp only [bt_list] at q
    rw [lyL, h, cond_true]
    exact q
  | false =>
    rw [lyL, h, cond_false]
    exact (impl_LayersOfPicture_no (bt l) w hz hM (by rw [bt_list]; exact h)).mono fun e w' r => resC_nil r

set_option maxHeartbeats 800000 in
theorem hTexts_b (A B : Option Addr) (n c d l1 h1 l2 h2 : Nat) (xs : List (List UInt8)) (w : World) (hn : xs.length = n) (hm : n ≤ 1000000000)
    (ha : Own w l1 h1 A (strs xs)) (hb : Own w l2 h2 B (strs xs)) :
    Calls Tryz.prog 34 #[.slice A n c, .slice B n d] w fun e w' => e = .returned (.bool true) ∧ Below w.heap.size w w' := by
  have HA := Lib.hid ha
  have HB := Lib.hid hb
  have HN := Lib.hid hn
  clear ha hb hn
  go_enter Tryz.func34, Tryz.ntmps34
  go_wp2
  go_loopw [13] (fun i wr => ∃ k q : Nat, k ≤ n ∧ i = .int .i64 k ∧ wr = w.drewN q) (fun i _ => n - (intOf i).toNat)
  case atStart => exact ⟨0, 0, Nat.zero_le _, rfl, rfl⟩
  case round =>
    obtain ⟨k, q, hk, rfl, rfl⟩ := hrel
    by_cases hlt : k < n
    · obtain ⟨g, o, rfl, _, _, hca, _⟩ := HA.out.at_ (k := k) (by simp [strs, HN.out]; omega)
      obtain ⟨g', o', rfl, _, _, hcb, _⟩ := HB.out.at_ (k := k) (by simp [strs, HN.out]; omega)
      have hcx : w.cell? ⟨g, o + k, none⟩ = some (.string (bt (xs[k]'(by rw [HN.out]; exact hlt)))) := by simpa [strs] using hca
      have hcy : w.cell? ⟨g', o' + k, none⟩ = some (.string (bt (xs[k]'(by rw [HN.out]; exact hlt)))) := by simpa [strs] using hcb
      generalize xs[k]'(by rw [HN.out]; exact hlt) = z at hcx hcy
      clear hca hcb
      have hi : (k : Int) < (n : Int) := by omega
      go_wp2
      go_quiet (fail)
      go_wp2
      go_roundw
      case rel => exact ⟨k + 1, _, by omega, by go_num, rfl⟩
      case measure => simp [intOf]; omega
    · go_wp2
      go_ret
      exact ⟨rfl, below_drewN (Below.refl _ _) _⟩
end Go.Proofs.YtbabkcjnfdpafaaGreatDoor
