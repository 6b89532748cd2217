/- Chapter 7: IsPicture, CountDots, SizeOfPicture, by the program. -/
import Derived.Test.YtbabkcjnfdpafaaGreatDoorDuW
namespace Go.Proofs.YtbabkcjnfdpafaaGreatDoor
open Go.ChangeShapes Go.WideShapes Go.ChangeAt Go.RowKit Go.Maps

theorem cntB_tx (W : Nat) (d : Nat → Bool) (k : Nat) : cntB (txP W d k) = cnt d k := by
  induction k with
  | zero => rfl
  | succ k ih =>
    rw [cnt_succ, ← ih, txP]
    unfold cntB
    rw [List.countP_append, List.countP_append]
    have e1 : List.countP (· == 111) (if k % W = 0 ∧ 0 < k / W then [(47 : UInt8)] else []) = 0 := by split <;> rfl
    have e2 : List.countP (· == 111) [sgn (d k)] = if d k = true then 1 else 0 := by cases d k <;> rfl
    rw [e1, e2]
    rfl
theorem cnt_congr {f g : Nat → Bool} {n : Nat} (h : ∀ i, i < n → f i = g i) : cnt f n = cnt g n := by
  induction n with
  | zero => rfl
  | succ n ih => rw [cnt_succ, cnt_succ, ih (fun i hi => h i (by omega)), h n (by omega)]
theorem pic_cnt {l : List UInt8} (h : isPic l = true) : cntB l = cnt (sD (pW l) (gS (pW l) (pH l) (pD l))) (pW l * pH l) := by
  rw [cnt_congr (fun i hi => sD_gS (pD l) hi)]
  have hb := pic_b h
  have e := txP_all (pW l) (pH l) (pD l) hb.w0
  rw [pic_text h] at e
  rw [← cntB_tx (pW l), e]
set_option maxRecDepth 8000 in
theorem impl_IsPicture (s : ByteArray) (w : World) (hs : s.size ≤ 2000000) (hM : MaxL w) :
    Calls Tryz.prog 35 #[.string s] w fun e w' => e = .returned (.bool (isPic s.data.toList)) ∧ Below w.heap.size w w' := by
  cases hp : isPic s.data.toList with
  | true =>
    have HR := Lib.hid (readPicture_yes s w hs hM hp)
    clear hM hp
    go_enter Tryz.func35, Tryz.ntmps35
    go_wp2_with (go_at_call 51; refine (HR.out).mono ?_; rintro e w1 ⟨⟨c, rfl, _, _⟩, hb1⟩)
    go_ret
    exact ⟨rfl, hb1.alloc hb1.size _⟩
  | false =>
    have HR := Lib.hid (readPicture_no s w hs hM hp)
    clear hM hp
    go_enter Tryz.func35, Tryz.ntmps35
    go_wp2_with (go_at_call 51; refine (HR.out).mono ?_; rintro e w1 ⟨rfl, hb1⟩)
    go_ret
    exact ⟨rfl, hb1.alloc hb1.size _⟩
set_option maxRecDepth 8000 in
theorem impl_CountDots_yes (s : ByteArray) (w : World) (hs : s.size ≤ 2000000) (hM : MaxL w) (hp : isPic s.data.toList = true) :
    Calls Tryz.prog 17 #[.string s] w fun e w' => e = .returned (.tuple #[.int .i64 (cntB s.data.toList : Int), .bool true]) ∧ Below w.heap.size w w' := by
  have HR := Lib.hid (readPicture_yes s w hs hM hp)
  have HB := Lib.hid (gS_bd (pW s.data.toList) (pH s.data.toList) (pD s.data.toList))
  have HC := Lib.hid (pic_cnt hp)
  rw [HC.out]
  clear hM hp HC
  generalize pW s.data.toList = W at *
  generalize pH s.data.toList = H at *
  generalize gS W H (pD s.data.toList) = S at *
  go_enter Tryz.func17, Tryz.ntmps17
  go_wp2_with (first
    | (go_at_call 51; refine (HR.out).mono ?_; rintro e w1 ⟨⟨c, rfl, _, hd⟩, hb1⟩; have HD := Lib.hid (hd.alloc (.cells #[.int .i64 (W : Int), .int .i64 (H : Int), .map (some c)] 57)); clear hd)
    | (at_len; refine dots_len vkey _ rfl _ 55 96 rfl Tryz.underlying55 c W H _ rfl HD.out HB.out ?_))
  go_ret2
  exact ⟨rfl, hb1.alloc hb1.size _⟩
set_option maxRecDepth 8000 in
theorem impl_CountDots_no (s : ByteArray) (w : World) (hs : s.size ≤ 2000000) (hM : MaxL w) (hp : isPic s.data.toList = false) :
    Calls Tryz.prog 17 #[.string s] w fun e w' => e = .returned (.tuple #[.int .i64 0, .bool false]) ∧ Below w.heap.size w w' := by
  have HR := Lib.hid (readPicture_no s w hs hM hp)
  clear hM hp
  have hln : ∀ (V : World) ty, (Builtin.len_ #[55] ty #[.map none]).run Tryz.prog V = .ok (.int .i64 0) V := fun V ty => Maps.len_nil Tryz.underlying55 ty
  go_enter Tryz.func17, Tryz.ntmps17
  go_wp2_with (go_at_call 51; refine (HR.out).mono ?_; rintro e w1 ⟨rfl, hb1⟩)
  go_ret2
  exact ⟨rfl, hb1.alloc hb1.size _⟩
end Go.Proofs.YtbabkcjnfdpafaaGreatDoor
