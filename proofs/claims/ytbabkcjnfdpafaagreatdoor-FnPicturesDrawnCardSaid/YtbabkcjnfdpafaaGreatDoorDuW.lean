/- Chapter 7: the program's changes of texts: turned, mirrored, other dots, borders. -/
import Derived.Test.YtbabkcjnfdpafaaGreatDoorDuV
namespace Go.Proofs.YtbabkcjnfdpafaaGreatDoor
open Go.ChangeShapes Go.WideShapes Go.ChangeAt Go.RowKit Go.Maps

theorem readPicture_yes (s : ByteArray) (w : World) (hs : s.size ≤ 2000000) (hM : MaxL w) (hp : isPic s.data.toList = true) :
    Calls Tryz.prog 51 #[.string s] w fun e w' => (∃ c, e = .returned (.tuple #[.agg #[.int .i64 (pW s.data.toList : Int), .int .i64 (pH s.data.toList : Int), .map (some c)], .bool true]) ∧ w.heap.size ≤ c ∧ Ds w' c (gS (pW s.data.toList) (pH s.data.toList) (pD s.data.toList))) ∧ Below w.heap.size w w' :=
  (readPicture_any s w hs hM).mono fun e w' h => by
    obtain ⟨h1 | h1, hb⟩ := h
    · exact ⟨h1.2, hb⟩
    · rw [hp] at h1; cases h1.1
theorem readPicture_no (s : ByteArray) (w : World) (hs : s.size ≤ 2000000) (hM : MaxL w) (hp : isPic s.data.toList = false) :
    Calls Tryz.prog 51 #[.string s] w fun e w' => e = .returned (.tuple #[.agg #[.int .i64 0, .int .i64 0, .map none], .bool false]) ∧ Below w.heap.size w w' :=
  (readPicture_any s w hs hM).mono fun e w' h => by
    obtain ⟨h1 | h1, hb⟩ := h
    · rw [hp] at h1; cases h1.1
    · exact ⟨h1.2, hb⟩
set_option maxRecDepth 8000 in
theorem changedText_no (F : Nat) (s : ByteArray) (w : World) (hs : s.size ≤ 2000000) (hM : MaxL w) (hp : isPic s.data.toList = false) :
    Calls Tryz.prog 55 #[.string s, .func (.func F) #[] #[]] w fun e w' => e = .returned (.tuple #[.string ⟨#[]⟩, .bool false]) ∧ Below w.heap.size w w' := by
  have HR := Lib.hid (readPicture_no s w hs hM hp)
  clear hM hp
  go_enter Tryz.func55, Tryz.ntmps55
  go_wp2_with (go_at_call 51; refine (HR.out).mono ?_; rintro e w1 ⟨rfl, hb1⟩)
  go_ret2
  exact ⟨rfl, hb1.alloc hb1.size _⟩
set_option maxRecDepth 8000 in
set_option maxHeartbeats 1600000 in
theorem changedText_yes (F : Nat) (s : ByteArray) (W H : Nat) (S : Int → Int → Bool) (w : World) (hs : s.size ≤ 2000000) (hM : MaxL w) (hp : isPic s.data.toList = true)
    (hcf : ∀ (args : Array Value) (V : World), (callFunc F args).run Tryz.prog V = .ok (.enter F args) V) (hc : Chg F (pW s.data.toList) (pH s.data.toList) (gS (pW s.data.toList) (pH s.data.toList) (pD s.data.toList)) W H S) (w0 : 1 ≤ W) (w1 : W ≤ 50) (h1 : H ≤ 50) :
    Calls Tryz.prog 55 #[.string s, .func (.func F) #[] #[]] w fun e w' => e = .returned (.tuple #[.string (bt (sT W H S)), .bool true]) ∧ Below w.heap.size w w' := by
  have HR := Lib.hid (readPicture_yes s w hs hM hp)
  have HC := Lib.hid hc
  have HT := Lib.hid fun b V (hd : Ds V b S) => text_any W H (W * H) b S V hd rfl w0 w1 h1
  clear hM hp hc
  generalize pW s.data.toList = a at *
  generalize pH s.data.toList = d at *
  generalize pD s.data.toList = D at *
  generalize sT W H S = t at *
  go_enter Tryz.func55, Tryz.ntmps55
  go_wp2_with (first
    | (go_at_call 51; refine (HR.out).mono ?_; rintro e w2 ⟨⟨c, rfl, hc0, hd⟩, hb2⟩; have HD := Lib.hid (hd.alloc (.cells #[.int .i64 (a : Int), .int .i64 (d : Int), .map (some c)] 57)); have HB := Lib.hid (hb2.alloc hb2.size (.cells #[.int .i64 (a : Int), .int .i64 (d : Int), .map (some c)] 57)); clear hd hb2)
    | (go_at_call 75; refine (HT.out _ _ HD4.out).mono ?_; rintro e w5 ⟨rfl, hb5⟩)
    | (refine (HC.out _ _ HD.out).mono ?_; rintro e w4 ⟨⟨c4, rfl, hd4⟩, hb4⟩; have HD4 := Lib.hid hd4; have HB4 := Lib.hid (HB.out.trans (hb4.mono HB.out.size)); clear hd4 hb4))
  go_ret2
  exact ⟨rfl, HB4.out.trans (hb5.mono HB4.out.size)⟩

theorem cf_turned : ∀ (args : Array Value) (V : World), (callFunc 56 args).run Tryz.prog V = .ok (.enter 56 args) V := fun _ _ => by kernel_rfl
set_option maxRecDepth 8000 in
theorem impl_TurnPicture_no (s : ByteArray) (w : World) (hs : s.size ≤ 2000000) (hM : MaxL w) (hp : isPic s.data.toList = false) :
    Calls Tryz.prog 20 #[.string s] w fun e w' => e = .returned (.tuple #[.string ⟨#[]⟩, .bool false]) ∧ Below w.heap.size w w' := by
  have HC := Lib.hid (changedText_no 56 s w hs hM hp)
  clear hM hp
  go_enter Tryz.func20, Tryz.ntmps20
  go_wp2_with (go_at_call 55; refine (HC.out).mono ?_; rintro e w1 ⟨rfl, hb1⟩)
  go_ret2
  exact ⟨rfl, hb1⟩
set_option maxRecDepth 8000 in
theorem impl_TurnPicture_yes (s : ByteArray) (w : World) (hs : s.size ≤ 2000000) (hM : MaxL w) (hp : isPic s.data.toList = true) :
    Calls Tryz.prog 20 #[.string s] w fun e w' => e = .returned (.tuple #[.string (bt (gText (pH s.data.toList) (pW s.data.toList) (tD (pW s.data.toList) (pH s.data.toList) (pD s.data.toList)))), .bool true]) ∧ Below w.heap.size w w' := by
  have hb := pic_b hp
  have b0 := hb.w0
  have b1 := hb.w1
  have b2 := hb.h0
  have b3 := hb.h1
  have hc := changedText_yes 56 s (pH s.data.toList) (pW s.data.toList) (fun x y => gS (pW s.data.toList) (pH s.data.toList) (pD s.data.toList) y ((pH s.data.toList : Int) - 1 - x)) w hs hM hp cf_turned (turned_chg _ _ _ (gS_bd _ _ _) (by omega) (by omega)) (by omega) (by omega) (by omega)
  rw [show sT (pH s.data.toList) (pW s.data.toList) (fun x y => gS (pW s.data.toList) (pH s.data.toList) (pD s.data.toList) y ((pH s.data.toList : Int) - 1 - x)) = gText (pH s.data.toList) (pW s.data.toList) (tD (pW s.data.toList) (pH s.data.toList) (pD s.data.toList)) from sT_turn _ _ _] at hc
  have HC := Lib.hid hc
  clear hM hp hc hb b0 b1 b2 b3
  generalize gText (pH s.data.toList) (pW s.data.toList) (tD (pW s.data.toList) (pH s.data.toList) (pD s.data.toList)) = t at *
  go_enter Tryz.func20, Tryz.ntmps20
  go_wp2_with (go_at_call 55; refine (HC.out).mono ?_; rintro e w1 ⟨rfl, hb1⟩)
  go_ret2
  exact ⟨rfl, hb1⟩

theorem cf_borderAlone : ∀ (args : Array Value) (V : World), (callFunc 67 args).run Tryz.prog V = .ok (.enter 67 args) V := fun _ _ => by kernel_rfl
set_option maxRecDepth 8000 in
theorem impl_BorderDots_no (s : ByteArray) (w : World) (hs : s.size ≤ 2000000) (hM : MaxL w) (hp : isPic s.data.toList = false) :
    Calls Tryz.prog 26 #[.string s] w fun e w' => e = .returned (.tuple #[.string ⟨#[]⟩, .bool false]) ∧ Below w.heap.size w w' := by
  have HC := Lib.hid (changedText_no 67 s w hs hM hp)
  clear hM hp
  go_enter Tryz.func26, Tryz.ntmps26
  go_wp2_with (go_at_call 55; refine (HC.out).mono ?_; rintro e w1 ⟨rfl, hb1⟩)
  go_ret2
  exact ⟨rfl, hb1⟩
set_option maxRecDepth 8000 in
theorem impl_BorderDots_yes (s : ByteArray) (w : World) (hs : s.size ≤ 2000000) (hM : MaxL w) (hp : isPic s.data.toList = true) :
    Calls Tryz.prog 26 #[.string s] w fun e w' => e = .returned (.tuple #[.string (bt (gText (pW s.data.toList) (pH s.data.toList) (brd (pW s.data.toList) (pH s.data.toList) (pD s.data.toList)))), .bool true]) ∧ Below w.heap.size w w' := by
  have hb := pic_b hp
  have b0 := hb.w0
  have b1 := hb.w1
  have b2 := hb.h0
  have b3 := hb.h1
  have hc := changedText_yes 67 s (pW s.data.toList) (pH s.data.toList) (bS (gS (pW s.data.toList) (pH s.data.toList) (pD s.data.toList))) w hs hM hp cf_borderAlone (borderAlone_chg _ _ _ (gS_bd _ _ _) (by omega) (by omega)) (by omega) (by omega) (by omega)
  rw [show sT (pW s.data.toList) (pH s.data.toList) (bS (gS (pW s.data.toList) (pH s.data.toList) (pD s.data.toList))) = gText (pW s.data.toList) (pH s.data.toList) (brd (pW s.data.toList) (pH s.data.toList) (pD s.data.toList)) from (sT_congr fun x y _ => brd_set _ _ _ x y).trans (sT_gS _ _ _)] at hc
  have HC := Lib.hid hc
  clear hM hp hc hb b0 b1 b2 b3
  generalize gText (pW s.data.toList) (pH s.data.toList) (brd (pW s.data.toList) (pH s.data.toList) (pD s.data.toList)) = t at *
  go_enter Tryz.func26, Tryz.ntmps26
  go_wp2_with (go_at_call 55; refine (HC.out).mono ?_; rintro e w1 ⟨rfl, hb1⟩)
  go_ret2
  exact ⟨rfl, hb1⟩

theorem cf_withoutBorder : ∀ (args : Array Value) (V : World), (callFunc 70 args).run Tryz.prog V = .ok (.enter 70 args) V := fun _ _ => by kernel_rfl
set_option maxRecDepth 8000 in
theorem impl_TakeBorder_no (s : ByteArray) (w : World) (hs : s.size ≤ 2000000) (hM : MaxL w) (hp : isPic s.data.toList = false) :
    Calls Tryz.prog 28 #[.string s] w fun e w' => e = .returned (.tuple #[.string ⟨#[]⟩, .bool false]) ∧ Below w.heap.size w w' := by
  have HC := Lib.hid (changedText_no 70 s w hs hM hp)
  clear hM hp
  go_enter Tryz.func28, Tryz.ntmps28
  go_wp2_with (go_at_call 55; refine (HC.out).mono ?_; rintro e w1 ⟨rfl, hb1⟩)
  go_ret2
  exact ⟨rfl, hb1⟩
set_option maxRecDepth 8000 in
theorem impl_TakeBorder_yes (s : ByteArray) (w : World) (hs : s.size ≤ 2000000) (hM : MaxL w) (hp : isPic s.data.toList = true) :
    Calls Tryz.prog 28 #[.string s] w fun e w' => e = .returned (.tuple #[.string (bt (gText (pW s.data.toList) (pH s.data.toList) (tkn (pW s.data.toList) (pH s.data.toList) (pD s.data.toList)))), .bool true]) ∧ Below w.heap.size w w' := by
  have hb := pic_b hp
  have b0 := hb.w0
  have b1 := hb.w1
  have b2 := hb.h0
  have b3 := hb.h1
  have hc := changedText_yes 70 s (pW s.data.toList) (pH s.data.toList) (dS (gS (pW s.data.toList) (pH s.data.toList) (pD s.data.toList)) (bS (gS (pW s.data.toList) (pH s.data.toList) (pD s.data.toList)))) w hs hM hp cf_withoutBorder (withoutBorder_chg _ _ _) (by omega) (by omega) (by omega)
  rw [show sT (pW s.data.toList) (pH s.data.toList) (dS (gS (pW s.data.toList) (pH s.data.toList) (pD s.data.toList)) (bS (gS (pW s.data.toList) (pH s.data.toList) (pD s.data.toList)))) = gText (pW s.data.toList) (pH s.data.toList) (tkn (pW s.data.toList) (pH s.data.toList) (pD s.data.toList)) from (sT_congr fun x y _ => tkn_set _ _ _ x y).trans (sT_gS _ _ _)] at hc
  have HC := Lib.hid hc
  clear hM hp hc hb b0 b1 b2 b3
  generalize gText (pW s.data.toList) (pH s.data.toList) (tkn (pW s.data.toList) (pH s.data.toList) (pD s.data.toList)) = t at *
  go_enter Tryz.func28, Tryz.ntmps28
  go_wp2_with (go_at_call 55; refine (HC.out).mono ?_; rintro e w1 ⟨rfl, hb1⟩)
  go_ret2
  exact ⟨rfl, hb1⟩

end Go.Proofs.YtbabkcjnfdpafaaGreatDoor
