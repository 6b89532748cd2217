/- Chapter 7: the law of LeastPicture, whatever the text. -/
import Derived.Test.YtmcdmacpgjkelaaDoorMc
import Derived.Test.YtmcdmacpgjkelaaDoorDvN
import Derived.Test.YtmcdmacpgjkelaaDoorDuX
import Derived.Test.YtmcdmacpgjkelaaDoorDtV
import Derived.Test.YtmcdmacpgjkelaaDoorDvB
namespace Go.Proofs.YtmcdmacpgjkelaaDoor
open Go.ChangeShapes Go.WideShapes Go.ChangeAt Go.RowKit Go.Maps

theorem pic_okp {l : List UInt8} (h : isPic l = true) : Okp (pcOf (pW l, pH l, pD l)) :=
  ⟨(pic_b h).w0, (pic_b h).w1, (pic_b h).h0, (pic_b h).h1, gS_bd _ _ _⟩
theorem least_same (l : List UInt8) (h : isPic l = true) : lOf l (pW l) (pH l) (pD l) 2 = bsp (txt (pcOf (pW l, pH l, pD l))) (pcOf (pW l, pH l, pD l)) 4 := by
  rw [← bst_bsp]
  have e1 : txt (pcOf (pW l, pH l, pD l)) = l := by rw [txt_pc]; exact pic_text h
  have e2 : mir (pcOf (pW l, pH l, pD l)) = pcOf (pW l, pH l, mD (pW l) (pD l)) := by simp only [mir, pcOf, mirror_set]
  rw [e1, e2]
  rfl
set_option maxRecDepth 8000 in
theorem impl_LeastPicture_no (s : ByteArray) (w : World) (hs : s.size ≤ 2000000) (hM : MaxL w) (hp : isPic s.data.toList = false) :
    Calls Tryd.prog 13 #[.string s] w fun e w' => e = .returned (.tuple #[.string ⟨#[]⟩, .bool false]) ∧ Below w.heap.size w w' := by
  have HR := Lib.hid (readPicture_no s w hs hM hp)
  clear hM hp
  go_enter Tryd.func13, Tryd.ntmps13
  go_wp2_with (go_at_call 35; refine (HR.out).mono ?_; rintro e w1 ⟨rfl, hb1⟩)
  go_ret2
  exact ⟨rfl, hb1.alloc hb1.size _⟩
set_option maxRecDepth 8000 in
theorem impl_LeastPicture_yes (s : ByteArray) (w : World) (hs : s.size ≤ 2000000) (hM : MaxL w) (hp : isPic s.data.toList = true) :
    Calls Tryd.prog 13 #[.string s] w fun e w' => e = .returned (.tuple #[.string (bt (lOf s.data.toList (pW s.data.toList) (pH s.data.toList) (pD s.data.toList) 2)), .bool true]) ∧ Below w.heap.size w w' := by
  have HR := Lib.hid (readPicture_yes s w hs hM hp)
  have HL := Lib.hid fun b w h => least_any (pcOf (pW s.data.toList, pH s.data.toList, pD s.data.toList)) b w h (pic_okp hp)
  rw [least_same _ hp]
  have HL2 := Lib.hid (show ∀ b V, Ds V b (gS (pW s.data.toList) (pH s.data.toList) (pD s.data.toList)) → Calls Tryd.prog 36 #[.agg #[.int .i64 (pW s.data.toList : Int), .int .i64 (pH s.data.toList : Int), .map (some b)]] V fun e w' => e = .returned (.string (bt (bsp (txt (pcOf (pW s.data.toList, pH s.data.toList, pD s.data.toList))) (pcOf (pW s.data.toList, pH s.data.toList, pD s.data.toList)) 4))) ∧ Below V.heap.size V w' from fun b V h => HL.out b V h)
  clear hM hp HL
  generalize bsp (txt (pcOf (pW s.data.toList, pH s.data.toList, pD s.data.toList))) (pcOf (pW s.data.toList, pH s.data.toList, pD s.data.toList)) 4 = t at *
  generalize gS (pW s.data.toList) (pH s.data.toList) (pD s.data.toList) = S at *
  generalize pW s.data.toList = W at *
  generalize pH s.data.toList = H at *
  go_enter Tryd.func13, Tryd.ntmps13
  go_wp2_with (first
    | (go_at_call 35; refine (HR.out).mono ?_; rintro e w1 ⟨⟨c, rfl, _, hd⟩, hb1⟩; have HD := Lib.hid (hd.alloc (.cells #[.int .i64 (W : Int), .int .i64 (H : Int), .map (some c)] 42)); have HB := Lib.hid (hb1.alloc hb1.size (.cells #[.int .i64 (W : Int), .int .i64 (H : Int), .map (some c)] 42)); clear hd hb1)
    | (go_at_call 36; refine (HL2.out c _ HD.out).mono ?_; rintro e w2 ⟨rfl, hb2⟩))
  go_ret2
  exact ⟨rfl, HB.out.trans (hb2.mono HB.out.size)⟩
end Go.Proofs.YtmcdmacpgjkelaaDoor
