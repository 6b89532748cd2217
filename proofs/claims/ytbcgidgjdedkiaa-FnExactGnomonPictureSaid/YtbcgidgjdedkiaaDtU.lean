/- Chapter 7: the specification's pictures beside and below each other, 2. -/
import Derived.Test.YtbcgidgjdedkiaaDtT
namespace Go.Proofs.Ytbcgidgjdedkiaa
open Go.ChangeShapes Go.WideShapes Go.ChangeAt Go.RowKit

theorem bt_self (s : ByteArray) : bt s.data.toList = s := by
  cases s
  simp [bt]
theorem below_text (s t : ByteArray) (a : isPic s.data.toList = true) (b : isPic t.data.toList = true) (h : pW s.data.toList = pW t.data.toList) :
    (s ++ ⟨#[47]⟩) ++ t = bt (gText (pW s.data.toList) (pH s.data.toList + pH t.data.toList) (uD (pW s.data.toList) (pH s.data.toList) (pD s.data.toList) (pD t.data.toList))) := by
  rw [← gText_below _ _ _ _ _ (pic_b a).h0 (pic_b b).h0, pic_text a, h, pic_text b]
  conv => lhs; rw [← bt_self s, ← bt_self t]
  rw [show (⟨#[47]⟩ : ByteArray) = bt [47] from rfl, bt_app, bt_app]
  simp
theorem pic_size (s : ByteArray) (a : isPic s.data.toList = true) : s.size ≤ 1000 := by
  have := pic_600 a
  have e : s.data.toList.length = s.size := by simp
  omega
end Go.Proofs.Ytbcgidgjdedkiaa
