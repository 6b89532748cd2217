/- Chapter 7: the law of LeastPicture, whatever the text. -/
import Derived.Test.YtbabkcjnfdpafaaGreatDoorMc
import Derived.Test.YtbabkcjnfdpafaaGreatDoorDvN
import Derived.Test.YtbabkcjnfdpafaaGreatDoorDuX
import Derived.Test.YtbabkcjnfdpafaaGreatDoorDtV
import Derived.Test.YtbabkcjnfdpafaaGreatDoorDvB
namespace Go.Proofs.YtbabkcjnfdpafaaGreatDoor
open Go.ChangeShapes Go.WideShapes Go.ChangeAt Go.RowKit Go.Maps

theorem pic_okp {l : List UInt8} (h : isPic l = true) : Okp (pcOf (pW l, pH l, pD l)) :=
  ⟨(pic_b h).w0, (pic_b h).w1, (pic_b h).h0, (pic_b h).h1, gS_bd _ _ _⟩
theorem least_same (l : List UInt8) (h : isPic l = true) : lOf l (pW l) (pH l) (pD l) 2 = bsp (txt (pcOf (pW l, pH l, pD l))) (pcOf (pW l, pH l, pD l)) 4 := by
  rw [← bst_bsp]
  have e1 : txt (pcOf (pW l, pH l, pD l)) = l := by rw [txt_pc]; exact pic_text h
  have e2 : mir (pcOf (pW l, pH l, pD l)) = pcOf (pW l, pH l, mD (pW l) (pD l)) := by simp only [mir, pcOf, mirror_set]
  rw [e1, e2]
  rfl
end Go.Proofs.YtbabkcjnfdpafaaGreatDoor
