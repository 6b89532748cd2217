/- Chapter 6: the spot of a number and the way between two numbers, by the program. -/
import Derived.Test.YtmjmjcabmcbemaaSiX
namespace Go.Proofs.Ytmjmjcabmcbemaa
open Go.ChangeShapes Go.WideShapes Go.ChangeAt Go.RowKit

/-- A spiral and a number of it: where the number lies. -/
structure At (K : Kd) (R m : Nat) (u s n r b l x y : Int) (V : Int → Int) (w : World) (lo hi : Nat) : Prop where
  sp : IsSp K R m u s w lo hi
  fits : Fits 2 (-s) s n r V
  ring : IsRg s r b
  len : u * r = l
  told : Told K r b n x y
  n0 : 0 ≤ n
  n1 : n ≤ 10000000
theorem At.below {K : Kd} {R m : Nat} {u s n r b l x y : Int} {V : Int → Int} {w W : World} {lo hi : Nat} (h : At K R m u s n r b l x y V w lo hi) (hW : Below w.heap.size w W) : At K R m u s n r b l x y V W lo hi :=
  ⟨⟨h.sp.good, h.sp.hm, h.sp.hu, h.sp.hs, h.sp.s1, h.sp.s2, h.sp.own.below hW h.sp.hi, Nat.le_trans h.sp.hi hW.size⟩, h.fits, h.ring, h.len, h.told, h.n0, h.n1⟩
end Go.Proofs.Ytmjmjcabmcbemaa
