/- Chapter 5: the laws SquaresApart, CountSquaresApart. -/
import Derived.Test.YtcfpdlkkniilpaaGreatDoorRuY
namespace Go.Proofs.YtcfpdlkkniilpaaGreatDoor
open Go.ChangeShapes Go.WideShapes Go.ChangeAt Go.RowKit Go.Shelf Go.Sort

theorem sqs_len (n : Int) (h0 : 1 ≤ n) (h1 : n ≤ 1000000) : (((alikes n).map sqR).reverse).length ≤ 1500 := by
  have := alikes_len n h0 h1
  simp
  omega
end Go.Proofs.YtcfpdlkkniilpaaGreatDoor
