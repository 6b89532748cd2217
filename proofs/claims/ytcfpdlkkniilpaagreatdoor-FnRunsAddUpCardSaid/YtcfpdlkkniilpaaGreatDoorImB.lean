/- Contracts of the program's functions of chapter 1, 2: rules and places. -/
import Derived.Test.YtcfpdlkkniilpaaGreatDoorImA
import Derived.Deep.RegionHeld3
namespace Go.Proofs.YtcfpdlkkniilpaaGreatDoor
open Go.RowKit

/-- What a rule's walk asks of a place: the doubled number is 2 v. -/
structure RuleBds (a b c k v : Int) : Prop where
  e : a + b * k + c * k * k = 2 * v
  v0 : 0 ≤ v
  v1 : v ≤ 400000000000000
  p0 : -400000000000000 ≤ b * k
  p1 : b * k ≤ 400000000000000
  q0 : -400000000000000 ≤ c * k
  q1 : c * k ≤ 400000000000000
  r0 : -400000000000000 ≤ c * k * k
  r1 : c * k * k ≤ 400000000000000
  a0 : -1000 ≤ a
  a1 : a ≤ 1000

end Go.Proofs.YtcfpdlkkniilpaaGreatDoor
