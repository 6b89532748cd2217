/- What the functions of chapter 1 that take numbers answer, as plain functions. No program in sight. -/
import Derived.Test.YtjfkeflmbgfhmaaGreatDoorNuB
namespace Go.Proofs.YtjfkeflmbgfhmaaGreatDoor

def sdB (s : Int) : Bool := decide (3 ≤ s ∧ s ≤ 24)
def tsB (s n : Int) : Bool := decide ((3 ≤ s ∧ s ≤ 24) ∧ 0 ≤ n ∧ n ≤ 1000000000000)
def pnB (s p : Int) : Bool := decide ((3 ≤ s ∧ s ≤ 24) ∧ 0 ≤ p ∧ p ≤ 100000)
noncomputable def pnV (s p : Int) : Int := bif pnB s p then num s p else 0
noncomputable def poB (s n : Int) : Bool := tsB s n && decide (num s (pl s n) = n)
noncomputable def poV (s n : Int) : Int := bif poB s n then pl s n else 0
noncomputable def npV (s n : Int) : Int := bif tsB s n then num s (pl s n + 1) else 0
noncomputable def cuV (s n : Int) : Int := bif tsB s n then pl s n else 0
def stV (s n : Int) : Int := bif tsB s n then 8 * (s - 2) * n + (s - 4) * (s - 4) else 0
noncomputable def wdB (s n : Int) : Bool := tsB s n && (decide (num s (pl s n) = n) || decide (num s (-wl s n) = n))
noncomputable def wdV (s n : Int) : Int := bif poB s n then pl s n else bif wdB s n then -wl s n else 0
def rtB (n : Int) : Bool := decide (0 ≤ n ∧ n ≤ 4000000000000000000)
noncomputable def rtV (n : Int) : Int := bif rtB n then rt n else 0
def wnB (s p : Int) : Bool := decide ((3 ≤ s ∧ s ≤ 24) ∧ -100000 ≤ p ∧ p ≤ 100000)
def wnV (s p : Int) : Int := bif wnB s p then num s p else 0
def gnB (s p : Int) : Bool := decide ((3 ≤ s ∧ s ≤ 24) ∧ 1 ≤ p ∧ p ≤ 100000)
def gnV (s p : Int) : Int := bif gnB s p then (s - 2) * (p - 1) + 1 else 0
def cnV (s p : Int) : Int := bif gnB s p then cen s p else 0
noncomputable def cpB (s n : Int) : Bool := tsB s n && decide (cen s (cpl s n) = n)
noncomputable def cpV (s n : Int) : Int := bif cpB s n then cpl s n else 0
end Go.Proofs.YtjfkeflmbgfhmaaGreatDoor
