/- Rows and runs compared, said by 'no old memory changes'. No condition. -/
import Derived.Test.YtcfpdlkkniilpaaGreatDoorAnW
import Derived.Test.YtcfpdlkkniilpaaGreatDoorAnY
namespace Go.Proofs.YtcfpdlkkniilpaaGreatDoor
open Go.RowKit
theorem oRows_b (A B : Option Addr) (n c d l1 h1 l2 h2 : Nat) (F : Nat → List Int) (Af Bf : Nat → Option Addr) (cf df : Nat → Nat) (w : World) (hm : n ≤ 1000000000) (hp : pre F n ≤ 1000000000)
    (ha : OwnL w l1 h1 A n F Af cf) (hb : OwnL w l2 h2 B n F Bf df) :
    Calls Tryz.prog 17 #[.slice A n c, .slice B n d] w fun e w' => e = .returned (.bool true) ∧ Below w.heap.size w w' :=
  (oRows_same A B n c d l1 h1 l2 h2 F Af Bf cf df w hm hp ha hb).mono fun e w' ⟨he, q, hq⟩ => ⟨he, by subst hq; exact below_drewN (Below.refl _ _) _⟩
theorem oRuns_b (A B : Option Addr) (n c d l1 h1 l2 h2 : Nat) (xs : List (Int × Int)) (w : World) (hn : xs.length = n) (hm : n ≤ 1000000000)
    (ha : Own w l1 h1 A (prs xs)) (hb : Own w l2 h2 B (prs xs)) :
    Calls Tryz.prog 16 #[.slice A n c, .slice B n d] w fun e w' => e = .returned (.bool true) ∧ Below w.heap.size w w' :=
  (oRuns_same A B n c d l1 h1 l2 h2 xs w hn hm ha hb).mono fun e w' ⟨he, q, hq⟩ => ⟨he, by subst hq; exact below_drewN (Below.refl _ _) _⟩
end Go.Proofs.YtcfpdlkkniilpaaGreatDoor
