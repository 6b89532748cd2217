/- What the law of fewest sums asks of rows: they are the same ones, one comes ahead of another. No condition. -/
import Derived.Test.YtiloljldefodkaaDoorSfG
namespace Go.Proofs.YtiloljldefodkaaDoor
open Go.ChangeShapes Go.WideShapes Go.ChangeAt Go.RowKit Go.Maps

set_option maxHeartbeats 800000 in
theorem oGreater_any (A B : Option Addr) (n c d l1 e1 l2 e2 : Nat) (xs ys : List Int) (w : World) (hx : xs.length = n) (hy : ys.length = n) (hm : n ≤ 1000000000)
    (ha : Own w l1 e1 A (i64s xs)) (hb : Own w l2 e2 B (i64s ys)) (h : Ahd n xs ys) :
    Calls Tryd.prog 26 #[.slice A n c, .slice B n d] w fun e w' => e = .returned (.bool true) ∧ Below w.heap.size w w' := by
  obtain ⟨t, ht, hpre, hlt⟩ := h
  obtain ⟨g, o, rfl, -⟩ := ha (by simp only [List.length_map]; omega)
  obtain ⟨g', o', rfl, -⟩ := hb (by simp only [List.length_map]; omega)
  have HA := Lib.hid ha
  have HB := Lib.hid hb
  have HX := Lib.hid hx
  have HY := Lib.hid hy
  have HP := Lib.hid hpre
  have HL := Lib.hid hlt
  clear ha hb hx hy hpre hlt
  go_enter Tryd.func26, Tryd.ntmps26
  go_wp2
  go_loopw [5] (fun i wr => ∃ k q : Nat, k ≤ t ∧ i = .int .i64 k ∧ wr = w.drewN q) (fun i _ => n - (intOf i).toNat)
  case atStart => exact ⟨0, 0, Nat.zero_le _, rfl, rfl⟩
  case round =>
    obtain ⟨k, q, hk, rfl, rfl⟩ := hrel
    have ca := own_get HA.out (k := k) (by rw [HX.out]; omega)
    have cb := own_get HB.out (k := k) (by rw [HY.out]; omega)
    have hki : (k : Int) < (n : Int) := by omega
    rcases Nat.lt_or_ge k t with hkt | hkt
    · rw [HP.out k hkt] at ca
      generalize ys.getD k 0 = z at ca cb
      go_wp2
      go_big_quiet (fail)
      go_wp2
      go_roundw
      case rel => exact ⟨k + 1, _, by omega, by go_num, rfl⟩
      case measure => simp [intOf]; omega
    · obtain rfl : k = t := by omega
      have hl := HL.out
      generalize xs.getD k 0 = x at ca hl
      generalize ys.getD k 0 = y at cb hl
      have hne : (x == y) = false := by simp only [beq_eq_false_iff_ne, ne_eq]; omega
      go_wp2
      go_big_quiet (fail)
      go_wp2
      go_big_quiet (fail)
      go_wp2
      first | (rw [Exit.noGoto_ret]; go_ret) | go_ret
      exact ⟨rfl, below_drewN (below_drewN (below_drewN (Below.refl _ _) _) _) _⟩
theorem oRows_b (A B : Option Addr) (n c d l1 h1 l2 h2 : Nat) (F : Nat → List Int) (Af Bf : Nat → Option Addr) (cf df : Nat → Nat) (w : World) (hm : n ≤ 1000000000) (hp : pre F n ≤ 1000000000)
    (ha : OwnL w l1 h1 A n F Af cf) (hb : OwnL w l2 h2 B n F Bf df) :
    Calls Tryd.prog 25 #[.slice A n c, .slice B n d] w fun e w' => e = .returned (.bool true) ∧ Below w.heap.size w w' :=
  (oRows_same A B n c d l1 h1 l2 h2 F Af Bf cf df w hm hp ha hb).mono fun e w' ⟨he, q, hq⟩ => ⟨he, by subst hq; exact below_drewN (Below.refl _ _) _⟩
end Go.Proofs.YtiloljldefodkaaDoor
