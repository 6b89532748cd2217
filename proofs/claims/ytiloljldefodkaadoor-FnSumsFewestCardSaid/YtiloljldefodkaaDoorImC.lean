/- Contracts of the program's functions of chapter 1, 3: the last place up to a number, and the place of a number. -/
import Derived.Test.YtiloljldefodkaaDoorImB
namespace Go.Proofs.YtiloljldefodkaaDoor
open Go.RowKit

/-- What a rule's numbers V and the greatest place L that fits must keep. -/
structure Fits (a b c n L : Int) (V : Int → Int) : Prop where
  bds : ∀ k, 0 ≤ k → k < 2097152 → RuleBds a b c k (V k)
  l0 : 0 ≤ L
  l1 : L < 2097152
  iff : ∀ k, 1 ≤ k → k < 2097152 → (V k ≤ n ↔ k ≤ L)

set_option maxRecDepth 4000 in
/-- The closure of lastPlaceUpTo: whether the number of a place fits. v: the number of the place. -/
theorem upTo1_any (a b c k v n : Int) (r m : Nat) (w : World) (h : RuleBds a b c k v)
    (c0 : w.cell? ⟨r, 0, none⟩ = some (.int .i64 a)) (c1 : w.cell? ⟨r, 1, none⟩ = some (.int .i64 b)) (c2 : w.cell? ⟨r, 2, none⟩ = some (.int .i64 c))
    (cn : w.cell? ⟨m, 0, none⟩ = some (.int .i64 n)) (hr : r < w.heap.size) (hm : m < w.heap.size) :
    Calls Tryd.prog 66 #[.int .i64 k, .pointer (some ⟨r, 0, none⟩), .pointer (some ⟨m, 0, none⟩)] w fun e w' => e = .returned (.bool (decide (v ≤ n))) ∧ Below w.heap.size w w' := by
  go_enter Tryd.func66, Tryd.ntmps66
  go_wp2
  go_region_held3 (fun w' => w'.cell? ⟨r, 0, none⟩ = some (.int .i64 a) ∧ w'.cell? ⟨r, 1, none⟩ = some (.int .i64 b) ∧ w'.cell? ⟨r, 2, none⟩ = some (.int .i64 c) ∧ w'.cell? ⟨m, 0, none⟩ = some (.int .i64 n))
    (first | exact ⟨c0, c1, c2, cn⟩ | exact ⟨(hb1.cell (p := ⟨r, 0, none⟩) hr).trans c0, (hb1.cell (p := ⟨r, 1, none⟩) hr).trans c1, (hb1.cell (p := ⟨r, 2, none⟩) hr).trans c2, (hb1.cell (p := ⟨m, 0, none⟩) hm).trans cn⟩)
    (first | (go_at_call 40; refine (numberAt_any _ _ _ _ _ _ h).mono ?_; rintro e w1 ⟨rfl, hb1⟩))
  go_wp2
  go_ret
  exact ⟨rfl, Below.refl _ _ |>.drew.trans hb1⟩

theorem cf_upTo : ∀ (args : Array Value) (W : World), (callFunc 66 args).run Tryd.prog W = .ok (.enter 66 args) W := fun _ _ => by kernel_rfl

theorem lastPlace_any (a b c n L : Int) (V : Int → Int) (w : World) (h : Fits a b c n L V) :
    Calls Tryd.prog 39 #[.agg #[.int .i64 a, .int .i64 b, .int .i64 c], .int .i64 n] w fun e w' => e = .returned (.int .i64 L) ∧ Below w.heap.size w w' := by
  have hmf : ∀ (fn : Fn) (first cap : Array Value) (w : World), (Instr.makeFunc fn first cap).run Tryd.prog w = .ok (.func fn first cap) w := fun _ _ _ _ => rfl
  have HB : ∀ W : World, Hid (W.heap.size = w.heap.size + 2 → W.cell? ⟨w.heap.size, 0, none⟩ = some (.int .i64 a) → W.cell? ⟨w.heap.size, 1, none⟩ = some (.int .i64 b) → W.cell? ⟨w.heap.size, 2, none⟩ = some (.int .i64 c) → W.cell? ⟨w.heap.size + 1, 0, none⟩ = some (.int .i64 n) →
      Calls Tryd.prog 65 #[.int .i64 2097152, .func (.func 66) #[] #[.pointer (some ⟨w.heap.size, 0, none⟩), .pointer (some ⟨w.heap.size + 1, 0, none⟩)]] W fun e w' => e = .returned (.int .i64 L) ∧ Below W.heap.size W w') := by
    intro W
    refine Lib.hid fun hz c0 c1 c2 cn => ?_
    refine last_any 2097152 L _ _ W (by omega) (by omega) h.l0 h.l1 cf_upTo ?_
    intro m W1 hb h1 h2
    have e : decide (V m ≤ n) = decide (m ≤ L) := by
      have := h.iff m h1 h2
      by_cases hc : m ≤ L <;> simp [hc, this]
    refine (upTo1_any a b c m (V m) n w.heap.size (w.heap.size + 1) W1 (h.bds m (by omega) h2) ?_ ?_ ?_ ?_ (by have := hb.size; omega) (by have := hb.size; omega)).mono ?_
    · exact (hb.cell (p := ⟨w.heap.size, 0, none⟩) (by simp; omega)).trans c0
    · exact (hb.cell (p := ⟨w.heap.size, 1, none⟩) (by simp; omega)).trans c1
    · exact (hb.cell (p := ⟨w.heap.size, 2, none⟩) (by simp; omega)).trans c2
    · exact (hb.cell (p := ⟨w.heap.size + 1, 0, none⟩) (by simp; omega)).trans cn
    · rintro e1 W2 ⟨rfl, hb2⟩
      exact ⟨by rw [e], hb.trans (hb2.mono hb.size)⟩
  clear h
  go_enter Tryd.func39, Tryd.ntmps39
  go_wp2_with (go_at_call 65; refine ((HB _).out ?_ ?_ ?_ ?_ ?_).mono ?_; (iterate 5 (first | simp [go_sem] | skip)); rintro e w1 ⟨rfl, hb1⟩)
  go_ret
  exact ⟨rfl, (((Below.refl _ _).alloc (Nat.le_refl _) _).alloc (by simp) _).trans (hb1.mono (by simp; omega))⟩

end Go.Proofs.YtiloljldefodkaaDoor
