/- Contracts of the program's functions of chapter 1, 3: the last place up to a number, and the place of a number. -/
import Derived.Test.YtjfkeflmbgfhmaaGreatDoorImB
namespace Go.Proofs.YtjfkeflmbgfhmaaGreatDoor
open Go.RowKit

/-- What a rule's numbers V and the greatest place L that fits must keep. -/
structure Fits (a b c n L : Int) (V : Int → Int) : Prop where
  bds : ∀ k, 0 ≤ k → k < 2097152 → RuleBds a b c k (V k)
  l0 : 0 ≤ L
  l1 : L < 2097152
  iff : ∀ k, 1 ≤ k → k < 2097152 → (V k ≤ n ↔ k ≤ L)

set_option maxRecDepth 4000 in
/-- The closure of lastPlaceUpTo: whether the number of a place fits. v: the number of the place. -/
theorem upTo1_any (a b c k v n : Int) (r m : Nat) (w : World) (h : RuleBds a b c k v)
    (c0 : w.cell? ⟨r, 0, none⟩ = some (.int .i64 a)) (c1 : w.cell? ⟨r, 1, none⟩ = some (.int .i64 b)) (c2 : w.cell? ⟨r, 2, none⟩ = some (.int .i64 c))
    (cn : w.cell? ⟨m, 0, none⟩ = some (.int .i64 n)) (hr : r < w.heap.size) (hm : m < w.heap.size) :
    Calls Tryz.prog 73 #[.int .i64 k, .pointer (some ⟨r, 0, none⟩), .pointer (some ⟨m, 0, none⟩)] w fun e w' => e = .returned (.bool (decide (v ≤ n))) ∧ Below w.heap.size w w' := by
  go_enter Tryz.func73, Tryz.ntmps73
  go_wp2
  go_region_held3 (fun w' => w'.cell? ⟨r, 0, none⟩ = some (.int .i64 a) ∧ w'.cell? ⟨r, 1, none⟩ = some (.int .i64 b) ∧ w'.cell? ⟨r, 2, none⟩ = some (.int .i64 c) ∧ w'.cell? ⟨m, 0, none⟩ = some (.int .i64 n))
    (first | exact ⟨c0, c1, c2, cn⟩ | exact ⟨(hb1.cell (p := ⟨r, 0, none⟩) hr).trans c0, (hb1.cell (p := ⟨r, 1, none⟩) hr).trans c1, (hb1.cell (p := ⟨r, 2, none⟩) hr).trans c2, (hb1.cell (p := ⟨m, 0, none⟩) hm).trans cn⟩)
    (first | (go_at_call 43; refine (numberAt_any _ _ _ _ _ _ h).mono ?_; rintro e w1 ⟨rfl, hb1⟩))
  go_wp2
  go_ret
  exact ⟨rfl, Below.refl _ _ |>.drew.trans hb1⟩

theorem cf_upTo : ∀ (args : Array Value) (W : World), (callFunc 73 args).run Tryz.prog W = .ok (.enter 73 args) W := fun _ _ => by kernel_rfl

theorem lastPlace_any (a b c n L : Int) (V : Int → Int) (w : World) (h : Fits a b c n L V) :
    Calls Tryz.prog 62 #[.agg #[.int .i64 a, .int .i64 b, .int .i64 c], .int .i64 n] w fun e w' => e = .returned (.int .i64 L) ∧ Below w.heap.size w w' := by
  have hmf : ∀ (fn : Fn) (first cap : Array Value) (w : World), (Instr.makeFunc fn first cap).run Tryz.prog w = .ok (.func fn first cap) w := fun _ _ _ _ => rfl
  have HB : ∀ W : World, Hid (W.heap.size = w.heap.size + 2 → W.cell? ⟨w.heap.size, 0, none⟩ = some (.int .i64 a) → W.cell? ⟨w.heap.size, 1, none⟩ = some (.int .i64 b) → W.cell? ⟨w.heap.size, 2, none⟩ = some (.int .i64 c) → W.cell? ⟨w.heap.size + 1, 0, none⟩ = some (.int .i64 n) →
      Calls Tryz.prog 72 #[.int .i64 2097152, .func (.func 73) #[] #[.pointer (some ⟨w.heap.size, 0, none⟩), .pointer (some ⟨w.heap.size + 1, 0, none⟩)]] W fun e w' => e = .returned (.int .i64 L) ∧ Below W.heap.size W w') := by
    intro W
    refine Lib.hid fun hz c0 c1 c2 cn => ?_
    refine last_any 2097152 L _ _ W (by omega) (by omega) h.l0 h.l1 cf_upTo ?_
    intro m W1 hb h1 h2
    have e : decide (V m ≤ n) = decide (m ≤ L) := by
      have := h.iff m h1 h2
      by_cases hc : m ≤ L <;> simp [hc, this]
    refine (upTo1_any a b c m (V m) n w.heap.size (w.heap.size + 1) W1 (h.bds m (by omega) h2) ?_ ?_ ?_ ?_ (by have := hb.size; omega) (by have := hb.size; omega)).mono ?_
    · exact (hb.cell (p := ⟨w.heap.size, 0, none⟩) (by simp; omega)).trans c0
    · exact (hb.cell (p := ⟨w.heap.size, 1, none⟩) (by simp; omega)).trans c1
    · exact (hb.cell (p := ⟨w.heap.size, 2, none⟩) (by simp; omega)).trans c2
    · exact (hb.cell (p := ⟨w.heap.size + 1, 0, none⟩) (by simp; omega)).trans cn
    · rintro e1 W2 ⟨rfl, hb2⟩
      exact ⟨by rw [e], hb.trans (hb2.mono hb.size)⟩
  clear h
  go_enter Tryz.func62, Tryz.ntmps62
  go_wp2_with (go_at_call 72; refine ((HB _).out ?_ ?_ ?_ ?_ ?_).mono ?_; (iterate 5 (first | simp [go_sem] | skip)); rintro e w1 ⟨rfl, hb1⟩)
  go_ret
  exact ⟨rfl, (((Below.refl _ _).alloc (Nat.le_refl _) _).alloc (by simp) _).trans (hb1.mono (by simp; omega))⟩

set_option maxRecDepth 4000 in
/-- The closure of placeBelow: whether the number of a place fits, whatever function value tells numbers. -/
theorem below1_any (fid : Nat) (first cap : Array Value) (k v n : Int) (r m : Nat) (w0 w : World)
    (hcf : ∀ (args : Array Value) (W : World), (callFunc fid args).run Tryz.prog W = .ok (.enter fid args) W)
    (hf : ∀ W : World, Below w0.heap.size w0 W → Calls Tryz.prog fid (first ++ #[.int .i64 k] ++ cap) W fun e W' => e = .returned (.int .i64 v) ∧ Below W.heap.size W W')
    (h0 : Below w0.heap.size w0 w)
    (cf : w0.cell? ⟨r, 0, none⟩ = some (.func (.func fid) first cap)) (cn : w0.cell? ⟨m, 0, none⟩ = some (.int .i64 n)) (hr : r < w0.heap.size) (hm : m < w0.heap.size) :
    Calls Tryz.prog 81 #[.int .i64 k, .pointer (some ⟨r, 0, none⟩), .pointer (some ⟨m, 0, none⟩)] w fun e w' => e = .returned (.bool (decide (v ≤ n))) ∧ Below w0.heap.size w0 w' := by
  have HF := Lib.hid fun W hW => (hf W hW).mono (R' := fun e W' => e = .returned (.int .i64 v) ∧ Below w0.heap.size w0 W') fun e W' ⟨he, hb⟩ => ⟨he, hW.trans (hb.mono hW.size)⟩
  clear hf
  go_enter Tryz.func81, Tryz.ntmps81
  go_wp2
  go_region_held3 (fun w' => w'.cell? ⟨r, 0, none⟩ = some (.func (.func fid) first cap) ∧ w'.cell? ⟨m, 0, none⟩ = some (.int .i64 n))
    (first | exact ⟨(h0.cell (p := ⟨r, 0, none⟩) hr).trans cf, (h0.cell (p := ⟨m, 0, none⟩) hm).trans cn⟩ | exact ⟨(hb1.cell (p := ⟨r, 0, none⟩) hr).trans cf, (hb1.cell (p := ⟨m, 0, none⟩) hm).trans cn⟩)
    (first | (refine (HF.out _ ?_).mono ?_; (first | exact h0.drew | exact below_drewN' h0 _ | skip); rintro e w1 ⟨rfl, hb1⟩))
  go_wp2
  go_ret
  exact ⟨rfl, hb1⟩

theorem cf_below1 : ∀ (args : Array Value) (W : World), (callFunc 81 args).run Tryz.prog W = .ok (.enter 81 args) W := fun _ _ => by kernel_rfl
/-- What a function value that tells rising numbers and the greatest place L that fits must keep. -/
structure Tells (w : World) (beyond n L : Int) (fid : Nat) (first cap : Array Value) (V : Int → Int) : Prop where
  cf : ∀ (args : Array Value) (W : World), (callFunc fid args).run Tryz.prog W = .ok (.enter fid args) W
  num : ∀ k W, Below w.heap.size w W → 0 ≤ k → k < beyond → Calls Tryz.prog fid (first ++ #[.int .i64 k] ++ cap) W fun e W' => e = .returned (.int .i64 (V k)) ∧ Below W.heap.size W W'
  b0 : 1 ≤ beyond
  b1 : beyond ≤ 4000000000
  l0 : 0 ≤ L
  l1 : L < beyond
  iff : ∀ k, 1 ≤ k → k < beyond → (V k ≤ n ↔ k ≤ L)

set_option maxRecDepth 4000 in
theorem placeBelow_yes (beyond n L : Int) (fid : Nat) (first cap : Array Value) (V : Int → Int) (w : World) (h : Tells w beyond n L fid first cap V) (hv : V L = n) :
    Calls Tryz.prog 70 #[.int .i64 beyond, .int .i64 n, .func (.func fid) first cap] w fun e w' => e = .returned (.tuple #[.int .i64 L, .bool true]) ∧ Below w.heap.size w w' := by
  have hmf : ∀ (fn : Fn) (first cap : Array Value) (w : World), (Instr.makeFunc fn first cap).run Tryz.prog w = .ok (.func fn first cap) w := fun _ _ _ _ => rfl
  have HN : ∀ W : World, Hid (Below w.heap.size w W → Calls Tryz.prog fid (first ++ #[.int .i64 L] ++ cap) W fun e W' => e = .returned (.int .i64 (V L)) ∧ Below W.heap.size W W') := fun W => Lib.hid fun hb => h.num L W hb h.l0 h.l1
  have HL : ∀ W : World, Hid (Below w.heap.size w W → W.heap.size = w.heap.size + 2 → W.cell? ⟨w.heap.size, 0, none⟩ = some (.int .i64 n) → W.cell? ⟨w.heap.size + 1, 0, none⟩ = some (.func (.func fid) first cap) →
      Calls Tryz.prog 72 #[.int .i64 beyond, .func (.func 81) #[] #[.pointer (some ⟨w.heap.size + 1, 0, none⟩), .pointer (some ⟨w.heap.size, 0, none⟩)]] W fun e w' => e = .returned (.int .i64 L) ∧ Below W.heap.size W w') := by
    intro W
    refine Lib.hid fun hB hz cn cf => ?_
    refine last_any beyond L _ _ W h.b0 h.b1 h.l0 h.l1 cf_below1 ?_
    intro m W1 hb h1 h2
    have e : decide (V m ≤ n) = decide (m ≤ L) := by
      have := h.iff m h1 h2
      by_cases hc : m ≤ L <;> simp [hc, this]
    rw [← e]
    exact below1_any fid first cap m (V m) n (w.heap.size + 1) w.heap.size W W1 h.cf (fun W2 hb2 => h.num m W2 (hB.trans (hb2.mono hB.size)) (by omega) h2) hb cf cn (by omega) (by omega)
  have hcf := h.cf
  have hbd : beyond ≤ 4000000000 := h.b1
  have hne : (V L != n) = false := by simpa using hv
  clear h hv
  go_enter Tryz.func70, Tryz.ntmps70
  go_wp2_with (go_at_call 72; refine ((HL _).out ?_ ?_ ?_ ?_).mono ?_; exact ((Below.refl _ _).alloc (Nat.le_refl _) _).alloc (by simp) _; simp; simp [go_sem]; simp [go_sem]; rintro e w1 ⟨rfl, hb1⟩)
  have qn : w1.cell? ⟨w.heap.size, 0, none⟩ = some (.int .i64 n) := (hb1.cell (p := ⟨w.heap.size, 0, none⟩) (by simp; omega)).trans (by simp [go_sem])
  have qf : w1.cell? ⟨w.heap.size + 1, 0, none⟩ = some (.func (.func fid) first cap) := (hb1.cell (p := ⟨w.heap.size + 1, 0, none⟩) (by simp)).trans (by simp [go_sem])
  have hs1 : w.heap.size + 2 ≤ w1.heap.size := by
    have := hb1.size
    simp at this
    omega
  have hw1 : Below w.heap.size w w1 := (((Below.refl _ _).alloc (Nat.le_refl _) _).alloc (by simp) _).trans (hb1.mono (by simp; omega))
  clear hb1
  go_region_held3 (fun w' => w'.cell? ⟨w.heap.size, 0, none⟩ = some (.int .i64 n) ∧ w'.cell? ⟨w.heap.size + 1, 0, none⟩ = some (.func (.func fid) first cap))
    (first | exact ⟨qn, qf⟩ | exact ⟨(hb2.cell (p := ⟨w.heap.size, 0, none⟩) (show w.heap.size < w1.heap.size by omega)).trans qn, (hb2.cell (p := ⟨w.heap.size + 1, 0, none⟩) (show w.heap.size + 1 < w1.heap.size by omega)).trans qf⟩)
    (first | (refine ((HN _).out hw1.drew).mono ?_; rintro e w2 ⟨rfl, hb2⟩))
  go_wp2
  go_ret2
  exact ⟨rfl, hw1.drew.trans (hb2.mono hw1.size)⟩

set_option maxRecDepth 4000 in
theorem placeBelow_no (beyond n L : Int) (fid : Nat) (first cap : Array Value) (V : Int → Int) (w : World) (h : Tells w beyond n L fid first cap V) (hv : V L ≠ n) :
    Calls Tryz.prog 70 #[.int .i64 beyond, .int .i64 n, .func (.func fid) first cap] w fun e w' => e = .returned (.tuple #[.int .i64 0, .bool false]) ∧ Below w.heap.size w w' := by
  have hmf : ∀ (fn : Fn) (first cap : Array Value) (w : World), (Instr.makeFunc fn first cap).run Tryz.prog w = .ok (.func fn first cap) w := fun _ _ _ _ => rfl
  have HN : ∀ W : World, Hid (Below w.heap.size w W → Calls Tryz.prog fid (first ++ #[.int .i64 L] ++ cap) W fun e W' => e = .returned (.int .i64 (V L)) ∧ Below W.heap.size W W') := fun W => Lib.hid fun hb => h.num L W hb h.l0 h.l1
  have HL : ∀ W : World, Hid (Below w.heap.size w W → W.heap.size = w.heap.size + 2 → W.cell? ⟨w.heap.size, 0, none⟩ = some (.int .i64 n) → W.cell? ⟨w.heap.size + 1, 0, none⟩ = some (.func (.func fid) first cap) →
      Calls Tryz.prog 72 #[.int .i64 beyond, .func (.func 81) #[] #[.pointer (some ⟨w.heap.size + 1, 0, none⟩), .pointer (some ⟨w.heap.size, 0, none⟩)]] W fun e w' => e = .returned (.int .i64 L) ∧ Below W.heap.size W w') := by
    intro W
    refine Lib.hid fun hB hz cn cf => ?_
    refine last_any beyond L _ _ W h.b0 h.b1 h.l0 h.l1 cf_below1 ?_
    intro m W1 hb h1 h2
    have e : decide (V m ≤ n) = decide (m ≤ L) := by
      have := h.iff m h1 h2
      by_cases hc : m ≤ L <;> simp [hc, this]
    rw [← e]
    exact below1_any fid first cap m (V m) n (w.heap.size + 1) w.heap.size W W1 h.cf (fun W2 hb2 => h.num m W2 (hB.trans (hb2.mono hB.size)) (by omega) h2) hb cf cn (by omega) (by omega)
  have hcf := h.cf
  have hbd : beyond ≤ 4000000000 := h.b1
  have hne : (V L != n) = true := by simpa using hv
  clear h hv
  go_enter Tryz.func70, Tryz.ntmps70
  go_wp2_with (go_at_call 72; refine ((HL _).out ?_ ?_ ?_ ?_).mono ?_; exact ((Below.refl _ _).alloc (Nat.le_refl _) _).alloc (by simp) _; simp; simp [go_sem]; simp [go_sem]; rintro e w1 ⟨rfl, hb1⟩)
  have qn : w1.cell? ⟨w.heap.size, 0, none⟩ = some (.int .i64 n) := (hb1.cell (p := ⟨w.heap.size, 0, none⟩) (by simp; omega)).trans (by simp [go_sem])
  have qf : w1.cell? ⟨w.heap.size + 1, 0, none⟩ = some (.func (.func fid) first cap) := (hb1.cell (p := ⟨w.heap.size + 1, 0, none⟩) (by simp)).trans (by simp [go_sem])
  have hs1 : w.heap.size + 2 ≤ w1.heap.size := by
    have := hb1.size
    simp at this
    omega
  have hw1 : Below w.heap.size w w1 := (((Below.refl _ _).alloc (Nat.le_refl _) _).alloc (by simp) _).trans (hb1.mono (by simp; omega))
  clear hb1
  go_region_held3 (fun w' => w'.cell? ⟨w.heap.size, 0, none⟩ = some (.int .i64 n) ∧ w'.cell? ⟨w.heap.size + 1, 0, none⟩ = some (.func (.func fid) first cap))
    (first | exact ⟨qn, qf⟩ | exact ⟨(hb2.cell (p := ⟨w.heap.size, 0, none⟩) (show w.heap.size < w1.heap.size by omega)).trans qn, (hb2.cell (p := ⟨w.heap.size + 1, 0, none⟩) (show w.heap.size + 1 < w1.heap.size by omega)).trans qf⟩)
    (first | (refine ((HN _).out hw1.drew).mono ?_; rintro e w2 ⟨rfl, hb2⟩))
  go_wp2
  go_ret2
  exact ⟨rfl, hw1.drew.trans (hb2.mono hw1.size)⟩

/-- The place of a rule's number. -/
theorem cf_numberAt : ∀ (args : Array Value) (W : World), (callFunc 43 args).run Tryz.prog W = .ok (.enter 43 args) W := fun _ _ => by kernel_rfl
theorem rule_tells (a b c n L : Int) (V : Int → Int) (w : World) (h : Fits a b c n L V) : Tells w 2097152 n L 43 #[.agg #[.int .i64 a, .int .i64 b, .int .i64 c]] #[] V where
  cf := cf_numberAt
  num := fun k W _ h0 h1 => numberAt_any a b c k (V k) W (h.bds k h0 h1)
  b0 := by omega
  b1 := by omega
  l0 := h.l0
  l1 := h.l1
  iff := h.iff
theorem placeOf_yes (a b c n L : Int) (V : Int → Int) (w : World) (h : Fits a b c n L V) (hv : V L = n) :
    Calls Tryz.prog 56 #[.agg #[.int .i64 a, .int .i64 b, .int .i64 c], .int .i64 n] w fun e w' => e = .returned (.tuple #[.int .i64 L, .bool true]) ∧ Below w.heap.size w w' := by
  have hmf : ∀ (fn : Fn) (first cap : Array Value) (w : World), (Instr.makeFunc fn first cap).run Tryz.prog w = .ok (.func fn first cap) w := fun _ _ _ _ => rfl
  have HP := Lib.hid fun w => placeBelow_yes 2097152 n L _ _ _ V w (rule_tells a b c n L V w h) hv
  clear h hv
  go_enter Tryz.func56, Tryz.ntmps56
  go_wp2_with (go_at_call 70; refine (HP.out _).mono ?_; rintro e w1 ⟨rfl, hb1⟩)
  go_ret2
  exact ⟨rfl, ((Below.refl _ _).alloc (Nat.le_refl _) _).trans (hb1.mono (by simp))⟩
theorem placeOf_no (a b c n L : Int) (V : Int → Int) (w : World) (h : Fits a b c n L V) (hv : V L ≠ n) :
    Calls Tryz.prog 56 #[.agg #[.int .i64 a, .int .i64 b, .int .i64 c], .int .i64 n] w fun e w' => e = .returned (.tuple #[.int .i64 0, .bool false]) ∧ Below w.heap.size w w' := by
  have hmf : ∀ (fn : Fn) (first cap : Array Value) (w : World), (Instr.makeFunc fn first cap).run Tryz.prog w = .ok (.func fn first cap) w := fun _ _ _ _ => rfl
  have HP := Lib.hid fun w => placeBelow_no 2097152 n L _ _ _ V w (rule_tells a b c n L V w h) hv
  clear h hv
  go_enter Tryz.func56, Tryz.ntmps56
  go_wp2_with (go_at_call 70; refine (HP.out _).mono ?_; rintro e w1 ⟨rfl, hb1⟩)
  go_ret2
  exact ⟨rfl, ((Below.refl _ _).alloc (Nat.le_refl _) _).trans (hb1.mono (by simp))⟩
end Go.Proofs.YtjfkeflmbgfhmaaGreatDoor
