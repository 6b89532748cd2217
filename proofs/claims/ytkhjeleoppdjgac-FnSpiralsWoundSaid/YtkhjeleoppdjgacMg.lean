/- The texts XImB XImC XSiT XSiU XSiV XChA XSiW XSiX XSiY XSiZ XSjA XSjB XSjC XSjCb XSjCh XSjD XSjCx XSjDd XSjDh XSjE XSjF joined. -/
import Derived.Test.YtkhjeleoppdjgacImA
import Derived.Deep.RegionHeld3
import Derived.Test.YtkhjeleoppdjgacSiS
import Derived.Test.YtkhjeleoppdjgacSiA
import Derived.Test.YtkhjeleoppdjgacRuA
import Derived.BigRegion
import Derived.Laws.EntriesVeiled
import Derived.Deep.DeepCutAuto
import Derived.Test.YtkhjeleoppdjgacNum
import Derived.Conc.LoneSelect
import Derived.ChangeKeysEq
import Derived.Deep.AppendLies
import Derived.Deep.Onto
import Derived.Test.YtkhjeleoppdjgacSiC
import Derived.Test.YtkhjeleoppdjgacSiF
import Derived.Test.YtkhjeleoppdjgacSiO
import Derived.Test.YtkhjeleoppdjgacSiD
import Derived.Test.YtkhjeleoppdjgacSiP
import Derived.Test.YtkhjeleoppdjgacSiE
import Derived.Test.YtkhjeleoppdjgacSiJ
import Derived.Test.YtkhjeleoppdjgacSiG
/- Contracts of the program's functions of chapter 1, 2: rules and places. -/
namespace Go.Proofs.Ytkhjeleoppdjgac
open Go.RowKit

theorem areSides_yes (s : Int) (w : World) (h1 : 3 ≤ s) (h2 : s ≤ 24) :
    Calls Try.prog 143 #[.int .i64 s] w fun e w' => e = .returned (.bool true) ∧ w = w' := by
  go_enter Try.func143, Try.ntmps143
  go_wp2_with (go_at_call 97; refine (within_yes _ _ _ _ h1 h2).mono ?_; rintro e w' ⟨rfl, rfl⟩)
  go_ret
  exact ⟨rfl, rfl⟩
theorem areSides_no (s : Int) (w : World) (h : s < 3 ∨ 24 < s) :
    Calls Try.prog 143 #[.int .i64 s] w fun e w' => e = .returned (.bool false) ∧ w = w' := by
  have H := Lib.hid h
  clear h
  go_enter Try.func143, Try.ntmps143
  go_wp2_with (go_at_call 97; refine (within_no _ _ _ _ H.out).mono ?_; rintro e w' ⟨rfl, rfl⟩)
  go_ret
  exact ⟨rfl, rfl⟩
theorem asap_yes (s p l : Int) (w : World) (h1 : 3 ≤ s) (h2 : s ≤ 24) (h3 : l ≤ p) (h4 : p ≤ 100000) :
    Calls Try.prog 117 #[.int .i64 s, .int .i64 p, .int .i64 l] w fun e w' => e = .returned (.bool true) ∧ w = w' := by
  go_enter Try.func117, Try.ntmps117
  go_wp2_with (first
    | (go_at_call 143; refine (areSides_yes _ _ h1 h2).mono ?_; rintro e w' ⟨rfl, rfl⟩)
    | (go_at_call 97; refine (within_yes _ _ _ _ h3 h4).mono ?_; rintro e w' ⟨rfl, rfl⟩))
  go_ret
  exact ⟨rfl, rfl⟩
theorem asap_no (s p l : Int) (w : World) (h : (s < 3 ∨ 24 < s) ∨ (p < l ∨ 100000 < p)) :
    Calls Try.prog 117 #[.int .i64 s, .int .i64 p, .int .i64 l] w fun e w' => e = .returned (.bool false) ∧ w = w' := by
  by_cases hs : s < 3 ∨ 24 < s
  · have H := Lib.hid hs
    clear h hs
    go_enter Try.func117, Try.ntmps117
    go_wp2_with (go_at_call 143; refine (areSides_no _ _ H.out).mono ?_; rintro e w' ⟨rfl, rfl⟩)
    go_ret
    exact ⟨rfl, rfl⟩
  · have h1 : 3 ≤ s := by omega
    have h2 : s ≤ 24 := by omega
    have H : Hid (p < l ∨ 100000 < p) := Lib.hid (by omega)
    clear h hs
    go_enter Try.func117, Try.ntmps117
    go_wp2_with (first
      | (go_at_call 143; refine (areSides_yes _ _ h1 h2).mono ?_; rintro e w' ⟨rfl, rfl⟩)
      | (go_at_call 97; refine (within_no _ _ _ _ H.out).mono ?_; rintro e w' ⟨rfl, rfl⟩))
    go_ret
    exact ⟨rfl, rfl⟩
theorem polygonRule_any (s : Int) (w : World) (h1 : 3 ≤ s) (h2 : s ≤ 24) :
    Calls Try.prog 145 #[.int .i64 s] w fun e w' => e = .returned (.agg #[.int .i64 0, .int .i64 (4 - s), .int .i64 (s - 2)]) ∧ Below w.heap.size w w' := by
  go_enter Try.func145, Try.ntmps145
  go_wp2
  exact bodyPost_ret (v := .agg #[.int .i64 0, .int .i64 (4 - s), .int .i64 (s - 2)]) (by simp [results, Try.results145, go_sem]) rfl ⟨rfl, (Below.refl _ _).alloc (Nat.le_refl _) _⟩

/-- What a rule's walk asks of a place: the doubled number is 2 v. -/
structure RuleBds (a b c k v : Int) : Prop where
  e : a + b * k + c * k * k = 2 * v
  v0 : 0 ≤ v
  v1 : v ≤ 400000000000000
  p0 : -400000000000000 ≤ b * k
  p1 : b * k ≤ 400000000000000
  q0 : -400000000000000 ≤ c * k
  q1 : c * k ≤ 400000000000000
  r0 : -400000000000000 ≤ c * k * k
  r1 : c * k * k ≤ 400000000000000
  a0 : -1000 ≤ a
  a1 : a ≤ 1000

theorem numberAt_any (a b c k v : Int) (w : World) (h : RuleBds a b c k v) :
    Calls Try.prog 119 #[.agg #[.int .i64 a, .int .i64 b, .int .i64 c], .int .i64 k] w fun e w' => e = .returned (.int .i64 v) ∧ Below w.heap.size w w' := by
  obtain ⟨he, v0, v1, p0, p1, q0, q1, r0, r1, a0, a1⟩ := h
  have hd : 0 ≤ a + b * k + c * k * k := by omega
  have hv : (a + b * k + c * k * k) / 2 = v := by omega
  have H := Lib.hid hv
  clear he hv
  go_enter Try.func119, Try.ntmps119
  go_wp2
  go_ret
  exact ⟨ret_int H.out, (Below.refl _ _).alloc (Nat.le_refl _) _⟩

end Go.Proofs.Ytkhjeleoppdjgac

/- Contracts of the program's functions of chapter 1, 3: the last place up to a number, and the place of a number. -/
namespace Go.Proofs.Ytkhjeleoppdjgac
open Go.RowKit

/-- What a rule's numbers V and the greatest place L that fits must keep. -/
structure Fits (a b c n L : Int) (V : Int → Int) : Prop where
  bds : ∀ k, 0 ≤ k → k < 2097152 → RuleBds a b c k (V k)
  l0 : 0 ≤ L
  l1 : L < 2097152
  iff : ∀ k, 1 ≤ k → k < 2097152 → (V k ≤ n ↔ k ≤ L)

set_option maxRecDepth 4000 in
/-- The closure of lastPlaceUpTo: whether the number of a place fits. v: the number of the place. -/
theorem upTo1_any (a b c k v n : Int) (r m : Nat) (w : World) (h : RuleBds a b c k v)
    (c0 : w.cell? ⟨r, 0, none⟩ = some (.int .i64 a)) (c1 : w.cell? ⟨r, 1, none⟩ = some (.int .i64 b)) (c2 : w.cell? ⟨r, 2, none⟩ = some (.int .i64 c))
    (cn : w.cell? ⟨m, 0, none⟩ = some (.int .i64 n)) (hr : r < w.heap.size) (hm : m < w.heap.size) :
    Calls Try.prog 169 #[.int .i64 k, .pointer (some ⟨r, 0, none⟩), .pointer (some ⟨m, 0, none⟩)] w fun e w' => e = .returned (.bool (decide (v ≤ n))) ∧ Below w.heap.size w w' := by
  go_enter Try.func169, Try.ntmps169
  go_wp2
  go_region_held3 (fun w' => w'.cell? ⟨r, 0, none⟩ = some (.int .i64 a) ∧ w'.cell? ⟨r, 1, none⟩ = some (.int .i64 b) ∧ w'.cell? ⟨r, 2, none⟩ = some (.int .i64 c) ∧ w'.cell? ⟨m, 0, none⟩ = some (.int .i64 n))
    (first | exact ⟨c0, c1, c2, cn⟩ | exact ⟨(hb1.cell (p := ⟨r, 0, none⟩) hr).trans c0, (hb1.cell (p := ⟨r, 1, none⟩) hr).trans c1, (hb1.cell (p := ⟨r, 2, none⟩) hr).trans c2, (hb1.cell (p := ⟨m, 0, none⟩) hm).trans cn⟩)
    (first | (go_at_call 119; refine (numberAt_any _ _ _ _ _ _ h).mono ?_; rintro e w1 ⟨rfl, hb1⟩))
  go_wp2
  go_ret
  exact ⟨rfl, Below.refl _ _ |>.drew.trans hb1⟩

theorem cf_upTo : ∀ (args : Array Value) (W : World), (callFunc 169 args).run Try.prog W = .ok (.enter 169 args) W := fun _ _ => by kernel_rfl

theorem lastPlace_any (a b c n L : Int) (V : Int → Int) (w : World) (h : Fits a b c n L V) :
    Calls Try.prog 152 #[.agg #[.int .i64 a, .int .i64 b, .int .i64 c], .int .i64 n] w fun e w' => e = .returned (.int .i64 L) ∧ Below w.heap.size w w' := by
  have hmf : ∀ (fn : Fn) (first cap : Array Value) (w : World), (Instr.makeFunc fn first cap).run Try.prog w = .ok (.func fn first cap) w := fun _ _ _ _ => rfl
  have HB : ∀ W : World, Hid (W.heap.size = w.heap.size + 2 → W.cell? ⟨w.heap.size, 0, none⟩ = some (.int .i64 a) → W.cell? ⟨w.heap.size, 1, none⟩ = some (.int .i64 b) → W.cell? ⟨w.heap.size, 2, none⟩ = some (.int .i64 c) → W.cell? ⟨w.heap.size + 1, 0, none⟩ = some (.int .i64 n) →
      Calls Try.prog 110 #[.int .i64 2097152, .func (.func 169) #[] #[.pointer (some ⟨w.heap.size, 0, none⟩), .pointer (some ⟨w.heap.size + 1, 0, none⟩)]] W fun e w' => e = .returned (.int .i64 L) ∧ Below W.heap.size W w') := by
    intro W
    refine Lib.hid fun hz c0 c1 c2 cn => ?_
    refine last_any 2097152 L _ _ W (by omega) (by omega) h.l0 h.l1 cf_upTo ?_
    intro m W1 hb h1 h2
    have e : decide (V m ≤ n) = decide (m ≤ L) := by
      have := h.iff m h1 h2
      by_cases hc : m ≤ L <;> simp [hc, this]
    refine (upTo1_any a b c m (V m) n w.heap.size (w.heap.size + 1) W1 (h.bds m (by omega) h2) ?_ ?_ ?_ ?_ (by have := hb.size; omega) (by have := hb.size; omega)).mono ?_
    · exact (hb.cell (p := ⟨w.heap.size, 0, none⟩) (by simp; omega)).trans c0
    · exact (hb.cell (p := ⟨w.heap.size, 1, none⟩) (by simp; omega)).trans c1
    · exact (hb.cell (p := ⟨w.heap.size, 2, none⟩) (by simp; omega)).trans c2
    · exact (hb.cell (p := ⟨w.heap.size + 1, 0, none⟩) (by simp; omega)).trans cn
    · rintro e1 W2 ⟨rfl, hb2⟩
      exact ⟨by rw [e], hb.trans (hb2.mono hb.size)⟩
  clear h
  go_enter Try.func152, Try.ntmps152
  go_wp2_with (go_at_call 110; refine ((HB _).out ?_ ?_ ?_ ?_ ?_).mono ?_; (iterate 5 (first | simp [go_sem] | skip)); rintro e w1 ⟨rfl, hb1⟩)
  go_ret
  exact ⟨rfl, (((Below.refl _ _).alloc (Nat.le_refl _) _).alloc (by simp) _).trans (hb1.mono (by simp; omega))⟩

set_option maxRecDepth 4000 in
/-- The closure of placeBelow: whether the number of a place fits, whatever function value tells numbers. -/
theorem below1_any (fid : Nat) (first cap : Array Value) (k v n : Int) (r m : Nat) (w0 w : World)
    (hcf : ∀ (args : Array Value) (W : World), (callFunc fid args).run Try.prog W = .ok (.enter fid args) W)
    (hf : ∀ W : World, Below w0.heap.size w0 W → Calls Try.prog fid (first ++ #[.int .i64 k] ++ cap) W fun e W' => e = .returned (.int .i64 v) ∧ Below W.heap.size W W')
    (h0 : Below w0.heap.size w0 w)
    (cf : w0.cell? ⟨r, 0, none⟩ = some (.func (.func fid) first cap)) (cn : w0.cell? ⟨m, 0, none⟩ = some (.int .i64 n)) (hr : r < w0.heap.size) (hm : m < w0.heap.size) :
    Calls Try.prog 174 #[.int .i64 k, .pointer (some ⟨r, 0, none⟩), .pointer (some ⟨m, 0, none⟩)] w fun e w' => e = .returned (.bool (decide (v ≤ n))) ∧ Below w0.heap.size w0 w' := by
  have HF := Lib.hid fun W hW => (hf W hW).mono (R' := fun e W' => e = .returned (.int .i64 v) ∧ Below w0.heap.size w0 W') fun e W' ⟨he, hb⟩ => ⟨he, hW.trans (hb.mono hW.size)⟩
  clear hf
  go_enter Try.func174, Try.ntmps174
  go_wp2
  go_region_held3 (fun w' => w'.cell? ⟨r, 0, none⟩ = some (.func (.func fid) first cap) ∧ w'.cell? ⟨m, 0, none⟩ = some (.int .i64 n))
    (first | exact ⟨(h0.cell (p := ⟨r, 0, none⟩) hr).trans cf, (h0.cell (p := ⟨m, 0, none⟩) hm).trans cn⟩ | exact ⟨(hb1.cell (p := ⟨r, 0, none⟩) hr).trans cf, (hb1.cell (p := ⟨m, 0, none⟩) hm).trans cn⟩)
    (first | (refine (HF.out _ ?_).mono ?_; (first | exact h0.drew | exact below_drewN' h0 _ | skip); rintro e w1 ⟨rfl, hb1⟩))
  go_wp2
  go_ret
  exact ⟨rfl, hb1⟩

theorem cf_below1 : ∀ (args : Array Value) (W : World), (callFunc 174 args).run Try.prog W = .ok (.enter 174 args) W := fun _ _ => by kernel_rfl
/-- What a function value that tells rising numbers and the greatest place L that fits must keep. -/
structure Tells (w : World) (beyond n L : Int) (fid : Nat) (first cap : Array Value) (V : Int → Int) : Prop where
  cf : ∀ (args : Array Value) (W : World), (callFunc fid args).run Try.prog W = .ok (.enter fid args) W
  num : ∀ k W, Below w.heap.size w W → 0 ≤ k → k < beyond → Calls Try.prog fid (first ++ #[.int .i64 k] ++ cap) W fun e W' => e = .returned (.int .i64 (V k)) ∧ Below W.heap.size W W'
  b0 : 1 ≤ beyond
  b1 : beyond ≤ 4000000000
  l0 : 0 ≤ L
  l1 : L < beyond
  iff : ∀ k, 1 ≤ k → k < beyond → (V k ≤ n ↔ k ≤ L)

set_option maxRecDepth 4000 in
theorem placeBelow_yes (beyond n L : Int) (fid : Nat) (first cap : Array Value) (V : Int → Int) (w : World) (h : Tells w beyond n L fid first cap V) (hv : V L = n) :
    Calls Try.prog 168 #[.int .i64 beyond, .int .i64 n, .func (.func fid) first cap] w fun e w' => e = .returned (.tuple #[.int .i64 L, .bool true]) ∧ Below w.heap.size w w' := by
  have hmf : ∀ (fn : Fn) (first cap : Array Value) (w : World), (Instr.makeFunc fn first cap).run Try.prog w = .ok (.func fn first cap) w := fun _ _ _ _ => rfl
  have HN : ∀ W : World, Hid (Below w.heap.size w W → Calls Try.prog fid (first ++ #[.int .i64 L] ++ cap) W fun e W' => e = .returned (.int .i64 (V L)) ∧ Below W.heap.size W W') := fun W => Lib.hid fun hb => h.num L W hb h.l0 h.l1
  have HL : ∀ W : World, Hid (Below w.heap.size w W → W.heap.size = w.heap.size + 2 → W.cell? ⟨w.heap.size, 0, none⟩ = some (.int .i64 n) → W.cell? ⟨w.heap.size + 1, 0, none⟩ = some (.func (.func fid) first cap) →
      Calls Try.prog 110 #[.int .i64 beyond, .func (.func 174) #[] #[.pointer (some ⟨w.heap.size + 1, 0, none⟩), .pointer (some ⟨w.heap.size, 0, none⟩)]] W fun e w' => e = .returned (.int .i64 L) ∧ Below W.heap.size W w') := by
    intro W
    refine Lib.hid fun hB hz cn cf => ?_
    refine last_any beyond L _ _ W h.b0 h.b1 h.l0 h.l1 cf_below1 ?_
    intro m W1 hb h1 h2
    have e : decide (V m ≤ n) = decide (m ≤ L) := by
      have := h.iff m h1 h2
      by_cases hc : m ≤ L <;> simp [hc, this]
    rw [← e]
    exact below1_any fid first cap m (V m) n (w.heap.size + 1) w.heap.size W W1 h.cf (fun W2 hb2 => h.num m W2 (hB.trans (hb2.mono hB.size)) (by omega) h2) hb cf cn (by omega) (by omega)
  have hcf := h.cf
  have hbd : beyond ≤ 4000000000 := h.b1
  have hne : (V L != n) = false := by simpa using hv
  clear h hv
  go_enter Try.func168, Try.ntmps168
  go_wp2_with (go_at_call 110; refine ((HL _).out ?_ ?_ ?_ ?_).mono ?_; exact ((Below.refl _ _).alloc (Nat.le_refl _) _).alloc (by simp) _; simp; simp [go_sem]; simp [go_sem]; rintro e w1 ⟨rfl, hb1⟩)
  have qn : w1.cell? ⟨w.heap.size, 0, none⟩ = some (.int .i64 n) := (hb1.cell (p := ⟨w.heap.size, 0, none⟩) (by simp; omega)).trans (by simp [go_sem])
  have qf : w1.cell? ⟨w.heap.size + 1, 0, none⟩ = some (.func (.func fid) first cap) := (hb1.cell (p := ⟨w.heap.size + 1, 0, none⟩) (by simp)).trans (by simp [go_sem])
  have hs1 : w.heap.size + 2 ≤ w1.heap.size := by
    have := hb1.size
    simp at this
    omega
  have hw1 : Below w.heap.size w w1 := (((Below.refl _ _).alloc (Nat.le_refl _) _).alloc (by simp) _).trans (hb1.mono (by simp; omega))
  clear hb1
  go_region_held3 (fun w' => w'.cell? ⟨w.heap.size, 0, none⟩ = some (.int .i64 n) ∧ w'.cell? ⟨w.heap.size + 1, 0, none⟩ = some (.func (.func fid) first cap))
    (first | exact ⟨qn, qf⟩ | exact ⟨(hb2.cell (p := ⟨w.heap.size, 0, none⟩) (show w.heap.size < w1.heap.size by omega)).trans qn, (hb2.cell (p := ⟨w.heap.size + 1, 0, none⟩) (show w.heap.size + 1 < w1.heap.size by omega)).trans qf⟩)
    (first | (refine ((HN _).out hw1.drew).mono ?_; rintro e w2 ⟨rfl, hb2⟩))
  go_wp2
  go_ret2
  exact ⟨rfl, hw1.drew.trans (hb2.mono hw1.size)⟩

set_option maxRecDepth 4000 in
theorem placeBelow_no (beyond n L : Int) (fid : Nat) (first cap : Array Value) (V : Int → Int) (w : World) (h : Tells w beyond n L fid first cap V) (hv : V L ≠ n) :
    Calls Try.prog 168 #[.int .i64 beyond, .int .i64 n, .func (.func fid) first cap] w fun e w' => e = .returned (.tuple #[.int .i64 0, .bool false]) ∧ Below w.heap.size w w' := by
  have hmf : ∀ (fn : Fn) (first cap : Array Value) (w : World), (Instr.makeFunc fn first cap).run Try.prog w = .ok (.func fn first cap) w := fun _ _ _ _ => rfl
  have HN : ∀ W : World, Hid (Below w.heap.size w W → Calls Try.prog fid (first ++ #[.int .i64 L] ++ cap) W fun e W' => e = .returned (.int .i64 (V L)) ∧ Below W.heap.size W W') := fun W => Lib.hid fun hb => h.num L W hb h.l0 h.l1
  have HL : ∀ W : World, Hid (Below w.heap.size w W → W.heap.size = w.heap.size + 2 → W.cell? ⟨w.heap.size, 0, none⟩ = some (.int .i64 n) → W.cell? ⟨w.heap.size + 1, 0, none⟩ = some (.func (.func fid) first cap) →
      Calls Try.prog 110 #[.int .i64 beyond, .func (.func 174) #[] #[.pointer (some ⟨w.heap.size + 1, 0, none⟩), .pointer (some ⟨w.heap.size, 0, none⟩)]] W fun e w' => e = .returned (.int .i64 L) ∧ Below W.heap.size W w') := by
    intro W
    refine Lib.hid fun hB hz cn cf => ?_
    refine last_any beyond L _ _ W h.b0 h.b1 h.l0 h.l1 cf_below1 ?_
    intro m W1 hb h1 h2
    have e : decide (V m ≤ n) = decide (m ≤ L) := by
      have := h.iff m h1 h2
      by_cases hc : m ≤ L <;> simp [hc, this]
    rw [← e]
    exact below1_any fid first cap m (V m) n (w.heap.size + 1) w.heap.size W W1 h.cf (fun W2 hb2 => h.num m W2 (hB.trans (hb2.mono hB.size)) (by omega) h2) hb cf cn (by omega) (by omega)
  have hcf := h.cf
  have hbd : beyond ≤ 4000000000 := h.b1
  have hne : (V L != n) = true := by simpa using hv
  clear h hv
  go_enter Try.func168, Try.ntmps168
  go_wp2_with (go_at_call 110; refine ((HL _).out ?_ ?_ ?_ ?_).mono ?_; exact ((Below.refl _ _).alloc (Nat.le_refl _) _).alloc (by simp) _; simp; simp [go_sem]; simp [go_sem]; rintro e w1 ⟨rfl, hb1⟩)
  have qn : w1.cell? ⟨w.heap.size, 0, none⟩ = some (.int .i64 n) := (hb1.cell (p := ⟨w.heap.size, 0, none⟩) (by simp; omega)).trans (by simp [go_sem])
  have qf : w1.cell? ⟨w.heap.size + 1, 0, none⟩ = some (.func (.func fid) first cap) := (hb1.cell (p := ⟨w.heap.size + 1, 0, none⟩) (by simp)).trans (by simp [go_sem])
  have hs1 : w.heap.size + 2 ≤ w1.heap.size := by
    have := hb1.size
    simp at this
    omega
  have hw1 : Below w.heap.size w w1 := (((Below.refl _ _).alloc (Nat.le_refl _) _).alloc (by simp) _).trans (hb1.mono (by simp; omega))
  clear hb1
  go_region_held3 (fun w' => w'.cell? ⟨w.heap.size, 0, none⟩ = some (.int .i64 n) ∧ w'.cell? ⟨w.heap.size + 1, 0, none⟩ = some (.func (.func fid) first cap))
    (first | exact ⟨qn, qf⟩ | exact ⟨(hb2.cell (p := ⟨w.heap.size, 0, none⟩) (show w.heap.size < w1.heap.size by omega)).trans qn, (hb2.cell (p := ⟨w.heap.size + 1, 0, none⟩) (show w.heap.size + 1 < w1.heap.size by omega)).trans qf⟩)
    (first | (refine ((HN _).out hw1.drew).mono ?_; rintro e w2 ⟨rfl, hb2⟩))
  go_wp2
  go_ret2
  exact ⟨rfl, hw1.drew.trans (hb2.mono hw1.size)⟩

/-- The place of a rule's number. -/
theorem cf_numberAt : ∀ (args : Array Value) (W : World), (callFunc 119 args).run Try.prog W = .ok (.enter 119 args) W := fun _ _ => by kernel_rfl
theorem rule_tells (a b c n L : Int) (V : Int → Int) (w : World) (h : Fits a b c n L V) : Tells w 2097152 n L 119 #[.agg #[.int .i64 a, .int .i64 b, .int .i64 c]] #[] V where
  cf := cf_numberAt
  num := fun k W _ h0 h1 => numberAt_any a b c k (V k) W (h.bds k h0 h1)
  b0 := by omega
  b1 := by omega
  l0 := h.l0
  l1 := h.l1
  iff := h.iff
theorem placeOf_yes (a b c n L : Int) (V : Int → Int) (w : World) (h : Fits a b c n L V) (hv : V L = n) :
    Calls Try.prog 146 #[.agg #[.int .i64 a, .int .i64 b, .int .i64 c], .int .i64 n] w fun e w' => e = .returned (.tuple #[.int .i64 L, .bool true]) ∧ Below w.heap.size w w' := by
  have hmf : ∀ (fn : Fn) (first cap : Array Value) (w : World), (Instr.makeFunc fn first cap).run Try.prog w = .ok (.func fn first cap) w := fun _ _ _ _ => rfl
  have HP := Lib.hid fun w => placeBelow_yes 2097152 n L _ _ _ V w (rule_tells a b c n L V w h) hv
  clear h hv
  go_enter Try.func146, Try.ntmps146
  go_wp2_with (go_at_call 168; refine (HP.out _).mono ?_; rintro e w1 ⟨rfl, hb1⟩)
  go_ret2
  exact ⟨rfl, ((Below.refl _ _).alloc (Nat.le_refl _) _).trans (hb1.mono (by simp))⟩
theorem placeOf_no (a b c n L : Int) (V : Int → Int) (w : World) (h : Fits a b c n L V) (hv : V L ≠ n) :
    Calls Try.prog 146 #[.agg #[.int .i64 a, .int .i64 b, .int .i64 c], .int .i64 n] w fun e w' => e = .returned (.tuple #[.int .i64 0, .bool false]) ∧ Below w.heap.size w w' := by
  have hmf : ∀ (fn : Fn) (first cap : Array Value) (w : World), (Instr.makeFunc fn first cap).run Try.prog w = .ok (.func fn first cap) w := fun _ _ _ _ => rfl
  have HP := Lib.hid fun w => placeBelow_no 2097152 n L _ _ _ V w (rule_tells a b c n L V w h) hv
  clear h hv
  go_enter Try.func146, Try.ntmps146
  go_wp2_with (go_at_call 168; refine (HP.out _).mono ?_; rintro e w1 ⟨rfl, hb1⟩)
  go_ret2
  exact ⟨rfl, ((Below.refl _ _).alloc (Nat.le_refl _) _).trans (hb1.mono (by simp))⟩
end Go.Proofs.Ytkhjeleoppdjgac

/- Chapter 6: the program's small functions: sizes, vectors, bounds. -/
namespace Go.Proofs.Ytkhjeleoppdjgac
open Go.RowKit

theorem agg2 {a b c d : Int} (h : a = c) (g : b = d) : Ending.returned (.agg #[.int .i64 a, .int .i64 b]) = .returned (.agg #[.int .i64 c, .int .i64 d]) := by rw [h, g]
theorem bl2 (w : World) (o p : Obj) : Below w.heap.size w ((w.alloc o).alloc p) := ((Below.refl _ _).alloc (Nat.le_refl _) _).alloc (by simp) _
theorem bl3 (w : World) (o p q : Obj) : Below w.heap.size w (((w.alloc o).alloc p).alloc q) := (bl2 w o p).alloc (by simp; omega) _
/-- A box of two numbers that was made last stands behind a call. -/
theorem kept2 {W w1 : World} {a b : Value} {t R : Nat} (hb : Below (W.alloc (.cells #[a, b] t)).heap.size (W.alloc (.cells #[a, b] t)) w1) (hR : R = W.heap.size) :
    w1.cell? ⟨R, 0, none⟩ = some a ∧ w1.frozen? ⟨R, 0, none⟩ = false ∧ w1.cell? ⟨R, 1, none⟩ = some b ∧ w1.frozen? ⟨R, 1, none⟩ = false ∧ R < w1.heap.size := by
  subst hR
  have hz := hb.size
  simp at hz
  exact ⟨(hb.cell (p := ⟨W.heap.size, 0, none⟩) (by simp)).trans (by simp [go_sem]), (hb.frozen (p := ⟨W.heap.size, 0, none⟩) (by simp)).trans (by simp [go_sem]),
    (hb.cell (p := ⟨W.heap.size, 1, none⟩) (by simp)).trans (by simp [go_sem]), (hb.frozen (p := ⟨W.heap.size, 1, none⟩) (by simp)).trans (by simp [go_sem]), by omega⟩
theorem put2 {W : World} {R : Nat} {a b : Value} (c0 : W.cell? ⟨R, 0, none⟩ = some a) (c1 : W.cell? ⟨R, 1, none⟩ = some b) (p q : Value) :
    ((W.setCell ⟨R, 0, none⟩ p).setCell ⟨R, 1, none⟩ q).cell? ⟨R, 0, none⟩ = some p ∧ ((W.setCell ⟨R, 0, none⟩ p).setCell ⟨R, 1, none⟩ q).cell? ⟨R, 1, none⟩ = some q := by
  constructor
  · rw [World.cell?_setCell_other _ _ _ _ (by intro e; simp only [Addr.mk.injEq] at e; omega)]
    exact World.cell?_setCell_same W _ _ c0
  · exact World.cell?_setCell_same _ _ _ ((World.cell?_setCell_other W _ _ _ (by intro e; simp only [Addr.mk.injEq] at e; omega)).trans c1)
theorem sizeOf_any (n : Int) (w : World) (h0 : -1000000000 ≤ n) (h1 : n ≤ 1000000000) :
    Calls Try.prog 105 #[.int .i64 n] w fun e w' => e = .returned (.int .i64 (ab n)) ∧ w = w' := by
  have h : ab n = max n (-n) := rfl
  have H := Lib.hid h
  clear h
  go_enter Try.func105, Try.ntmps105
  go_wp2
  all_goals
    go_ret
    refine ⟨ret_int ?_, rfl⟩
    have := H.out
    omega
theorem vectorTo_any (x y : Int) (w : World) :
    Calls Try.prog 96 #[.agg #[.int .i64 x, .int .i64 y]] w fun e w' => e = .returned (.agg #[.int .i64 x, .int .i64 y]) ∧ Below w.heap.size w w' := by
  go_enter Try.func96, Try.ntmps96
  go_wp2
  exact bodyPost_ret (v := .agg #[.int .i64 x, .int .i64 y]) (by simp [results, Try.results96, go_sem]) rfl ⟨rfl, bl2 _ _ _⟩
theorem vspot_any (x y : Int) (w : World) :
    Calls Try.prog 86 #[.agg #[.int .i64 x, .int .i64 y]] w fun e w' => e = .returned (.agg #[.int .i64 x, .int .i64 y]) ∧ Below w.heap.size w w' := by
  go_enter Try.func86, Try.ntmps86
  go_wp2
  exact bodyPost_ret (v := .agg #[.int .i64 x, .int .i64 y]) (by simp [results, Try.results86, go_sem]) rfl ⟨rfl, bl2 _ _ _⟩
/-- What a step is asked for that is made k times. -/
structure Led (x y u v k : Int) : Prop where
  x0 : -1000000000 ≤ x
  x1 : x ≤ 1000000000
  y0 : -1000000000 ≤ y
  y1 : y ≤ 1000000000
  a0 : -1000000000 ≤ k * u
  a1 : k * u ≤ 1000000000
  b0 : -1000000000 ≤ k * v
  b1 : k * v ≤ 1000000000
theorem ledBy_any (x y u v k a b : Int) (w : World) (h : Led x y u v k) (ha : x + k * u = a) (hb : y + k * v = b) :
    Calls Try.prog 109 #[.agg #[.int .i64 x, .int .i64 y], .agg #[.int .i64 u, .int .i64 v], .int .i64 k] w fun e w' => e = .returned (.agg #[.int .i64 a, .int .i64 b]) ∧ Below w.heap.size w w' := by
  subst ha hb
  obtain ⟨x0, x1, y0, y1, a0, a1, b0, b1⟩ := h
  have e1 : IntKind.i64.wrap (k * u) = k * u := IntWalk.i64_in _ (by omega)
  have e2 : IntKind.i64.wrap (k * v) = k * v := IntWalk.i64_in _ (by omega)
  have e3 : IntKind.i64.wrap (x + k * u) = x + k * u := IntWalk.i64_in _ (by omega)
  have e4 : IntKind.i64.wrap (y + k * v) = y + k * v := IntWalk.i64_in _ (by omega)
  clear x0 x1 y0 y1 a0 a1 b0 b1
  go_enter Try.func109, Try.ntmps109
  go_wp2
  exact bodyPost_ret (v := .agg #[.int .i64 (x + k * u), .int .i64 (y + k * v)]) (by simp [results, Try.results109, go_sem]) rfl ⟨rfl, bl3 _ _ _ _⟩
theorem led_small (x y u v k : Int) (x0 : -1000000000 ≤ x) (x1 : x ≤ 1000000000) (y0 : -1000000000 ≤ y) (y1 : y ≤ 1000000000) (u0 : -1 ≤ u) (u1 : u ≤ 1) (v0 : -1 ≤ v) (v1 : v ≤ 1) (k0 : -1000000000 ≤ k) (k1 : k ≤ 1000000000) : Led x y u v k := by
  have hu : u = -1 ∨ u = 0 ∨ u = 1 := by omega
  have hv : v = -1 ∨ v = 0 ∨ v = 1 := by omega
  refine ⟨x0, x1, y0, y1, ?_, ?_, ?_, ?_⟩
  · rcases hu with rfl | rfl | rfl <;> omega
  · rcases hu with rfl | rfl | rfl <;> omega
  · rcases hv with rfl | rfl | rfl <;> omega
  · rcases hv with rfl | rfl | rfl <;> omega
theorem wayTo_any (x y u v : Int) (w : World) (x0 : -1000000 ≤ x) (x1 : x ≤ 1000000) (y0 : -1000000 ≤ y) (y1 : y ≤ 1000000) (u0 : -1000000 ≤ u) (u1 : u ≤ 1000000) (v0 : -1000000 ≤ v) (v1 : v ≤ 1000000) :
    Calls Try.prog 154 #[.agg #[.int .i64 x, .int .i64 y], .agg #[.int .i64 u, .int .i64 v]] w fun e w' => e = .returned (.agg #[.int .i64 (u - x), .int .i64 (v - y)]) ∧ Below w.heap.size w w' := by
  have HL := Lib.hid fun W => ledBy_any u v x y (-1) (u - x) (v - y) W ⟨by omega, by omega, by omega, by omega, by omega, by omega, by omega, by omega⟩ (by omega) (by omega)
  clear x0 x1 y0 y1 u0 u1 v0 v1
  go_enter Try.func154, Try.ntmps154
  go_wp2_with (go_at_call 109; refine (HL.out _).mono ?_; rintro e w1 ⟨rfl, hb1⟩; obtain ⟨c0, f0, c1, f1, hz⟩ := kept2 (R := w.heap.size + 1 + 1) hb1 (by simp))
  have hB : Below w.heap.size w ((w1.setCell ⟨w.heap.size + 1 + 1, 0, none⟩ (.int .i64 (u - x))).setCell ⟨w.heap.size + 1 + 1, 1, none⟩ (.int .i64 (v - y))) := (((bl3 w _ _ _).trans (hb1.mono (by simp; omega))).setCell (by simp; omega) _).setCell (by simp; omega) _
  obtain ⟨d0, d1⟩ := put2 c0 c1 (.int .i64 (u - x)) (.int .i64 (v - y))
  generalize ((w1.setCell ⟨w.heap.size + 1 + 1, 0, none⟩ (.int .i64 (u - x))).setCell ⟨w.heap.size + 1 + 1, 1, none⟩ (.int .i64 (v - y))) = wE at *
  exact bodyPost_ret (v := .agg #[.int .i64 (u - x), .int .i64 (v - y)]) (by simp [results, Try.results154, go_sem, d0, d1]) rfl ⟨rfl, hB⟩
theorem cf_square : ∀ (args : Array Value) (W : World), (callFunc 149 args).run Try.prog W = .ok (.enter 149 args) W := fun _ _ => by kernel_rfl
set_option maxRecDepth 4000 in
theorem squareRing_any (x y : Int) (w : World) (x0 : -1000000 ≤ x) (x1 : x ≤ 1000000) (y0 : -1000000 ≤ y) (y1 : y ≤ 1000000) :
    Calls Try.prog 149 #[.agg #[.int .i64 x, .int .i64 y]] w fun e w' => e = .returned (.int .i64 (sz x y)) ∧ Below w.heap.size w w' := by
  have HA := Lib.hid fun W => sizeOf_any x W (by omega) (by omega)
  have HC := Lib.hid fun W => sizeOf_any y W (by omega) (by omega)
  have hs : sz x y = max (ab x) (ab y) := rfl
  have HS := Lib.hid hs
  clear hs x0 x1 y0 y1
  generalize sz x y = r at *
  generalize ab x = a at *
  generalize ab y = b at *
  go_enter Try.func149, Try.ntmps149
  go_wp2_with fail
  go_region_held3 (fun w' => w' = (w.alloc (.cells #[.int .i64 x, .int .i64 y] 65)).drew)
    (first | rfl)
    (first
      | (go_at_call 105; refine (HA.out _).mono ?_; rintro e w1 ⟨rfl, rfl⟩)
      | (go_at_call 105; refine (HC.out _).mono ?_; rintro e w1 ⟨rfl, rfl⟩))
  all_goals
    go_wp2
    all_goals
      go_ret
      refine ⟨ret_int ?_, (Below.refl _ _).alloc (Nat.le_refl _) _ |>.drew⟩
      have := HS.out
      omega
theorem cf_hexagon : ∀ (args : Array Value) (W : World), (callFunc 116 args).run Try.prog W = .ok (.enter 116 args) W := fun _ _ => by kernel_rfl
set_option maxRecDepth 4000 in
theorem hexagonRing_any (x y : Int) (w : World) (x0 : -1000000 ≤ x) (x1 : x ≤ 1000000) (y0 : -1000000 ≤ y) (y1 : y ≤ 1000000) :
    Calls Try.prog 116 #[.agg #[.int .i64 x, .int .i64 y]] w fun e w' => e = .returned (.int .i64 (hsz x y)) ∧ Below w.heap.size w w' := by
  have HA := Lib.hid fun W => squareRing_any x y W (by omega) (by omega) (by omega) (by omega)
  have HC := Lib.hid fun W => sizeOf_any (x + y) W (by omega) (by omega)
  have hs : hsz x y = max (sz x y) (ab (x + y)) := rfl
  have hp : IntKind.i64.wrap (x + y) = x + y := IntWalk.i64_in _ (by omega)
  have HS := Lib.hid hs
  clear hs x0 x1 y0 y1
  generalize hsz x y = r at *
  generalize sz x y = a at *
  generalize ab (x + y) = b at *
  have hB : Below w.heap.size w (w.alloc (.cells #[.int .i64 x, .int .i64 y] 65)) := (Below.refl _ _).alloc (Nat.le_refl _) _
  have z : w.heap.size < (w.alloc (.cells #[.int .i64 x, .int .i64 y] 65)).heap.size := by simp
  have c0 : (w.alloc (.cells #[.int .i64 x, .int .i64 y] 65)).cell? ⟨w.heap.size, 0, none⟩ = some (.int .i64 x) := by simp [go_sem]
  have c1 : (w.alloc (.cells #[.int .i64 x, .int .i64 y] 65)).cell? ⟨w.heap.size, 1, none⟩ = some (.int .i64 y) := by simp [go_sem]
  go_enter Try.func116, Try.ntmps116
  go_wp2_with fail
  generalize w.alloc (.cells #[.int .i64 x, .int .i64 y] 65) = wa at *
  have HB := Lib.hid hB
  have HZ := Lib.hid z
  clear hB z
  go_region_held3 (fun w' => w'.cell? ⟨w.heap.size, 0, none⟩ = some (.int .i64 x) ∧ w'.cell? ⟨w.heap.size, 1, none⟩ = some (.int .i64 y))
    (first | exact ⟨c0, c1⟩ | exact ⟨(hb1.cell (p := ⟨w.heap.size, 0, none⟩) HZ.out).trans c0, (hb1.cell (p := ⟨w.heap.size, 1, none⟩) HZ.out).trans c1⟩)
    (first
      | (go_at_call 149; refine (HA.out _).mono ?_; rintro e w1 ⟨rfl, hb1⟩; have HB1 := Lib.hid (show Below w.heap.size w w1 from (by first | exact HB.out.trans (hb1.mono HB.out.size) | exact HB.out.drew.trans (hb1.mono HB.out.size))))
      | (go_at_call 105; refine (HC.out _).mono ?_; rintro e w2 ⟨rfl, rfl⟩))
  all_goals
    go_wp2
    all_goals
      go_ret
      refine ⟨ret_int ?_, HB1.out⟩
      have := HS.out
      omega
end Go.Proofs.Ytkhjeleoppdjgac

/- Chapter 6: the program's spirals: their steps, the rule of their rings, rings, the last number of a ring. -/
namespace Go.Proofs.Ytkhjeleoppdjgac
open Go.ChangeShapes Go.WideShapes Go.ChangeAt Go.RowKit

theorem kept3 {W w1 : World} {a b c : Value} {t R : Nat} (hb : Below (W.alloc (.cells #[a, b, c] t)).heap.size (W.alloc (.cells #[a, b, c] t)) w1) (hR : R = W.heap.size) :
    w1.cell? ⟨R, 0, none⟩ = some a ∧ w1.frozen? ⟨R, 0, none⟩ = false ∧ w1.cell? ⟨R, 1, none⟩ = some b ∧ w1.frozen? ⟨R, 1, none⟩ = false ∧ w1.cell? ⟨R, 2, none⟩ = some c ∧ w1.frozen? ⟨R, 2, none⟩ = false ∧ R < w1.heap.size := by
  subst hR
  have hz := hb.size
  simp at hz
  exact ⟨(hb.cell (p := ⟨W.heap.size, 0, none⟩) (by simp)).trans (by simp [go_sem]), (hb.frozen (p := ⟨W.heap.size, 0, none⟩) (by simp)).trans (by simp [go_sem]),
    (hb.cell (p := ⟨W.heap.size, 1, none⟩) (by simp)).trans (by simp [go_sem]), (hb.frozen (p := ⟨W.heap.size, 1, none⟩) (by simp)).trans (by simp [go_sem]),
    (hb.cell (p := ⟨W.heap.size, 2, none⟩) (by simp)).trans (by simp [go_sem]), (hb.frozen (p := ⟨W.heap.size, 2, none⟩) (by simp)).trans (by simp [go_sem]), by omega⟩
theorem put_far {W : World} {R Q : Nat} {o o' : Nat} {v u : Value} (h : W.cell? ⟨Q, o', none⟩ = some u) (hne : ¬ (Q = R ∧ o' = o)) : (W.setCell ⟨R, o, none⟩ v).cell? ⟨Q, o', none⟩ = some u :=
  (World.cell?_setCell_other W _ _ _ (by intro e; simp only [Addr.mk.injEq] at e; exact hne (by omega))).trans h
theorem put3 {W : World} {R : Nat} {a b c : Value} (c0 : W.cell? ⟨R, 0, none⟩ = some a) (c1 : W.cell? ⟨R, 1, none⟩ = some b) (c2 : W.cell? ⟨R, 2, none⟩ = some c) (p q r : Value) :
    (((W.setCell ⟨R, 0, none⟩ p).setCell ⟨R, 1, none⟩ q).setCell ⟨R, 2, none⟩ r).cell? ⟨R, 0, none⟩ = some p ∧ (((W.setCell ⟨R, 0, none⟩ p).setCell ⟨R, 1, none⟩ q).setCell ⟨R, 2, none⟩ r).cell? ⟨R, 1, none⟩ = some q ∧
    (((W.setCell ⟨R, 0, none⟩ p).setCell ⟨R, 1, none⟩ q).setCell ⟨R, 2, none⟩ r).cell? ⟨R, 2, none⟩ = some r := by
  obtain ⟨d0, d1⟩ := put2 c0 c1 p q
  refine ⟨put_far d0 (by omega), put_far d1 (by omega), ?_⟩
  exact World.cell?_setCell_same _ _ _ (put_far (put_far c2 (by omega)) (by omega))
theorem squareSpiral_any (w : World) :
    Calls Try.prog 84 #[] w fun e w' => (∃ R, e = .returned (.agg #[.slice (some ⟨R, 0, none⟩) 4 4, .int .i64 2, .func (.func 149) #[] #[]]) ∧ Own w' w.heap.size w'.heap.size (some ⟨R, 0, none⟩) (prs sqK.ss)) ∧ Below w.heap.size w w' := by
  go_enter Try.func84, Try.ntmps84
  go_wp2
  exact bodyPost_ret (v := .agg #[.slice (some ⟨w.heap.size + 1, 0, none⟩) 4 4, .int .i64 2, .func (.func 149) #[] #[]]) (by simp [results, Try.results84, go_sem]) rfl
    ⟨⟨_, rfl, fun _ => ⟨w.heap.size + 1, 0, rfl, by omega, by simp, fun j u hu => ⟨by rw [World.cell?_alloc_at _ _ _ _ (by simp)]; simpa [prs, sqK] using hu, by rw [World.frozen?_alloc_at _ _ _ _ (by simp)]⟩⟩⟩, bl2 _ _ _⟩
theorem hexagonSpiral_any (w : World) :
    Calls Try.prog 112 #[] w fun e w' => (∃ R, e = .returned (.agg #[.slice (some ⟨R, 0, none⟩) 6 6, .int .i64 1, .func (.func 116) #[] #[]]) ∧ Own w' w.heap.size w'.heap.size (some ⟨R, 0, none⟩) (prs hxK.ss)) ∧ Below w.heap.size w w' := by
  go_enter Try.func112, Try.ntmps112
  go_wp2
  exact bodyPost_ret (v := .agg #[.slice (some ⟨w.heap.size + 1, 0, none⟩) 6 6, .int .i64 1, .func (.func 116) #[] #[]]) (by simp [results, Try.results112, go_sem]) rfl
    ⟨⟨_, rfl, fun _ => ⟨w.heap.size + 1, 0, rfl, by omega, by simp, fun j u hu => ⟨by rw [World.cell?_alloc_at _ _ _ _ (by simp)]; simpa [prs, hxK] using hu, by rw [World.frozen?_alloc_at _ _ _ _ (by simp)]⟩⟩⟩, bl2 _ _ _⟩
theorem siCentred_any (s : Int) (w : World) (h1 : 3 ≤ s) (h2 : s ≤ 24) :
    Calls Try.prog 118 #[.int .i64 s] w fun e w' => e = .returned (.agg #[.int .i64 2, .int .i64 (-s), .int .i64 s]) ∧ Below w.heap.size w w' := by
  go_enter Try.func118, Try.ntmps118
  go_wp2
  exact bodyPost_ret (v := .agg #[.int .i64 2, .int .i64 (-s), .int .i64 s]) (by simp [results, Try.results118, go_sem]) rfl ⟨rfl, (Below.refl _ _).alloc (Nat.le_refl _) _⟩
theorem ringRule_any (R F m : Nat) (u s : Int) (w : World) (h : (m : Int) * u = s) (h1 : 3 ≤ s) (h2 : s ≤ 24) :
    Calls Try.prog 151 #[.agg #[.slice (some ⟨R, 0, none⟩) m m, .int .i64 u, .func (.func F) #[] #[]]] w fun e w' => e = .returned (.agg #[.int .i64 2, .int .i64 (-s), .int .i64 s]) ∧ Below w.heap.size w w' := by
  have e1 : IntKind.i64.wrap ((m : Int) * u) = s := by rw [h]; exact IntWalk.i64_in _ (by omega)
  have HC := Lib.hid fun W => siCentred_any s W h1 h2
  clear h h1 h2
  go_enter Try.func151, Try.ntmps151
  go_wp2_with (go_at_call 118; refine (HC.out _).mono ?_; rintro e w1 ⟨rfl, hb1⟩; obtain ⟨c0, f0, c1, f1, c2, f2, hz⟩ := kept3 (R := w.heap.size + 1) hb1 (by simp))
  have hB : Below w.heap.size w (((w1.setCell ⟨w.heap.size + 1, 0, none⟩ (.int .i64 2)).setCell ⟨w.heap.size + 1, 1, none⟩ (.int .i64 (-s))).setCell ⟨w.heap.size + 1, 2, none⟩ (.int .i64 s)) := ((((bl2 w _ _).trans (hb1.mono (by simp; omega))).setCell (by simp) _).setCell (by simp) _).setCell (by simp) _
  obtain ⟨d0, d1, d2⟩ := put3 c0 c1 c2 (.int .i64 2) (.int .i64 (-s)) (.int .i64 s)
  generalize (((w1.setCell ⟨w.heap.size + 1, 0, none⟩ (.int .i64 2)).setCell ⟨w.heap.size + 1, 1, none⟩ (.int .i64 (-s))).setCell ⟨w.heap.size + 1, 2, none⟩ (.int .i64 s)) = wE at *
  exact bodyPost_ret (v := .agg #[.int .i64 2, .int .i64 (-s), .int .i64 s]) (by simp [results, Try.results151, go_sem, d0, d1, d2]) rfl ⟨rfl, hB⟩
theorem ringOf_any (R F m : Nat) (u s n L : Int) (V : Int → Int) (w : World) (h : (m : Int) * u = s) (h1 : 3 ≤ s) (h2 : s ≤ 24) (hf : Fits 2 (-s) s n L V) :
    Calls Try.prog 89 #[.agg #[.slice (some ⟨R, 0, none⟩) m m, .int .i64 u, .func (.func F) #[] #[]], .int .i64 n] w fun e w' => e = .returned (.int .i64 L) ∧ Below w.heap.size w w' := by
  have HR := Lib.hid fun W => ringRule_any R F m u s W h h1 h2
  have HL := Lib.hid fun W => lastPlace_any 2 (-s) s n L V W hf
  clear h h1 h2 hf
  go_enter Try.func89, Try.ntmps89
  go_wp2_with (first
    | (go_at_call 151; refine (HR.out _).mono ?_; rintro e w1 ⟨rfl, hb1⟩)
    | (go_at_call 152; refine (HL.out _).mono ?_; rintro e w2 ⟨rfl, hb2⟩))
  go_ret
  have hz := hb1.size
  simp at hz
  exact ⟨rfl, ((Below.refl _ _).alloc (Nat.le_refl _) _).trans ((hb1.mono (by simp)).trans (hb2.mono (by omega)))⟩
theorem lastOfRing_any (R F m : Nat) (u s r v : Int) (w : World) (h : (m : Int) * u = s) (h1 : 3 ≤ s) (h2 : s ≤ 24) (hf : RuleBds 2 (-s) s (r + 1) (v + 1)) (r0 : -1 ≤ r) (r1 : r ≤ 1000000) (v0 : 0 ≤ v) (v1 : v ≤ 1000000000000) :
    Calls Try.prog 98 #[.agg #[.slice (some ⟨R, 0, none⟩) m m, .int .i64 u, .func (.func F) #[] #[]], .int .i64 r] w fun e w' => e = .returned (.int .i64 v) ∧ Below w.heap.size w w' := by
  have HR := Lib.hid fun W => ringRule_any R F m u s W h h1 h2
  have HL := Lib.hid fun W => numberAt_any 2 (-s) s (r + 1) (v + 1) W hf
  have e1 : IntKind.i64.wrap (r + 1) = r + 1 := IntWalk.i64_in _ (by omega)
  have e2 : IntKind.i64.wrap (v + 1 - 1) = v := by rw [IntWalk.i64_in _ (by omega)]; omega
  clear h h1 h2 hf
  go_enter Try.func98, Try.ntmps98
  go_wp2_with (first
    | (go_at_call 151; refine (HR.out _).mono ?_; rintro e w1 ⟨rfl, hb1⟩)
    | (go_at_call 119; refine (HL.out _).mono ?_; rintro e w2 ⟨rfl, hb2⟩))
  go_ret
  have hz := hb1.size
  simp at hz
  exact ⟨ret_int (by omega), ((Below.refl _ _).alloc (Nat.le_refl _) _).trans ((hb1.mono (by simp)).trans (hb2.mono (by omega)))⟩

/-- The rule of the rings of the spiral, of the hexagon spiral. -/
theorem sq_exp (k : Int) : (2 * k - 1) * (2 * k - 1) = 4 * (k * k) - 4 * k + 1 := by grind
theorem kk_le {k : Int} (h0 : 0 ≤ k) (h1 : k < 2097152) : 0 ≤ k * k ∧ k * k ≤ 4398046511104 := by
  have := Int.mul_le_mul (a := k) (b := k) (c := 2097152) (d := 2097152) (by omega) (by omega) h0 (by omega)
  have := Int.mul_nonneg h0 h0
  omega
theorem sq_bds {k : Int} (h0 : 0 ≤ k) (h1 : k < 2097152) : RuleBds 2 (-8) 8 k ((2 * k - 1) * (2 * k - 1)) := by
  obtain ⟨a, b⟩ := kk_le h0 h1
  have e : (8 : Int) * k * k = 8 * (k * k) := by grind
  have e2 := sq_exp k
  have e3 := sq_nn (2 * k - 1)
  constructor <;> omega
theorem hx_bds {k : Int} (h0 : 0 ≤ k) (h1 : k < 2097152) : RuleBds 2 (-6) 6 k (3 * k * (k - 1) + 1) := by
  obtain ⟨a, b⟩ := kk_le h0 h1
  have e : (6 : Int) * k * k = 6 * (k * k) := by grind
  have e2 := (hex_prod k).2
  rcases Int.lt_or_le 0 k with h | h
  · have := Int.mul_le_mul_of_nonneg_right (a := 1) (b := k) (c := k) (by omega) (by omega)
    constructor <;> omega
  · obtain rfl : k = 0 := by omega
    constructor <;> omega
theorem sq_fits (n : Int) (hn : 0 ≤ n) (h1 : n ≤ 1100000) : Fits 2 (-8) 8 n (rg n) (fun k => (2 * k - 1) * (2 * k - 1)) where
  bds := fun k a b => sq_bds a b
  l0 := (rg_is n hn).nn
  l1 := by have := rg_le n hn (by omega); omega
  iff := fun k a b => by
    have h := rg_is n hn
    constructor
    · intro hk
      rcases Int.lt_or_le (rg n) k with hl | hl
      · have := h.hi
        have := h.nn
        have := sq_mono (a := 2 * rg n + 1) (b := 2 * k - 1) (by omega) (by omega)
        omega
      · exact hl
    · intro hk
      have := h.lo (by omega)
      have := sq_mono (a := 2 * k - 1) (b := 2 * rg n - 1) (by omega) (by omega)
      omega
theorem hx_fits (n : Int) (hn : 0 ≤ n) (h1 : n ≤ 1003000) : Fits 2 (-6) 6 n (hx n) (fun k => 3 * k * (k - 1) + 1) where
  bds := fun k a b => hx_bds a b
  l0 := (hx_is n hn).nn
  l1 := by have := hx_le n hn h1; omega
  iff := fun k a b => by
    have h := hx_is n hn
    have e := hex_below k
    constructor
    · intro hk
      rcases Int.lt_or_le (hx n) k with hl | hl
      · have := h.hi
        have := h.nn
        have := hex_mono (a := hx n) (b := k - 1) (by omega) (by omega)
        omega
      · exact hl
    · intro hk
      have := h.lo (by omega)
      have e2 := hex_below (hx n)
      have := hex_mono (a := k - 1) (b := hx n - 1) (by omega) (by omega)
      omega
end Go.Proofs.Ytkhjeleoppdjgac

/- Chapter 6: the sides of a ring, by the program. -/
namespace Go.Proofs.Ytkhjeleoppdjgac
open Go.ChangeShapes Go.WideShapes Go.ChangeAt Go.RowKit

theorem infoSide : (Try.prog.info? 103).map (fun i => (i.zero, i.size, i.bytes)) = some (some (.agg #[.int .i64 0, .int .i64 0, .int .i64 0, .int .i64 0, .int .i64 0, .int .i64 0]), 6, 48) := by kernel_rfl
/-- A side as cells; the first sides of a ring. -/
def sd6 (K : Kd) (r b l : Int) (t : Nat) : List Value := [.int .i64 (cor K r l t).1, .int .i64 (cor K r l t).2, .int .i64 (b + t * l), .int .i64 (sst K t).1, .int .i64 (sst K t).2, .int .i64 l]
def sds (K : Kd) (r b l : Int) (k : Nat) : List Value := (List.range k).flatMap fun t => sd6 K r b l t
theorem sds_succ (K : Kd) (r b l : Int) (k : Nat) : sds K r b l (k + 1) = sds K r b l k ++ sd6 K r b l k := by simp [sds, List.range_succ]
theorem sds_len (K : Kd) (r b l : Int) (k : Nat) : (sds K r b l k).length = 6 * k := by
  induction k with
  | zero => rfl
  | succ k ih => rw [sds_succ, List.length_append, ih]; simp [sd6]; omega
theorem sds_get (K : Kd) (r b l : Int) (k t : Nat) (h : t < k) (i : Nat) (hi : i < 6) : (sds K r b l k)[6 * t + i]? = (sd6 K r b l t)[i]? := by
  induction k with
  | zero => omega
  | succ k ih =>
    rw [sds_succ]
    rcases Nat.lt_or_ge t k with ht | ht
    · rw [List.getElem?_append_left (by rw [sds_len]; omega)]
      exact ih ht
    · obtain rfl : t = k := by omega
      rw [List.getElem?_append_right (by rw [sds_len]; omega), sds_len]
      congr 1
      omega
theorem Own.six_ {w : World} {lo hi : Nat} {A : Option Addr} {K : Kd} {r b l : Int} {k : Nat} (h : Own w lo hi A (sds K r b l k)) {t : Nat} (ht : t < k) :
    ∃ g o, A = some ⟨g, o, none⟩ ∧ lo ≤ g ∧ g < hi ∧ w.cell? ⟨g, o + t * 6, none⟩ = some (.int .i64 (cor K r l t).1) ∧ w.cell? ⟨g, o + t * 6 + 1, none⟩ = some (.int .i64 (cor K r l t).2) ∧
      w.cell? ⟨g, o + t * 6 + 2, none⟩ = some (.int .i64 (b + t * l)) ∧ w.cell? ⟨g, o + t * 6 + 3, none⟩ = some (.int .i64 (sst K t).1) ∧ w.cell? ⟨g, o + t * 6 + 4, none⟩ = some (.int .i64 (sst K t).2) ∧ w.cell? ⟨g, o + t * 6 + 5, none⟩ = some (.int .i64 l) := by
  obtain ⟨g, o, e, h1, h2, hc⟩ := h (by rw [sds_len]; omega)
  have q := fun (i : Nat) (hi : i < 6) (v : Value) (hv : (sd6 K r b l t)[i]? = some v) => (hc (6 * t + i) v (by rw [sds_get K r b l k t ht i hi, hv])).1
  refine ⟨g, o, e, h1, h2, ?_, ?_, ?_, ?_, ?_, ?_⟩
  · have := q 0 (by omega) _ rfl
    rwa [show o + (6 * t + 0) = o + t * 6 by omega] at this
  · have := q 1 (by omega) _ rfl
    rwa [show o + (6 * t + 1) = o + t * 6 + 1 by omega] at this
  · have := q 2 (by omega) _ rfl
    rwa [show o + (6 * t + 2) = o + t * 6 + 2 by omega] at this
  · have := q 3 (by omega) _ rfl
    rwa [show o + (6 * t + 3) = o + t * 6 + 3 by omega] at this
  · have := q 4 (by omega) _ rfl
    rwa [show o + (6 * t + 4) = o + t * 6 + 4 by omega] at this
  · have := q 5 (by omega) _ rfl
    rwa [show o + (6 * t + 5) = o + t * 6 + 5 by omega] at this
/-- A box of six that was made last stands behind a call. -/
structure Box6 (W : World) (B : Nat) (a b c d e f : Value) : Prop where
  c0 : W.cell? ⟨B, 0, none⟩ = some a
  f0 : W.frozen? ⟨B, 0, none⟩ = false
  c1 : W.cell? ⟨B, 1, none⟩ = some b
  f1 : W.frozen? ⟨B, 1, none⟩ = false
  c2 : W.cell? ⟨B, 2, none⟩ = some c
  f2 : W.frozen? ⟨B, 2, none⟩ = false
  c3 : W.cell? ⟨B, 3, none⟩ = some d
  f3 : W.frozen? ⟨B, 3, none⟩ = false
  c4 : W.cell? ⟨B, 4, none⟩ = some e
  f4 : W.frozen? ⟨B, 4, none⟩ = false
  c5 : W.cell? ⟨B, 5, none⟩ = some f
  f5 : W.frozen? ⟨B, 5, none⟩ = false
  z : B < W.heap.size
theorem box6_new (w : World) (a b c d e f : Value) (t : Nat) : Box6 (w.alloc (.cells #[a, b, c, d, e, f] t)) w.heap.size a b c d e f :=
  ⟨by simp [go_sem], by simp [go_sem], by simp [go_sem], by simp [go_sem], by simp [go_sem], by simp [go_sem], by simp [go_sem], by simp [go_sem], by simp [go_sem], by simp [go_sem], by simp [go_sem], by simp [go_sem], by simp⟩
theorem Box6.below {W W' : World} {B : Nat} {a b c d e f : Value} (h : Box6 W B a b c d e f) (hb : Below W.heap.size W W') : Box6 W' B a b c d e f :=
  ⟨(hb.cell (p := ⟨B, 0, none⟩) h.z).trans h.c0, (hb.frozen (p := ⟨B, 0, none⟩) h.z).trans h.f0, (hb.cell (p := ⟨B, 1, none⟩) h.z).trans h.c1, (hb.frozen (p := ⟨B, 1, none⟩) h.z).trans h.f1,
    (hb.cell (p := ⟨B, 2, none⟩) h.z).trans h.c2, (hb.frozen (p := ⟨B, 2, none⟩) h.z).trans h.f2, (hb.cell (p := ⟨B, 3, none⟩) h.z).trans h.c3, (hb.frozen (p := ⟨B, 3, none⟩) h.z).trans h.f3,
    (hb.cell (p := ⟨B, 4, none⟩) h.z).trans h.c4, (hb.frozen (p := ⟨B, 4, none⟩) h.z).trans h.f4, (hb.cell (p := ⟨B, 5, none⟩) h.z).trans h.c5, (hb.frozen (p := ⟨B, 5, none⟩) h.z).trans h.f5, Nat.lt_of_lt_of_le h.z hb.size⟩
theorem Box6.drew {W : World} {B : Nat} {a b c d e f : Value} (h : Box6 W B a b c d e f) : Box6 W.drew B a b c d e f := ⟨h.c0, h.f0, h.c1, h.f1, h.c2, h.f2, h.c3, h.f3, h.c4, h.f4, h.c5, h.f5, h.z⟩
theorem Box6.alloc {W : World} {B : Nat} {a b c d e f : Value} (h : Box6 W B a b c d e f) (o : Obj) : Box6 (W.alloc o) B a b c d e f := h.below ((Below.refl _ _).alloc (Nat.le_refl _) _)
theorem Box6.s0 {W : World} {B : Nat} {a b c d e f p : Value} (h : Box6 W B a b c d e f) : Box6 (W.setCell ⟨B, 0, none⟩ p) B p b c d e f :=
  ⟨World.cell?_setCell_same _ _ _ h.c0, (World.frozen?_setCell _ _ _ _).trans h.f0, put_far h.c1 (by omega), (World.frozen?_setCell _ _ _ _).trans h.f1, put_far h.c2 (by omega), (World.frozen?_setCell _ _ _ _).trans h.f2, put_far h.c3 (by omega), (World.frozen?_setCell _ _ _ _).trans h.f3, put_far h.c4 (by omega), (World.frozen?_setCell _ _ _ _).trans h.f4, put_far h.c5 (by omega), (World.frozen?_setCell _ _ _ _).trans h.f5, by simpa using h.z⟩
theorem Box6.s1 {W : World} {B : Nat} {a b c d e f p : Value} (h : Box6 W B a b c d e f) : Box6 (W.setCell ⟨B, 1, none⟩ p) B a p c d e f :=
  ⟨put_far h.c0 (by omega), (World.frozen?_setCell _ _ _ _).trans h.f0, World.cell?_setCell_same _ _ _ h.c1, (World.frozen?_setCell _ _ _ _).trans h.f1, put_far h.c2 (by omega), (World.frozen?_setCell _ _ _ _).trans h.f2, put_far h.c3 (by omega), (World.frozen?_setCell _ _ _ _).trans h.f3, put_far h.c4 (by omega), (World.frozen?_setCell _ _ _ _).trans h.f4, put_far h.c5 (by omega), (World.frozen?_setCell _ _ _ _).trans h.f5, by simpa using h.z⟩
theorem Box6.s2 {W : World} {B : Nat} {a b c d e f p : Value} (h : Box6 W B a b c d e f) : Box6 (W.setCell ⟨B, 2, none⟩ p) B a b p d e f :=
  ⟨put_far h.c0 (by omega), (World.frozen?_setCell _ _ _ _).trans h.f0, put_far h.c1 (by omega), (World.frozen?_setCell _ _ _ _).trans h.f1, World.cell?_setCell_same _ _ _ h.c2, (World.frozen?_setCell _ _ _ _).trans h.f2, put_far h.c3 (by omega), (World.frozen?_setCell _ _ _ _).trans h.f3, put_far h.c4 (by omega), (World.frozen?_setCell _ _ _ _).trans h.f4, put_far h.c5 (by omega), (World.frozen?_setCell _ _ _ _).trans h.f5, by simpa using h.z⟩
theorem Box6.s3 {W : World} {B : Nat} {a b c d e f p : Value} (h : Box6 W B a b c d e f) : Box6 (W.setCell ⟨B, 3, none⟩ p) B a b c p e f :=
  ⟨put_far h.c0 (by omega), (World.frozen?_setCell _ _ _ _).trans h.f0, put_far h.c1 (by omega), (World.frozen?_setCell _ _ _ _).trans h.f1, put_far h.c2 (by omega), (World.frozen?_setCell _ _ _ _).trans h.f2, World.cell?_setCell_same _ _ _ h.c3, (World.frozen?_setCell _ _ _ _).trans h.f3, put_far h.c4 (by omega), (World.frozen?_setCell _ _ _ _).trans h.f4, put_far h.c5 (by omega), (World.frozen?_setCell _ _ _ _).trans h.f5, by simpa using h.z⟩
theorem Box6.s4 {W : World} {B : Nat} {a b c d e f p : Value} (h : Box6 W B a b c d e f) : Box6 (W.setCell ⟨B, 4, none⟩ p) B a b c d p f :=
  ⟨put_far h.c0 (by omega), (World.frozen?_setCell _ _ _ _).trans h.f0, put_far h.c1 (by omega), (World.frozen?_setCell _ _ _ _).trans h.f1, put_far h.c2 (by omega), (World.frozen?_setCell _ _ _ _).trans h.f2, put_far h.c3 (by omega), (World.frozen?_setCell _ _ _ _).trans h.f3, World.cell?_setCell_same _ _ _ h.c4, (World.frozen?_setCell _ _ _ _).trans h.f4, put_far h.c5 (by omega), (World.frozen?_setCell _ _ _ _).trans h.f5, by simpa using h.z⟩
theorem Box6.s5 {W : World} {B : Nat} {a b c d e f p : Value} (h : Box6 W B a b c d e f) : Box6 (W.setCell ⟨B, 5, none⟩ p) B a b c d e p :=
  ⟨put_far h.c0 (by omega), (World.frozen?_setCell _ _ _ _).trans h.f0, put_far h.c1 (by omega), (World.frozen?_setCell _ _ _ _).trans h.f1, put_far h.c2 (by omega), (World.frozen?_setCell _ _ _ _).trans h.f2, put_far h.c3 (by omega), (World.frozen?_setCell _ _ _ _).trans h.f3, put_far h.c4 (by omega), (World.frozen?_setCell _ _ _ _).trans h.f4, World.cell?_setCell_same _ _ _ h.c5, (World.frozen?_setCell _ _ _ _).trans h.f5, by simpa using h.z⟩
theorem below6 {w W : World} {n R : Nat} {a b c d e f : Value} (h : Below n w W) (hn : n ≤ R) :
    Below n w ((((((W.setCell ⟨R, 0, none⟩ a).setCell ⟨R, 1, none⟩ b).setCell ⟨R, 2, none⟩ c).setCell ⟨R, 3, none⟩ d).setCell ⟨R, 4, none⟩ e).setCell ⟨R, 5, none⟩ f) :=
  (((((h.setCell hn _).setCell hn _).setCell hn _).setCell hn _).setCell hn _).setCell hn _
theorem kept6 {W w1 : World} {a b c d e f : Value} {t R : Nat} (hb : Below (W.alloc (.cells #[a, b, c, d, e, f] t)).heap.size (W.alloc (.cells #[a, b, c, d, e, f] t)) w1) (hR : W.heap.size = R) : Box6 w1 R a b c d e f := by
  subst hR
  exact (box6_new W a b c d e f t).below hb
theorem kept6d {W w1 : World} {a b c d e f : Value} {t R : Nat} (hb : Below (W.alloc (.cells #[a, b, c, d, e, f] t)).drew.heap.size (W.alloc (.cells #[a, b, c, d, e, f] t)).drew w1) (hR : W.heap.size = R) : Box6 w1 R a b c d e f := by
  subst hR
  exact (box6_new W a b c d e f t).drew.below hb
/-- The box of a spiral's value. -/
structure Box3 (W : World) (B : Nat) (a b c : Value) : Prop where
  c0 : W.cell? ⟨B, 0, none⟩ = some a
  c1 : W.cell? ⟨B, 1, none⟩ = some b
  c2 : W.cell? ⟨B, 2, none⟩ = some c
  z : B < W.heap.size
theorem Box3.below {W W' : World} {B : Nat} {a b c : Value} (h : Box3 W B a b c) (hb : Below W.heap.size W W') : Box3 W' B a b c :=
  ⟨(hb.cell (p := ⟨B, 0, none⟩) h.z).trans h.c0, (hb.cell (p := ⟨B, 1, none⟩) h.z).trans h.c1, (hb.cell (p := ⟨B, 2, none⟩) h.z).trans h.c2, Nat.lt_of_lt_of_le h.z hb.size⟩
theorem Box3.alloc {W : World} {B : Nat} {a b c : Value} (h : Box3 W B a b c) (o : Obj) : Box3 (W.alloc o) B a b c := h.below ((Below.refl _ _).alloc (Nat.le_refl _) _)
theorem Box3.drew {W : World} {B : Nat} {a b c : Value} (h : Box3 W B a b c) : Box3 W.drew B a b c := ⟨h.c0, h.c1, h.c2, h.z⟩
theorem Box3.all {W : World} {B : Nat} {a b c : Value} (h : Box3 W B a b c) : W.cell? ⟨B, 0, none⟩ = some a ∧ W.cell? ⟨B, 1, none⟩ = some b ∧ W.cell? ⟨B, 2, none⟩ = some c := ⟨h.c0, h.c1, h.c2⟩
theorem Box3.put {W : World} {B Q o : Nat} {a b c v : Value} (h : Box3 W B a b c) (hne : B ≠ Q) : Box3 (W.setCell ⟨Q, o, none⟩ v) B a b c :=
  ⟨put_far h.c0 (fun e => hne e.1), put_far h.c1 (fun e => hne e.1), put_far h.c2 (fun e => hne e.1), by simpa using h.z⟩
theorem box3_new (w : World) (a b c : Value) (t : Nat) : Box3 (w.alloc (.cells #[a, b, c] t)) w.heap.size a b c := ⟨by simp [go_sem], by simp [go_sem], by simp [go_sem], by simp⟩
/-- What is known of a spiral's value. -/
structure IsSp (K : Kd) (R m : Nat) (u s : Int) (w : World) (lo hi : Nat) : Prop where
  good : Good K
  hm : K.m = m
  hu : K.u = u
  hs : (m : Int) * u = s
  s1 : 3 ≤ s
  s2 : s ≤ 24
  own : Own w lo hi (some ⟨R, 0, none⟩) (prs K.ss)
  hi : hi ≤ w.heap.size
/-- What is known of a ring: b the last number of the ring before. -/
structure IsRg (s r b : Int) : Prop where
  bds : RuleBds 2 (-s) s r (b + 1)
  r0 : 0 ≤ r
  r1 : r ≤ 2000
  b0 : 0 ≤ b
  b1 : b ≤ 100000000
theorem Box6.under {W W' : World} {B n : Nat} {a b c d e f : Value} (h : Box6 W B a b c d e f) (hb : Below n W W') (hn : B < n) : Box6 W' B a b c d e f :=
  ⟨(hb.cell (p := ⟨B, 0, none⟩) hn).trans h.c0, (hb.frozen (p := ⟨B, 0, none⟩) hn).trans h.f0, (hb.cell (p := ⟨B, 1, none⟩) hn).trans h.c1, (hb.frozen (p := ⟨B, 1, none⟩) hn).trans h.f1,
    (hb.cell (p := ⟨B, 2, none⟩) hn).trans h.c2, (hb.frozen (p := ⟨B, 2, none⟩) hn).trans h.f2, (hb.cell (p := ⟨B, 3, none⟩) hn).trans h.c3, (hb.frozen (p := ⟨B, 3, none⟩) hn).trans h.f3,
    (hb.cell (p := ⟨B, 4, none⟩) hn).trans h.c4, (hb.frozen (p := ⟨B, 4, none⟩) hn).trans h.f4, (hb.cell (p := ⟨B, 5, none⟩) hn).trans h.c5, (hb.frozen (p := ⟨B, 5, none⟩) hn).trans h.f5, Nat.lt_of_lt_of_le h.z hb.size⟩
theorem Box3.under {W W' : World} {B n : Nat} {a b c : Value} (h : Box3 W B a b c) (hb : Below n W W') (hn : B < n) : Box3 W' B a b c :=
  ⟨(hb.cell (p := ⟨B, 0, none⟩) hn).trans h.c0, (hb.cell (p := ⟨B, 1, none⟩) hn).trans h.c1, (hb.cell (p := ⟨B, 2, none⟩) hn).trans h.c2, Nat.lt_of_lt_of_le h.z hb.size⟩
theorem one_le {l v : Int} (h0 : 0 ≤ l) (h1 : -1 ≤ v) (h2 : v ≤ 1) : -l ≤ l * v ∧ l * v ≤ l := by
  rcases (show v = -1 ∨ v = 0 ∨ v = 1 by omega) with rfl | rfl | rfl <;> omega
theorem cor_b {K : Kd} (hK : Good K) (r l : Int) (r0 : 0 ≤ r) (l0 : 0 ≤ l) (t : Nat) :
    -(r + t * l) ≤ (cor K r l t).1 ∧ (cor K r l t).1 ≤ r + t * l ∧ -(r + t * l) ≤ (cor K r l t).2 ∧ (cor K r l t).2 ≤ r + t * l := by
  induction t with
  | zero => simp [cor]; omega
  | succ t ih =>
    obtain ⟨a, b, c, d⟩ := hK.st ((t + 1) % K.m)
    have e : (((t + 1 : Nat) : Int)) * l = t * l + l := by push_cast; grind
    have p := one_le l0 a b
    have q := one_le l0 c d
    rw [e]
    simp only [cor, sst]
    omega
theorem tl_b {l : Int} (l0 : 0 ≤ l) (l1 : l ≤ 4000) (t : Nat) (ht : t ≤ 6) : 0 ≤ (t : Int) * l ∧ (t : Int) * l ≤ 24000 := by
  refine ⟨Int.mul_nonneg (by omega) l0, ?_⟩
  have := Int.mul_le_mul (a := (t : Int)) (b := l) (c := 6) (d := 4000) (by omega) l1 l0 (by omega)
  omega
theorem tmod_step {t m : Nat} (_h : 1 ≤ m) : ((t : Int) + 1).tmod (m : Int) = (((t + 1) % m : Nat) : Int) := by
  rw [Int.tmod_eq_emod_of_nonneg (by omega)]
  simp
theorem sst_at {K : Kd} {m t : Nat} (hm : K.m = m) (h : (t + 1) % m < K.ss.length) : sst K t = K.ss[(t + 1) % m] := by
  subst hm
  unfold sst Kd.st
  simp [List.getD, h]
set_option maxRecDepth 4000 in
set_option maxHeartbeats 1600000 in
theorem sidesOf_any (K : Kd) (R F m : Nat) (u s r b l : Int) (w : World) (lo hi : Nat) (h : IsSp K R m u s w lo hi) (hr : IsRg s r b) (hl : u * r = l) :
    Calls Try.prog 150 #[.agg #[.slice (some ⟨R, 0, none⟩) m m, .int .i64 u, .func (.func F) #[] #[]], .int .i64 r] w fun e w' => (∃ A c, e = .returned (.slice A m c) ∧ Own w' w.heap.size w'.heap.size A (sds K r b l m)) ∧ Below w.heap.size w w' := by
  obtain ⟨hbd, r0, r1, b0, b1⟩ := hr
  have HL := Lib.hid fun W => lastOfRing_any R F m u s (r - 1) b W h.hs h.s1 h.s2 (by rw [show r - 1 + 1 = r by omega]; exact hbd) (by omega) (by omega) (by omega) (by omega)
  clear hbd
  have hu := h.good.u0
  rw [h.hu] at hu
  have l0 : 0 ≤ l := by rw [← hl]; exact Int.mul_nonneg (by omega) r0
  have l1 : l ≤ 4000 := by
    rw [← hl]
    rcases (show u = 1 ∨ u = 2 by omega) with rfl | rfl <;> omega
  have e1 : IntKind.i64.wrap (u * r) = l := by rw [hl]; exact IntWalk.i64_in _ (by omega)
  have e2 : IntKind.i64.wrap (r - 1) = r - 1 := IntWalk.i64_in _ (by omega)
  have e3 : IntKind.i64.wrap (-r) = -r := IntWalk.i64_in _ (by omega)
  have HH := Lib.hid h
  clear h hl hu
  go_enter Try.func150, Try.ntmps150
  go_upto_region 1 with fail
  have hB : Below w.heap.size w (w.alloc (.cells #[.slice (some ⟨R, 0, none⟩) m m, .int .i64 u, .func (.func F) #[] #[]] 69)) := (Below.refl _ _).alloc (Nat.le_refl _) _
  have hT : Box3 (w.alloc (.cells #[.slice (some ⟨R, 0, none⟩) m m, .int .i64 u, .func (.func F) #[] #[]] 69)) w.heap.size (.slice (some ⟨R, 0, none⟩) m m) (.int .i64 u) (.func (.func F) #[] #[]) := box3_new _ _ _ _ _
  generalize w.alloc (.cells #[.slice (some ⟨R, 0, none⟩) m m, .int .i64 u, .func (.func F) #[] #[]] 69) = wa at *
  have HB := Lib.hid hB
  have HT := Lib.hid hT
  have HN := Lib.hid (Nat.ne_of_lt hT.z)
  clear hB hT
  go_cut [5] (fun s5 wx => ∃ Q, s5 = .pointer (some ⟨Q, 0, none⟩) ∧ Hid (w.heap.size < Q ∧ Below w.heap.size w wx ∧ Box3 wx w.heap.size (.slice (some ⟨R, 0, none⟩) m m) (.int .i64 u) (.func (.func F) #[] #[]) ∧ Box6 wx Q (.int .i64 r) (.int .i64 (-r)) (.int .i64 b) (.int .i64 0) (.int .i64 0) (.int .i64 l)))
  case first =>
    go_region_held3 (fun w' => w'.cell? ⟨w.heap.size, 0, none⟩ = some (.slice (some ⟨R, 0, none⟩) m m) ∧ w'.cell? ⟨w.heap.size, 1, none⟩ = some (.int .i64 u) ∧ w'.cell? ⟨w.heap.size, 2, none⟩ = some (.func (.func F) #[] #[]))
      (first | with_reducible exact HT.out.all | with_reducible exact HT.out.drew.all | with_reducible exact (HT.out.alloc _).all | with_reducible exact (HT.out.alloc _).drew.all | with_reducible exact ((((((HT.out.put HN.out).put HN.out).put HN.out).put HN.out).put HN.out).put HN.out).all)
      (first
        | (go_at_call 98; refine (HL.out _).mono ?_; rintro e w1 ⟨rfl, hb1⟩;
            have HT := Lib.hid (show Box3 w1 _ _ _ _ from (by first | with_reducible exact HT.out.drew.below hb1 | with_reducible exact (HT.out.alloc _).drew.below hb1));
            have HB1 := Lib.hid (show Below w.heap.size w w1 from (by first | with_reducible exact HB.out.drew.trans (hb1.mono HB.out.drew.size) | with_reducible exact (HB.out.alloc HB.out.size _).drew.trans (hb1.mono (HB.out.alloc HB.out.size _).drew.size)));
            (first | (have HK := kept6d (R := wa.heap.size) hb1 rfl; have HK6 := Lib.hid HK; obtain ⟨k0, g0, k1, g1, k2, g2, k3, g3, k4, g4, k5, g5, kz⟩ := HK) | skip)))
    · go_wp2_with fail
      go_meet
      exact ⟨w1.heap.size, rfl, Lib.hid ⟨Nat.lt_of_lt_of_le (Nat.lt_of_le_of_ne HB.out.size HN.out) (by have := hb1.size; simpa using this), HB1.out.alloc HB1.out.size _, HT.out.alloc _, box6_new _ _ _ _ _ _ _ _⟩⟩
    · go_wp2_with fail
      go_meet
      exact ⟨wa.heap.size, rfl, Lib.hid ⟨Nat.lt_of_le_of_ne HB.out.size HN.out, below6 HB1.out HB.out.size, (((((HT.out.put HN.out).put HN.out).put HN.out).put HN.out).put HN.out).put HN.out, HK6.out.s0.s1.s2.s3.s4.s5⟩⟩
  case rest =>
  obtain ⟨Q, rfl, hw⟩ := hcut
  obtain ⟨i0, hi0, hz0, hz1, hz2⟩ := info_parts infoSide
  have c0 := hw.out.2.2.1.c0
  have hm := HH.out.good.m0
  rw [HH.out.hm] at hm
  obtain ⟨m4, m6⟩ := hm
  have HQ := Lib.hid hw.out.2.2.2.z
  have HW := Lib.hid hw.out.2.2.1.z
  have HQ1 := Lib.hid hw.out.1
  clear e1 e2 e3 HB HT HN HL
  go_wp2_with fail
  go_loopw [24, 6] (fun i v wr => ∃ t : Nat, t ≤ m ∧ i = .int .i64 (t : Int) ∧ Hid (wr.ownsRow wc.heap.size 103 6 v t (sds K r b l t)) ∧ Hid (Below w.heap.size w wr ∧ wc.heap.size ≤ wr.heap.size ∧ Box3 wr w.heap.size (.slice (some ⟨R, 0, none⟩) m m) (.int .i64 u) (.func (.func F) #[] #[]) ∧ ∃ p q, Box6 wr Q (.int .i64 (cor K r l t).1) (.int .i64 (cor K r l t).2) (.int .i64 (b + t * l)) (.int .i64 p) (.int .i64 q) (.int .i64 l)))
    (fun i _ _ => m - (intOf i).toNat)
  case atStart => exact ⟨0, by omega, by simp, Lib.hid (World.ownsRow_nil _ _ _ _), Lib.hid ⟨hw.out.2.1, Nat.le_refl _, hw.out.2.2.1, 0, 0, by simpa [cor] using hw.out.2.2.2⟩⟩
  case round =>
    obtain ⟨t, ht, rfl, hown, hf⟩ := hrel
    by_cases hlt : t < m
    · have hlt2 : (t : Int) < (m : Int) := by omega
      obtain ⟨hb, hsz, h3, p, q, h6⟩ := hf.out
      have d0 := h3.c0
      have k3 := h6.c3
      have g3 := h6.f3
      have k4 := h6.c4
      have g4 := h6.f4
      have HB := Lib.hid hb
      have HZ := Lib.hid hsz
      have H3 := Lib.hid h3
      have H6 := Lib.hid h6
      clear hf hb hsz h3 h6
      go_upto_region 6 with fail
      have hj : (t + 1) % m < K.ss.length := by
        have := HH.out.hm
        unfold Kd.m at this
        rw [this]
        exact Nat.mod_lt _ (by omega)
      have hrem := tmod_step (t := t) (m := m) (by omega)
      have hst := sst_at HH.out.hm hj
      obtain ⟨g, o, hA, hg1, hg2, q0, q1⟩ := (HH.out.own.below HB.out HH.out.hi).pair_ hj
      obtain ⟨eg, rfl⟩ : g = R ∧ o = 0 := by simp at hA; omega
      rw [Nat.zero_add, eg] at q0 q1
      rw [← hst] at q0 q1
      have hj1 : (0 : Int) ≤ (((t + 1) % m : Nat) : Int) := by omega
      have hj2 : (((t + 1) % m : Nat) : Int) < (m : Int) := by have := Nat.mod_lt (t + 1) (show m > 0 by omega); omega
      clear hA hg1 hg2 hst hj eg
      generalize (t + 1) % m = j at *
      have hrw : IntKind.i64.wrap ((t : Int) + 1) = (t : Int) + 1 := IntWalk.i64_in _ (by omega)
      obtain ⟨y0, y1, y2, y3⟩ := cor_b HH.out.good r l r0 l0 t
      obtain ⟨v0, v1⟩ := tl_b l0 l1 t (by omega)
      obtain ⟨s0, s1, s2, s3⟩ := HH.out.good.st ((t + 1) % K.m)
      obtain ⟨cx', hcx⟩ : ∃ q, q = (cor K r l (t + 1)).1 := ⟨_, rfl⟩
      obtain ⟨cy', hcy⟩ : ∃ q, q = (cor K r l (t + 1)).2 := ⟨_, rfl⟩
      have HLD := Lib.hid fun W => ledBy_any (cor K r l t).1 (cor K r l t).2 (sst K t).1 (sst K t).2 l cx' cy' W (led_small _ _ _ _ _ (by omega) (by omega) (by omega) (by omega) s0 s1 s2 s3 (by omega) (by omega)) (by rw [hcx]; rfl) (by rw [hcy]; rfl)
      have HSU := Lib.hid (sds_succ K r b l t)
      have eb : b + ((t + 1 : Nat) : Int) * l = b + t * l + l := by push_cast; grind
      have HEB := Lib.hid eb
      have ew : IntKind.i64.wrap (b + t * l + l) = b + t * l + l := IntWalk.i64_in _ (by omega)
      have HCX := Lib.hid hcx
      have HCY := Lib.hid hcy
      clear s0 s1 s2 s3 y0 y1 y2 y3 eb v0 v1 hcx hcy
      unfold sd6 at HSU
      generalize (cor K r l t).1 = cx at *
      generalize (cor K r l t).2 = cy at *
      generalize (sst K t).1 = sx at *
      generalize (sst K t).2 = sy at *
      generalize b + t * l = nb at *
      go_region
      have h62 : Box6 ((wr.setCell ⟨Q, 3, none⟩ (.int .i64 sx)).setCell ⟨Q, 4, none⟩ (.int .i64 sy)).drew Q (.int .i64 cx) (.int .i64 cy) (.int .i64 nb) (.int .i64 sx) (.int .i64 sy) (.int .i64 l) := H6.out.s3.s4.drew
      have h32 : Box3 ((wr.setCell ⟨Q, 3, none⟩ (.int .i64 sx)).setCell ⟨Q, 4, none⟩ (.int .i64 sy)).drew w.heap.size (.slice (some ⟨R, 0, none⟩) m m) (.int .i64 u) (.func (.func F) #[] #[]) := ((H3.out.put (Nat.ne_of_lt HQ1.out)).put (Nat.ne_of_lt HQ1.out)).drew
      have hb2 : Below w.heap.size w ((wr.setCell ⟨Q, 3, none⟩ (.int .i64 sx)).setCell ⟨Q, 4, none⟩ (.int .i64 sy)).drew := ((HB.out.setCell (Nat.le_of_lt HQ1.out) _).setCell (Nat.le_of_lt HQ1.out) _).drew
      have hne : u6.ownBlock ≠ some Q := fun e => by have := (hown.out.lt Q e).1; have := HQ.out; omega
      have ho2 : World.ownsRow ((wr.setCell ⟨Q, 3, none⟩ (.int .i64 sx)).setCell ⟨Q, 4, none⟩ (.int .i64 sy)).drew wc.heap.size 103 6 u6 t (sds K r b l t) := row_below (ownsRow_setCell_other (ownsRow_setCell_other hown.out (a := ⟨Q, 3, none⟩) hne _) (a := ⟨Q, 4, none⟩) hne _) (Below.refl _ _).drew (Nat.le_refl _)
      have hz2 : wc.heap.size ≤ (((wr.setCell ⟨Q, 3, none⟩ (.int .i64 sx)).setCell ⟨Q, 4, none⟩ (.int .i64 sy)).drew).heap.size := by simpa using HZ.out
      generalize ((wr.setCell ⟨Q, 3, none⟩ (.int .i64 sx)).setCell ⟨Q, 4, none⟩ (.int .i64 sy)).drew = w2 at *
      clear hne hown HB H3 H6 HZ k3 g3 k4 g4 d0 q0 q1 hrem hj1 hj2 hrw
      obtain ⟨k0, g0, k1, g1, k2, g2, k3, g3, k4, g4, k5, g5, kz⟩ := h62
      have H62 : Hid (Box6 w2 Q (.int .i64 cx) (.int .i64 cy) (.int .i64 nb) (.int .i64 sx) (.int .i64 sy) (.int .i64 l)) := Lib.hid ⟨k0, g0, k1, g1, k2, g2, k3, g3, k4, g4, k5, g5, kz⟩
      clear g0 g1 g2 g3 g4 g5 kz
      have H32 := Lib.hid h32
      have HB2 := Lib.hid hb2
      have HO2 := Lib.hid ho2
      have HZ2 := Lib.hid hz2
      clear h32 hb2 ho2 hz2
      go_wp2_with (first
        | (at_builtin; refine wpList_append_own _ rfl _ _ 100 rfl wc.heap.size 103 i0 (.agg #[.int .i64 0, .int .i64 0, .int .i64 0, .int .i64 0, .int .i64 0, .int .i64 0]) 6 48 Try.underlying100 hi0 hz0 hz1 hz2 rfl (by decide) _ _ _ rfl (HO2.out.alloc _) ⟨w2.heap.size, 0, none⟩ 1 1 [.int .i64 cx, .int .i64 cy, .int .i64 nb, .int .i64 sx, .int .i64 sy, .int .i64 l] rfl rfl ?c1 ?c2 ?c3 ?c4 ?c5 ?_))
      case c1 =>
        intro j u hj
        match j, hj with
        | 0, hj => simp at hj; subst hj; simp [Addr.add]
        | 1, hj => simp at hj; subst hj; simp [Addr.add]
        | 2, hj => simp at hj; subst hj; simp [Addr.add]
        | 3, hj => simp at hj; subst hj; simp [Addr.add]
        | 4, hj => simp at hj; subst hj; simp [Addr.add]
        | 5, hj => simp at hj; subst hj; simp [Addr.add]
      case c2 => intro u hu; simp at hu; rcases hu with rfl | rfl | rfl | rfl | rfl | rfl <;> rfl
      case c3 => unfold maxLen; omega
      case c4 => omega
      case c5 => have := HZ2.out; simp; omega
      · intro v' w4 hown' hgrow _
        rw [← HSU.out] at hown'
        have hb4 : Below wc.heap.size w2 w4 := ((Below.refl _ _).alloc HZ2.out _).grown hgrow (by have := HZ2.out; simp; omega) fun g hg => (HO2.out.lt g hg).1
        have HO4 := Lib.hid hown'
        have HB4 := Lib.hid (HB2.out.trans (hb4.mono (by have := HQ1.out; have := HQ.out; omega)))
        have H34 := Lib.hid (H32.out.under hb4 HW.out)
        have h64 := H62.out.under hb4 HQ.out
        have HZ4 := Lib.hid (Nat.le_trans HZ2.out hb4.size)
        clear hown' hgrow hb4 k0 k1 k2 k3 k4 k5 H62 HO2 HB2 H32 HZ2
        obtain ⟨k0, g0, k1, g1, k2, g2, k3, g3, k4, g4, k5, g5, kz⟩ := h64
        have H64 : Hid (Box6 w4 Q (.int .i64 cx) (.int .i64 cy) (.int .i64 nb) (.int .i64 sx) (.int .i64 sy) (.int .i64 l)) := Lib.hid ⟨k0, g0, k1, g1, k2, g2, k3, g3, k4, g4, k5, g5, kz⟩
        clear g0 g1 g2 g3 g4 g5 kz
        go_wp2_with (first
          | (go_at_call 109; refine (HLD.out _).mono ?_; rintro e w5 ⟨rfl, hb5⟩; have H65 := Lib.hid (H64.out.below hb5); have j0 := H65.out.c0; have e0 := H65.out.f0; have j1 := H65.out.c1; have e1 := H65.out.f1; have j2 := H65.out.c2; have e2 := H65.out.f2; have j5 := H65.out.c5))
        have hne : v'.ownBlock ≠ some Q := fun e => by have := (HO4.out.lt Q e).1; have := HQ.out; omega
        have hn3 := Nat.ne_of_lt HQ1.out
        have hn4 := Nat.le_of_lt HQ1.out
        have hn5 : w.heap.size ≤ w4.heap.size := HB4.out.size
        go_roundw
        case rel =>
          refine ⟨t + 1, by omega, by go_num, Lib.hid ?_, Lib.hid ⟨?_, ?_, ?_, sx, sy, ?_⟩⟩
          · exact ownsRow_setCell_other (ownsRow_setCell_other (ownsRow_setCell_other (row_below HO4.out hb5 (Nat.le_refl _)) (a := ⟨Q, 0, none⟩) hne _) (a := ⟨Q, 1, none⟩) hne _) (a := ⟨Q, 2, none⟩) hne _
          · exact (((HB4.out.trans (hb5.mono hn5)).setCell hn4 _).setCell hn4 _).setCell hn4 _
          · have := HZ4.out
            have := hb5.size
            simp
            omega
          · exact (((H34.out.below hb5).put hn3).put hn3).put hn3
          · rw [← HCX.out, ← HCY.out, HEB.out]
            exact H65.out.s0.s1.s2
        case measure => simp [intOf]; omega
    · obtain rfl : t = m := by omega
      obtain ⟨A, c, rfl⟩ := row_form hown.out
      go_wp2
      go_ret
      exact ⟨⟨A, c, rfl, (own_of_row hown.out).wide hw.out.2.1.size (Nat.le_refl _)⟩, hf.out.1⟩
end Go.Proofs.Ytkhjeleoppdjgac

/- Channels in one goroutine inside a region: a send into a buffer with room; a select of one receive with a default. No program in sight. -/
namespace Go.Proofs.Ytkhjeleoppdjgac
open Go.RowKit Go.Conc

/-- The operations of a region that are still to come, at the machine's own steps. -/
def OpsTo (P : Program) (ops : Array Oper) (Q : Exit → Act → World → Prop) (l : List Nat) (a : Act) (w : World) : Prop :=
  ∀ (b : Frame) (k : List Item) (cs : List Frame), ∃ e a' w', Q e a' w' ∧ Arrives P (lone (b.at a (.inRegion ops l :: k)) cs w) b k cs e a' w'

section
variable {P : Program} {ops : Array Oper} {Q : Exit → Act → World → Prop} {l : List Nat} {a : Act} {w w' : World} {i : Nat} {o : Oper}

theorem OpsTo.region {id : Nat} (h : OpsTo P ops Q (List.range ops.size) a w) : (Code.region id ops false).wp P Q a w :=
  fun b k cs => let ⟨e, a', w', q, r⟩ := h b k cs; ⟨e, a', w', q, .of_steps (.one step_region) r⟩
theorem OpsTo.done (h : Q .normal a w) : OpsTo P ops Q [] a w := fun _ _ _ => ⟨.normal, a, w, h, .one step_region_end⟩
/-- An operation that yields a value. -/
theorem OpsTo.value {v : Value} (ho : ops[i]? = some o) (hw : Region.wanted o (yielded ops a.tmps) = true) (hr : (execOp a.eval o).run P w = .ok (.value v) w') (h : OpsTo P ops Q l (a.put o.dst v) w') : OpsTo P ops Q (i :: l) a w :=
  fun b k cs => by
    obtain ⟨e, a', w2, hq, harr⟩ := h b k cs
    refine ⟨e, a', w2, hq, .of_steps (.one (step_lone_go ?_)) harr⟩
    rw [stepG_op (P := P) (b := b) (k := k) (cs := cs) (w := w) (rest := l) ho hw]
    have hf := Frame.finish_at b a ops i l k v
    rw [ho] at hf
    rw [← show _ = b.at (a.put o.dst v) (.inRegion ops l :: k) from hf]
    simp [stepG.apply, hr]

theorem comm_of {cases : Array CommCase} {bl : Bool} {sh : CommShape} (b : Frame) (k : List Item) (cs : List Frame) (ho : ops[i]? = some o) (hw : Region.wanted o (yielded ops a.tmps) = true) (hr : (execOp a.eval o).run P w = .ok (.comm cases bl sh) w') :
    ∃ es, stepG P true (G (b.at a (.inRegion ops (i :: l) :: k)) cs) w = .comm (G (b.at a (.inRegion ops (i :: l) :: k)) cs) cases bl sh w' es := by
  have hg := stepG_op (P := P) (b := b) (k := k) (cs := cs) (w := w) (rest := l) ho hw
  rw [G, hg]
  simp only [stepG.apply, Sem.runT_eq, hr, GStep.after]
  exact ⟨_, rfl⟩

/-- A send into a buffer with room. -/
theorem OpsTo.send {c cap s r : Nat} {buf : Array Value} {tm : Bool} {v z : Value} (ho : ops[i]? = some o) (hw : Region.wanted o (yielded ops a.tmps) = true) (hr : (execOp a.eval o).run P w = .ok (.comm #[scase c v z] true .send) w')
    (hc : w'.heap[c]? = some (.chan cap buf false s r tm)) (hroom : buf.size < cap) (h : OpsTo P ops Q l (a.put o.dst undef) (w'.setChan c cap (buf.push v) false (s + 1) r tm)) : OpsTo P ops Q (i :: l) a w :=
  fun b k cs => by
    obtain ⟨e, a', w2, hq, harr⟩ := h b k cs
    obtain ⟨es, hg⟩ := comm_of (l := l) b k cs ho hw hr
    refine ⟨e, a', w2, hq, .of_steps (.one ?_) harr⟩
    have hf := Frame.finish_at b a ops i l k undef
    rw [ho] at hf
    have hs := step_lone_send_room hg hc hroom
    rw [hf] at hs
    exact hs
/-- A select of one receive with a default: the buffer holds something. -/
theorem OpsTo.recv {c cap s r : Nat} {buf : Array Value} {tm closed : Bool} {z : Value} (ho : ops[i]? = some o) (hw : Region.wanted o (yielded ops a.tmps) = true) (hr : (execOp a.eval o).run P w = .ok (.comm #[rcase c z] false .select) w')
    (hc : w'.heap[c]? = some (.chan cap buf closed s r tm)) (hsome : 0 < buf.size) (h : OpsTo P ops Q l (a.put o.dst (.tuple #[goInt 0, .bool true, buf.getD 0 undef])) (w'.setChan c cap (buf.extract 1 buf.size) closed s (r + 1) tm)) : OpsTo P ops Q (i :: l) a w :=
  fun b k cs => by
    obtain ⟨e, a', w2, hq, harr⟩ := h b k cs
    obtain ⟨es, hg⟩ := comm_of (l := l) b k cs ho hw hr
    refine ⟨e, a', w2, hq, .of_steps (.one ?_) harr⟩
    have hf := Frame.finish_at b a ops i l k (.tuple #[goInt 0, .bool true, buf.getD 0 undef])
    rw [ho] at hf
    have hs := step_lone_select_recv_buf hg hc hsome
    rw [hf] at hs
    exact hs
/-- A select of one receive with a default: the channel is open and empty. -/
theorem OpsTo.default_ {c cap s r : Nat} {tm : Bool} {z : Value} (ho : ops[i]? = some o) (hw : Region.wanted o (yielded ops a.tmps) = true) (hr : (execOp a.eval o).run P w = .ok (.comm #[rcase c z] false .select) w')
    (hc : w'.heap[c]? = some (.chan cap #[] false s r tm)) (h : OpsTo P ops Q l (a.put o.dst (.tuple #[goInt (-1), .bool false, z])) w') : OpsTo P ops Q (i :: l) a w :=
  fun b k cs => by
    obtain ⟨e, a', w2, hq, harr⟩ := h b k cs
    obtain ⟨es, hg⟩ := comm_of (l := l) b k cs ho hw hr
    refine ⟨e, a', w2, hq, .of_steps (.one ?_) harr⟩
    have hf := Frame.finish_at b a ops i l k (.tuple #[goInt (-1), .bool false, z])
    rw [ho] at hf
    have hs := step_lone_select_default hg hc
    rw [hf] at hs
    exact hs
theorem OpsTo.val {v : Value} {d : Tmp} (ho : ops[i]? = some o) (hw : Region.wanted o (yielded ops a.tmps) = true) (hd : o.dst = some d) (hr : (execOp a.eval o).run P w = .ok (.value v) w') (h : OpsTo P ops Q l { a with tmps := a.tmps.setIfInBounds d v } w') : OpsTo P ops Q (i :: l) a w :=
  OpsTo.value ho hw hr (by rw [hd]; exact h)
theorem OpsTo.send_ {c cap s r : Nat} {buf : Array Value} {tm : Bool} {v z : Value} (ho : ops[i]? = some o) (hw : Region.wanted o (yielded ops a.tmps) = true) (hd : o.dst = none) (hr : (execOp a.eval o).run P w = .ok (.comm #[scase c v z] true .send) w')
    (hc : w'.heap[c]? = some (.chan cap buf false s r tm)) (hroom : buf.size < cap) (h : OpsTo P ops Q l a (w'.setChan c cap (buf.push v) false (s + 1) r tm)) : OpsTo P ops Q (i :: l) a w :=
  OpsTo.send ho hw hr hc hroom (by rw [hd]; exact h)
theorem OpsTo.recv_ {c cap s r : Nat} {buf : Array Value} {tm closed : Bool} {z : Value} {d : Tmp} (ho : ops[i]? = some o) (hw : Region.wanted o (yielded ops a.tmps) = true) (hd : o.dst = some d) (hr : (execOp a.eval o).run P w = .ok (.comm #[rcase c z] false .select) w')
    (hc : w'.heap[c]? = some (.chan cap buf closed s r tm)) (hsome : 0 < buf.size) (h : OpsTo P ops Q l { a with tmps := a.tmps.setIfInBounds d (.tuple #[goInt 0, .bool true, buf.getD 0 undef]) } (w'.setChan c cap (buf.extract 1 buf.size) closed s (r + 1) tm)) : OpsTo P ops Q (i :: l) a w :=
  OpsTo.recv ho hw hr hc hsome (by rw [hd]; exact h)
theorem OpsTo.dflt_ {c cap s r : Nat} {tm : Bool} {z : Value} {d : Tmp} (ho : ops[i]? = some o) (hw : Region.wanted o (yielded ops a.tmps) = true) (hd : o.dst = some d) (hr : (execOp a.eval o).run P w = .ok (.comm #[rcase c z] false .select) w')
    (hc : w'.heap[c]? = some (.chan cap #[] false s r tm)) (h : OpsTo P ops Q l { a with tmps := a.tmps.setIfInBounds d (.tuple #[goInt (-1), .bool false, z]) } w') : OpsTo P ops Q (i :: l) a w :=
  OpsTo.default_ ho hw hr hc (by rw [hd]; exact h)
end
end Go.Proofs.Ytkhjeleoppdjgac

/- Chapter 6: the number at a spot, by the program: each side offers it over a channel. -/
namespace Go.Proofs.Ytkhjeleoppdjgac
open Go.ChangeShapes Go.WideShapes Go.ChangeAt Go.RowKit Go.ChangeMaps Go.Conc

theorem vec_one : Try.prog.cellsOf 3 = 1 := by kernel_rfl
theorem vec_key : Try.prog.plainKey 3 = true := by kernel_rfl
theorem vec_info : (Try.prog.info? 3).map (fun i => (i.zero, i.size, i.bytes)) = some (some (.int .i64 0), 1, 8) := by kernel_rfl
theorem eq_vec (a b c d : Int) (w : World) : (Op.equalIn 10000 65 (.agg #[.int .i64 a, .int .i64 b]) (.agg #[.int .i64 c, .int .i64 d])).run Try.prog w = .ok (a == c && b == d) w := by
  obtain ⟨i0, hi0, hz0, hz1, hz2⟩ := info_parts vec_info
  rw [run_equalIn_array w 9999 (t := 65) (e := 3) (n := 2) _ _ Try.underlying65 hi0, vec_one]
  have p : ∀ (x y : Int) (i : Nat) (v : Int) (_ : (#[Value.int .i64 x, Value.int .i64 y] : Array Value)[i]? = some (.int .i64 v)), (part 3 #[.int .i64 x, .int .i64 y] i).run Try.prog w = .ok (.int .i64 v) w := fun x y i v h => run_part_plain w vec_key h
  have q : ∀ x y : Int, (Op.equalIn 9999 3 (.int .i64 x) (.int .i64 y)).run Try.prog w = .ok (x == y) w := fun x y => run_equalIn_int w 9998 3 .i64 .i64 x y Try.underlying3
  have e : List.range 2 = [0, 1] := rfl
  rw [e]
  simp only [Op.eqItems, Sem.run_bind, Nat.mul_one, p a b 0 a rfl, p c d 0 c rfl, q, Result.andThen_ok]
  cases h1 : a == c <;> cases h2 : b == d <;> simp [p a b 1 b rfl, p c d 1 d rfl, q, h2]
theorem mk_chan (w : World) : (Instr.makeChan 118 (.int .i64 1)).run Try.prog w = .ok (.chan (some w.heap.size)) (w.alloc (.chan 1 #[] false 0 0 false)) := by
  obtain ⟨i0, hi0, hz0, hz1, hz2⟩ := info_parts vec_info
  simpa using run_makeChan (P := Try.prog) (w := w) Try.underlying118 hi0 .i64 1 (by omega) (by rw [hz2]; omega)
/-- A box of two. -/
structure Box2 (W : World) (B : Nat) (a b : Value) : Prop where
  c0 : W.cell? ⟨B, 0, none⟩ = some a
  c1 : W.cell? ⟨B, 1, none⟩ = some b
  z : B < W.heap.size
theorem Box2.under {W W' : World} {B n : Nat} {a b : Value} (h : Box2 W B a b) (hb : Below n W W') (hn : B < n) : Box2 W' B a b :=
  ⟨(hb.cell (p := ⟨B, 0, none⟩) hn).trans h.c0, (hb.cell (p := ⟨B, 1, none⟩) hn).trans h.c1, Nat.lt_of_lt_of_le h.z hb.size⟩
theorem Box2.below {W W' : World} {B : Nat} {a b : Value} (h : Box2 W B a b) (hb : Below W.heap.size W W') : Box2 W' B a b := h.under hb h.z
theorem Box2.drew {W : World} {B : Nat} {a b : Value} (h : Box2 W B a b) : Box2 W.drew B a b := ⟨h.c0, h.c1, h.z⟩
theorem Box2.alloc {W : World} {B : Nat} {a b : Value} (h : Box2 W B a b) (o : Obj) : Box2 (W.alloc o) B a b := h.below ((Below.refl _ _).alloc (Nat.le_refl _) _)
theorem box2_new (w : World) (a b : Value) (t : Nat) : Box2 (w.alloc (.cells #[a, b] t)) w.heap.size a b := ⟨by simp [go_sem], by simp [go_sem], by simp⟩
/-- A box of two that may be written. -/
structure BoxW (W : World) (B : Nat) (a b : Value) : Prop where
  c0 : W.cell? ⟨B, 0, none⟩ = some a
  f0 : W.frozen? ⟨B, 0, none⟩ = false
  c1 : W.cell? ⟨B, 1, none⟩ = some b
  f1 : W.frozen? ⟨B, 1, none⟩ = false
  z : B < W.heap.size
theorem BoxW.under {W W' : World} {B n : Nat} {a b : Value} (h : BoxW W B a b) (hb : Below n W W') (hn : B < n) : BoxW W' B a b :=
  ⟨(hb.cell (p := ⟨B, 0, none⟩) hn).trans h.c0, (hb.frozen (p := ⟨B, 0, none⟩) hn).trans h.f0, (hb.cell (p := ⟨B, 1, none⟩) hn).trans h.c1, (hb.frozen (p := ⟨B, 1, none⟩) hn).trans h.f1, Nat.lt_of_lt_of_le h.z hb.size⟩
theorem BoxW.below {W W' : World} {B : Nat} {a b : Value} (h : BoxW W B a b) (hb : Below W.heap.size W W') : BoxW W' B a b := h.under hb h.z
theorem BoxW.drew {W : World} {B : Nat} {a b : Value} (h : BoxW W B a b) : BoxW W.drew B a b := ⟨h.c0, h.f0, h.c1, h.f1, h.z⟩
theorem BoxW.alloc {W : World} {B : Nat} {a b : Value} (h : BoxW W B a b) (o : Obj) : BoxW (W.alloc o) B a b := h.below ((Below.refl _ _).alloc (Nat.le_refl _) _)
theorem boxw_new (w : World) (a b : Value) (t : Nat) : BoxW (w.alloc (.cells #[a, b] t)) w.heap.size a b := ⟨by simp [go_sem], by simp [go_sem], by simp [go_sem], by simp [go_sem], by simp⟩
/-- The boxes of a side and a spot, and a channel. -/
structure Desk (W : World) (B : Nat) (cx cy b sx sy l x y : Int) : Prop where
  s : Box6 W B (.int .i64 cx) (.int .i64 cy) (.int .i64 b) (.int .i64 sx) (.int .i64 sy) (.int .i64 l)
  p : Box2 W (B + 1) (.int .i64 x) (.int .i64 y)
  ch : W.heap[B + 1 + 1]? = some (.chan 1 #[] false 0 0 false)
  z : B + 1 + 1 < W.heap.size
theorem Desk.below {W W' : World} {B : Nat} {cx cy b sx sy l x y : Int} (h : Desk W B cx cy b sx sy l x y) (hb : Below W.heap.size W W') : Desk W' B cx cy b sx sy l x y :=
  ⟨h.s.below hb, h.p.below hb, (hb.block _ h.z).trans h.ch, Nat.lt_of_lt_of_le h.z hb.size⟩
theorem Desk.drew {W : World} {B : Nat} {cx cy b sx sy l x y : Int} (h : Desk W B cx cy b sx sy l x y) : Desk W.drew B cx cy b sx sy l x y := ⟨h.s.drew, h.p.drew, h.ch, h.z⟩
theorem Desk.all {W : World} {B : Nat} {cx cy b sx sy l x y : Int} (h : Desk W B cx cy b sx sy l x y) :
    W.cell? ⟨B, 0, none⟩ = some (.int .i64 cx) ∧ W.cell? ⟨B, 1, none⟩ = some (.int .i64 cy) ∧ W.cell? ⟨B, 3, none⟩ = some (.int .i64 sx) ∧ W.cell? ⟨B, 4, none⟩ = some (.int .i64 sy) ∧ W.cell? ⟨B, 5, none⟩ = some (.int .i64 l) ∧
      W.cell? ⟨B + 1, 0, none⟩ = some (.int .i64 x) ∧ W.cell? ⟨B + 1, 1, none⟩ = some (.int .i64 y) := ⟨h.s.c0, h.s.c1, h.s.c3, h.s.c4, h.s.c5, h.p.c0, h.p.c1⟩
theorem desk_new (w : World) (cx cy b sx sy l x y : Int) (t u : Nat) :
    Desk (((w.alloc (.cells #[.int .i64 cx, .int .i64 cy, .int .i64 b, .int .i64 sx, .int .i64 sy, .int .i64 l] t)).alloc (.cells #[.int .i64 x, .int .i64 y] u)).alloc (.chan 1 #[] false 0 0 false)) w.heap.size cx cy b sx sy l x y := by
  refine ⟨((box6_new _ _ _ _ _ _ _ _).alloc _).alloc _, ?_, ?_, by simp⟩
  · have h := (box2_new (w.alloc (.cells #[.int .i64 cx, .int .i64 cy, .int .i64 b, .int .i64 sx, .int .i64 sy, .int .i64 l] t)) (.int .i64 x) (.int .i64 y) u).alloc (.chan 1 #[] false 0 0 false)
    simpa using h
  · have h := heap_alloc_new ((w.alloc (.cells #[.int .i64 cx, .int .i64 cy, .int .i64 b, .int .i64 sx, .int .i64 sy, .int .i64 l] t)).alloc (.cells #[.int .i64 x, .int .i64 y] u)) (.chan 1 #[] false 0 0 false)
    simpa using h
/-- What is asked of a side and a spot. -/
structure SdB (cx cy b sx sy l x y : Int) : Prop where
  a0 : -100000 ≤ cx
  a1 : cx ≤ 100000
  b0 : -100000 ≤ cy
  b1 : cy ≤ 100000
  x0 : -100000 ≤ x
  x1 : x ≤ 100000
  y0 : -100000 ≤ y
  y1 : y ≤ 100000
  u0 : -1 ≤ sx
  u1 : sx ≤ 1
  v0 : -1 ≤ sy
  v1 : sy ≤ 1
  n0 : 0 ≤ b
  n1 : b ≤ 1000000000
set_option maxRecDepth 4000 in
set_option maxHeartbeats 1600000 in
theorem side_yes (cx cy b sx sy l x y k : Int) (w : World) (h : SdB cx cy b sx sy l x y) (hk : sz (x - cx) (y - cy) = k) (h1 : 1 ≤ k) (h2 : k ≤ l) (hx : cx + k * sx = x) (hy : cy + k * sy = y) :
    Calls Try.prog 156 #[.agg #[.int .i64 cx, .int .i64 cy, .int .i64 b, .int .i64 sx, .int .i64 sy, .int .i64 l], .agg #[.int .i64 x, .int .i64 y]] w fun e w' =>
      ∃ c, e = .returned (.chan (some c)) ∧ w'.heap[c]? = some (.chan 1 #[.int .i64 (b + k)] false 1 0 false) ∧ w.heap.size ≤ c ∧ c < w'.heap.size ∧ Below w.heap.size w w' := by
  obtain ⟨a0, a1, b0, b1, x0, x1, y0, y1, u0, u1, v0, v1, n0, n1⟩ := h
  have hk2 : k ≤ 1000000 := by rw [← hk]; unfold sz ab; omega
  have HW := Lib.hid fun W => wayTo_any cx cy x y W (by omega) (by omega) (by omega) (by omega) (by omega) (by omega) (by omega) (by omega)
  have HR := Lib.hid fun W => squareRing_any (x - cx) (y - cy) W (by omega) (by omega) (by omega) (by omega)
  rw [hk] at HR
  have HL := Lib.hid fun W => ledBy_any cx cy sx sy k x y W (led_small _ _ _ _ _ (by omega) (by omega) (by omega) (by omega) u0 u1 v0 v1 (by omega) (by omega)) hx hy
  have HI := Lib.hid (betr_yes h1 h2)
  have hq : ∀ W : World, (Op.equalIn 10000 65 (.agg #[.int .i64 x, .int .i64 y]) (.agg #[.int .i64 x, .int .i64 y])).run Try.prog W = .ok true W := fun W => by
    rw [eq_vec]
    simp
  have hw : IntKind.i64.wrap (b + k) = b + k := IntWalk.i64_in _ (by omega)
  have hmc := mk_chan
  clear a0 a1 b0 b1 x0 x1 y0 y1 u0 u1 v0 v1 hx hy hk h1 h2 n0 n1 hk2
  go_enter Try.func156, Try.ntmps156
  go_wp2_with fail
  have hD := desk_new w cx cy b sx sy l x y 103 65
  have hB := bl3 w (.cells #[.int .i64 cx, .int .i64 cy, .int .i64 b, .int .i64 sx, .int .i64 sy, .int .i64 l] 103) (.cells #[.int .i64 x, .int .i64 y] 65) (.chan 1 #[] false 0 0 false)
  generalize ((w.alloc (.cells #[.int .i64 cx, .int .i64 cy, .int .i64 b, .int .i64 sx, .int .i64 sy, .int .i64 l] 103)).alloc (.cells #[.int .i64 x, .int .i64 y] 65)).alloc (.chan 1 #[] false 0 0 false) = wb at *
  have HD := Lib.hid hD
  have HB := Lib.hid hB
  clear hD hB hmc
  go_wp2_with (first
    | (go_at_call 154; refine (HW.out _).mono ?_; rintro e w1 ⟨rfl, hb1⟩; have HD1 := Lib.hid (HD.out.below hb1); have HB1 := Lib.hid (HB.out.trans (hb1.mono HB.out.size)))
    | (go_at_call 149; refine (HR.out _).mono ?_; rintro e w2 ⟨rfl, hb2⟩; have HD2 := Lib.hid (HD1.out.below hb2); have HB2 := Lib.hid (HB1.out.trans (hb2.mono HB1.out.size))))
  clear HD HB HD1 HB1 hb1 hb2
  have HD := HD2
  have HB := HB2
  clear HD2 HB2
  go_region_held3 (fun w' => w'.cell? ⟨w.heap.size, 0, none⟩ = some (.int .i64 cx) ∧ w'.cell? ⟨w.heap.size, 1, none⟩ = some (.int .i64 cy) ∧ w'.cell? ⟨w.heap.size, 3, none⟩ = some (.int .i64 sx) ∧ w'.cell? ⟨w.heap.size, 4, none⟩ = some (.int .i64 sy) ∧ w'.cell? ⟨w.heap.size, 5, none⟩ = some (.int .i64 l) ∧ w'.cell? ⟨w.heap.size + 1, 0, none⟩ = some (.int .i64 x) ∧ w'.cell? ⟨w.heap.size + 1, 1, none⟩ = some (.int .i64 y))
    (first | with_reducible exact HD.out.all | with_reducible exact HD.out.drew.all)
    (first
      | (go_at_call 97; refine (rwithin_any _ _ _ _).mono ?_; rw [HI.out]; rintro e w3 ⟨rfl, rfl⟩)
      | (go_at_call 109; refine (HL.out _).mono ?_; rintro e w4 ⟨rfl, hb4⟩; have HD := Lib.hid (HD.out.drew.below hb4); have HB := Lib.hid (HB.out.drew.trans (hb4.mono HB.out.drew.size)); clear hb4))
  go_upto_region 4 with fail
  have k2 := HD.out.s.c2
  refine OpsTo.region ?_
  simp only [List.size_toArray, List.length_cons, List.length_nil, Nat.reduceAdd, Nat.zero_add, List.range, List.range.loop]
  refine OpsTo.val (v := .chan (some (w.heap.size + 1 + 1))) (w' := w4) rfl rfl rfl (by simp [go_sem, execOp, Act.eval]) ?_
  simp only [List.setIfInBounds_toArray, List.set_cons_zero, List.set_cons_succ]
  refine OpsTo.val (v := .pointer (some ⟨w.heap.size, 2, none⟩)) (w' := w4) rfl rfl rfl (by simp [go_sem, execOp, Act.eval]) ?_
  simp only [List.setIfInBounds_toArray, List.set_cons_zero, List.set_cons_succ]
  refine OpsTo.val (v := .int .i64 b) (w' := w4) rfl rfl rfl (by simp [go_sem, execOp, Act.eval, k2]) ?_
  simp only [List.setIfInBounds_toArray, List.set_cons_zero, List.set_cons_succ]
  refine OpsTo.val (v := .int .i64 k) (w' := w4) rfl rfl rfl (by simp [go_sem, execOp, Act.eval]) ?_
  simp only [List.setIfInBounds_toArray, List.set_cons_zero, List.set_cons_succ]
  refine OpsTo.val (v := .int .i64 (b + k)) (w' := w4) rfl rfl rfl (by simp [go_sem, execOp, Act.eval, hw]) ?_
  simp only [List.setIfInBounds_toArray, List.set_cons_zero, List.set_cons_succ]
  refine OpsTo.send_ (c := w.heap.size + 1 + 1) (v := .int .i64 (b + k)) (z := .tuple #[]) (w' := w4) rfl rfl rfl (by simp [go_sem, execOp, Act.eval, scase]) HD.out.ch (by simp) ?_
  refine OpsTo.done ?_
  have hB := below_setChan HB.out (c := w.heap.size + 1 + 1) (by omega) 1 #[.int .i64 (b + k)] false 1 0 false
  have hC := heap_setChan w4 (w.heap.size + 1 + 1) 1 #[.int .i64 (b + k)] false 1 0 false HD.out.z
  have hS := size_setChan w4 (w.heap.size + 1 + 1) 1 #[.int .i64 (b + k)] false 1 0 false
  have hz := HD.out.z
  simp only [List.push_toArray, List.nil_append, Nat.zero_add]
  generalize w4.setChan (w.heap.size + 1 + 1) 1 #[.int .i64 (b + k)] false 1 0 false = w5 at *
  go_wp2
  go_ret
  exact ⟨_, rfl, hC, by omega, by omega, hB⟩
set_option maxRecDepth 4000 in
set_option maxHeartbeats 1600000 in
theorem side_no (cx cy b sx sy l x y k : Int) (w : World) (h : SdB cx cy b sx sy l x y) (hk : sz (x - cx) (y - cy) = k) (hno : ¬ (1 ≤ k ∧ k ≤ l ∧ cx + k * sx = x ∧ cy + k * sy = y)) :
    Calls Try.prog 156 #[.agg #[.int .i64 cx, .int .i64 cy, .int .i64 b, .int .i64 sx, .int .i64 sy, .int .i64 l], .agg #[.int .i64 x, .int .i64 y]] w fun e w' =>
      ∃ c, e = .returned (.chan (some c)) ∧ w'.heap[c]? = some (.chan 1 #[] false 0 0 false) ∧ w.heap.size ≤ c ∧ c < w'.heap.size ∧ Below w.heap.size w w' := by
  obtain ⟨a0, a1, b0, b1, x0, x1, y0, y1, u0, u1, v0, v1, n0, n1⟩ := h
  have hk2 : k ≤ 1000000 := by rw [← hk]; unfold sz ab; omega
  have hk0 : 0 ≤ k := by rw [← hk]; exact sz_nn _ _
  have HW := Lib.hid fun W => wayTo_any cx cy x y W (by omega) (by omega) (by omega) (by omega) (by omega) (by omega) (by omega) (by omega)
  have HR := Lib.hid fun W => squareRing_any (x - cx) (y - cy) W (by omega) (by omega) (by omega) (by omega)
  rw [hk] at HR
  have HL := Lib.hid fun W => ledBy_any cx cy sx sy k _ _ W (led_small _ _ _ _ _ (by omega) (by omega) (by omega) (by omega) u0 u1 v0 v1 (by omega) (by omega)) rfl rfl
  have hmc := mk_chan
  by_cases hin : k < 1 ∨ l < k
  · have HI := Lib.hid (betr_no hin)
    clear a0 a1 b0 b1 x0 x1 y0 y1 u0 u1 v0 v1 hk n0 n1 hk2 hk0 hin hno
    go_enter Try.func156, Try.ntmps156
    go_wp2_with fail
    have hD := desk_new w cx cy b sx sy l x y 103 65
    have hB := bl3 w (.cells #[.int .i64 cx, .int .i64 cy, .int .i64 b, .int .i64 sx, .int .i64 sy, .int .i64 l] 103) (.cells #[.int .i64 x, .int .i64 y] 65) (.chan 1 #[] false 0 0 false)
    generalize ((w.alloc (.cells #[.int .i64 cx, .int .i64 cy, .int .i64 b, .int .i64 sx, .int .i64 sy, .int .i64 l] 103)).alloc (.cells #[.int .i64 x, .int .i64 y] 65)).alloc (.chan 1 #[] false 0 0 false) = wb at *
    have HD := Lib.hid hD
    have HB := Lib.hid hB
    clear hD hB hmc
    go_wp2_with (first
      | (go_at_call 154; refine (HW.out _).mono ?_; rintro e w1 ⟨rfl, hb1⟩; have HD1 := Lib.hid (HD.out.below hb1); have HB1 := Lib.hid (HB.out.trans (hb1.mono HB.out.size)))
      | (go_at_call 149; refine (HR.out _).mono ?_; rintro e w2 ⟨rfl, hb2⟩; have HD2 := Lib.hid (HD1.out.below hb2); have HB2 := Lib.hid (HB1.out.trans (hb2.mono HB1.out.size))))
    clear HD HB HD1 HB1 hb1 hb2
    have HD := HD2
    have HB := HB2
    clear HD2 HB2
    obtain ⟨k0, k1, k3, k4, k5, m0, m1⟩ := HD.out.all
    go_quiet (first
      | (go_at_call 97; refine (rwithin_any _ _ _ _).mono ?_; rw [HI.out]; rintro e w3 ⟨rfl, rfl⟩; exact ⟨rfl, _, rfl⟩))
    go_wp2
    go_ret
    have hz := HD.out.z
    exact ⟨_, rfl, HD.out.ch, by omega, hz, below_drewN HB.out _⟩
  · have HI := Lib.hid (betr_yes (x := k) (lo := 1) (hi := l) (by omega) (by omega))
    have hne : ¬ (cx + k * sx = x ∧ cy + k * sy = y) := fun e => hno ⟨by omega, by omega, e.1, e.2⟩
    have hq : ∀ W : World, (Op.equalIn 10000 65 (.agg #[.int .i64 (cx + k * sx), .int .i64 (cy + k * sy)]) (.agg #[.int .i64 x, .int .i64 y])).run Try.prog W = .ok false W := fun W => by
      rw [eq_vec]
      have : (cx + k * sx == x && cy + k * sy == y) = false := by
        rw [Bool.and_eq_false_iff]
        by_cases e : cx + k * sx = x
        · exact .inr (by simpa using fun g => hne ⟨e, g⟩)
        · exact .inl (by simpa using e)
      rw [this]
    clear a0 a1 b0 b1 x0 x1 y0 y1 u0 u1 v0 v1 hk n0 n1 hk2 hk0 hin hno hne
    generalize cx + k * sx = xx at *
    generalize cy + k * sy = yy at *
    go_enter Try.func156, Try.ntmps156
    go_wp2_with fail
    have hD := desk_new w cx cy b sx sy l x y 103 65
    have hB := bl3 w (.cells #[.int .i64 cx, .int .i64 cy, .int .i64 b, .int .i64 sx, .int .i64 sy, .int .i64 l] 103) (.cells #[.int .i64 x, .int .i64 y] 65) (.chan 1 #[] false 0 0 false)
    generalize ((w.alloc (.cells #[.int .i64 cx, .int .i64 cy, .int .i64 b, .int .i64 sx, .int .i64 sy, .int .i64 l] 103)).alloc (.cells #[.int .i64 x, .int .i64 y] 65)).alloc (.chan 1 #[] false 0 0 false) = wb at *
    have HD := Lib.hid hD
    have HB := Lib.hid hB
    clear hD hB hmc
    go_wp2_with (first
      | (go_at_call 154; refine (HW.out _).mono ?_; rintro e w1 ⟨rfl, hb1⟩; have HD1 := Lib.hid (HD.out.below hb1); have HB1 := Lib.hid (HB.out.trans (hb1.mono HB.out.size)))
      | (go_at_call 149; refine (HR.out _).mono ?_; rintro e w2 ⟨rfl, hb2⟩; have HD2 := Lib.hid (HD1.out.below hb2); have HB2 := Lib.hid (HB1.out.trans (hb2.mono HB1.out.size))))
    clear HD HB HD1 HB1 hb1 hb2
    have HD := HD2
    have HB := HB2
    clear HD2 HB2
    go_region_held3 (fun w' => w'.cell? ⟨w.heap.size, 0, none⟩ = some (.int .i64 cx) ∧ w'.cell? ⟨w.heap.size, 1, none⟩ = some (.int .i64 cy) ∧ w'.cell? ⟨w.heap.size, 3, none⟩ = some (.int .i64 sx) ∧ w'.cell? ⟨w.heap.size, 4, none⟩ = some (.int .i64 sy) ∧ w'.cell? ⟨w.heap.size, 5, none⟩ = some (.int .i64 l) ∧ w'.cell? ⟨w.heap.size + 1, 0, none⟩ = some (.int .i64 x) ∧ w'.cell? ⟨w.heap.size + 1, 1, none⟩ = some (.int .i64 y))
      (first | with_reducible exact HD.out.all | with_reducible exact HD.out.drew.all)
      (first
        | (go_at_call 97; refine (rwithin_any _ _ _ _).mono ?_; rw [HI.out]; rintro e w3 ⟨rfl, rfl⟩)
        | (go_at_call 109; refine (HL.out _).mono ?_; rintro e w4 ⟨rfl, hb4⟩; have HD := Lib.hid (HD.out.drew.below hb4); have HB := Lib.hid (HB.out.drew.trans (hb4.mono HB.out.drew.size)); clear hb4))
    go_wp2
    go_ret
    have hz := HD.out.z
    exact ⟨_, rfl, HD.out.ch, by omega, by omega, HB.out⟩
end Go.Proofs.Ytkhjeleoppdjgac

/- Chapter 6: the number at a spot, by the program: the sides are asked one behind the other. -/
namespace Go.Proofs.Ytkhjeleoppdjgac
open Go.ChangeShapes Go.WideShapes Go.ChangeAt Go.RowKit Go.ChangeMaps Go.Conc

theorem sdB_of {K : Kd} {s r b l x y : Int} {t m : Nat} (hK : Good K) (hr : IsRg s r b) (l0 : 0 ≤ l) (l1 : l ≤ 4000) (hm : m ≤ 6) (ht : t < m) (x0 : -100000 ≤ x) (x1 : x ≤ 100000) (y0 : -100000 ≤ y) (y1 : y ≤ 100000) :
    SdB (cor K r l t).1 (cor K r l t).2 (b + t * l) (sst K t).1 (sst K t).2 l x y := by
  obtain ⟨_, r0, r1, b0, b1⟩ := hr
  obtain ⟨p0, p1, p2, p3⟩ := cor_b hK r l r0 l0 t
  obtain ⟨v0, v1⟩ := tl_b l0 l1 t (by omega)
  obtain ⟨s0, s1, s2, s3⟩ := hK.st ((t + 1) % K.m)
  exact ⟨by omega, by omega, by omega, by omega, x0, x1, y0, y1, s0, s1, s2, s3, by omega, by omega⟩
theorem len_of {K : Kd} {R m : Nat} {u s r l : Int} {w : World} {lo hi : Nat} (h : IsSp K R m u s w lo hi) (r0 : 0 ≤ r) (r1 : r ≤ 2000) (hl : u * r = l) : 0 ≤ l ∧ l ≤ 4000 ∧ 4 ≤ m ∧ m ≤ 6 := by
  have hu := h.good.u0
  rw [h.hu] at hu
  have hm := h.good.m0
  rw [h.hm] at hm
  refine ⟨by rw [← hl]; exact Int.mul_nonneg (by omega) r0, ?_, hm.1, hm.2⟩
  rw [← hl]
  rcases (show u = 1 ∨ u = 2 by omega) with rfl | rfl <;> omega
set_option maxRecDepth 4000 in
set_option maxHeartbeats 1600000 in
theorem spNumberAt_any (K : Kd) (R F m : Nat) (u s r b l x y N : Int) (w : World) (lo hi : Nat) (h : IsSp K R m u s w lo hi) (hr : IsRg s r b) (hl : u * r = l)
    (hcf : ∀ (args : Array Value) (W : World), (callFunc F args).run Try.prog W = .ok (.enter F args) W)
    (hF : ∀ W : World, Calls Try.prog F #[.agg #[.int .i64 x, .int .i64 y]] W fun e w' => e = .returned (.int .i64 r) ∧ Below W.heap.size W w')
    (ht : Tell K r b x y N) (x0 : -100000 ≤ x) (x1 : x ≤ 100000) (y0 : -100000 ≤ y) (y1 : y ≤ 100000) :
    Calls Try.prog 95 #[.agg #[.slice (some ⟨R, 0, none⟩) m m, .int .i64 u, .func (.func F) #[] #[]], .agg #[.int .i64 x, .int .i64 y]] w fun e w' => e = .returned (.int .i64 N) ∧ Below w.heap.size w w' := by
  obtain ⟨l0, l1, m4, m6⟩ := len_of h hr.r0 hr.r1 hl
  have HY : Hid (∀ (t : Nat) (W : World), t < m → onIt K r l t x y → Calls Try.prog 156 #[.agg #[.int .i64 (cor K r l t).1, .int .i64 (cor K r l t).2, .int .i64 (b + t * l), .int .i64 (sst K t).1, .int .i64 (sst K t).2, .int .i64 l], .agg #[.int .i64 x, .int .i64 y]] W fun e w' =>
      ∃ c, e = .returned (.chan (some c)) ∧ w'.heap[c]? = some (.chan 1 #[.int .i64 N] false 1 0 false) ∧ W.heap.size ≤ c ∧ c < w'.heap.size ∧ Below W.heap.size W w') := Lib.hid fun t W htm ho => by
    have e := ht.on t (by rw [h.hm]; exact htm) (by rw [h.hu, hl]; exact ho)
    rw [h.hu, hl] at e
    rw [← e]
    exact side_yes _ _ _ _ _ _ _ _ _ W (sdB_of h.good hr l0 l1 m6 htm x0 x1 y0 y1) rfl ho.1 ho.2.1 ho.2.2.1 ho.2.2.2
  have HX : Hid (∀ (t : Nat) (W : World), t < m → ¬ onIt K r l t x y → Calls Try.prog 156 #[.agg #[.int .i64 (cor K r l t).1, .int .i64 (cor K r l t).2, .int .i64 (b + t * l), .int .i64 (sst K t).1, .int .i64 (sst K t).2, .int .i64 l], .agg #[.int .i64 x, .int .i64 y]] W fun e w' =>
      ∃ c, e = .returned (.chan (some c)) ∧ w'.heap[c]? = some (.chan 1 #[] false 0 0 false) ∧ W.heap.size ≤ c ∧ c < w'.heap.size ∧ Below W.heap.size W w') := Lib.hid fun t W htm ho =>
    side_no _ _ _ _ _ _ _ _ _ W (sdB_of h.good hr l0 l1 m6 htm x0 x1 y0 y1) rfl fun e => ho ⟨e.1, e.2.1, e.2.2.1, e.2.2.2⟩
  have HOFF : Hid ((∀ t, t < m → ¬ onIt K r l t x y) → N = 0) := Lib.hid fun q => ht.off fun t htm => by rw [h.hu, hl]; exact q t (by rw [← h.hm]; exact htm)
  have HSD : Hid (∀ W : World, Below w.heap.size w W → Calls Try.prog 150 #[.agg #[.slice (some ⟨R, 0, none⟩) m m, .int .i64 u, .func (.func F) #[] #[]], .int .i64 r] W fun e w' => (∃ A c, e = .returned (.slice A m c) ∧ Own w' W.heap.size w'.heap.size A (sds K r b l m)) ∧ Below W.heap.size W w') := Lib.hid fun W hW =>
    sidesOf_any K R F m u s r b l W lo hi ⟨h.good, h.hm, h.hu, h.hs, h.s1, h.s2, h.own.below hW h.hi, Nat.le_trans h.hi hW.size⟩ hr hl
  have HF := Lib.hid hF
  clear hF ht hr hl h x0 x1 y0 y1
  go_enter Try.func95, Try.ntmps95
  go_upto_region 1 with fail
  have hB := bl2 w (.cells #[.slice (some ⟨R, 0, none⟩) m m, .int .i64 u, .func (.func F) #[] #[]] 69) (.cells #[.int .i64 x, .int .i64 y] 65)
  have hT := (box3_new w (.slice (some ⟨R, 0, none⟩) m m) (.int .i64 u) (.func (.func F) #[] #[]) 69).alloc (.cells #[.int .i64 x, .int .i64 y] 65)
  have hP := box2_new (w.alloc (.cells #[.slice (some ⟨R, 0, none⟩) m m, .int .i64 u, .func (.func F) #[] #[]] 69)) (.int .i64 x) (.int .i64 y) 65
  rw [show (w.alloc (.cells #[.slice (some ⟨R, 0, none⟩) m m, .int .i64 u, .func (.func F) #[] #[]] 69)).heap.size = w.heap.size + 1 by simp] at hP
  generalize (w.alloc (.cells #[.slice (some ⟨R, 0, none⟩) m m, .int .i64 u, .func (.func F) #[] #[]] 69)).alloc (.cells #[.int .i64 x, .int .i64 y] 65) = wb at *
  have HB := Lib.hid hB
  have HT := Lib.hid hT
  have HP := Lib.hid hP
  clear hB hT hP
  go_region_held3 (fun w' => (w'.cell? ⟨w.heap.size, 0, none⟩ = some (.slice (some ⟨R, 0, none⟩) m m) ∧ w'.cell? ⟨w.heap.size, 1, none⟩ = some (.int .i64 u) ∧ w'.cell? ⟨w.heap.size, 2, none⟩ = some (.func (.func F) #[] #[])) ∧ w'.cell? ⟨w.heap.size + 1, 0, none⟩ = some (.int .i64 x) ∧ w'.cell? ⟨w.heap.size + 1, 1, none⟩ = some (.int .i64 y))
    (first | with_reducible exact ⟨HT.out.all, HP.out.c0, HP.out.c1⟩ | with_reducible exact ⟨HT.out.drew.all, HP.out.drew.c0, HP.out.drew.c1⟩)
    (first
      | (go_at_call 150; refine (HSD.out _ HB.out).mono ?_; rintro e w2 ⟨⟨A, c, rfl, hO⟩, hb2⟩; have HO := Lib.hid hO; have HT := Lib.hid (HT.out.below hb2); have HP := Lib.hid (HP.out.below hb2); have HB2 := Lib.hid (HB.out.trans (hb2.mono HB.out.size)); clear hO hb2)
      | (refine (HF.out _).mono ?_; rintro e w1 ⟨rfl, hb1⟩; have HT := Lib.hid (HT.out.drew.below hb1); have HP := Lib.hid (HP.out.drew.below hb1); have HB := Lib.hid (HB.out.drew.trans (hb1.mono HB.out.drew.size)); clear hb1))
  obtain ⟨g, o, hA, hg1, hg2, _⟩ := HO.out.six_ (k := m) (t := 0) (by omega)
  subst hA
  go_wp2_with fail
  go_loopw [15] (fun i wr => ∃ t : Nat, t ≤ m ∧ i = .int .i64 (t : Int) ∧ Hid (Below w2.heap.size w2 wr ∧ ∀ j, j < t → ¬ onIt K r l j x y)) (fun i _ => m - (intOf i).toNat)
  case atStart => exact ⟨0, by omega, by simp, Lib.hid ⟨Below.refl _ _, fun j hj => by omega⟩⟩
  case round =>
    obtain ⟨t, ht, rfl, hf⟩ := hrel
    by_cases hlt : t < m
    · have hlt2 : (t : Int) < (m : Int) := by omega
      obtain ⟨hb, hno⟩ := hf.out
      obtain ⟨g', o', hA, hg3, hg4, q0, q1, q2, q3, q4, q5⟩ := (HO.out.below hb (Nat.le_refl _)).six_ (k := m) hlt
      obtain ⟨eg, eo⟩ : g = g' ∧ o = o' := by simpa using hA
      rw [← eg, ← eo] at q0 q1 q2 q3 q4 q5
      have hp := HP.out.below hb
      have hgz : g < wr.heap.size := Nat.lt_of_lt_of_le hg2 hb.size
      have HPR := Lib.hid hp
      have HBR := Lib.hid hb
      have HNO := Lib.hid hno
      have p0 := hp.c0
      have p1 := hp.c1
      have p0' := (hp.alloc (.cells #[.int .i64 (cor K r l t).1, .int .i64 (cor K r l t).2, .int .i64 (b + t * l), .int .i64 (sst K t).1, .int .i64 (sst K t).2, .int .i64 l] 103)).c0
      have p1' := (hp.alloc (.cells #[.int .i64 (cor K r l t).1, .int .i64 (cor K r l t).2, .int .i64 (b + t * l), .int .i64 (sst K t).1, .int .i64 (sst K t).2, .int .i64 l] 103)).c1
      clear hp hb hno hA hg3 hg4 eg eo hf
      by_cases hon : onIt K r l t x y
      · go_upto_region 5 with (first
          | (go_at_call 156; refine (HY.out t _ hlt hon).mono ?_; rintro e w4 ⟨cc, rfl, hch, hc1, hc2, hb4⟩))
        refine OpsTo.region ?_
        simp only [List.size_toArray, List.length_cons, List.length_nil, Nat.reduceAdd, Nat.zero_add, List.range, List.range.loop]
        refine OpsTo.recv_ (c := cc) (z := .int .i64 0) (w' := w4) rfl rfl rfl (by simp [go_sem, execOp, rcase, Act.eval]) hch (by simp) ?_
        simp only [List.setIfInBounds_toArray, List.set_cons_zero, List.set_cons_succ]
        rw [show (#[Value.int .i64 N] : Array Value).getD 0 undef = .int .i64 N from rfl, show goInt 0 = .int .i64 0 from rfl]
        refine OpsTo.val (v := .int .i64 0) (w' := w4.setChan cc 1 (#[Value.int .i64 N].extract 1 1) false 1 1 false) rfl rfl rfl (by simp [go_sem, execOp, Act.eval]) ?_
        simp only [List.setIfInBounds_toArray, List.set_cons_zero, List.set_cons_succ]
        refine OpsTo.val (v := .bool true) (w' := w4.setChan cc 1 (#[Value.int .i64 N].extract 1 1) false 1 1 false) rfl rfl rfl (by simp [go_sem, execOp, Act.eval]) ?_
        simp only [List.setIfInBounds_toArray, List.set_cons_zero, List.set_cons_succ]
        refine OpsTo.done ?_
        have hB2 : Below w.heap.size w wr := HB2.out.trans (HBR.out.mono HB2.out.size)
        have hB4 : Below w.heap.size w w4 := (hB2.alloc hB2.size _).trans (hb4.mono (by have := hB2.size; simp; omega))
        have hc0 : w.heap.size ≤ cc := by have := hB2.size; simp at hc1; omega
        have HB5 := Lib.hid (below_setChan hB4 hc0 1 (#[Value.int .i64 N].extract 1 1) false 1 1 false)
        generalize w4.setChan cc 1 (#[Value.int .i64 N].extract 1 1) false 1 1 false = w5 at *
        clear hB2 hB4 hc0 hb4 hch p0 p1 p0' p1' q0 q1 q2 q3 q4 q5
        go_wp2_with fail
        go_ret
        exact ⟨rfl, HB5.out⟩
      · go_upto_region 5 with (first
          | (go_at_call 156; refine (HX.out t _ hlt hon).mono ?_; rintro e w4 ⟨cc, rfl, hch, hc1, hc2, hb4⟩))
        refine OpsTo.region ?_
        simp only [List.size_toArray, List.length_cons, List.length_nil, Nat.reduceAdd, Nat.zero_add, List.range, List.range.loop]
        refine OpsTo.dflt_ (c := cc) (z := .int .i64 0) (w' := w4) rfl rfl rfl (by simp [go_sem, execOp, rcase, Act.eval]) hch ?_
        simp only [List.setIfInBounds_toArray, List.set_cons_zero, List.set_cons_succ]
        rw [show goInt (-1) = .int .i64 (-1) from rfl]
        refine OpsTo.val (v := .int .i64 (-1)) (w' := w4) rfl rfl rfl (by simp [go_sem, execOp, Act.eval]) ?_
        simp only [List.setIfInBounds_toArray, List.set_cons_zero, List.set_cons_succ]
        refine OpsTo.val (v := .bool false) (w' := w4) rfl rfl rfl (by simp [go_sem, execOp, Act.eval]) ?_
        simp only [List.setIfInBounds_toArray, List.set_cons_zero, List.set_cons_succ]
        refine OpsTo.done ?_
        have hB4 : Below w2.heap.size w2 w4 := (HBR.out.alloc HBR.out.size _).trans (hb4.mono (by have := HBR.out.size; simp; omega))
        have HB4 := Lib.hid hB4
        have HNO' : Hid (∀ j, j < t + 1 → ¬ onIt K r l j x y) := Lib.hid fun j hj => by
          rcases Nat.lt_or_ge j t with h1 | h1
          · exact HNO.out j h1
          · obtain rfl : j = t := by omega
            exact hon
        clear hB4 hb4 hch p0 p1 p0' p1' q0 q1 q2 q3 q4 q5
        go_wp2
        go_roundw
        case rel => exact ⟨t + 1, by omega, by go_num, Lib.hid ⟨HB4.out, HNO'.out⟩⟩
        case measure => simp [intOf]; omega
    · obtain rfl : t = m := by omega
      have HN := Lib.hid (HOFF.out hf.out.2)
      go_wp2
      go_ret
      exact ⟨ret_int HN.out.symm, HB2.out.trans (hf.out.1.mono HB2.out.size)⟩
end Go.Proofs.Ytkhjeleoppdjgac

/- Chapter 6: the spot of a number and the way between two numbers, by the program. -/
namespace Go.Proofs.Ytkhjeleoppdjgac
open Go.ChangeShapes Go.WideShapes Go.ChangeAt Go.RowKit

/-- A spiral and a number of it: where the number lies. -/
structure At (K : Kd) (R m : Nat) (u s n r b l x y : Int) (V : Int → Int) (w : World) (lo hi : Nat) : Prop where
  sp : IsSp K R m u s w lo hi
  fits : Fits 2 (-s) s n r V
  ring : IsRg s r b
  len : u * r = l
  told : Told K r b n x y
  n0 : 0 ≤ n
  n1 : n ≤ 10000000
theorem At.below {K : Kd} {R m : Nat} {u s n r b l x y : Int} {V : Int → Int} {w W : World} {lo hi : Nat} (h : At K R m u s n r b l x y V w lo hi) (hW : Below w.heap.size w W) : At K R m u s n r b l x y V W lo hi :=
  ⟨⟨h.sp.good, h.sp.hm, h.sp.hu, h.sp.hs, h.sp.s1, h.sp.s2, h.sp.own.below hW h.sp.hi, Nat.le_trans h.sp.hi hW.size⟩, h.fits, h.ring, h.len, h.told, h.n0, h.n1⟩
set_option maxRecDepth 4000 in
set_option maxHeartbeats 1600000 in
theorem vectorOf_any (K : Kd) (R F m : Nat) (u s n r b l x y : Int) (V : Int → Int) (w : World) (lo hi : Nat) (h : At K R m u s n r b l x y V w lo hi) :
    Calls Try.prog 85 #[.agg #[.slice (some ⟨R, 0, none⟩) m m, .int .i64 u, .func (.func F) #[] #[]], .int .i64 n] w fun e w' => e = .returned (.agg #[.int .i64 x, .int .i64 y]) ∧ Below w.heap.size w w' := by
  obtain ⟨l0, l1, m4, m6⟩ := len_of h.sp h.ring.r0 h.ring.r1 h.len
  have HR := Lib.hid fun W => ringOf_any R F m u s n r V W h.sp.hs h.sp.s1 h.sp.s2 h.fits
  have HSD : Hid (∀ W : World, Below w.heap.size w W → Calls Try.prog 150 #[.agg #[.slice (some ⟨R, 0, none⟩) m m, .int .i64 u, .func (.func F) #[] #[]], .int .i64 r] W fun e w' => (∃ A c, e = .returned (.slice A m c) ∧ Own w' W.heap.size w'.heap.size A (sds K r b l m)) ∧ Below W.heap.size W w') := Lib.hid fun W hW =>
    sidesOf_any K R F m u s r b l W lo hi (h.below hW).sp h.ring h.len
  have HON : Hid (∀ t, t < m → 1 ≤ n - (b + t * l) → n - (b + t * l) ≤ l → ∀ W : World, Calls Try.prog 109 #[.agg #[.int .i64 (cor K r l t).1, .int .i64 (cor K r l t).2], .agg #[.int .i64 (sst K t).1, .int .i64 (sst K t).2], .int .i64 (n - (b + t * l))] W fun e w' => e = .returned (.agg #[.int .i64 x, .int .i64 y]) ∧ Below W.heap.size W w') := Lib.hid fun t htm h1 h2 W => by
    obtain ⟨e0, e1⟩ : Lies K r l t x y (n - (b + t * l)) := by
      have := h.told.on t (by rw [h.sp.hm]; exact htm)
      rw [h.sp.hu, h.len] at this
      exact this h1 h2
    obtain ⟨_, r0, r1, b0, b1⟩ := h.ring
    obtain ⟨p0, p1, p2, p3⟩ := cor_b h.sp.good r l r0 l0 t
    obtain ⟨v0, v1⟩ := tl_b l0 l1 t (by omega)
    obtain ⟨s0, s1, s2, s3⟩ := h.sp.good.st ((t + 1) % K.m)
    exact ledBy_any _ _ _ _ _ _ _ W (led_small _ _ _ _ _ (by omega) (by omega) (by omega) (by omega) s0 s1 s2 s3 (by omega) (by omega)) e0 e1
  have HOFF : Hid ((∀ t, t < m → ¬ (1 ≤ n - (b + t * l) ∧ n - (b + t * l) ≤ l)) → x = 0 ∧ y = 0) := Lib.hid fun q => h.told.off fun t htm => by rw [h.sp.hu, h.len]; exact q t (by rw [← h.sp.hm]; exact htm)
  have HNB : Hid (∀ t : Nat, t < m → -1000000000 ≤ n - (b + t * l) ∧ n - (b + t * l) ≤ 1000000000) := Lib.hid fun t htm => by
    obtain ⟨v0, v1⟩ := tl_b l0 l1 t (by omega)
    have := h.n0
    have := h.n1
    have := h.ring.b0
    have := h.ring.b1
    omega
  clear h
  go_enter Try.func85, Try.ntmps85
  go_upto_region 1 with fail
  have hB := bl2 w (.cells #[.slice (some ⟨R, 0, none⟩) m m, .int .i64 u, .func (.func F) #[] #[]] 69) (.cells #[.int .i64 0, .int .i64 0] 65)
  have hT := (box3_new w (.slice (some ⟨R, 0, none⟩) m m) (.int .i64 u) (.func (.func F) #[] #[]) 69).alloc (.cells #[.int .i64 0, .int .i64 0] 65)
  have hP := boxw_new (w.alloc (.cells #[.slice (some ⟨R, 0, none⟩) m m, .int .i64 u, .func (.func F) #[] #[]] 69)) (.int .i64 0) (.int .i64 0) 65
  rw [show (w.alloc (.cells #[.slice (some ⟨R, 0, none⟩) m m, .int .i64 u, .func (.func F) #[] #[]] 69)).heap.size = w.heap.size + 1 by simp] at hP
  generalize (w.alloc (.cells #[.slice (some ⟨R, 0, none⟩) m m, .int .i64 u, .func (.func F) #[] #[]] 69)).alloc (.cells #[.int .i64 0, .int .i64 0] 65) = wb at *
  have HB := Lib.hid hB
  have HT := Lib.hid hT
  have HP := Lib.hid hP
  clear hB hT hP
  go_region_held3 (fun w' => w'.cell? ⟨w.heap.size, 0, none⟩ = some (.slice (some ⟨R, 0, none⟩) m m) ∧ w'.cell? ⟨w.heap.size, 1, none⟩ = some (.int .i64 u) ∧ w'.cell? ⟨w.heap.size, 2, none⟩ = some (.func (.func F) #[] #[]))
    (first | with_reducible exact HT.out.all | with_reducible exact HT.out.drew.all)
    (first
      | (go_at_call 89; refine (HR.out _).mono ?_; rintro e w1 ⟨rfl, hb1⟩; have HT := Lib.hid (HT.out.drew.below hb1); have HP := Lib.hid (HP.out.drew.below hb1); have HB := Lib.hid (HB.out.drew.trans (hb1.mono HB.out.drew.size)); clear hb1)
      | (go_at_call 150; refine (HSD.out _ HB.out).mono ?_; rintro e w2 ⟨⟨A, c, rfl, hO⟩, hb2⟩; have HO := Lib.hid hO; have HT := Lib.hid (HT.out.below hb2); have HP := Lib.hid (HP.out.below hb2); have HB2 := Lib.hid (HB.out.trans (hb2.mono HB.out.size)); clear hO hb2))
  obtain ⟨g, o, hA, hg1, hg2, _⟩ := HO.out.six_ (k := m) (t := 0) (by omega)
  subst hA
  go_wp2_with fail
  go_loopw [14] (fun i wr => ∃ t : Nat, t ≤ m ∧ i = .int .i64 (t : Int) ∧ Hid (Below w2.heap.size w2 wr ∧ ∀ j : Nat, j < t → ¬ (1 ≤ n - (b + j * l) ∧ n - (b + j * l) ≤ l))) (fun i _ => m - (intOf i).toNat)
  case atStart => exact ⟨0, by omega, by simp, Lib.hid ⟨Below.refl _ _, fun j hj => by omega⟩⟩
  case round =>
    obtain ⟨t, ht, rfl, hf⟩ := hrel
    by_cases hlt : t < m
    · have hlt2 : (t : Int) < (m : Int) := by omega
      obtain ⟨hb, hno⟩ := hf.out
      obtain ⟨g', o', hA, hg3, hg4, q0, q1, q2, q3, q4, q5⟩ := (HO.out.below hb (Nat.le_refl _)).six_ (k := m) hlt
      obtain ⟨eg, eo⟩ : g = g' ∧ o = o' := by simpa using hA
      rw [← eg, ← eo] at q0 q1 q2 q3 q4 q5
      have HPR := Lib.hid (HP.out.below hb)
      have HBR := Lib.hid hb
      have HNO := Lib.hid hno
      have HONt := Lib.hid (HON.out t hlt)
      obtain ⟨nb0, nb1⟩ := HNB.out t hlt
      obtain ⟨k, hk⟩ : ∃ k, k = n - (b + t * l) := ⟨_, rfl⟩
      rw [← hk] at HONt nb0 nb1
      have hwn : wrap64 (n - (b + t * l)) = k := by
        rw [← hk]
        exact IntWalk.wrap64_in k (by omega)
      have HK := Lib.hid hk
      clear hb hno hA hg3 hg4 eg eo hf nb0 nb1 hk
      generalize (cor K r l t).1 = cx at *
      generalize (cor K r l t).2 = cy at *
      generalize (sst K t).1 = sx at *
      generalize (sst K t).2 = sy at *
      generalize hnb : b + t * l = nb at *
      have HNB2 := Lib.hid hnb
      clear hnb
      by_cases hon : 1 ≤ k ∧ k ≤ l
      · have HI := Lib.hid (betr_yes hon.1 hon.2)
        have HL := Lib.hid (HONt.out hon.1 hon.2)
        clear hon
        go_wp2_with (first
          | (go_at_call 97; refine (rwithin_any _ _ _ _).mono ?_; rw [HI.out]; rintro e w3 ⟨rfl, rfl⟩)
          | (go_at_call 109; refine (HL.out _).mono ?_; rintro e w4 ⟨rfl, hb4⟩; have HP4 := Lib.hid ((HPR.out.alloc _).below hb4); obtain ⟨c0, f0, c1, f1, cz⟩ := HP4.out))
        have hB2 : Below w.heap.size w wr := HB2.out.trans (HBR.out.mono HB2.out.size)
        have hB4 : Below w.heap.size w w4 := (hB2.alloc hB2.size _).trans (hb4.mono (by have := hB2.size; simp; omega))
        obtain ⟨d0, d1⟩ := put2 c0 c1 (.int .i64 x) (.int .i64 y)
        have hB5 : Below w.heap.size w ((w4.setCell ⟨w.heap.size + 1, 0, none⟩ (.int .i64 x)).setCell ⟨w.heap.size + 1, 1, none⟩ (.int .i64 y)) := (hB4.setCell (by simp) _).setCell (by simp) _
        generalize ((w4.setCell ⟨w.heap.size + 1, 0, none⟩ (.int .i64 x)).setCell ⟨w.heap.size + 1, 1, none⟩ (.int .i64 y)) = wE at *
        exact bodyPost_ret (v := .agg #[.int .i64 x, .int .i64 y]) (by simp [results, Try.results85, go_sem, d0, d1]) rfl ⟨rfl, hB5⟩
      · have HI := Lib.hid (betr_no (x := k) (lo := 1) (hi := l) (by omega))
        go_wp2_with (first
          | (go_at_call 97; refine (rwithin_any _ _ _ _).mono ?_; rw [HI.out]; rintro e w3 ⟨rfl, rfl⟩))
        have HNO' : Hid (∀ j : Nat, j < t + 1 → ¬ (1 ≤ n - (b + j * l) ∧ n - (b + j * l) ≤ l)) := Lib.hid fun j hj => by
          rcases Nat.lt_or_ge j t with h1 | h1
          · exact HNO.out j h1
          · obtain rfl : j = t := by omega
            have := HK.out
            have := HNB2.out
            omega
        have HB4 := Lib.hid (HBR.out.alloc HBR.out.size (.cells #[.int .i64 cx, .int .i64 cy, .int .i64 nb, .int .i64 sx, .int .i64 sy, .int .i64 l] 103))
        go_roundw
        case rel => exact ⟨t + 1, by omega, by go_num, Lib.hid ⟨HB4.out, HNO'.out⟩⟩
        case measure => simp [intOf]; omega
    · obtain rfl : t = m := by omega
      obtain ⟨hx, hy⟩ := HOFF.out hf.out.2
      subst hx hy
      obtain ⟨c0, f0, c1, f1, cz⟩ := HP.out.below hf.out.1
      go_wp2
      have hB2 : Below w.heap.size w wr := HB2.out.trans (hf.out.1.mono HB2.out.size)
      obtain ⟨d0, d1⟩ := put2 c0 c1 (.int .i64 0) (.int .i64 0)
      have hB5 : Below w.heap.size w ((wr.setCell ⟨w.heap.size + 1, 0, none⟩ (.int .i64 0)).setCell ⟨w.heap.size + 1, 1, none⟩ (.int .i64 0)) := (hB2.setCell (by simp) _).setCell (by simp) _
      generalize ((wr.setCell ⟨w.heap.size + 1, 0, none⟩ (.int .i64 0)).setCell ⟨w.heap.size + 1, 1, none⟩ (.int .i64 0)) = wE at *
      exact bodyPost_ret (v := .agg #[.int .i64 0, .int .i64 0]) (by simp [results, Try.results85, go_sem, d0, d1]) rfl ⟨rfl, hB5⟩
end Go.Proofs.Ytkhjeleoppdjgac

/- Chapter 6: the way between two numbers, by the program. -/
namespace Go.Proofs.Ytkhjeleoppdjgac
open Go.ChangeShapes Go.WideShapes Go.ChangeAt Go.RowKit

set_option maxRecDepth 4000 in
set_option maxHeartbeats 1600000 in
theorem wayBetween_any (K : Kd) (R F m : Nat) (u s a ra ba la xa ya b rb bb lb xb yb : Int) (V : Int → Int) (w : World) (lo hi : Nat) (hA : At K R m u s a ra ba la xa ya V w lo hi) (hB : At K R m u s b rb bb lb xb yb V w lo hi)
    (xa0 : -100000 ≤ xa ∧ xa ≤ 100000) (ya0 : -100000 ≤ ya ∧ ya ≤ 100000) (xb0 : -100000 ≤ xb ∧ xb ≤ 100000) (yb0 : -100000 ≤ yb ∧ yb ≤ 100000) :
    Calls Try.prog 91 #[.agg #[.slice (some ⟨R, 0, none⟩) m m, .int .i64 u, .func (.func F) #[] #[]], .int .i64 a, .int .i64 b] w fun e w' => e = .returned (.agg #[.int .i64 (xb - xa), .int .i64 (yb - ya)]) ∧ Below w.heap.size w w' := by
  have HVA : Hid (∀ W : World, Below w.heap.size w W → Calls Try.prog 85 #[.agg #[.slice (some ⟨R, 0, none⟩) m m, .int .i64 u, .func (.func F) #[] #[]], .int .i64 a] W fun e w' => e = .returned (.agg #[.int .i64 xa, .int .i64 ya]) ∧ Below W.heap.size W w') := Lib.hid fun W hW => vectorOf_any K R F m u s a ra ba la xa ya V W lo hi (hA.below hW)
  have HVB : Hid (∀ W : World, Below w.heap.size w W → Calls Try.prog 85 #[.agg #[.slice (some ⟨R, 0, none⟩) m m, .int .i64 u, .func (.func F) #[] #[]], .int .i64 b] W fun e w' => e = .returned (.agg #[.int .i64 xb, .int .i64 yb]) ∧ Below W.heap.size W w') := Lib.hid fun W hW => vectorOf_any K R F m u s b rb bb lb xb yb V W lo hi (hB.below hW)
  have HWT := Lib.hid fun W => wayTo_any xa ya xb yb W (by omega) (by omega) (by omega) (by omega) (by omega) (by omega) (by omega) (by omega)
  clear hA hB xa0 ya0 xb0 yb0
  go_enter Try.func91, Try.ntmps91
  go_upto_region 1 with fail
  have hB := bl2 w (.cells #[.slice (some ⟨R, 0, none⟩) m m, .int .i64 u, .func (.func F) #[] #[]] 69) (.cells #[.int .i64 0, .int .i64 0] 65)
  have hT := (box3_new w (.slice (some ⟨R, 0, none⟩) m m) (.int .i64 u) (.func (.func F) #[] #[]) 69).alloc (.cells #[.int .i64 0, .int .i64 0] 65)
  have hP := boxw_new (w.alloc (.cells #[.slice (some ⟨R, 0, none⟩) m m, .int .i64 u, .func (.func F) #[] #[]] 69)) (.int .i64 0) (.int .i64 0) 65
  rw [show (w.alloc (.cells #[.slice (some ⟨R, 0, none⟩) m m, .int .i64 u, .func (.func F) #[] #[]] 69)).heap.size = w.heap.size + 1 by simp] at hP
  generalize (w.alloc (.cells #[.slice (some ⟨R, 0, none⟩) m m, .int .i64 u, .func (.func F) #[] #[]] 69)).alloc (.cells #[.int .i64 0, .int .i64 0] 65) = wb at *
  have HB := Lib.hid hB
  have HT := Lib.hid hT
  have HP := Lib.hid hP
  have HN : Hid (w.heap.size ≠ w.heap.size + 1) := Lib.hid (by omega)
  clear hB hT hP
  go_region_held3 (fun w' => w'.cell? ⟨w.heap.size, 0, none⟩ = some (.slice (some ⟨R, 0, none⟩) m m) ∧ w'.cell? ⟨w.heap.size, 1, none⟩ = some (.int .i64 u) ∧ w'.cell? ⟨w.heap.size, 2, none⟩ = some (.func (.func F) #[] #[]))
    (first | with_reducible exact HT.out.all | with_reducible exact HT.out.drew.all | with_reducible exact ((HT.out.put HN.out).put HN.out).all)
    (first
      | (go_at_call_of 85 a; refine (HVA.out _ (by first | with_reducible exact HB.out.drew | with_reducible exact HB.out)).mono ?_; rintro e w1 ⟨rfl, hb1⟩; have HT := Lib.hid (show Box3 w1 _ _ _ _ from (by first | with_reducible exact HT.out.drew.below hb1 | with_reducible exact HT.out.below hb1)); have HP := Lib.hid (show BoxW w1 _ _ _ from (by first | with_reducible exact HP.out.drew.below hb1 | with_reducible exact HP.out.below hb1)); have HB := Lib.hid (show Below _ w w1 from (by first | with_reducible exact HB.out.drew.trans (hb1.mono HB.out.drew.size) | with_reducible exact HB.out.trans (hb1.mono HB.out.size))); clear hb1)
      | (go_at_call_of 85 b; refine (HVB.out _ (by first | with_reducible exact HB.out.drew | with_reducible exact HB.out)).mono ?_; rintro e w2 ⟨rfl, hb2⟩; have HT := Lib.hid (show Box3 w2 _ _ _ _ from (by first | with_reducible exact HT.out.drew.below hb2 | with_reducible exact HT.out.below hb2)); have HP := Lib.hid (show BoxW w2 _ _ _ from (by first | with_reducible exact HP.out.drew.below hb2 | with_reducible exact HP.out.below hb2)); have HB := Lib.hid (show Below _ w w2 from (by first | with_reducible exact HB.out.drew.trans (hb2.mono HB.out.drew.size) | with_reducible exact HB.out.trans (hb2.mono HB.out.size))); clear hb2)
      | (go_at_call 154; refine (HWT.out _).mono ?_; rintro e w3 ⟨rfl, hb3⟩; have HT := Lib.hid (HT.out.below hb3); have HP := Lib.hid (HP.out.below hb3); have HB := Lib.hid (HB.out.trans (hb3.mono HB.out.size)); have c0 := HP.out.c0; have f0 := HP.out.f0; have c1 := HP.out.c1; have f1 := HP.out.f1; clear hb3))
  obtain ⟨d0, d1⟩ := put2 c0 c1 (.int .i64 (xb - xa)) (.int .i64 (yb - ya))
  have hB5 : Below w.heap.size w ((w3.setCell ⟨w.heap.size + 1, 0, none⟩ (.int .i64 (xb - xa))).setCell ⟨w.heap.size + 1, 1, none⟩ (.int .i64 (yb - ya))) := (HB.out.setCell (by simp) _).setCell (by simp) _
  generalize ((w3.setCell ⟨w.heap.size + 1, 0, none⟩ (.int .i64 (xb - xa))).setCell ⟨w.heap.size + 1, 1, none⟩ (.int .i64 (yb - ya))) = wE at *
  go_wp2
  exact bodyPost_ret (v := .agg #[.int .i64 (xb - xa), .int .i64 (yb - ya)]) (by simp [results, Try.results91, go_sem, d0, d1]) rfl ⟨rfl, hB5⟩
end Go.Proofs.Ytkhjeleoppdjgac

/- Chapter 6: numbers at spots in a row, by the program. -/
namespace Go.Proofs.Ytkhjeleoppdjgac
open Go.ChangeShapes Go.WideShapes Go.ChangeAt Go.RowKit

theorem sjInfo : (Try.prog.info? 3).map (fun i => (i.zero, i.size, i.bytes)) = some (some (.int .i64 0), 1, 8) := by kernel_rfl
theorem sj_new (w : World) (a : Value) (t : TypeId) : ∀ j u, [a][j]? = some u → (w.alloc (.cells #[a] t)).cell? ((⟨w.heap.size, 0, none⟩ : Addr).add j) = some u := by
  intro j u hj
  match j, hj with
  | 0, hj => simp at hj; subst hj; simp [Addr.add]
/-- The first values of a function. -/
def rl (F : Nat → Int) (k : Nat) : List Int := (List.range k).map F
theorem rl_app (F : Nat → Int) (k : Nat) : i64s (rl F k) ++ [.int .i64 (F k)] = i64s (rl F (k + 1)) := by simp [rl, List.range_succ]
theorem rl_len (F : Nat → Int) (k : Nat) : (rl F k).length = k := by simp [rl]
theorem Box2.pair {W : World} {B : Nat} {a b : Value} (h : Box2 W B a b) : W.cell? ⟨B, 0, none⟩ = some a ∧ W.cell? ⟨B, 1, none⟩ = some b := ⟨h.c0, h.c1⟩
set_option maxRecDepth 4000 in
set_option maxHeartbeats 1600000 in
theorem numbersAlong_any (R Fn m n : Nat) (u fx fy dx dy : Int) (F : Nat → Int) (w : World) (x0 : -100000 ≤ fx) (x1 : fx ≤ 100000) (y0 : -100000 ≤ fy) (y1 : fy ≤ 100000) (u0 : -1 ≤ dx) (u1 : dx ≤ 1) (v0 : -1 ≤ dy) (v1 : dy ≤ 1) (hn : n ≤ 400)
    (hN : ∀ (j : Nat) (W : World), j < n → Below w.heap.size w W → Calls Try.prog 95 #[.agg #[.slice (some ⟨R, 0, none⟩) m m, .int .i64 u, .func (.func Fn) #[] #[]], .agg #[.int .i64 (fx + (j : Int) * dx), .int .i64 (fy + (j : Int) * dy)]] W fun e w' => e = .returned (.int .i64 (F j)) ∧ Below W.heap.size W w') :
    Calls Try.prog 108 #[.agg #[.slice (some ⟨R, 0, none⟩) m m, .int .i64 u, .func (.func Fn) #[] #[]], .agg #[.int .i64 fx, .int .i64 fy], .agg #[.int .i64 dx, .int .i64 dy], .int .i64 (n : Int)] w fun e w' => (∃ A c, e = .returned (.slice A n c) ∧ w'.ownsRow w.heap.size 3 1 (.slice A n c) n (i64s (rl F n))) ∧ Below w.heap.size w w' := by
  obtain ⟨i0, hi0, hz0, hz1, hz2⟩ := info_parts sjInfo
  have HN := Lib.hid hN
  have HL : Hid (∀ (j : Nat) (W : World), j < n → Calls Try.prog 109 #[.agg #[.int .i64 fx, .int .i64 fy], .agg #[.int .i64 dx, .int .i64 dy], .int .i64 (j : Int)] W fun e w' => e = .returned (.agg #[.int .i64 (fx + (j : Int) * dx), .int .i64 (fy + (j : Int) * dy)]) ∧ Below W.heap.size W w') := Lib.hid fun j W hj =>
    ledBy_any fx fy dx dy j _ _ W (led_small _ _ _ _ _ (by omega) (by omega) (by omega) (by omega) u0 u1 v0 v1 (by omega) (by omega)) rfl rfl
  clear hN x0 x1 y0 y1 u0 u1 v0 v1
  have hn0 : (0 : Int) ≤ (n : Int) := by omega
  go_enter Try.func108, Try.ntmps108
  go_wp2_with fail
  have hB := bl3 w (.cells #[.slice (some ⟨R, 0, none⟩) m m, .int .i64 u, .func (.func Fn) #[] #[]] 69) (.cells #[.int .i64 fx, .int .i64 fy] 65) (.cells #[.int .i64 dx, .int .i64 dy] 65)
  have hT := ((box3_new w (.slice (some ⟨R, 0, none⟩) m m) (.int .i64 u) (.func (.func Fn) #[] #[]) 69).alloc (.cells #[.int .i64 fx, .int .i64 fy] 65)).alloc (.cells #[.int .i64 dx, .int .i64 dy] 65)
  have hP := (box2_new (w.alloc (.cells #[.slice (some ⟨R, 0, none⟩) m m, .int .i64 u, .func (.func Fn) #[] #[]] 69)) (.int .i64 fx) (.int .i64 fy) 65).alloc (.cells #[.int .i64 dx, .int .i64 dy] 65)
  have hS := box2_new ((w.alloc (.cells #[.slice (some ⟨R, 0, none⟩) m m, .int .i64 u, .func (.func Fn) #[] #[]] 69)).alloc (.cells #[.int .i64 fx, .int .i64 fy] 65)) (.int .i64 dx) (.int .i64 dy) 65
  rw [show (w.alloc (.cells #[.slice (some ⟨R, 0, none⟩) m m, .int .i64 u, .func (.func Fn) #[] #[]] 69)).heap.size = w.heap.size + 1 by simp] at hP
  rw [show ((w.alloc (.cells #[.slice (some ⟨R, 0, none⟩) m m, .int .i64 u, .func (.func Fn) #[] #[]] 69)).alloc (.cells #[.int .i64 fx, .int .i64 fy] 65)).heap.size = w.heap.size + 1 + 1 by simp] at hS
  generalize ((w.alloc (.cells #[.slice (some ⟨R, 0, none⟩) m m, .int .i64 u, .func (.func Fn) #[] #[]] 69)).alloc (.cells #[.int .i64 fx, .int .i64 fy] 65)).alloc (.cells #[.int .i64 dx, .int .i64 dy] 65) = wb at *
  have HB := Lib.hid hB
  have HT := Lib.hid hT
  have HP := Lib.hid hP
  have HS := Lib.hid hS
  clear hB hT hP hS
  go_loopw [12, 9] (fun i v wr => ∃ j : Nat, j ≤ n ∧ i = .int .i64 (j : Int) ∧ Hid (wr.ownsRow wb.heap.size 3 1 v j (i64s (rl F j))) ∧ Hid (Below wb.heap.size wb wr)) (fun i _ _ => n - (intOf i).toNat)
  case atStart => exact ⟨0, by omega, by simp, Lib.hid (World.ownsRow_nil _ _ _ _), Lib.hid (Below.refl _ _)⟩
  case round =>
    obtain ⟨j, hj, rfl, hown, hb⟩ := hrel
    by_cases hlt : j < n
    · have hlt2 : (j : Int) < (n : Int) := by omega
      have HTr := Lib.hid (HT.out.below hb.out)
      have HPr := Lib.hid (HP.out.below hb.out)
      have HSr := Lib.hid (HS.out.below hb.out)
      have HLj := Lib.hid fun W => HL.out j W hlt
      have HNj := Lib.hid fun W hW => HN.out j W hlt hW
      have HA := Lib.hid (rl_app F j)
      have HBw := Lib.hid (HB.out.trans (hb.out.mono HB.out.size))
      have HBb := hb
      have HO := hown
      generalize F j = q at *
      generalize fx + (j : Int) * dx = px at *
      generalize fy + (j : Int) * dy = py at *
      clear hb hown
      go_wp2_with fail
      go_region_held3 (fun w' => (w'.cell? ⟨w.heap.size, 0, none⟩ = some (.slice (some ⟨R, 0, none⟩) m m) ∧ w'.cell? ⟨w.heap.size, 1, none⟩ = some (.int .i64 u) ∧ w'.cell? ⟨w.heap.size, 2, none⟩ = some (.func (.func Fn) #[] #[])) ∧ (w'.cell? ⟨w.heap.size + 1, 0, none⟩ = some (.int .i64 fx) ∧ w'.cell? ⟨w.heap.size + 1, 1, none⟩ = some (.int .i64 fy)) ∧ (w'.cell? ⟨w.heap.size + 1 + 1, 0, none⟩ = some (.int .i64 dx) ∧ w'.cell? ⟨w.heap.size + 1 + 1, 1, none⟩ = some (.int .i64 dy)))
        (first | with_reducible exact ⟨HTr.out.all, HPr.out.pair, HSr.out.pair⟩ | with_reducible exact ⟨HTr.out.drew.all, HPr.out.drew.pair, HSr.out.drew.pair⟩ | with_reducible exact ⟨(HTr.out.alloc _).all, (HPr.out.alloc _).pair, (HSr.out.alloc _).pair⟩)
        (first
          | (go_at_call 109; refine (HLj.out _).mono ?_; rintro e w1 ⟨rfl, hb1⟩; have HTr := Lib.hid (HTr.out.drew.below hb1); have HPr := Lib.hid (HPr.out.drew.below hb1); have HSr := Lib.hid (HSr.out.drew.below hb1); have HBw := Lib.hid (HBw.out.drew.trans (hb1.mono HBw.out.drew.size)); have HBb := Lib.hid (HBb.out.drew.trans (hb1.mono HBb.out.drew.size)); have HO := Lib.hid (row_below (row_below HO.out (Below.refl _ _).drew (Nat.le_refl _)) hb1 (Nat.le_refl _)); clear hb1)
          | (go_at_call 95; refine (HNj.out _ HBw.out).mono ?_; rintro e w2 ⟨rfl, hb2⟩; have HTr := Lib.hid (HTr.out.below hb2); have HPr := Lib.hid (HPr.out.below hb2); have HSr := Lib.hid (HSr.out.below hb2); have HBb := Lib.hid (HBb.out.trans (hb2.mono HBb.out.size)); have HO := Lib.hid (row_below HO.out hb2 (Nat.le_refl _)); have HLW := Lib.hid (HO.out.alloc (.cells #[.int .i64 q] 3)); clear hb2)
          | (refine step_append_lies _ rfl (.tmp 15) (.tmp 22) 31 rfl wb.heap.size 3 i0 (.int .i64 0) 1 8 Try.underlying31 hi0 hz0 hz1 hz2 rfl (by decide) u9 j (i64s (rl F j)) (by simp [Act.eval]) HLW.out ⟨w2.heap.size, 0, none⟩ 1 1 [.int .i64 q] (by simp [Act.eval]) rfl (sj_new w2 _ _) (by intro u hu; simp at hu; subst hu; rfl) (by omega) (by unfold maxLen; omega) (by omega) (by have := HBb.out.size; simp; omega) _ rfl ?_; intro g' cap w4 hown' hgrow hat hlt4; have HB4 := Lib.hid (((Below.refl wb.heap.size w2).alloc HBb.out.size (.cells #[.int .i64 q] 3)).grown hgrow (by have := HBb.out.size; simp; omega) fun g hg => (HLW.out.lt g hg).1); have HO4 := Lib.hid hown'; have HTr := Lib.hid (HTr.out.under HB4.out HT.out.z); have HPr := Lib.hid (HPr.out.under HB4.out HP.out.z); have HSr := Lib.hid (HSr.out.under HB4.out HS.out.z); clear hown' hgrow hat))
      have HO5 := Lib.hid (HA.out ▸ HO4.out)
      have HBB5 := Lib.hid (HBb.out.trans HB4.out)
      clear HO4 HB4 HTr HPr HSr HO HLW
      go_wp2
      go_roundw
      case rel => exact ⟨j + 1, by omega, by go_num, HO5, HBB5⟩
      case measure => simp [intOf]; omega
    · obtain rfl : j = n := by omega
      obtain ⟨A, c, rfl⟩ := row_form hown.out
      go_wp2
      go_ret
      exact ⟨⟨A, c, rfl, hown.out.mono HB.out.size⟩, HB.out.trans (hb.out.mono HB.out.size)⟩
theorem Box2.far {W W' : World} {B : Nat} {a b : Value} {row : Option Nat} (h : Box2 W B a b) (hg : W.grownBy W' row) (hr : some B ≠ row) : Box2 W' B a b :=
  ⟨(hg.cell_far ⟨B, 0, none⟩ h.z hr).trans h.c0, (hg.cell_far ⟨B, 1, none⟩ h.z hr).trans h.c1, Nat.lt_of_lt_of_le h.z hg.size⟩
set_option maxRecDepth 4000 in
set_option maxHeartbeats 1600000 in
theorem numbersBeside_any (K : Kd) (R Fn m : Nat) (u s nn x y : Int) (F : Nat → Int) (w : World) (lo hi : Nat) (h : IsSp K R m u s w lo hi) (x0 : -100000 ≤ x) (x1 : x ≤ 100000) (y0 : -100000 ≤ y) (y1 : y ≤ 100000)
    (hV : ∀ W : World, Below w.heap.size w W → Calls Try.prog 85 #[.agg #[.slice (some ⟨R, 0, none⟩) m m, .int .i64 u, .func (.func Fn) #[] #[]], .int .i64 nn] W fun e w' => e = .returned (.agg #[.int .i64 x, .int .i64 y]) ∧ Below W.heap.size W w')
    (hN : ∀ (j : Nat) (W : World), j < m → Below w.heap.size w W → Calls Try.prog 95 #[.agg #[.slice (some ⟨R, 0, none⟩) m m, .int .i64 u, .func (.func Fn) #[] #[]], .agg #[.int .i64 (x + (K.st j).1), .int .i64 (y + (K.st j).2)]] W fun e w' => e = .returned (.int .i64 (F j)) ∧ Below W.heap.size W w') :
    Calls Try.prog 92 #[.agg #[.slice (some ⟨R, 0, none⟩) m m, .int .i64 u, .func (.func Fn) #[] #[]], .int .i64 nn] w fun e w' => (∃ A c, e = .returned (.slice A m c) ∧ Own w' w.heap.size w'.heap.size A (i64s (rl F m))) ∧ Below w.heap.size w w' := by
  obtain ⟨i0, hi0, hz0, hz1, hz2⟩ := info_parts sjInfo
  have HV := Lib.hid hV
  have HN := Lib.hid hN
  have hm := h.good.m0
  rw [h.hm] at hm
  obtain ⟨m4, m6⟩ := hm
  have HL : Hid (∀ (j : Nat) (W : World), Calls Try.prog 109 #[.agg #[.int .i64 x, .int .i64 y], .agg #[.int .i64 (K.st j).1, .int .i64 (K.st j).2], .int .i64 1] W fun e w' => e = .returned (.agg #[.int .i64 (x + (K.st j).1), .int .i64 (y + (K.st j).2)]) ∧ Below W.heap.size W w') := Lib.hid fun j W => by
    obtain ⟨s0, s1, s2, s3⟩ := h.good.st j
    exact ledBy_any x y _ _ 1 _ _ W (led_small _ _ _ _ _ (by omega) (by omega) (by omega) (by omega) s0 s1 s2 s3 (by omega) (by omega)) (by omega) (by omega)
  have HS : Hid (∀ W : World, Below w.heap.size w W → ∀ j, j < m → W.cell? ⟨R, j * 2, none⟩ = some (.int .i64 (K.st j).1) ∧ W.cell? ⟨R, j * 2 + 1, none⟩ = some (.int .i64 (K.st j).2) ∧ R < w.heap.size) := Lib.hid fun W hW j hj => by
    have hjl : j < K.ss.length := by have := h.hm; unfold Kd.m at this; omega
    obtain ⟨g, o, hA, hg1, hg2, q0, q1⟩ := (h.own.below hW h.hi).pair_ hjl
    obtain ⟨eg, rfl⟩ : g = R ∧ o = 0 := by simp at hA; omega
    subst eg
    have e : K.ss[j] = K.st j := by simp [Kd.st, List.getD, hjl]
    rw [Nat.zero_add] at q0 q1
    rw [e] at q0 q1
    have := h.hi
    exact ⟨q0, q1, by omega⟩
  clear hV hN x0 x1 y0 y1 h
  go_enter Try.func92, Try.ntmps92
  go_wp2_with fail
  have hB : Below w.heap.size w (w.alloc (.cells #[.slice (some ⟨R, 0, none⟩) m m, .int .i64 u, .func (.func Fn) #[] #[]] 69)) := (Below.refl _ _).alloc (Nat.le_refl _) _
  have hT := box3_new w (.slice (some ⟨R, 0, none⟩) m m) (.int .i64 u) (.func (.func Fn) #[] #[]) 69
  generalize w.alloc (.cells #[.slice (some ⟨R, 0, none⟩) m m, .int .i64 u, .func (.func Fn) #[] #[]] 69) = wa at *
  have HBa := Lib.hid hB
  have HTa := Lib.hid hT
  clear hB hT
  refine (HV.out _ HBa.out).mono ?_
  rintro e w1 ⟨rfl, hb1⟩
  have HT1 := Lib.hid (HTa.out.below hb1)
  have HB1 := Lib.hid (HBa.out.trans (hb1.mono HBa.out.size))
  clear hb1
  have d0 := HT1.out.c0
  go_upto_region 3 with fail
  have hP := box2_new w1 (.int .i64 x) (.int .i64 y) 65
  have hT := HT1.out.alloc (.cells #[.int .i64 x, .int .i64 y] 65)
  have hB := HB1.out.alloc HB1.out.size (.cells #[.int .i64 x, .int .i64 y] 65)
  generalize w1.alloc (.cells #[.int .i64 x, .int .i64 y] 65) = wb at *
  have HB := Lib.hid hB
  have HT := Lib.hid hT
  have HP := Lib.hid hP
  clear hB hT hP d0
  generalize w1.heap.size = Q at *
  have d0 := HT.out.c0
  go_wp2_with fail
  go_loopw [15, 6] (fun i v wr => ∃ j : Nat, j ≤ m ∧ i = .int .i64 (j : Int) ∧ Hid (wr.ownsRow wb.heap.size 3 1 v j (i64s (rl F j))) ∧ Hid (Below wb.heap.size wb wr)) (fun i _ _ => m - (intOf i).toNat)
  case atStart => exact ⟨0, by omega, by simp, Lib.hid (World.ownsRow_nil _ _ _ _), Lib.hid (Below.refl _ _)⟩
  case round =>
    obtain ⟨j, hj, rfl, hown, hb⟩ := hrel
    by_cases hlt : j < m
    · have hlt2 : (j : Int) < (m : Int) := by omega
      have HLj := Lib.hid fun W => HL.out j W
      have HNj := Lib.hid fun W hW => HN.out j W hlt hW
      have HA := Lib.hid (rl_app F j)
      have hBw := HB.out.trans (hb.out.mono HB.out.size)
      obtain ⟨q0, q1, hRz⟩ := HS.out wr hBw j hlt
      generalize F j = q at *
      generalize hpx : x + (K.st j).1 = px at *
      generalize hpy : y + (K.st j).2 = py at *
      generalize (K.st j).1 = sx at *
      generalize (K.st j).2 = sy at *
      clear hpx hpy
      go_upto_region 6 with fail
      have HTr := Lib.hid ((HT.out.below hb.out).alloc (.cells #[.int .i64 sx, .int .i64 sy] 65))
      have HPr := Lib.hid ((HP.out.below hb.out).alloc (.cells #[.int .i64 sx, .int .i64 sy] 65))
      have HSr := Lib.hid (box2_new wr (.int .i64 sx) (.int .i64 sy) 65)
      have HBw := Lib.hid (hBw.alloc hBw.size (.cells #[.int .i64 sx, .int .i64 sy] 65))
      have HBb := Lib.hid (hb.out.alloc hb.out.size (.cells #[.int .i64 sx, .int .i64 sy] 65))
      have HO := Lib.hid (row_below hown.out ((Below.refl wr.heap.size wr).alloc (Nat.le_refl _) (.cells #[.int .i64 sx, .int .i64 sy] 65)) (Nat.le_refl _))
      have HNE : Hid (some wr.heap.size ≠ u6.ownBlock) := Lib.hid fun e => by have := (hown.out.lt _ e.symm).2; omega
      clear hb hown hBw q0 q1 hRz
      generalize wr.alloc (.cells #[.int .i64 sx, .int .i64 sy] 65) = w0 at *
      generalize wr.heap.size = Z at *
      go_region_held3 (fun w' => (w'.cell? ⟨w.heap.size, 0, none⟩ = some (.slice (some ⟨R, 0, none⟩) m m) ∧ w'.cell? ⟨w.heap.size, 1, none⟩ = some (.int .i64 u) ∧ w'.cell? ⟨w.heap.size, 2, none⟩ = some (.func (.func Fn) #[] #[])) ∧ (w'.cell? ⟨Q, 0, none⟩ = some (.int .i64 x) ∧ w'.cell? ⟨Q, 1, none⟩ = some (.int .i64 y)) ∧ (w'.cell? ⟨Z, 0, none⟩ = some (.int .i64 sx) ∧ w'.cell? ⟨Z, 1, none⟩ = some (.int .i64 sy)))
        (first | with_reducible exact ⟨HTr.out.all, HPr.out.pair, HSr.out.pair⟩ | with_reducible exact ⟨HTr.out.drew.all, HPr.out.drew.pair, HSr.out.drew.pair⟩ | with_reducible exact ⟨(HTr.out.alloc _).all, (HPr.out.alloc _).pair, (HSr.out.alloc _).pair⟩)
        (first
          | (go_at_call 109; refine (HLj.out _).mono ?_; rintro e w1' ⟨rfl, hb1⟩; have HTr := Lib.hid (HTr.out.drew.below hb1); have HPr := Lib.hid (HPr.out.drew.below hb1); have HSr := Lib.hid (HSr.out.drew.below hb1); have HBw := Lib.hid (HBw.out.drew.trans (hb1.mono HBw.out.drew.size)); have HBb := Lib.hid (HBb.out.drew.trans (hb1.mono HBb.out.drew.size)); have HO := Lib.hid (row_below (row_below HO.out (Below.refl _ _).drew (Nat.le_refl _)) hb1 (Nat.le_refl _)); clear hb1)
          | (go_at_call 95; refine (HNj.out _ HBw.out).mono ?_; rintro e w2 ⟨rfl, hb2⟩; have HTr := Lib.hid (HTr.out.below hb2); have HPr := Lib.hid (HPr.out.below hb2); have HSr := Lib.hid (HSr.out.below hb2); have HBb := Lib.hid (HBb.out.trans (hb2.mono HBb.out.size)); have HO := Lib.hid (row_below HO.out hb2 (Nat.le_refl _)); have HLW := Lib.hid (HO.out.alloc (.cells #[.int .i64 q] 3)); clear hb2)
          | (refine step_append_lies _ rfl (.tmp 19) (.tmp 25) 31 rfl wb.heap.size 3 i0 (.int .i64 0) 1 8 Try.underlying31 hi0 hz0 hz1 hz2 rfl (by decide) u6 j (i64s (rl F j)) (by simp [Act.eval]) HLW.out ⟨w2.heap.size, 0, none⟩ 1 1 [.int .i64 q] (by simp [Act.eval]) rfl (sj_new w2 _ _) (by intro u hu; simp at hu; subst hu; rfl) (by omega) (by unfold maxLen; omega) (by omega) (by have := HBb.out.size; simp; omega) _ rfl ?_; intro g' cap w4 hown' hgrow hat hlt4; have HB4 := Lib.hid (((Below.refl wb.heap.size w2).alloc HBb.out.size (.cells #[.int .i64 q] 3)).grown hgrow (by have := HBb.out.size; simp; omega) fun g hg => (HLW.out.lt g hg).1); have HO4 := Lib.hid hown'; have HTr := Lib.hid (HTr.out.under HB4.out HT.out.z); have HPr := Lib.hid (HPr.out.under HB4.out HP.out.z); have HSr := Lib.hid ((HSr.out.alloc _).far hgrow HNE.out); clear hown' hgrow hat))
      have HO5 := Lib.hid (HA.out ▸ HO4.out)
      have HBB5 := Lib.hid (HBb.out.trans HB4.out)
      clear HO4 HB4 HTr HPr HSr HO HLW
      go_wp2
      go_roundw
      case rel => exact ⟨j + 1, by omega, by go_num, HO5, HBB5⟩
      case measure => simp [intOf]; omega
    · obtain rfl : j = m := by omega
      obtain ⟨A, c, rfl⟩ := row_form hown.out
      go_wp2
      go_ret
      exact ⟨⟨A, c, rfl, (own_of_row hown.out).wide HB.out.size (Nat.le_refl _)⟩, HB.out.trans (hb.out.mono HB.out.size)⟩
end Go.Proofs.Ytkhjeleoppdjgac

/- Chapter 6: the two spirals of the program: spots of numbers, numbers of spots; bounds. -/
namespace Go.Proofs.Ytkhjeleoppdjgac
open Go.ChangeShapes Go.WideShapes Go.ChangeAt Go.RowKit

theorem isOn_any (n : Int) (w : World) : Calls Try.prog 83 #[.int .i64 n] w fun e w' => e = .returned (.bool (betr n 0 1000000)) ∧ w = w' := by
  go_enter Try.func83, Try.ntmps83
  go_wp2_with (go_at_call 97; refine (rwithin_any _ _ _ _).mono ?_; rintro e w' ⟨rfl, rfl⟩)
  go_ret
  exact ⟨rfl, rfl⟩
theorem imSpot_any (x y : Int) (w : World) : Calls Try.prog 94 #[.agg #[.int .i64 x, .int .i64 y]] w fun e w' => e = .returned (.bool (isSpot x y)) ∧ Below w.heap.size w w' := by
  have H : Hid (isSpot x y = (betr x (-400) 400 && betr y (-400) 400)) := Lib.hid rfl
  cases hx : betr x (-400) 400
  · rw [hx] at H
    have HX := Lib.hid hx
    clear hx
    go_enter Try.func94, Try.ntmps94
    go_wp2_with (go_at_call 107; refine (rofSize_any _ _ _ (by omega) (by omega)).mono ?_; rw [HX.out]; rintro e w' ⟨rfl, rfl⟩)
    go_ret
    exact ⟨ret_bool H.out.symm, (Below.refl _ _).alloc (Nat.le_refl _) _⟩
  · rw [hx] at H
    have HX := Lib.hid hx
    clear hx
    obtain ⟨b, hb⟩ : ∃ b, b = betr y (-400) 400 := ⟨_, rfl⟩
    rw [← hb] at H
    have HB := Lib.hid hb.symm
    clear hb
    go_enter Try.func94, Try.ntmps94
    go_wp2_with (go_at_call 107; refine (rofSize_any _ _ _ (by omega) (by omega)).mono ?_; (first | rw [HX.out] | rw [HB.out]); rintro e w' ⟨rfl, rfl⟩)
    go_ret
    exact ⟨ret_bool (by rw [H.out]; simp), (Below.refl _ _).alloc (Nat.le_refl _) _⟩
theorem sq_sp {W : World} {lo hi R : Nat} (h : Own W lo hi (some ⟨R, 0, none⟩) (prs sqK.ss)) (hh : hi ≤ W.heap.size) : IsSp sqK R 4 2 8 W lo hi :=
  ⟨sq_good, rfl, rfl, by decide, by omega, by omega, h, hh⟩
theorem hx_sp {W : World} {lo hi R : Nat} (h : Own W lo hi (some ⟨R, 0, none⟩) (prs hxK.ss)) (hh : hi ≤ W.heap.size) : IsSp hxK R 6 1 6 W lo hi :=
  ⟨hx_good, rfl, rfl, by decide, by omega, by omega, h, hh⟩
theorem rr_b {r : Int} (h0 : 0 ≤ r) (h1 : r ≤ 2000) : 0 ≤ r * r ∧ r * r ≤ 4000000 ∧ r ≤ r * r := by
  have := Int.mul_le_mul (a := r) (b := r) (c := 2000) (d := 2000) h1 h1 h0 (by omega)
  have := Int.mul_nonneg h0 h0
  rcases Int.lt_or_le 0 r with h | h
  · have := Int.mul_le_mul_of_nonneg_right (a := 1) (b := r) (c := r) (by omega) (by omega)
    omega
  · obtain rfl : r = 0 := by omega
    omega
theorem sq_rg (r : Int) (h0 : 0 ≤ r) (h1 : r ≤ 2000) : IsRg 8 r ((2 * r - 1) * (2 * r - 1) - 1) := by
  have e := sq_exp r
  obtain ⟨a, b, c⟩ := rr_b h0 h1
  exact ⟨by rw [show (2 * r - 1) * (2 * r - 1) - 1 + 1 = (2 * r - 1) * (2 * r - 1) by omega]; exact sq_bds h0 (by omega), h0, h1, by omega, by omega⟩
theorem hx_rg (r : Int) (h0 : 0 ≤ r) (h1 : r ≤ 2000) : IsRg 6 r (3 * r * (r - 1)) := by
  have e := (hex_prod r).2
  obtain ⟨a, b, c⟩ := rr_b h0 h1
  exact ⟨hx_bds h0 (by omega), h0, h1, by omega, by omega⟩
theorem sq_at {W : World} {lo hi R : Nat} (h : Own W lo hi (some ⟨R, 0, none⟩) (prs sqK.ss)) (hh : hi ≤ W.heap.size) (n : Int) (h0 : 0 ≤ n) (h1 : n ≤ 1000001) :
    At sqK R 4 2 8 n (rg n) ((2 * rg n - 1) * (2 * rg n - 1) - 1) (2 * rg n) (sp n).1 (sp n).2 (fun k => (2 * k - 1) * (2 * k - 1)) W lo hi :=
  ⟨sq_sp h hh, sq_fits n h0 (by omega), sq_rg _ (rg_is n h0).nn (by have := rg_le n h0 (by omega); omega), rfl, sq_told n h0, h0, by omega⟩
theorem hx_at {W : World} {lo hi R : Nat} (h : Own W lo hi (some ⟨R, 0, none⟩) (prs hxK.ss)) (hh : hi ≤ W.heap.size) (n : Int) (h0 : 0 ≤ n) (h1 : n ≤ 1000001) :
    At hxK R 6 1 6 n (hx n) (3 * hx n * (hx n - 1)) (1 * hx n) (hp n).1 (hp n).2 (fun k => 3 * k * (k - 1) + 1) W lo hi :=
  ⟨hx_sp h hh, hx_fits n h0 (by omega), hx_rg _ (hx_is n h0).nn (by have := hx_le n h0 (by omega); omega), rfl, hx_told n h0, h0, by omega⟩
theorem sqVec {W : World} {lo hi R : Nat} (F : Nat) (h : Own W lo hi (some ⟨R, 0, none⟩) (prs sqK.ss)) (hh : hi ≤ W.heap.size) (n : Int) (h0 : 0 ≤ n) (h1 : n ≤ 1000001) :
    Calls Try.prog 85 #[.agg #[.slice (some ⟨R, 0, none⟩) 4 4, .int .i64 2, .func (.func F) #[] #[]], .int .i64 n] W fun e w' => e = .returned (.agg #[.int .i64 (sp n).1, .int .i64 (sp n).2]) ∧ Below W.heap.size W w' :=
  vectorOf_any sqK R F 4 2 8 n _ _ _ _ _ _ W lo hi (sq_at h hh n h0 h1)
theorem hxVec {W : World} {lo hi R : Nat} (F : Nat) (h : Own W lo hi (some ⟨R, 0, none⟩) (prs hxK.ss)) (hh : hi ≤ W.heap.size) (n : Int) (h0 : 0 ≤ n) (h1 : n ≤ 1000001) :
    Calls Try.prog 85 #[.agg #[.slice (some ⟨R, 0, none⟩) 6 6, .int .i64 1, .func (.func F) #[] #[]], .int .i64 n] W fun e w' => e = .returned (.agg #[.int .i64 (hp n).1, .int .i64 (hp n).2]) ∧ Below W.heap.size W w' :=
  vectorOf_any hxK R F 6 1 6 n _ _ _ _ _ _ W lo hi (hx_at h hh n h0 h1)
theorem sqNum {W : World} {lo hi R : Nat} (h : Own W lo hi (some ⟨R, 0, none⟩) (prs sqK.ss)) (hh : hi ≤ W.heap.size) (x y : Int) (x0 : -2000 ≤ x) (x1 : x ≤ 2000) (y0 : -2000 ≤ y) (y1 : y ≤ 2000) :
    Calls Try.prog 95 #[.agg #[.slice (some ⟨R, 0, none⟩) 4 4, .int .i64 2, .func (.func 149) #[] #[]], .agg #[.int .i64 x, .int .i64 y]] W fun e w' => e = .returned (.int .i64 (nu x y)) ∧ Below W.heap.size W w' :=
  spNumberAt_any sqK R _ 4 2 8 (sz x y) ((2 * sz x y - 1) * (2 * sz x y - 1) - 1) (2 * sz x y) x y (nu x y) W lo hi (sq_sp h hh) (sq_rg _ (sz_nn x y) (by unfold sz ab; omega)) rfl cf_square (fun W => squareRing_any x y W (by omega) (by omega) (by omega) (by omega)) (sq_tell x y) (by omega) (by omega) (by omega) (by omega)
theorem hxNum {W : World} {lo hi R : Nat} (h : Own W lo hi (some ⟨R, 0, none⟩) (prs hxK.ss)) (hh : hi ≤ W.heap.size) (x y : Int) (x0 : -1000 ≤ x) (x1 : x ≤ 1000) (y0 : -1000 ≤ y) (y1 : y ≤ 1000) :
    Calls Try.prog 95 #[.agg #[.slice (some ⟨R, 0, none⟩) 6 6, .int .i64 1, .func (.func 116) #[] #[]], .agg #[.int .i64 x, .int .i64 y]] W fun e w' => e = .returned (.int .i64 (hn x y)) ∧ Below W.heap.size W w' :=
  spNumberAt_any hxK R _ 6 1 6 (hsz x y) (3 * hsz x y * (hsz x y - 1)) (1 * hsz x y) x y (hn x y) W lo hi (hx_sp h hh) (hx_rg _ (hsz_nn x y) (by unfold hsz ab; omega)) rfl cf_hexagon (fun W => hexagonRing_any x y W (by omega) (by omega) (by omega) (by omega)) (hx_tell x y) (by omega) (by omega) (by omega) (by omega)
/-- The refusals of numbers. -/
theorem impl_SpotOf_no (n : Int) (w : World) (h : n < 0 ∨ 1000000 < n) :
    Calls Try.prog 9 #[.int .i64 n] w fun e w' => e = .returned (.tuple #[.agg #[.int .i64 0, .int .i64 0], .bool false]) ∧ Below w.heap.size w w' := by
  have HA := Lib.hid (betr_no h)
  clear h
  go_enter Try.func9, Try.ntmps9
  go_wp2_with (go_at_call 83; refine (isOn_any _ _).mono ?_; rw [HA.out]; rintro e w' ⟨rfl, rfl⟩)
  exact bodyPost_ret (v := .tuple #[.agg #[.int .i64 0, .int .i64 0], .bool false]) (by simp [results, Try.results9, go_sem]) rfl ⟨rfl, (Below.refl _ _).alloc (Nat.le_refl _) _⟩
theorem impl_StepFrom_no (n : Int) (w : World) (h : n < 0 ∨ 1000000 < n) :
    Calls Try.prog 13 #[.int .i64 n] w fun e w' => e = .returned (.tuple #[.agg #[.int .i64 0, .int .i64 0], .bool false]) ∧ Below w.heap.size w w' := by
  have HA := Lib.hid (betr_no h)
  clear h
  go_enter Try.func13, Try.ntmps13
  go_wp2_with (go_at_call 83; refine (isOn_any _ _).mono ?_; rw [HA.out]; rintro e w' ⟨rfl, rfl⟩)
  exact bodyPost_ret (v := .tuple #[.agg #[.int .i64 0, .int .i64 0], .bool false]) (by simp [results, Try.results13, go_sem]) rfl ⟨rfl, (Below.refl _ _).alloc (Nat.le_refl _) _⟩
theorem impl_HexSpotOf_no (n : Int) (w : World) (h : n < 0 ∨ 1000000 < n) :
    Calls Try.prog 37 #[.int .i64 n] w fun e w' => e = .returned (.tuple #[.agg #[.int .i64 0, .int .i64 0], .bool false]) ∧ Below w.heap.size w w' := by
  have HA := Lib.hid (betr_no h)
  clear h
  go_enter Try.func37, Try.ntmps37
  go_wp2_with (go_at_call 83; refine (isOn_any _ _).mono ?_; rw [HA.out]; rintro e w' ⟨rfl, rfl⟩)
  exact bodyPost_ret (v := .tuple #[.agg #[.int .i64 0, .int .i64 0], .bool false]) (by simp [results, Try.results37, go_sem]) rfl ⟨rfl, (Below.refl _ _).alloc (Nat.le_refl _) _⟩
theorem impl_TriangleSpot_no (n : Int) (w : World) (h : n < 0 ∨ 1000000 < n) :
    Calls Try.prog 48 #[.int .i64 n] w fun e w' => e = .returned (.tuple #[.agg #[.int .i64 0, .int .i64 0], .bool false]) ∧ Below w.heap.size w w' := by
  have HA := Lib.hid (betr_no h)
  clear h
  go_enter Try.func48, Try.ntmps48
  go_wp2_with (go_at_call 83; refine (isOn_any _ _).mono ?_; rw [HA.out]; rintro e w' ⟨rfl, rfl⟩)
  exact bodyPost_ret (v := .tuple #[.agg #[.int .i64 0, .int .i64 0], .bool false]) (by simp [results, Try.results48, go_sem]) rfl ⟨rfl, (Below.refl _ _).alloc (Nat.le_refl _) _⟩
theorem impl_ZigzagSpot_no (n : Int) (w : World) (h : n < 0 ∨ 1000000 < n) :
    Calls Try.prog 54 #[.int .i64 n] w fun e w' => e = .returned (.tuple #[.agg #[.int .i64 0, .int .i64 0], .bool false]) ∧ Below w.heap.size w w' := by
  have HA := Lib.hid (betr_no h)
  clear h
  go_enter Try.func54, Try.ntmps54
  go_wp2_with (go_at_call 83; refine (isOn_any _ _).mono ?_; rw [HA.out]; rintro e w' ⟨rfl, rfl⟩)
  exact bodyPost_ret (v := .tuple #[.agg #[.int .i64 0, .int .i64 0], .bool false]) (by simp [results, Try.results54, go_sem]) rfl ⟨rfl, (Below.refl _ _).alloc (Nat.le_refl _) _⟩
theorem impl_RingOf_no (n : Int) (w : World) (h : n < 0 ∨ 1000000 < n) :
    Calls Try.prog 11 #[.int .i64 n] w fun e w' => e = .returned (.tuple #[.int .i64 0, .bool false]) ∧ Below w.heap.size w w' := by
  have HA := Lib.hid (betr_no h)
  clear h
  go_enter Try.func11, Try.ntmps11
  go_wp2_with (go_at_call 83; refine (isOn_any _ _).mono ?_; rw [HA.out]; rintro e w' ⟨rfl, rfl⟩)
  go_ret2
  exact ⟨rfl, Below.refl _ _⟩
theorem impl_HexRingOf_no (n : Int) (w : World) (h : n < 0 ∨ 1000000 < n) :
    Calls Try.prog 39 #[.int .i64 n] w fun e w' => e = .returned (.tuple #[.int .i64 0, .bool false]) ∧ Below w.heap.size w w' := by
  have HA := Lib.hid (betr_no h)
  clear h
  go_enter Try.func39, Try.ntmps39
  go_wp2_with (go_at_call 83; refine (isOn_any _ _).mono ?_; rw [HA.out]; rintro e w' ⟨rfl, rfl⟩)
  go_ret2
  exact ⟨rfl, Below.refl _ _⟩
theorem impl_BesideNumbers_no (n : Int) (w : World) (h : n < 0 ∨ 1000000 < n) :
    Calls Try.prog 15 #[.int .i64 n] w (ResI false [] w) := by
  have HA := Lib.hid (betr_no h)
  clear h
  go_enter Try.func15, Try.ntmps15
  go_wp2_with (go_at_call 83; refine (isOn_any _ _).mono ?_; rw [HA.out]; rintro e w' ⟨rfl, rfl⟩)
  go_ret2
  exact resI_nil (Below.refl _ _)
theorem impl_HexBeside_no (n : Int) (w : World) (h : n < 0 ∨ 1000000 < n) :
    Calls Try.prog 41 #[.int .i64 n] w (ResI false [] w) := by
  have HA := Lib.hid (betr_no h)
  clear h
  go_enter Try.func41, Try.ntmps41
  go_wp2_with (go_at_call 83; refine (isOn_any _ _).mono ?_; rw [HA.out]; rintro e w' ⟨rfl, rfl⟩)
  go_ret2
  exact resI_nil (Below.refl _ _)
theorem impl_DistanceOf_no (a b : Int) (w : World) (h : (a < 0 ∨ 1000000 < a) ∨ (b < 0 ∨ 1000000 < b)) :
    Calls Try.prog 27 #[.int .i64 a, .int .i64 b] w fun e w' => e = .returned (.tuple #[.int .i64 0, .bool false]) ∧ Below w.heap.size w w' := by
  by_cases ha : a < 0 ∨ 1000000 < a
  · have HA := Lib.hid (betr_no ha)
    clear h ha
    go_enter Try.func27, Try.ntmps27
    go_wp2_with (go_at_call 83; refine (isOn_any _ _).mono ?_; rw [HA.out]; rintro e w' ⟨rfl, rfl⟩)
    go_ret2
    exact ⟨rfl, Below.refl _ _⟩
  · have HA := Lib.hid (betr_yes (x := a) (lo := 0) (hi := 1000000) (by omega) (by omega))
    have HB := Lib.hid (betr_no (x := b) (lo := 0) (hi := 1000000) (by omega))
    clear h ha
    go_enter Try.func27, Try.ntmps27
    go_wp2_with (go_at_call 83; refine (isOn_any _ _).mono ?_; (first | rw [HA.out] | rw [HB.out]); rintro e w' ⟨rfl, rfl⟩)
    go_ret2
    exact ⟨rfl, Below.refl _ _⟩
theorem impl_HexDistance_no (a b : Int) (w : World) (h : (a < 0 ∨ 1000000 < a) ∨ (b < 0 ∨ 1000000 < b)) :
    Calls Try.prog 43 #[.int .i64 a, .int .i64 b] w fun e w' => e = .returned (.tuple #[.int .i64 0, .bool false]) ∧ Below w.heap.size w w' := by
  by_cases ha : a < 0 ∨ 1000000 < a
  · have HA := Lib.hid (betr_no ha)
    clear h ha
    go_enter Try.func43, Try.ntmps43
    go_wp2_with (go_at_call 83; refine (isOn_any _ _).mono ?_; rw [HA.out]; rintro e w' ⟨rfl, rfl⟩)
    go_ret2
    exact ⟨rfl, Below.refl _ _⟩
  · have HA := Lib.hid (betr_yes (x := a) (lo := 0) (hi := 1000000) (by omega) (by omega))
    have HB := Lib.hid (betr_no (x := b) (lo := 0) (hi := 1000000) (by omega))
    clear h ha
    go_enter Try.func43, Try.ntmps43
    go_wp2_with (go_at_call 83; refine (isOn_any _ _).mono ?_; (first | rw [HA.out] | rw [HB.out]); rintro e w' ⟨rfl, rfl⟩)
    go_ret2
    exact ⟨rfl, Below.refl _ _⟩
theorem impl_RingNumbers_no (n : Int) (w : World) (h : n < 0 ∨ 499 < n) :
    Calls Try.prog 21 #[.int .i64 n] w fun e w' => e = .returned (.tuple #[.int .i64 0, .int .i64 0, .bool false]) ∧ Below w.heap.size w w' := by
  have HA := Lib.hid (betr_no h)
  clear h
  go_enter Try.func21, Try.ntmps21
  go_wp2_with (go_at_call 97; refine (rwithin_any _ _ _ _).mono ?_; rw [HA.out]; rintro e w' ⟨rfl, rfl⟩)
  go_ret3
  exact ⟨rfl, Below.refl _ _⟩
theorem impl_NumberAt_no (x y : Int) (w : World) (h : isSpot x y = false) :
    Calls Try.prog 20 #[.agg #[.int .i64 x, .int .i64 y]] w fun e w' => e = .returned (.tuple #[.int .i64 0, .bool false]) ∧ Below w.heap.size w w' := by
  have HA := Lib.hid h
  clear h
  go_enter Try.func20, Try.ntmps20
  go_wp2_with (go_at_call 94; refine (imSpot_any _ _ _).mono ?_; rw [HA.out]; rintro e w1 ⟨rfl, hb1⟩)
  go_ret2
  exact ⟨rfl, ((Below.refl _ _).alloc (Nat.le_refl _) _).trans (hb1.mono (by simp))⟩
end Go.Proofs.Ytkhjeleoppdjgac

/- Chapter 6: the program's sides: spots, rings and steps of the spiral. -/
namespace Go.Proofs.Ytkhjeleoppdjgac
open Go.ChangeShapes Go.WideShapes Go.ChangeAt Go.RowKit

theorem sp_500 (n : Int) (h0 : 0 ≤ n) (h1 : n ≤ 1000001) : -500 ≤ (sp n).1 ∧ (sp n).1 ≤ 500 ∧ -500 ≤ (sp n).2 ∧ (sp n).2 ≤ 500 := by
  have a := sp_bds n h0
  have b := rg_le5 n h0 h1
  omega
set_option maxHeartbeats 800000 in
theorem impl_SpotOf_yes (n : Int) (w : World) (h0 : 0 ≤ n) (h1 : n ≤ 1000000) :
    Calls Try.prog 9 #[.int .i64 n] w fun e w' => e = .returned (.tuple #[.agg #[.int .i64 (sp n).1, .int .i64 (sp n).2], .bool true]) ∧ Below w.heap.size w w' := by
  have HA := Lib.hid (betr_yes h0 h1)
  have HV : Hid (∀ (R lo hi : Nat) (W : World), Own W lo hi (some ⟨R, 0, none⟩) (prs sqK.ss) → hi ≤ W.heap.size → Calls Try.prog 85 #[.agg #[.slice (some ⟨R, 0, none⟩) 4 4, .int .i64 2, .func (.func 149) #[] #[]], .int .i64 n] W fun e w' => e = .returned (.agg #[.int .i64 (sp n).1, .int .i64 (sp n).2]) ∧ Below W.heap.size W w') := Lib.hid fun R lo hi W h hh => sqVec _ h hh n h0 (by omega)
  generalize (sp n).1 = x at *
  generalize (sp n).2 = y at *
  clear h0 h1
  have HB : Hid (Below w.heap.size w (w.alloc (.cells #[.int .i64 0, .int .i64 0] 26))) := Lib.hid ((Below.refl _ _).alloc (Nat.le_refl _) _)
  have HP := Lib.hid (boxw_new w (.int .i64 0) (.int .i64 0) 26)
  go_enter Try.func9, Try.ntmps9
  go_wp2_with (first
    | (go_at_call 83; refine (isOn_any _ _).mono ?_; rw [HA.out]; rintro e w' ⟨rfl, rfl⟩)
    | (go_at_call 84; refine (squareSpiral_any _).mono ?_; rintro e w1 ⟨⟨R, rfl, hO⟩, hb1⟩; have HO := Lib.hid hO; have HP := Lib.hid (HP.out.below hb1); have HB := Lib.hid (HB.out.trans (hb1.mono HB.out.size)); clear hO hb1)
    | (go_at_call 85; refine (HV.out _ _ _ _ HO.out (Nat.le_refl _)).mono ?_; rintro e w2 ⟨rfl, hb2⟩; have HP := Lib.hid (HP.out.below hb2); have HB := Lib.hid (HB.out.trans (hb2.mono HB.out.size)); clear hb2)
    | (go_at_call 86; refine (vspot_any _ _ _).mono ?_; rintro e w3 ⟨rfl, hb3⟩; have HP := Lib.hid (HP.out.below hb3); have HB := Lib.hid (HB.out.trans (hb3.mono HB.out.size)); have c0 := HP.out.c0; have f0 := HP.out.f0; have c1 := HP.out.c1; have f1 := HP.out.f1; clear hb3))
  obtain ⟨d0, d1⟩ := put2 c0 c1 (.int .i64 x) (.int .i64 y)
  have hB5 : Below w.heap.size w ((w3.setCell ⟨w.heap.size, 0, none⟩ (.int .i64 x)).setCell ⟨w.heap.size, 1, none⟩ (.int .i64 y)) := (HB.out.setCell (Nat.le_refl _) _).setCell (Nat.le_refl _) _
  generalize ((w3.setCell ⟨w.heap.size, 0, none⟩ (.int .i64 x)).setCell ⟨w.heap.size, 1, none⟩ (.int .i64 y)) = wE at *
  exact bodyPost_ret (v := .tuple #[.agg #[.int .i64 x, .int .i64 y], .bool true]) (by simp [results, Try.results9, go_sem, d0, d1]) rfl ⟨rfl, hB5⟩
set_option maxHeartbeats 800000 in
theorem impl_StepFrom_yes (n : Int) (w : World) (h0 : 0 ≤ n) (h1 : n ≤ 1000000) :
    Calls Try.prog 13 #[.int .i64 n] w fun e w' => e = .returned (.tuple #[.agg #[.int .i64 ((sp (n + 1)).1 - (sp n).1), .int .i64 ((sp (n + 1)).2 - (sp n).2)], .bool true]) ∧ Below w.heap.size w w' := by
  have HA := Lib.hid (betr_yes h0 h1)
  have b0 := sp_500 n h0 (by omega)
  have b1 := sp_500 (n + 1) (by omega) (by omega)
  have HV : Hid (∀ (R lo hi : Nat) (W : World), Own W lo hi (some ⟨R, 0, none⟩) (prs sqK.ss) → hi ≤ W.heap.size → Calls Try.prog 91 #[.agg #[.slice (some ⟨R, 0, none⟩) 4 4, .int .i64 2, .func (.func 149) #[] #[]], .int .i64 n, .int .i64 (n + 1)] W fun e w' => e = .returned (.agg #[.int .i64 ((sp (n + 1)).1 - (sp n).1), .int .i64 ((sp (n + 1)).2 - (sp n).2)]) ∧ Below W.heap.size W w') := Lib.hid fun R lo hi W h hh =>
    wayBetween_any sqK R _ 4 2 8 n _ _ _ _ _ (n + 1) _ _ _ _ _ _ W lo hi (sq_at h hh n h0 (by omega)) (sq_at h hh (n + 1) (by omega) (by omega)) (by omega) (by omega) (by omega) (by omega)
  clear b0 b1
  generalize (sp (n + 1)).1 - (sp n).1 = x at *
  generalize (sp (n + 1)).2 - (sp n).2 = y at *
  have HB : Hid (Below w.heap.size w (w.alloc (.cells #[.int .i64 0, .int .i64 0] 26))) := Lib.hid ((Below.refl _ _).alloc (Nat.le_refl _) _)
  have HP := Lib.hid (boxw_new w (.int .i64 0) (.int .i64 0) 26)
  go_enter Try.func13, Try.ntmps13
  go_wp2_with (first
    | (go_at_call 83; refine (isOn_any _ _).mono ?_; rw [HA.out]; rintro e w' ⟨rfl, rfl⟩)
    | (go_at_call 84; refine (squareSpiral_any _).mono ?_; rintro e w1 ⟨⟨R, rfl, hO⟩, hb1⟩; have HO := Lib.hid hO; have HP := Lib.hid (HP.out.below hb1); have HB := Lib.hid (HB.out.trans (hb1.mono HB.out.size)); clear hO hb1)
    | (go_at_call 91; refine (HV.out _ _ _ _ HO.out (Nat.le_refl _)).mono ?_; rintro e w2 ⟨rfl, hb2⟩; have HP := Lib.hid (HP.out.below hb2); have HB := Lib.hid (HB.out.trans (hb2.mono HB.out.size)); clear hb2)
    | (go_at_call 86; refine (vspot_any _ _ _).mono ?_; rintro e w3 ⟨rfl, hb3⟩; have HP := Lib.hid (HP.out.below hb3); have HB := Lib.hid (HB.out.trans (hb3.mono HB.out.size)); have c0 := HP.out.c0; have f0 := HP.out.f0; have c1 := HP.out.c1; have f1 := HP.out.f1; clear hb3))
  obtain ⟨d0, d1⟩ := put2 c0 c1 (.int .i64 x) (.int .i64 y)
  have hB5 : Below w.heap.size w ((w3.setCell ⟨w.heap.size, 0, none⟩ (.int .i64 x)).setCell ⟨w.heap.size, 1, none⟩ (.int .i64 y)) := (HB.out.setCell (Nat.le_refl _) _).setCell (Nat.le_refl _) _
  generalize ((w3.setCell ⟨w.heap.size, 0, none⟩ (.int .i64 x)).setCell ⟨w.heap.size, 1, none⟩ (.int .i64 y)) = wE at *
  exact bodyPost_ret (v := .tuple #[.agg #[.int .i64 x, .int .i64 y], .bool true]) (by simp [results, Try.results13, go_sem, d0, d1]) rfl ⟨rfl, hB5⟩
theorem impl_RingOf_yes (n : Int) (w : World) (h0 : 0 ≤ n) (h1 : n ≤ 1000000) :
    Calls Try.prog 11 #[.int .i64 n] w fun e w' => e = .returned (.tuple #[.int .i64 (rg n), .bool true]) ∧ Below w.heap.size w w' := by
  have HA := Lib.hid (betr_yes h0 h1)
  have HV : Hid (∀ (R : Nat) (W : World), Calls Try.prog 89 #[.agg #[.slice (some ⟨R, 0, none⟩) 4 4, .int .i64 2, .func (.func 149) #[] #[]], .int .i64 n] W fun e w' => e = .returned (.int .i64 (rg n)) ∧ Below W.heap.size W w') := Lib.hid fun R W =>
    ringOf_any R _ 4 2 8 n _ _ W (by decide) (by omega) (by omega) (sq_fits n h0 (by omega))
  clear h0 h1
  generalize rg n = r at *
  have HB := Lib.hid (Below.refl w.heap.size w)
  go_enter Try.func11, Try.ntmps11
  go_wp2_with (first
    | (go_at_call 83; refine (isOn_any _ _).mono ?_; rw [HA.out]; rintro e w' ⟨rfl, rfl⟩)
    | (go_at_call 84; refine (squareSpiral_any _).mono ?_; rintro e w1 ⟨⟨R, rfl, hO⟩, hb1⟩; have HO := Lib.hid hO; have HB := Lib.hid (HB.out.trans (hb1.mono HB.out.size)); clear hO hb1)
    | (go_at_call 89; refine (HV.out _ _).mono ?_; rintro e w2 ⟨rfl, hb2⟩; have HB := Lib.hid (HB.out.trans (hb2.mono HB.out.size)); clear hb2))
  go_ret2
  exact ⟨rfl, HB.out⟩
theorem impl_RingNumbers_yes (n : Int) (w : World) (h0 : 0 ≤ n) (h1 : n ≤ 499) :
    Calls Try.prog 21 #[.int .i64 n] w fun e w' => e = .returned (.tuple #[.int .i64 (ringLo n), .int .i64 (ringHi n), .bool true]) ∧ Below w.heap.size w w' := by
  have HA := Lib.hid (betr_yes h0 h1)
  by_cases hz : n = 0
  · subst hz
    have HL : Hid (ringLo 0 = 0) := Lib.hid rfl
    have HH : Hid (ringHi 0 = 0) := Lib.hid rfl
    rw [HL.out, HH.out]
    go_enter Try.func21, Try.ntmps21
    go_wp2_with (go_at_call 97; refine (rwithin_any _ _ _ _).mono ?_; rw [HA.out]; rintro e w' ⟨rfl, rfl⟩)
    go_ret3
    exact ⟨rfl, Below.refl _ _⟩
  · have el : ringLo n = (2 * n - 1) * (2 * n - 1) - 1 + 1 := by rw [ringLo, if_neg hz]; omega
    have eh : ringHi n = (2 * n + 1) * (2 * n + 1) - 1 := by rw [ringHi, if_neg hz]
    have q := sq_exp n
    have q2 := sq_ring n
    obtain ⟨r0, r1, r2⟩ := rr_b (r := n) h0 (by omega)
    obtain ⟨k, hk⟩ : ∃ k, k = n - 1 := ⟨_, rfl⟩
    have HVA : Hid (∀ (R : Nat) (W : World), Calls Try.prog 98 #[.agg #[.slice (some ⟨R, 0, none⟩) 4 4, .int .i64 2, .func (.func 149) #[] #[]], .int .i64 k] W fun e w' => e = .returned (.int .i64 ((2 * n - 1) * (2 * n - 1) - 1)) ∧ Below W.heap.size W w') := Lib.hid fun R W =>
      lastOfRing_any R _ 4 2 8 k _ W (by decide) (by omega) (by omega) (by rw [hk, show n - 1 + 1 = n by omega, show (2 * n - 1) * (2 * n - 1) - 1 + 1 = (2 * n - 1) * (2 * n - 1) by omega]; exact sq_bds h0 (by omega)) (by omega) (by omega) (by omega) (by omega)
    have HVB : Hid (∀ (R : Nat) (W : World), Calls Try.prog 98 #[.agg #[.slice (some ⟨R, 0, none⟩) 4 4, .int .i64 2, .func (.func 149) #[] #[]], .int .i64 n] W fun e w' => e = .returned (.int .i64 ((2 * n + 1) * (2 * n + 1) - 1)) ∧ Below W.heap.size W w') := Lib.hid fun R W =>
      lastOfRing_any R _ 4 2 8 n _ W (by decide) (by omega) (by omega) (by rw [show (2 * n + 1) * (2 * n + 1) - 1 + 1 = (2 * (n + 1) - 1) * (2 * (n + 1) - 1) by rw [show 2 * (n + 1) - 1 = 2 * n + 1 by omega]; omega]; exact sq_bds (by omega) (by omega)) (by omega) (by omega) (by omega) (by omega)
    have hw1 : wrap64 (n - 1) = k := by rw [hk]; exact IntWalk.wrap64_in _ (by omega)
    have hw2 : IntKind.i64.wrap ((2 * n - 1) * (2 * n - 1) - 1 + 1) = (2 * n - 1) * (2 * n - 1) - 1 + 1 := IntWalk.i64_in _ (by omega)
    have hne : (n == 0) = false := by simpa using hz
    have b0 : 0 ≤ (2 * n - 1) * (2 * n - 1) - 1 := by omega
    have b1 : (2 * n - 1) * (2 * n - 1) - 1 ≤ 100000000 := by omega
    rw [el, eh]
    clear h0 h1 hk q q2 r0 r1 r2 hz el eh
    generalize (2 * n - 1) * (2 * n - 1) - 1 = p at *
    generalize (2 * n + 1) * (2 * n + 1) - 1 = q at *
    have HB := Lib.hid (Below.refl w.heap.size w)
    go_enter Try.func21, Try.ntmps21
    go_wp2_with (first
      | (go_at_call 97; refine (rwithin_any _ _ _ _).mono ?_; rw [HA.out]; rintro e w' ⟨rfl, rfl⟩)
      | (go_at_call 84; refine (squareSpiral_any _).mono ?_; rintro e w1 ⟨⟨R, rfl, hO⟩, hb1⟩; have HO := Lib.hid hO; have HB := Lib.hid (HB.out.trans (hb1.mono HB.out.size)); clear hO hb1)
      | (go_at_call_of 98 k; refine (HVA.out _ _).mono ?_; rintro e w2 ⟨rfl, hb2⟩; have HB := Lib.hid (HB.out.trans (hb2.mono HB.out.size)); clear hb2)
      | (go_at_call_of 98 n; refine (HVB.out _ _).mono ?_; rintro e w3 ⟨rfl, hb3⟩; have HB := Lib.hid (HB.out.trans (hb3.mono HB.out.size)); clear hb3))
    go_ret3
    exact ⟨rfl, HB.out⟩
end Go.Proofs.Ytkhjeleoppdjgac

/- Chapter 6: the program's sides: neighbours in the spiral. -/
namespace Go.Proofs.Ytkhjeleoppdjgac
open Go.ChangeShapes Go.WideShapes Go.ChangeAt Go.RowKit

set_option maxHeartbeats 800000 in
theorem impl_BesideNumbers_yes (n : Int) (w : World) (h0 : 0 ≤ n) (h1 : n ≤ 1000000) :
    Calls Try.prog 15 #[.int .i64 n] w (ResI true (bes (sp n).1 (sp n).2) w) := by
  have HA := Lib.hid (betr_yes h0 h1)
  obtain ⟨b0, b1, b2, b3⟩ := sp_500 n h0 (by omega)
  have HV : Hid (∀ (R lo hi : Nat) (W : World), Own W lo hi (some ⟨R, 0, none⟩) (prs sqK.ss) → hi ≤ W.heap.size → Calls Try.prog 92 #[.agg #[.slice (some ⟨R, 0, none⟩) 4 4, .int .i64 2, .func (.func 149) #[] #[]], .int .i64 n] W fun e w' => (∃ A c, e = .returned (.slice A 4 c) ∧ Own w' W.heap.size w'.heap.size A (i64s (bes (sp n).1 (sp n).2))) ∧ Below W.heap.size W w') := Lib.hid fun R lo hi W h hh => by
    have e : bes (sp n).1 (sp n).2 = rl (fun j => nu ((sp n).1 + (sqK.st j).1) ((sp n).2 + (sqK.st j).2)) 4 := by simp [bes, rl, List.range, List.range.loop, Kd.st, sqK, Int.sub_eq_add_neg]
    rw [e]
    have hs := sq_sp h hh
    refine numbersBeside_any sqK R _ 4 2 8 n _ _ _ W lo hi hs (by omega) (by omega) (by omega) (by omega) (fun W2 hW => sqVec _ (h.below hW hh) (Nat.le_trans hh hW.size) n h0 (by omega)) fun j W2 hj hW => ?_
    obtain ⟨s0, s1, s2, s3⟩ := hs.good.st j
    exact sqNum (h.below hW hh) (Nat.le_trans hh hW.size) _ _ (by omega) (by omega) (by omega) (by omega)
  have HLN : Hid ((bes (sp n).1 (sp n).2).length = 4) := Lib.hid (by rfl)
  clear h0 h1 b0 b1 b2 b3
  generalize bes (sp n).1 (sp n).2 = xs at *
  have HB := Lib.hid (Below.refl w.heap.size w)
  go_enter Try.func15, Try.ntmps15
  go_wp2_with (first
    | (go_at_call 83; refine (isOn_any _ _).mono ?_; rw [HA.out]; rintro e w' ⟨rfl, rfl⟩)
    | (go_at_call 84; refine (squareSpiral_any _).mono ?_; rintro e w1 ⟨⟨R, rfl, hO⟩, hb1⟩; have HO := Lib.hid hO; have HB := Lib.hid (HB.out.trans (hb1.mono HB.out.size)); clear hO hb1)
    | (go_at_call 92; refine (HV.out _ _ _ _ HO.out (Nat.le_refl _)).mono ?_; rintro e w2 ⟨⟨A, c, rfl, hO2⟩, hb2⟩; have HR := Lib.hid hO2; have HB2 := Lib.hid (HB.out.trans (hb2.mono HB.out.size)); have HZ := Lib.hid HB.out.size; clear hO2 hb2))
  go_ret2
  exact ⟨A, c, by rw [HLN.out]; rfl, HR.out.wide HZ.out (Nat.le_refl _), HB2.out⟩
end Go.Proofs.Ytkhjeleoppdjgac

/- Chapter 6: the program's sides: spots and rings of the hexagon spiral. -/
namespace Go.Proofs.Ytkhjeleoppdjgac
open Go.ChangeShapes Go.WideShapes Go.ChangeAt Go.RowKit

set_option maxHeartbeats 800000 in
theorem impl_HexSpotOf_yes (n : Int) (w : World) (h0 : 0 ≤ n) (h1 : n ≤ 1000000) :
    Calls Try.prog 37 #[.int .i64 n] w fun e w' => e = .returned (.tuple #[.agg #[.int .i64 (hp n).1, .int .i64 (hp n).2], .bool true]) ∧ Below w.heap.size w w' := by
  have HA := Lib.hid (betr_yes h0 h1)
  have HV : Hid (∀ (R lo hi : Nat) (W : World), Own W lo hi (some ⟨R, 0, none⟩) (prs hxK.ss) → hi ≤ W.heap.size → Calls Try.prog 85 #[.agg #[.slice (some ⟨R, 0, none⟩) 6 6, .int .i64 1, .func (.func 116) #[] #[]], .int .i64 n] W fun e w' => e = .returned (.agg #[.int .i64 (hp n).1, .int .i64 (hp n).2]) ∧ Below W.heap.size W w') := Lib.hid fun R lo hi W h hh => hxVec _ h hh n h0 (by omega)
  generalize (hp n).1 = x at *
  generalize (hp n).2 = y at *
  clear h0 h1
  have HB : Hid (Below w.heap.size w (w.alloc (.cells #[.int .i64 0, .int .i64 0] 26))) := Lib.hid ((Below.refl _ _).alloc (Nat.le_refl _) _)
  have HP := Lib.hid (boxw_new w (.int .i64 0) (.int .i64 0) 26)
  go_enter Try.func37, Try.ntmps37
  go_wp2_with (first
    | (go_at_call 83; refine (isOn_any _ _).mono ?_; rw [HA.out]; rintro e w' ⟨rfl, rfl⟩)
    | (go_at_call 112; refine (hexagonSpiral_any _).mono ?_; rintro e w1 ⟨⟨R, rfl, hO⟩, hb1⟩; have HO := Lib.hid hO; have HP := Lib.hid (HP.out.below hb1); have HB := Lib.hid (HB.out.trans (hb1.mono HB.out.size)); clear hO hb1)
    | (go_at_call 85; refine (HV.out _ _ _ _ HO.out (Nat.le_refl _)).mono ?_; rintro e w2 ⟨rfl, hb2⟩; have HP := Lib.hid (HP.out.below hb2); have HB := Lib.hid (HB.out.trans (hb2.mono HB.out.size)); clear hb2)
    | (go_at_call 86; refine (vspot_any _ _ _).mono ?_; rintro e w3 ⟨rfl, hb3⟩; have HP := Lib.hid (HP.out.below hb3); have HB := Lib.hid (HB.out.trans (hb3.mono HB.out.size)); have c0 := HP.out.c0; have f0 := HP.out.f0; have c1 := HP.out.c1; have f1 := HP.out.f1; clear hb3))
  obtain ⟨d0, d1⟩ := put2 c0 c1 (.int .i64 x) (.int .i64 y)
  have hB5 : Below w.heap.size w ((w3.setCell ⟨w.heap.size, 0, none⟩ (.int .i64 x)).setCell ⟨w.heap.size, 1, none⟩ (.int .i64 y)) := (HB.out.setCell (Nat.le_refl _) _).setCell (Nat.le_refl _) _
  generalize ((w3.setCell ⟨w.heap.size, 0, none⟩ (.int .i64 x)).setCell ⟨w.heap.size, 1, none⟩ (.int .i64 y)) = wE at *
  exact bodyPost_ret (v := .tuple #[.agg #[.int .i64 x, .int .i64 y], .bool true]) (by simp [results, Try.results37, go_sem, d0, d1]) rfl ⟨rfl, hB5⟩
theorem impl_HexRingOf_yes (n : Int) (w : World) (h0 : 0 ≤ n) (h1 : n ≤ 1000000) :
    Calls Try.prog 39 #[.int .i64 n] w fun e w' => e = .returned (.tuple #[.int .i64 (hx n), .bool true]) ∧ Below w.heap.size w w' := by
  have HA := Lib.hid (betr_yes h0 h1)
  have HV : Hid (∀ (R : Nat) (W : World), Calls Try.prog 89 #[.agg #[.slice (some ⟨R, 0, none⟩) 6 6, .int .i64 1, .func (.func 116) #[] #[]], .int .i64 n] W fun e w' => e = .returned (.int .i64 (hx n)) ∧ Below W.heap.size W w') := Lib.hid fun R W =>
    ringOf_any R _ 6 1 6 n _ _ W (by decide) (by omega) (by omega) (hx_fits n h0 (by omega))
  clear h0 h1
  generalize hx n = r at *
  have HB := Lib.hid (Below.refl w.heap.size w)
  go_enter Try.func39, Try.ntmps39
  go_wp2_with (first
    | (go_at_call 83; refine (isOn_any _ _).mono ?_; rw [HA.out]; rintro e w' ⟨rfl, rfl⟩)
    | (go_at_call 112; refine (hexagonSpiral_any _).mono ?_; rintro e w1 ⟨⟨R, rfl, hO⟩, hb1⟩; have HO := Lib.hid hO; have HB := Lib.hid (HB.out.trans (hb1.mono HB.out.size)); clear hO hb1)
    | (go_at_call 89; refine (HV.out _ _).mono ?_; rintro e w2 ⟨rfl, hb2⟩; have HB := Lib.hid (HB.out.trans (hb2.mono HB.out.size)); clear hb2))
  go_ret2
  exact ⟨rfl, HB.out⟩
end Go.Proofs.Ytkhjeleoppdjgac

/- Chapter 6: the program's sides: numbers at spots, distances in the spiral. -/
namespace Go.Proofs.Ytkhjeleoppdjgac
open Go.ChangeShapes Go.WideShapes Go.ChangeAt Go.RowKit

theorem ab_swap (x y : Int) : ab (x - y) = ab (y - x) := by unfold ab; omega
set_option maxRecDepth 4000 in
set_option maxHeartbeats 800000 in
theorem impl_NumberAt_yes (x y : Int) (w : World) (h : isSpot x y = true) :
    Calls Try.prog 20 #[.agg #[.int .i64 x, .int .i64 y]] w fun e w' => e = .returned (.tuple #[.int .i64 (nu x y), .bool true]) ∧ Below w.heap.size w w' := by
  have HA := Lib.hid h
  obtain ⟨x0, x1, y0, y1⟩ := isSpot_bds h
  have HV : Hid (∀ (R lo hi : Nat) (W : World), Own W lo hi (some ⟨R, 0, none⟩) (prs sqK.ss) → hi ≤ W.heap.size → Calls Try.prog 95 #[.agg #[.slice (some ⟨R, 0, none⟩) 4 4, .int .i64 2, .func (.func 149) #[] #[]], .agg #[.int .i64 x, .int .i64 y]] W fun e w' => e = .returned (.int .i64 (nu x y)) ∧ Below W.heap.size W w') := Lib.hid fun R lo hi W h hh =>
    sqNum h hh x y (by omega) (by omega) (by omega) (by omega)
  clear h
  generalize nu x y = N at *
  have HB : Hid (Below w.heap.size w (w.alloc (.cells #[.int .i64 x, .int .i64 y] 26))) := Lib.hid ((Below.refl _ _).alloc (Nat.le_refl _) _)
  have HP := Lib.hid (box2_new w (.int .i64 x) (.int .i64 y) 26)
  go_enter Try.func20, Try.ntmps20
  go_wp2_with (first
    | (go_at_call 94; refine (imSpot_any _ _ _).mono ?_; rw [HA.out]; rintro e w1 ⟨rfl, hb1⟩; have HP := Lib.hid (HP.out.below hb1); have HB := Lib.hid (HB.out.trans (hb1.mono HB.out.size)); have c0 := HP.out.c0; have c1 := HP.out.c1; clear hb1))
  go_region_held3 (fun w' => w'.cell? ⟨w.heap.size, 0, none⟩ = some (.int .i64 x) ∧ w'.cell? ⟨w.heap.size, 1, none⟩ = some (.int .i64 y))
    (first | with_reducible exact HP.out.pair | with_reducible exact HP.out.drew.pair)
    (first
      | (go_at_call 84; refine (squareSpiral_any _).mono ?_; rintro e w2 ⟨⟨R, rfl, hO⟩, hb2⟩; have HO := Lib.hid hO; have HP := Lib.hid (show Box2 w2 _ _ _ from (by first | with_reducible exact HP.out.drew.below hb2 | with_reducible exact HP.out.below hb2)); have HB := Lib.hid (show Below _ w w2 from (by first | with_reducible exact HB.out.drew.trans (hb2.mono HB.out.drew.size) | with_reducible exact HB.out.trans (hb2.mono HB.out.size))); clear hO hb2)
      | (go_at_call 96; refine (vectorTo_any _ _ _).mono ?_; rintro e w3 ⟨rfl, hb3⟩; have HO := Lib.hid (HO.out.below hb3 (Nat.le_refl _)); have HZ3 := Lib.hid hb3.size; have HP := Lib.hid (HP.out.below hb3); have HB := Lib.hid (HB.out.trans (hb3.mono HB.out.size)); clear hb3)
      | (go_at_call 95; refine (HV.out _ _ _ _ HO.out (by first | exact Nat.le_refl _ | exact HZ3.out)).mono ?_; rintro e w4 ⟨rfl, hb4⟩; have HP := Lib.hid (HP.out.below hb4); have HB := Lib.hid (HB.out.trans (hb4.mono HB.out.size)); clear hb4))
  all_goals
    go_wp2
    go_ret2
    exact ⟨rfl, HB.out⟩
set_option maxRecDepth 4000 in
set_option maxHeartbeats 800000 in
theorem impl_DistanceOf_yes (a b : Int) (w : World) (a0 : 0 ≤ a) (a1 : a ≤ 1000000) (b0 : 0 ≤ b) (b1 : b ≤ 1000000) :
    Calls Try.prog 27 #[.int .i64 a, .int .i64 b] w fun e w' => e = .returned (.tuple #[.int .i64 (dst a b), .bool true]) ∧ Below w.heap.size w w' := by
  have HA := Lib.hid (betr_yes a0 a1)
  have HA2 := Lib.hid (betr_yes b0 b1)
  have p := sp_500 a a0 (by omega)
  have q := sp_500 b b0 (by omega)
  have HV : Hid (∀ (R lo hi : Nat) (W : World), Own W lo hi (some ⟨R, 0, none⟩) (prs sqK.ss) → hi ≤ W.heap.size → Calls Try.prog 91 #[.agg #[.slice (some ⟨R, 0, none⟩) 4 4, .int .i64 2, .func (.func 149) #[] #[]], .int .i64 a, .int .i64 b] W fun e w' => e = .returned (.agg #[.int .i64 ((sp b).1 - (sp a).1), .int .i64 ((sp b).2 - (sp a).2)]) ∧ Below W.heap.size W w') := Lib.hid fun R lo hi W h hh =>
    wayBetween_any sqK R _ 4 2 8 a _ _ _ _ _ b _ _ _ _ _ _ W lo hi (sq_at h hh a a0 (by omega)) (sq_at h hh b b0 (by omega)) (by omega) (by omega) (by omega) (by omega)
  have hd : dst a b = ab ((sp b).1 - (sp a).1) + ab ((sp b).2 - (sp a).2) := by rw [dst, ab_swap, ab_swap (sp a).2]
  rw [hd]
  have p0 : -1000 ≤ (sp b).1 - (sp a).1 ∧ (sp b).1 - (sp a).1 ≤ 1000 := by omega
  have q0 : -1000 ≤ (sp b).2 - (sp a).2 ∧ (sp b).2 - (sp a).2 ≤ 1000 := by omega
  clear p q hd a0 a1 b0 b1
  generalize (sp b).1 - (sp a).1 = x at *
  generalize (sp b).2 - (sp a).2 = y at *
  have HSX := Lib.hid fun W => sizeOf_any x W (by omega) (by omega)
  have HSY := Lib.hid fun W => sizeOf_any y W (by omega) (by omega)
  have hw : IntKind.i64.wrap (ab x + ab y) = ab x + ab y := IntWalk.i64_in _ (by unfold ab; omega)
  have hw2 : wrap64 (ab x + ab y) = ab x + ab y := IntWalk.wrap64_in _ (by unfold ab; omega)
  clear p0 q0
  generalize ab x = ax at *
  generalize ab y = ay at *
  have HB := Lib.hid (Below.refl w.heap.size w)
  go_enter Try.func27, Try.ntmps27
  go_wp2_with (first
    | (go_at_call 83; refine (isOn_any _ _).mono ?_; (first | rw [HA.out] | rw [HA2.out]); rintro e w' ⟨rfl, rfl⟩)
    | (go_at_call 84; refine (squareSpiral_any _).mono ?_; rintro e w1 ⟨⟨R, rfl, hO⟩, hb1⟩; have HO := Lib.hid hO; have HB := Lib.hid (HB.out.trans (hb1.mono HB.out.size)); clear hO hb1)
    | (go_at_call 91; refine (HV.out _ _ _ _ HO.out (Nat.le_refl _)).mono ?_; rintro e w2 ⟨rfl, hb2⟩; have HB := Lib.hid (HB.out.trans (hb2.mono HB.out.size)); clear hb2))
  have HBA := Lib.hid (HB.out.alloc HB.out.size (.cells #[.int .i64 x, .int .i64 y] 65))
  have c0 : (w2.alloc (.cells #[.int .i64 x, .int .i64 y] 65)).cell? ⟨w2.heap.size, 0, none⟩ = some (.int .i64 x) := by simp [go_sem]
  have c1 : (w2.alloc (.cells #[.int .i64 x, .int .i64 y] 65)).cell? ⟨w2.heap.size, 1, none⟩ = some (.int .i64 y) := by simp [go_sem]
  generalize w2.alloc (.cells #[.int .i64 x, .int .i64 y] 65) = w3 at *
  go_quiet (first
    | (go_at_call 105; refine (HSX.out _).mono ?_; rintro e w' ⟨rfl, rfl⟩; exact ⟨rfl, _, rfl⟩)
    | (go_at_call 105; refine (HSY.out _).mono ?_; rintro e w' ⟨rfl, rfl⟩; exact ⟨rfl, _, rfl⟩))
  go_wp2
  go_ret2
  exact ⟨rfl, below_drewN HBA.out _⟩
end Go.Proofs.Ytkhjeleoppdjgac

/- Chapter 6: the program's sides: neighbours in the hexagon spiral. -/
namespace Go.Proofs.Ytkhjeleoppdjgac
open Go.ChangeShapes Go.WideShapes Go.ChangeAt Go.RowKit

set_option maxHeartbeats 800000 in
theorem impl_HexBeside_yes (n : Int) (w : World) (h0 : 0 ≤ n) (h1 : n ≤ 1000000) :
    Calls Try.prog 41 #[.int .i64 n] w (ResI true (hbe (hp n).1 (hp n).2 6) w) := by
  have HA := Lib.hid (betr_yes h0 h1)
  obtain ⟨b0, b1, b2, b3⟩ := hp_600 n h0 (by omega)
  have HV : Hid (∀ (R lo hi : Nat) (W : World), Own W lo hi (some ⟨R, 0, none⟩) (prs hxK.ss) → hi ≤ W.heap.size → Calls Try.prog 92 #[.agg #[.slice (some ⟨R, 0, none⟩) 6 6, .int .i64 1, .func (.func 116) #[] #[]], .int .i64 n] W fun e w' => (∃ A c, e = .returned (.slice A 6 c) ∧ Own w' W.heap.size w'.heap.size A (i64s (hbe (hp n).1 (hp n).2 6))) ∧ Below W.heap.size W w') := Lib.hid fun R lo hi W h hh => by
    have e : hbe (hp n).1 (hp n).2 6 = rl (fun j => hn ((hp n).1 + (hxK.st j).1) ((hp n).2 + (hxK.st j).2)) 6 := by rfl
    rw [e]
    have hs := hx_sp h hh
    refine numbersBeside_any hxK R _ 6 1 6 n _ _ _ W lo hi hs (by omega) (by omega) (by omega) (by omega) (fun W2 hW => hxVec _ (h.below hW hh) (Nat.le_trans hh hW.size) n h0 (by omega)) fun j W2 hj hW => ?_
    obtain ⟨s0, s1, s2, s3⟩ := hs.good.st j
    exact hxNum (h.below hW hh) (Nat.le_trans hh hW.size) _ _ (by omega) (by omega) (by omega) (by omega)
  have HLN : Hid ((hbe (hp n).1 (hp n).2 6).length = 6) := Lib.hid (by rfl)
  clear h0 h1 b0 b1 b2 b3
  generalize hbe (hp n).1 (hp n).2 6 = xs at *
  have HB := Lib.hid (Below.refl w.heap.size w)
  go_enter Try.func41, Try.ntmps41
  go_wp2_with (first
    | (go_at_call 83; refine (isOn_any _ _).mono ?_; rw [HA.out]; rintro e w' ⟨rfl, rfl⟩)
    | (go_at_call 112; refine (hexagonSpiral_any _).mono ?_; rintro e w1 ⟨⟨R, rfl, hO⟩, hb1⟩; have HO := Lib.hid hO; have HB := Lib.hid (HB.out.trans (hb1.mono HB.out.size)); clear hO hb1)
    | (go_at_call 92; refine (HV.out _ _ _ _ HO.out (Nat.le_refl _)).mono ?_; rintro e w2 ⟨⟨A, c, rfl, hO2⟩, hb2⟩; have HR := Lib.hid hO2; have HB2 := Lib.hid (HB.out.trans (hb2.mono HB.out.size)); have HZ := Lib.hid HB.out.size; clear hO2 hb2))
  go_ret2
  exact ⟨A, c, by rw [HLN.out]; rfl, HR.out.wide HZ.out (Nat.le_refl _), HB2.out⟩
end Go.Proofs.Ytkhjeleoppdjgac

/- Chapter 6: the program's sides: diagonals. -/
namespace Go.Proofs.Ytkhjeleoppdjgac
open Go.ChangeShapes Go.WideShapes Go.ChangeAt Go.RowKit

theorem impl_DiagonalOf_no (dx dy n : Int) (w : World) (h : dgOk dx dy n = false) :
    Calls Try.prog 30 #[.int .i64 dx, .int .i64 dy, .int .i64 n] w (ResI false [] w) := by
  cases hx : betr dx (-1) 1
  · have HX := Lib.hid hx
    clear h hx
    go_enter Try.func30, Try.ntmps30
    go_wp2_with (go_at_call 107; refine (rofSize_any _ _ _ (by omega) (by omega)).mono ?_; rw [HX.out]; rintro e w' ⟨rfl, rfl⟩)
    go_ret2
    exact resI_nil (Below.refl _ _)
  · cases hy : betr dy (-1) 1
    · have HX := Lib.hid hx
      have HY := Lib.hid hy
      clear h hx hy
      go_enter Try.func30, Try.ntmps30
      go_wp2_with (go_at_call 107; refine (rofSize_any _ _ _ (by omega) (by omega)).mono ?_; (first | rw [HX.out] | rw [HY.out]); rintro e w' ⟨rfl, rfl⟩)
      go_ret2
      exact resI_nil (Below.refl _ _)
    · have HN : Hid (betr n 0 400 = false) := Lib.hid (by simpa [dgOk, hx, hy] using h)
      have HX := Lib.hid hx
      have HY := Lib.hid hy
      clear h hx hy
      go_enter Try.func30, Try.ntmps30
      go_wp2_with (first
        | (go_at_call 107; refine (rofSize_any _ _ _ (by omega) (by omega)).mono ?_; (first | rw [HX.out] | rw [HY.out]); rintro e w' ⟨rfl, rfl⟩)
        | (go_at_call 97; refine (rwithin_any _ _ _ _).mono ?_; rw [HN.out]; rintro e w' ⟨rfl, rfl⟩))
      go_ret2
      exact resI_nil (Below.refl _ _)
set_option maxHeartbeats 800000 in
theorem impl_DiagonalOf_yes (dx dy n : Int) (w : World) (h : dgOk dx dy n = true) :
    Calls Try.prog 30 #[.int .i64 dx, .int .i64 dy, .int .i64 n] w (ResI true (dgs dx dy n.toNat) w) := by
  obtain ⟨u0, u1, v0, v1, n0, n1⟩ := dgOk_bds h
  have HX := Lib.hid (betr_yes u0 u1)
  have HY := Lib.hid (betr_yes v0 v1)
  have HN := Lib.hid (betr_yes n0 n1)
  clear h
  obtain ⟨k, rfl⟩ := Int.eq_ofNat_of_zero_le n0
  rw [show (k : Int).toNat = k by omega]
  have HV : Hid (∀ (R lo hi : Nat) (W : World), Own W lo hi (some ⟨R, 0, none⟩) (prs sqK.ss) → hi ≤ W.heap.size → Calls Try.prog 108 #[.agg #[.slice (some ⟨R, 0, none⟩) 4 4, .int .i64 2, .func (.func 149) #[] #[]], .agg #[.int .i64 0, .int .i64 0], .agg #[.int .i64 dx, .int .i64 dy], .int .i64 (k : Int)] W fun e w' => (∃ A c, e = .returned (.slice A k c) ∧ w'.ownsRow W.heap.size 3 1 (.slice A k c) k (i64s (dgs dx dy k))) ∧ Below W.heap.size W w') := Lib.hid fun R lo hi W h hh => by
    have e : dgs dx dy k = rl (fun j => nu ((j : Int) * dx) ((j : Int) * dy)) k := rfl
    rw [e]
    refine numbersAlong_any R _ 4 k 2 0 0 dx dy _ W (by omega) (by omega) (by omega) (by omega) u0 u1 v0 v1 (by omega) fun j W2 hj hW => ?_
    obtain ⟨p0, p1⟩ := dg_prod j dx u0 u1 (by omega)
    obtain ⟨q0, q1⟩ := dg_prod j dy v0 v1 (by omega)
    rw [Int.zero_add, Int.zero_add]
    exact sqNum (h.below hW hh) (Nat.le_trans hh hW.size) _ _ (by omega) (by omega) (by omega) (by omega)
  have HLN : Hid ((dgs dx dy k).length = k) := Lib.hid (dgs_len dx dy k)
  clear u0 u1 v0 v1 n0 n1
  generalize dgs dx dy k = xs at *
  have HB := Lib.hid (Below.refl w.heap.size w)
  go_enter Try.func30, Try.ntmps30
  go_wp2_with (first
    | (go_at_call 107; refine (rofSize_any _ _ _ (by omega) (by omega)).mono ?_; (first | rw [HX.out] | rw [HY.out]); rintro e w' ⟨rfl, rfl⟩)
    | (go_at_call 97; refine (rwithin_any _ _ _ _).mono ?_; rw [HN.out]; rintro e w' ⟨rfl, rfl⟩)
    | (go_at_call 84; refine (squareSpiral_any _).mono ?_; rintro e w1 ⟨⟨R, rfl, hO⟩, hb1⟩; have HO := Lib.hid hO; have HB := Lib.hid (HB.out.trans (hb1.mono HB.out.size)); clear hO hb1)
    | (go_at_call 108; refine (HV.out _ _ _ _ HO.out (Nat.le_refl _)).mono ?_; rintro e w2 ⟨⟨A, c, rfl, hO2⟩, hb2⟩; have HR := Lib.hid (own_of_row hO2); have HB2 := Lib.hid (HB.out.trans (hb2.mono HB.out.size)); have HZ := Lib.hid HB.out.size; clear hO2 hb2))
  go_ret2
  exact ⟨A, c, by rw [HLN.out]; rfl, HR.out.wide HZ.out (Nat.le_refl _), HB2.out⟩
end Go.Proofs.Ytkhjeleoppdjgac

/- Chapter 6: the program's sides: numbers at spots, distances in the hexagon spiral. -/
namespace Go.Proofs.Ytkhjeleoppdjgac
open Go.ChangeShapes Go.WideShapes Go.ChangeAt Go.RowKit

theorem hsz_swap (a b c d : Int) : hsz (a - b) (c - d) = hsz (b - a) (d - c) := by unfold hsz ab; omega
theorem impl_HexNumberAt_no (x y : Int) (w : World) (h : isHexSpot x y = false) :
    Calls Try.prog 44 #[.agg #[.int .i64 x, .int .i64 y]] w fun e w' => e = .returned (.tuple #[.int .i64 0, .bool false]) ∧ Below w.heap.size w w' := by
  have HB : Hid (Below w.heap.size w (w.alloc (.cells #[.int .i64 x, .int .i64 y] 26))) := Lib.hid ((Below.refl _ _).alloc (Nat.le_refl _) _)
  have HP := Lib.hid (box2_new w (.int .i64 x) (.int .i64 y) 26)
  cases hs : isSpot x y
  · have HA := Lib.hid hs
    clear h hs
    go_enter Try.func44, Try.ntmps44
    go_wp2_with (go_at_call 94; refine (imSpot_any _ _ _).mono ?_; rw [HA.out]; rintro e w1 ⟨rfl, hb1⟩)
    go_ret2
    exact ⟨rfl, HB.out.trans (hb1.mono HB.out.size)⟩
  · have HA := Lib.hid hs
    have HC : Hid (betr (x + y) (-400) 400 = false) := Lib.hid (by simpa [isHexSpot, hs] using h)
    obtain ⟨x0, x1, y0, y1⟩ := isSpot_bds hs
    clear h hs
    go_enter Try.func44, Try.ntmps44
    go_wp2_with (first
      | (go_at_call 94; refine (imSpot_any _ _ _).mono ?_; rw [HA.out]; rintro e w1 ⟨rfl, hb1⟩; have HP := Lib.hid (HP.out.below hb1); have HB := Lib.hid (HB.out.trans (hb1.mono HB.out.size)); have c0 := HP.out.c0; have c1 := HP.out.c1; clear hb1)
      | (go_at_call 107; refine (rofSize_any _ _ _ (by omega) (by omega)).mono ?_; rw [HC.out]; rintro e w' ⟨rfl, rfl⟩))
    go_ret2
    exact ⟨rfl, HB.out⟩
set_option maxRecDepth 4000 in
set_option maxHeartbeats 800000 in
theorem impl_HexNumberAt_yes (x y : Int) (w : World) (h : isHexSpot x y = true) :
    Calls Try.prog 44 #[.agg #[.int .i64 x, .int .i64 y]] w fun e w' => e = .returned (.tuple #[.int .i64 (hn x y), .bool true]) ∧ Below w.heap.size w w' := by
  obtain ⟨x0, x1, y0, y1, _, hs, hc⟩ := isHexSpot_bds h
  have HA := Lib.hid hs
  have HC := Lib.hid hc
  clear hs hc
  have HV : Hid (∀ (R lo hi : Nat) (W : World), Own W lo hi (some ⟨R, 0, none⟩) (prs hxK.ss) → hi ≤ W.heap.size → Calls Try.prog 95 #[.agg #[.slice (some ⟨R, 0, none⟩) 6 6, .int .i64 1, .func (.func 116) #[] #[]], .agg #[.int .i64 x, .int .i64 y]] W fun e w' => e = .returned (.int .i64 (hn x y)) ∧ Below W.heap.size W w') := Lib.hid fun R lo hi W h hh =>
    hxNum h hh x y (by omega) (by omega) (by omega) (by omega)
  clear h
  generalize hn x y = N at *
  have HB : Hid (Below w.heap.size w (w.alloc (.cells #[.int .i64 x, .int .i64 y] 26))) := Lib.hid ((Below.refl _ _).alloc (Nat.le_refl _) _)
  have HP := Lib.hid (box2_new w (.int .i64 x) (.int .i64 y) 26)
  go_enter Try.func44, Try.ntmps44
  go_wp2_with (first
    | (go_at_call 94; refine (imSpot_any _ _ _).mono ?_; rw [HA.out]; rintro e w1 ⟨rfl, hb1⟩; have HP := Lib.hid (HP.out.below hb1); have HB := Lib.hid (HB.out.trans (hb1.mono HB.out.size)); have c0 := HP.out.c0; have c1 := HP.out.c1; clear hb1)
    | (go_at_call 107; refine (rofSize_any _ _ _ (by omega) (by omega)).mono ?_; rw [HC.out]; rintro e w' ⟨rfl, rfl⟩))
  go_region_held3 (fun w' => w'.cell? ⟨w.heap.size, 0, none⟩ = some (.int .i64 x) ∧ w'.cell? ⟨w.heap.size, 1, none⟩ = some (.int .i64 y))
    (first | with_reducible exact HP.out.pair | with_reducible exact HP.out.drew.pair)
    (first
      | (go_at_call 112; refine (hexagonSpiral_any _).mono ?_; rintro e w2 ⟨⟨R, rfl, hO⟩, hb2⟩; have HO := Lib.hid hO; have HP := Lib.hid (show Box2 w2 _ _ _ from (by first | with_reducible exact HP.out.drew.below hb2 | with_reducible exact HP.out.below hb2)); have HB := Lib.hid (show Below _ w w2 from (by first | with_reducible exact HB.out.drew.trans (hb2.mono HB.out.drew.size) | with_reducible exact HB.out.trans (hb2.mono HB.out.size))); clear hO hb2)
      | (go_at_call 96; refine (vectorTo_any _ _ _).mono ?_; rintro e w3 ⟨rfl, hb3⟩; have HO := Lib.hid (HO.out.below hb3 (Nat.le_refl _)); have HZ3 := Lib.hid hb3.size; have HP := Lib.hid (HP.out.below hb3); have HB := Lib.hid (HB.out.trans (hb3.mono HB.out.size)); clear hb3)
      | (go_at_call 95; refine (HV.out _ _ _ _ HO.out (by first | exact Nat.le_refl _ | exact HZ3.out)).mono ?_; rintro e w4 ⟨rfl, hb4⟩; have HP := Lib.hid (HP.out.below hb4); have HB := Lib.hid (HB.out.trans (hb4.mono HB.out.size)); clear hb4))
  all_goals
    go_wp2
    go_ret2
    exact ⟨rfl, HB.out⟩
theorem impl_HexDistance_yes (a b : Int) (w : World) (a0 : 0 ≤ a) (a1 : a ≤ 1000000) (b0 : 0 ≤ b) (b1 : b ≤ 1000000) :
    Calls Try.prog 43 #[.int .i64 a, .int .i64 b] w fun e w' => e = .returned (.tuple #[.int .i64 (hdst a b), .bool true]) ∧ Below w.heap.size w w' := by
  have HA := Lib.hid (betr_yes a0 a1)
  have HA2 := Lib.hid (betr_yes b0 b1)
  have p := hp_600 a a0 (by omega)
  have q := hp_600 b b0 (by omega)
  have HV : Hid (∀ (R lo hi : Nat) (W : World), Own W lo hi (some ⟨R, 0, none⟩) (prs hxK.ss) → hi ≤ W.heap.size → Calls Try.prog 91 #[.agg #[.slice (some ⟨R, 0, none⟩) 6 6, .int .i64 1, .func (.func 116) #[] #[]], .int .i64 a, .int .i64 b] W fun e w' => e = .returned (.agg #[.int .i64 ((hp b).1 - (hp a).1), .int .i64 ((hp b).2 - (hp a).2)]) ∧ Below W.heap.size W w') := Lib.hid fun R lo hi W h hh =>
    wayBetween_any hxK R _ 6 1 6 a _ _ _ _ _ b _ _ _ _ _ _ W lo hi (hx_at h hh a a0 (by omega)) (hx_at h hh b b0 (by omega)) (by omega) (by omega) (by omega) (by omega)
  have hd : hdst a b = hsz ((hp b).1 - (hp a).1) ((hp b).2 - (hp a).2) := by rw [hdst, hsz_swap]
  rw [hd]
  have HS := Lib.hid fun W => hexagonRing_any ((hp b).1 - (hp a).1) ((hp b).2 - (hp a).2) W (by omega) (by omega) (by omega) (by omega)
  clear p q hd a0 a1 b0 b1
  generalize hsz ((hp b).1 - (hp a).1) ((hp b).2 - (hp a).2) = N at *
  generalize (hp b).1 - (hp a).1 = x at *
  generalize (hp b).2 - (hp a).2 = y at *
  have HB := Lib.hid (Below.refl w.heap.size w)
  go_enter Try.func43, Try.ntmps43
  go_wp2_with (first
    | (go_at_call 83; refine (isOn_any _ _).mono ?_; (first | rw [HA.out] | rw [HA2.out]); rintro e w' ⟨rfl, rfl⟩)
    | (go_at_call 112; refine (hexagonSpiral_any _).mono ?_; rintro e w1 ⟨⟨R, rfl, hO⟩, hb1⟩; have HO := Lib.hid hO; have HB := Lib.hid (HB.out.trans (hb1.mono HB.out.size)); clear hO hb1)
    | (go_at_call 91; refine (HV.out _ _ _ _ HO.out (Nat.le_refl _)).mono ?_; rintro e w2 ⟨rfl, hb2⟩; have HB := Lib.hid (HB.out.trans (hb2.mono HB.out.size)); clear hb2)
    | (go_at_call 116; refine (HS.out _).mono ?_; rintro e w3 ⟨rfl, hb3⟩; have HB := Lib.hid (HB.out.trans (hb3.mono HB.out.size)); clear hb3))
  go_ret2
  exact ⟨rfl, HB.out⟩
end Go.Proofs.Ytkhjeleoppdjgac

/- Chapter 6: the program's sides: the triangle and the zigzag. -/
namespace Go.Proofs.Ytkhjeleoppdjgac
open Go.ChangeShapes Go.WideShapes Go.ChangeAt Go.RowKit

theorem tri_bds (k : Int) (h3 : -3000000 ≤ k) (h4 : k ≤ 3000000) : RuleBds 0 1 1 k (num 3 k) := by
  obtain ⟨a0, a1, b0, b1, c0, c1, d0⟩ := num_bds 3 k (by omega) (by omega) h3 h4
  have e1 := num_twice 3 k
  have e2 : ((3 : Int) - 2) * k * k = 1 * k * k := by grind
  have e3 : ((3 : Int) - 4) * k = -(1 * k) := by grind
  have e4 : ((3 : Int) - 2) * k = 1 * k := by grind
  constructor <;> omega
theorem tri_fits (n : Int) (h3 : 0 ≤ n) (h4 : n ≤ 1000000) : Fits 0 1 1 n (pl 3 n) (num 3) :=
  ⟨fun k h5 h6 => tri_bds k (by omega) (by omega), pl_nn 3 n (by omega) h3, by have := pl_le 3 n (by omega) h3 (by omega); omega, fun k h5 _ => fits_iff 3 n k (by omega) h3 (by omega)⟩
theorem triRule_any (w : World) :
    Calls Try.prog 145 #[.int .i64 3] w fun e w' => e = .returned (.agg #[.int .i64 0, .int .i64 1, .int .i64 1]) ∧ Below w.heap.size w w' := by
  simpa using polygonRule_any 3 w (by omega) (by omega)
theorem goesDown_any (l : Int) (w : World) (h : 0 ≤ l) :
    Calls Try.prog 125 #[.int .i64 l] w fun e w' => e = .returned (.bool (decide (l % 2 = 1))) ∧ w = w' := by
  have e : l.tmod 2 = l % 2 := Int.tmod_eq_emod_of_nonneg h
  have h0 : 0 ≤ l % 2 := Int.emod_nonneg _ (by omega)
  have h1 : l % 2 < 2 := Int.emod_lt_of_pos _ (by omega)
  have HD : Hid (decide (l % 2 = 1) = (l % 2 == 1)) := Lib.hid (by by_cases c : l % 2 = 1 <;> simp [c])
  clear h
  generalize hk : l % 2 = k at *
  clear hk
  go_enter Try.func125, Try.ntmps125
  go_wp2
  go_ret
  exact ⟨ret_bool HD.out.symm, rfl⟩
set_option maxHeartbeats 800000 in
theorem lineOf_any (n : Int) (w : World) (h0 : 0 ≤ n) (h1 : n ≤ 1000000) :
    Calls Try.prog 121 #[.int .i64 n] w fun e w' => e = .returned (.tuple #[.int .i64 (ln n), .int .i64 (inl n)]) ∧ Below w.heap.size w w' := by
  obtain ⟨l0, l1, m0, m1, hk⟩ := ln_b n h0 h1
  have HL := Lib.hid fun W => lastPlace_any 0 1 1 n (pl 3 n) (num 3) W (tri_fits n h0 h1)
  have HLN : Hid (pl 3 n = ln n) := Lib.hid rfl
  rw [HLN.out] at HL
  clear HLN
  have HM := Lib.hid fun W => numberAt_any 0 1 1 (ln n) (num 3 (ln n)) W (tri_bds _ (by omega) (by omega))
  generalize inl n = k at *
  generalize num 3 (ln n) = m at *
  generalize ln n = l at *
  have hw : wrap64 (n - m) = k := by rw [hk]; exact IntWalk.wrap64_in _ (by omega)
  have hw2 : n - m = k := hk.symm
  clear hk
  have HB := Lib.hid (Below.refl w.heap.size w)
  go_enter Try.func121, Try.ntmps121
  go_wp2_with (first
    | (go_at_call 145; refine (triRule_any _).mono ?_; rintro e w1 ⟨rfl, hb1⟩; have HT := Lib.hid (box3_new w1 (.int .i64 0) (.int .i64 1) (.int .i64 1) 87); have HB := Lib.hid ((HB.out.trans (hb1.mono HB.out.size)).alloc hb1.size (.cells #[.int .i64 0, .int .i64 1, .int .i64 1] 87)); clear hb1)
    | (go_at_call 152; refine (HL.out _).mono ?_; rintro e w2 ⟨rfl, hb2⟩; have HT := Lib.hid (HT.out.below hb2); have HB := Lib.hid (HB.out.trans (hb2.mono HB.out.size)); have c0 := HT.out.c0; have c1 := HT.out.c1; have c2 := HT.out.c2; clear hb2)
    | (go_at_call 119; refine (HM.out _).mono ?_; rintro e w3 ⟨rfl, hb3⟩; have HB := Lib.hid (HB.out.trans (hb3.mono HB.out.size)); clear hb3))
  go_ret2
  exact ⟨rfl, HB.out⟩
theorem onLine_any (l i : Int) (w : World) (l0 : 0 ≤ l) (l1 : l ≤ 800) (i0 : 0 ≤ i) (i1 : i ≤ 1000) :
    Calls Try.prog 124 #[.int .i64 l, .int .i64 i] w fun e w' => e = .returned (.int .i64 (num 3 l + i)) ∧ Below w.heap.size w w' := by
  have HM := Lib.hid fun W => numberAt_any 0 1 1 l (num 3 l) W (tri_bds _ (by omega) (by omega))
  obtain ⟨b0, b1⟩ := num3_b l l0 l1
  generalize num 3 l = m at *
  have HB := Lib.hid (Below.refl w.heap.size w)
  go_enter Try.func124, Try.ntmps124
  go_wp2_with (first
    | (go_at_call 145; refine (triRule_any _).mono ?_; rintro e w1 ⟨rfl, hb1⟩; have HB := Lib.hid (HB.out.trans (hb1.mono HB.out.size)); clear hb1)
    | (go_at_call 119; refine (HM.out _).mono ?_; rintro e w3 ⟨rfl, hb3⟩; have HB := Lib.hid (HB.out.trans (hb3.mono HB.out.size)); clear hb3))
  go_ret
  exact ⟨rfl, HB.out⟩
theorem impl_TriangleSpot_yes (n : Int) (w : World) (h0 : 0 ≤ n) (h1 : n ≤ 1000000) :
    Calls Try.prog 48 #[.int .i64 n] w fun e w' => e = .returned (.tuple #[.agg #[.int .i64 (inl n), .int .i64 (ln n)], .bool true]) ∧ Below w.heap.size w w' := by
  have HA := Lib.hid (betr_yes h0 h1)
  have HL := Lib.hid fun W => lineOf_any n W h0 h1
  clear h0 h1
  generalize inl n = k at *
  generalize ln n = l at *
  have HB : Hid (Below w.heap.size w (w.alloc (.cells #[.int .i64 0, .int .i64 0] 26))) := Lib.hid ((Below.refl _ _).alloc (Nat.le_refl _) _)
  have HP := Lib.hid (boxw_new w (.int .i64 0) (.int .i64 0) 26)
  go_enter Try.func48, Try.ntmps48
  go_wp2_with (first
    | (go_at_call 83; refine (isOn_any _ _).mono ?_; rw [HA.out]; rintro e w' ⟨rfl, rfl⟩)
    | (go_at_call 121; refine (HL.out _).mono ?_; rintro e w1 ⟨rfl, hb1⟩; have HP := Lib.hid (HP.out.below hb1); have HB := Lib.hid (HB.out.trans (hb1.mono HB.out.size)); have c0 := HP.out.c0; have f0 := HP.out.f0; have c1 := HP.out.c1; have f1 := HP.out.f1; clear hb1))
  obtain ⟨d0, d1⟩ := put2 c0 c1 (.int .i64 (k)) (.int .i64 (l))
  have hB5 : Below w.heap.size w ((w1.setCell ⟨w.heap.size, 0, none⟩ (.int .i64 (k))).setCell ⟨w.heap.size, 1, none⟩ (.int .i64 (l))) := (HB.out.setCell (Nat.le_refl _) _).setCell (Nat.le_refl _) _
  generalize ((w1.setCell ⟨w.heap.size, 0, none⟩ (.int .i64 (k))).setCell ⟨w.heap.size, 1, none⟩ (.int .i64 (l))) = wE at *
  exact bodyPost_ret (v := .tuple #[.agg #[.int .i64 (k), .int .i64 (l)], .bool true]) (by simp [results, Try.results48, go_sem, d0, d1]) rfl ⟨rfl, hB5⟩
theorem impl_ZigzagSpot_yes (n : Int) (w : World) (h0 : 0 ≤ n) (h1 : n ≤ 1000000) :
    Calls Try.prog 54 #[.int .i64 n] w fun e w' => e = .returned (.tuple #[.agg #[.int .i64 (zzX (ln n) (inl n)), .int .i64 (zzY (ln n) (inl n))], .bool true]) ∧ Below w.heap.size w w' := by
  have HA := Lib.hid (betr_yes h0 h1)
  have HL := Lib.hid fun W => lineOf_any n W h0 h1
  obtain ⟨l0, l1, m0, m1, hk⟩ := ln_b n h0 h1
  have k0 : 0 ≤ inl n := by omega
  have k1 : inl n ≤ 1000000 := by omega
  clear h0 h1 m0 m1 hk
  generalize inl n = k at *
  generalize ln n = l at *
  have HG := Lib.hid fun W => goesDown_any l W l0
  have HB : Hid (Below w.heap.size w (w.alloc (.cells #[.int .i64 0, .int .i64 0] 26))) := Lib.hid ((Below.refl _ _).alloc (Nat.le_refl _) _)
  have HP := Lib.hid (boxw_new w (.int .i64 0) (.int .i64 0) 26)
  by_cases hd : l % 2 = 1
  · have HX : Hid (zzX l k = k) := Lib.hid (by rw [zzX, if_pos hd])
    have HY : Hid (zzY l k = l - k) := Lib.hid (by rw [zzY, if_pos hd])
    have HD : Hid (decide (l % 2 = 1) = true) := Lib.hid (by simp [hd])
    rw [HX.out, HY.out]
    clear hd
    go_enter Try.func54, Try.ntmps54
    go_wp2_with (first
      | (go_at_call 83; refine (isOn_any _ _).mono ?_; rw [HA.out]; rintro e w' ⟨rfl, rfl⟩)
      | (go_at_call 121; refine (HL.out _).mono ?_; rintro e w1 ⟨rfl, hb1⟩; have HP := Lib.hid (HP.out.below hb1); have HB := Lib.hid (HB.out.trans (hb1.mono HB.out.size)); have c0 := HP.out.c0; have f0 := HP.out.f0; have c1 := HP.out.c1; have f1 := HP.out.f1; clear hb1)
      | (go_at_call 125; refine (HG.out _).mono ?_; rw [HD.out]; rintro e w' ⟨rfl, rfl⟩))
    obtain ⟨d0, d1⟩ := put2 c0 c1 (.int .i64 (k)) (.int .i64 (l - k))
    have hB5 : Below w.heap.size w ((w1.setCell ⟨w.heap.size, 0, none⟩ (.int .i64 (k))).setCell ⟨w.heap.size, 1, none⟩ (.int .i64 (l - k))) := (HB.out.setCell (Nat.le_refl _) _).setCell (Nat.le_refl _) _
    generalize ((w1.setCell ⟨w.heap.size, 0, none⟩ (.int .i64 (k))).setCell ⟨w.heap.size, 1, none⟩ (.int .i64 (l - k))) = wE at *
    exact bodyPost_ret (v := .tuple #[.agg #[.int .i64 (k), .int .i64 (l - k)], .bool true]) (by simp [results, Try.results54, go_sem, d0, d1]) rfl ⟨rfl, hB5⟩
  · have HX : Hid (zzX l k = l - k) := Lib.hid (by rw [zzX, if_neg hd])
    have HY : Hid (zzY l k = k) := Lib.hid (by rw [zzY, if_neg hd])
    have HD : Hid (decide (l % 2 = 1) = false) := Lib.hid (by simp [hd])
    rw [HX.out, HY.out]
    clear hd
    go_enter Try.func54, Try.ntmps54
    go_wp2_with (first
      | (go_at_call 83; refine (isOn_any _ _).mono ?_; rw [HA.out]; rintro e w' ⟨rfl, rfl⟩)
      | (go_at_call 121; refine (HL.out _).mono ?_; rintro e w1 ⟨rfl, hb1⟩; have HP := Lib.hid (HP.out.below hb1); have HB := Lib.hid (HB.out.trans (hb1.mono HB.out.size)); have c0 := HP.out.c0; have f0 := HP.out.f0; have c1 := HP.out.c1; have f1 := HP.out.f1; clear hb1)
      | (go_at_call 125; refine (HG.out _).mono ?_; rw [HD.out]; rintro e w' ⟨rfl, rfl⟩))
    obtain ⟨d0, d1⟩ := put2 c0 c1 (.int .i64 (l - k)) (.int .i64 (k))
    have hB5 : Below w.heap.size w ((w1.setCell ⟨w.heap.size, 0, none⟩ (.int .i64 (l - k))).setCell ⟨w.heap.size, 1, none⟩ (.int .i64 (k))) := (HB.out.setCell (Nat.le_refl _) _).setCell (Nat.le_refl _) _
    generalize ((w1.setCell ⟨w.heap.size, 0, none⟩ (.int .i64 (l - k))).setCell ⟨w.heap.size, 1, none⟩ (.int .i64 (k))) = wE at *
    exact bodyPost_ret (v := .tuple #[.agg #[.int .i64 (l - k), .int .i64 (k)], .bool true]) (by simp [results, Try.results54, go_sem, d0, d1]) rfl ⟨rfl, hB5⟩
theorem impl_TriangleNumber_no (x y : Int) (w : World) (h : triOk x y = false) :
    Calls Try.prog 50 #[.agg #[.int .i64 x, .int .i64 y]] w fun e w' => e = .returned (.tuple #[.int .i64 0, .bool false]) ∧ Below w.heap.size w w' := by
  cases hx : betr y 0 400
  · have HX := Lib.hid hx
    clear h hx
    go_enter Try.func50, Try.ntmps50
    go_wp2_with (go_at_call 97; refine (rwithin_any _ _ _ _).mono ?_; rw [HX.out]; rintro e w' ⟨rfl, rfl⟩)
    go_ret2
    exact ⟨rfl, (Below.refl _ _).alloc (Nat.le_refl _) _⟩
  · have HY : Hid (betr x 0 y = false) := Lib.hid (by simpa [triOk, hx] using h)
    have HX := Lib.hid hx
    clear h hx
    go_enter Try.func50, Try.ntmps50
    go_wp2_with (go_at_call 97; refine (rwithin_any _ _ _ _).mono ?_; (first | rw [HX.out] | rw [HY.out]); rintro e w' ⟨rfl, rfl⟩)
    go_ret2
    exact ⟨rfl, (Below.refl _ _).alloc (Nat.le_refl _) _⟩
theorem impl_TriangleNumber_yes (x y : Int) (w : World) (h : triOk x y = true) :
    Calls Try.prog 50 #[.agg #[.int .i64 x, .int .i64 y]] w fun e w' => e = .returned (.tuple #[.int .i64 (num 3 y + x), .bool true]) ∧ Below w.heap.size w w' := by
  obtain ⟨y0, y1, x0, x1⟩ := triOk_bds h
  have HX := Lib.hid (betr_yes y0 y1)
  have HY := Lib.hid (betr_yes x0 x1)
  have HL := Lib.hid fun W => onLine_any y x W y0 (by omega) x0 (by omega)
  generalize num 3 y + x = N at *
  clear h x0 x1 y0 y1
  have HB : Hid (Below w.heap.size w (w.alloc (.cells #[.int .i64 x, .int .i64 y] 26))) := Lib.hid ((Below.refl _ _).alloc (Nat.le_refl _) _)
  go_enter Try.func50, Try.ntmps50
  go_wp2_with (first
    | (go_at_call 97; refine (rwithin_any _ _ _ _).mono ?_; (first | rw [HX.out] | rw [HY.out]); rintro e w' ⟨rfl, rfl⟩)
    | (go_at_call 124; refine (HL.out _).mono ?_; rintro e w1 ⟨rfl, hb1⟩))
  go_ret2
  exact ⟨rfl, HB.out.trans (hb1.mono HB.out.size)⟩
theorem impl_ZigzagNumber_no (x y : Int) (w : World) (h : zzOk x y = false) :
    Calls Try.prog 52 #[.agg #[.int .i64 x, .int .i64 y]] w fun e w' => e = .returned (.tuple #[.int .i64 0, .bool false]) ∧ Below w.heap.size w w' := by
  cases hx : betr x 0 400
  · have HX := Lib.hid hx
    clear h hx
    go_enter Try.func52, Try.ntmps52
    go_wp2_with (go_at_call 97; refine (rwithin_any _ _ _ _).mono ?_; rw [HX.out]; rintro e w' ⟨rfl, rfl⟩)
    go_ret2
    exact ⟨rfl, (Below.refl _ _).alloc (Nat.le_refl _) _⟩
  · have HY : Hid (betr y 0 400 = false) := Lib.hid (by simpa [zzOk, hx] using h)
    have HX := Lib.hid hx
    clear h hx
    go_enter Try.func52, Try.ntmps52
    go_wp2_with (go_at_call 97; refine (rwithin_any _ _ _ _).mono ?_; (first | rw [HX.out] | rw [HY.out]); rintro e w' ⟨rfl, rfl⟩)
    go_ret2
    exact ⟨rfl, (Below.refl _ _).alloc (Nat.le_refl _) _⟩
theorem impl_ZigzagNumber_yes (x y : Int) (w : World) (h : zzOk x y = true) :
    Calls Try.prog 52 #[.agg #[.int .i64 x, .int .i64 y]] w fun e w' => e = .returned (.tuple #[.int .i64 (zzN x y), .bool true]) ∧ Below w.heap.size w w' := by
  obtain ⟨x0, x1, y0, y1⟩ := zzOk_bds h
  have HX := Lib.hid (betr_yes x0 x1)
  have HY := Lib.hid (betr_yes y0 y1)
  have HG := Lib.hid fun W => goesDown_any (x + y) W (by omega)
  clear h
  have HB : Hid (Below w.heap.size w (w.alloc (.cells #[.int .i64 x, .int .i64 y] 26))) := Lib.hid ((Below.refl _ _).alloc (Nat.le_refl _) _)
  by_cases hd : (x + y) % 2 = 1
  · have HN : Hid (zzN x y = num 3 (x + y) + x) := Lib.hid (by rw [zzN, if_pos hd])
    rw [HN.out]
    have HL := Lib.hid fun W => onLine_any (x + y) x W (by omega) (by omega) (by omega) (by omega)
    have HD : Hid (decide ((x + y) % 2 = 1) = true) := Lib.hid (by simp [hd])
    clear hd
    generalize num 3 (x + y) + x = N at *
    go_enter Try.func52, Try.ntmps52
    go_wp2_with (first
      | (go_at_call 97; refine (rwithin_any _ _ _ _).mono ?_; (first | rw [HX.out] | rw [HY.out]); rintro e w' ⟨rfl, rfl⟩)
      | (go_at_call 125; refine (HG.out _).mono ?_; rw [HD.out]; rintro e w' ⟨rfl, rfl⟩)
      | (go_at_call 124; refine (HL.out _).mono ?_; rintro e w1 ⟨rfl, hb1⟩))
    go_ret2
    exact ⟨rfl, HB.out.trans (hb1.mono HB.out.size)⟩
  · have HN : Hid (zzN x y = num 3 (x + y) + y) := Lib.hid (by rw [zzN, if_neg hd])
    rw [HN.out]
    have HL := Lib.hid fun W => onLine_any (x + y) y W (by omega) (by omega) (by omega) (by omega)
    have HD : Hid (decide ((x + y) % 2 = 1) = false) := Lib.hid (by simp [hd])
    clear hd
    generalize num 3 (x + y) + y = N at *
    go_enter Try.func52, Try.ntmps52
    go_wp2_with (first
      | (go_at_call 97; refine (rwithin_any _ _ _ _).mono ?_; (first | rw [HX.out] | rw [HY.out]); rintro e w' ⟨rfl, rfl⟩)
      | (go_at_call 125; refine (HG.out _).mono ?_; rw [HD.out]; rintro e w' ⟨rfl, rfl⟩)
      | (go_at_call 124; refine (HL.out _).mono ?_; rintro e w1 ⟨rfl, hb1⟩))
    go_ret2
    exact ⟨rfl, HB.out.trans (hb1.mono HB.out.size)⟩
end Go.Proofs.Ytkhjeleoppdjgac

/- Chapter 6: the program's side: windows. -/
namespace Go.Proofs.Ytkhjeleoppdjgac
open Go.ChangeShapes Go.WideShapes Go.ChangeAt Go.RowKit

theorem impl_WindowOf_no (x y wd hg : Int) (w : World) (h : wnOk x y wd hg = false) :
    Calls Try.prog 33 #[.agg #[.int .i64 x, .int .i64 y], .int .i64 wd, .int .i64 hg] w (ResSS false [] w) := by
  have HB : Hid (Below w.heap.size w (w.alloc (.cells #[.int .i64 x, .int .i64 y] 26))) := Lib.hid ((Below.refl _ _).alloc (Nat.le_refl _) _)
  cases hx : isSpot x y
  · have HX := Lib.hid hx
    clear h hx
    go_enter Try.func33, Try.ntmps33
    go_wp2_with (go_at_call 94; refine (imSpot_any _ _ _).mono ?_; rw [HX.out]; rintro e w1 ⟨rfl, hb1⟩; have HB := Lib.hid (HB.out.trans (hb1.mono HB.out.size)); clear hb1)
    go_ret2
    exact resSS_nil HB.out
  · cases hy : betr wd 0 20
    · have HX := Lib.hid hx
      have HY := Lib.hid hy
      clear h hx hy
      go_enter Try.func33, Try.ntmps33
      go_wp2_with (first
        | (go_at_call 94; refine (imSpot_any _ _ _).mono ?_; rw [HX.out]; rintro e w1 ⟨rfl, hb1⟩; have HB := Lib.hid (HB.out.trans (hb1.mono HB.out.size)); clear hb1)
        | (go_at_call 97; refine (rwithin_any _ _ _ _).mono ?_; (first | rw [HY.out]); rintro e w' ⟨rfl, rfl⟩))
      go_ret2
      exact resSS_nil HB.out
    · have HN : Hid (betr hg 0 20 = false) := Lib.hid (by simpa [wnOk, hx, hy] using h)
      have HX := Lib.hid hx
      have HY := Lib.hid hy
      clear h hx hy
      go_enter Try.func33, Try.ntmps33
      go_wp2_with (first
        | (go_at_call 94; refine (imSpot_any _ _ _).mono ?_; rw [HX.out]; rintro e w1 ⟨rfl, hb1⟩; have HB := Lib.hid (HB.out.trans (hb1.mono HB.out.size)); clear hb1)
        | (go_at_call 97; refine (rwithin_any _ _ _ _).mono ?_; (first | rw [HY.out] | rw [HN.out]); rintro e w' ⟨rfl, rfl⟩))
      go_ret2
      exact resSS_nil HB.out
theorem Box2.put {W : World} {B Q o : Nat} {a b v : Value} (h : Box2 W B a b) (hne : B ≠ Q) : Box2 (W.setCell ⟨Q, o, none⟩ v) B a b :=
  ⟨put_far h.c0 (fun e => hne e.1), put_far h.c1 (fun e => hne e.1), by simpa using h.z⟩
theorem keptw {W w1 : World} {a b : Value} {t R : Nat} (hb : Below (W.alloc (.cells #[a, b] t)).drew.heap.size (W.alloc (.cells #[a, b] t)).drew w1) (hR : W.heap.size = R) : BoxW w1 R a b := by
  subst hR
  exact (boxw_new W a b t).drew.below hb
theorem keptv {W w1 : World} {a b : Value} {t R : Nat} (hb : Below (W.alloc (.cells #[a, b] t)).heap.size (W.alloc (.cells #[a, b] t)) w1) (hR : W.heap.size = R) : BoxW w1 R a b := by
  subst hR
  exact (boxw_new W a b t).below hb
set_option maxRecDepth 4000 in
set_option maxHeartbeats 1600000 in
theorem impl_WindowOf_yes (x y wd hg : Int) (w : World) (h : wnOk x y wd hg = true) :
    Calls Try.prog 33 #[.agg #[.int .i64 x, .int .i64 y], .int .i64 wd, .int .i64 hg] w (ResSS true (wnd x y wd.toNat hg.toNat) w) := by
  obtain ⟨ir, hir, hzr0, hzr1, hzr2⟩ := info_parts infoRow2
  obtain ⟨hs, d0, d1, g0, g1⟩ := wnOk_bds h
  obtain ⟨x0, x1, y0, y1⟩ := isSpot_bds hs
  have HX := Lib.hid hs
  have HY := Lib.hid (betr_yes d0 d1)
  have HN := Lib.hid (betr_yes g0 g1)
  clear h hs
  obtain ⟨D, rfl⟩ := Int.eq_ofNat_of_zero_le d0
  obtain ⟨G, rfl⟩ := Int.eq_ofNat_of_zero_le g0
  rw [show (D : Int).toNat = D by omega, show (G : Int).toNat = G by omega]
  have HV : Hid (∀ (j R lo hi : Nat) (W : World), j < G → Own W lo hi (some ⟨R, 0, none⟩) (prs sqK.ss) → hi ≤ W.heap.size → Calls Try.prog 108 #[.agg #[.slice (some ⟨R, 0, none⟩) 4 4, .int .i64 2, .func (.func 149) #[] #[]], .agg #[.int .i64 x, .int .i64 (y - (j : Int))], .agg #[.int .i64 1, .int .i64 0], .int .i64 (D : Int)] W fun e w' => (∃ A c, e = .returned (.slice A D c) ∧ w'.ownsRow W.heap.size 3 1 (.slice A D c) D (i64s (wro x (y - (j : Int)) D))) ∧ Below W.heap.size W w') := Lib.hid fun j R lo hi W hj h hh => by
    have e : wro x (y - (j : Int)) D = rl (fun i => nu (x + (i : Int) * 1) (y - (j : Int) + (i : Int) * 0)) D := by simp [wro, rl]
    rw [e]
    refine numbersAlong_any R _ 4 D 2 x (y - (j : Int)) 1 0 _ W (by omega) (by omega) (by omega) (by omega) (by omega) (by omega) (by omega) (by omega) (by omega) fun i W2 hi hW => ?_
    exact sqNum (h.below hW hh) (Nat.le_trans hh hW.size) _ _ (by omega) (by omega) (by omega) (by omega)
  have HLD : Hid (∀ (j : Nat) (W : World), j < G → Calls Try.prog 109 #[.agg #[.int .i64 x, .int .i64 y], .agg #[.int .i64 0, .int .i64 (-1)], .int .i64 (j : Int)] W fun e w' => e = .returned (.agg #[.int .i64 x, .int .i64 (y - (j : Int))]) ∧ Below W.heap.size W w') := Lib.hid fun j W hj =>
    ledBy_any x y 0 (-1) j x (y - (j : Int)) W (led_small _ _ _ _ _ (by omega) (by omega) (by omega) (by omega) (by omega) (by omega) (by omega) (by omega) (by omega) (by omega)) (by omega) (by omega)
  have hg0 : (0 : Int) ≤ (G : Int) := by omega
  have hG : G ≤ 20 := by omega
  clear x0 x1 y0 y1 d0 d1 g0 g1
  have HB : Hid (Below w.heap.size w (w.alloc (.cells #[.int .i64 x, .int .i64 y] 26))) := Lib.hid ((Below.refl _ _).alloc (Nat.le_refl _) _)
  have HP := Lib.hid (box2_new w (.int .i64 x) (.int .i64 y) 26)
  go_enter Try.func33, Try.ntmps33
  go_wp2_with (first
    | (go_at_call 94; refine (imSpot_any _ _ _).mono ?_; rw [HX.out]; rintro e w1 ⟨rfl, hb1⟩; have HP := Lib.hid (HP.out.below hb1); have HB := Lib.hid (HB.out.trans (hb1.mono HB.out.size)); clear hb1)
    | (go_at_call 97; refine (rwithin_any _ _ _ _).mono ?_; (first | rw [HY.out] | rw [HN.out]); rintro e w' ⟨rfl, rfl⟩))
  have hB := (HB.out.alloc HB.out.size (.cells #[.int .i64 1, .int .i64 0] 65)).alloc (by have := HB.out.size; simp; omega) (.cells #[.int .i64 0, .int .i64 (-1)] 65)
  have hP := (HP.out.alloc (.cells #[.int .i64 1, .int .i64 0] 65)).alloc (.cells #[.int .i64 0, .int .i64 (-1)] 65)
  have hE := (box2_new w1 (.int .i64 1) (.int .i64 0) 65).alloc (.cells #[.int .i64 0, .int .i64 (-1)] 65)
  have hS := box2_new (w1.alloc (.cells #[.int .i64 1, .int .i64 0] 65)) (.int .i64 0) (.int .i64 (-1)) 65
  rw [show (w1.alloc (.cells #[.int .i64 1, .int .i64 0] 65)).heap.size = w1.heap.size + 1 by simp] at hS
  generalize (w1.alloc (.cells #[.int .i64 1, .int .i64 0] 65)).alloc (.cells #[.int .i64 0, .int .i64 (-1)] 65) = wb at *
  have HB0 := Lib.hid hB
  have HP0 := Lib.hid hP
  have HE0 := Lib.hid hE
  have HS0 := Lib.hid hS
  clear hB hP hE hS HB HP
  generalize w1.heap.size = Q1 at *
  go_loopw [29, 10] (fun i v wr => ∃ (k : Nat) (rs : List Value), k ≤ G ∧ i = .int .i64 (k : Int) ∧ rs.length ≤ k ∧ Hid (Lists wr wb.heap.size v rs (wnd x y D k)) ∧ Hid (Below wb.heap.size wb wr)) (fun i _ _ => G - (intOf i).toNat)
  case atStart => exact ⟨0, [], by omega, by simp, by simp, Lib.hid (Lists.nil _ _), Lib.hid (Below.refl _ _)⟩
  case round =>
    obtain ⟨k, rs, hk, rfl, hrk, HL, hb⟩ := hrel
    by_cases hlt : k < G
    · have hlt2 : (k : Int) < (G : Int) := by omega
      have HVk := Lib.hid fun R lo hi W h hh => HV.out k R lo hi W hlt h hh
      have HLk := Lib.hid fun W => HLD.out k W hlt
      go_upto_region 8 with fail
      have HPr := Lib.hid (HP0.out.below hb.out)
      have HSr := Lib.hid (HS0.out.below hb.out)
      go_cut [12] (fun s12 wx => ∃ Q, s12 = .pointer (some ⟨Q, 0, none⟩) ∧ Hid (wr.heap.size ≤ Q ∧ Below wr.heap.size wr wx ∧ Box2 wx Q (.int .i64 x) (.int .i64 (y - (k : Int)))))
      case first =>
        have HBr := Lib.hid (Below.refl wr.heap.size wr)
        have HNP := Lib.hid (Nat.ne_of_lt HPr.out.z)
        have HNS := Lib.hid (Nat.ne_of_lt HSr.out.z)
        have HQ := Lib.hid (Nat.le_refl wr.heap.size)
        go_region_held3 (fun w' => (w'.cell? ⟨w.heap.size, 0, none⟩ = some (.int .i64 x) ∧ w'.cell? ⟨w.heap.size, 1, none⟩ = some (.int .i64 y)) ∧ (w'.cell? ⟨Q1 + 1, 0, none⟩ = some (.int .i64 0) ∧ w'.cell? ⟨Q1 + 1, 1, none⟩ = some (.int .i64 (-1))))
          (first | with_reducible exact ⟨HPr.out.pair, HSr.out.pair⟩ | with_reducible exact ⟨HPr.out.drew.pair, HSr.out.drew.pair⟩ | with_reducible exact ⟨(HPr.out.alloc _).pair, (HSr.out.alloc _).pair⟩ | with_reducible exact ⟨(HPr.out.alloc _).drew.pair, (HSr.out.alloc _).drew.pair⟩ | with_reducible exact ⟨((HPr.out.put HNP.out).put HNP.out).pair, ((HSr.out.put HNS.out).put HNS.out).pair⟩)
          (first
            | (go_at_call 96; refine (vectorTo_any _ _ _).mono ?_; rintro e w2 ⟨rfl, hb2⟩;
                (first | (have HK := Lib.hid (keptw (R := wr.heap.size) hb2 rfl)) | skip);
                have HPr := Lib.hid (show Box2 w2 _ _ _ from (by first | with_reducible exact HPr.out.drew.below hb2 | with_reducible exact (HPr.out.alloc _).drew.below hb2));
                have HSr := Lib.hid (show Box2 w2 _ _ _ from (by first | with_reducible exact HSr.out.drew.below hb2 | with_reducible exact (HSr.out.alloc _).drew.below hb2));
                have HBr := Lib.hid (show Below wr.heap.size wr w2 from (by first | with_reducible exact HBr.out.drew.trans (hb2.mono HBr.out.drew.size) | with_reducible exact (HBr.out.alloc HBr.out.size _).drew.trans (hb2.mono (HBr.out.alloc HBr.out.size _).drew.size)));
                clear hb2)
            | (go_at_call 109; refine (HLk.out _).mono ?_; rintro e w3 ⟨rfl, hb3⟩;
                (first | (have HK := Lib.hid (HK.out.below hb3)) | (have HK := Lib.hid (keptv (R := w2.heap.size) hb3 rfl); have HNP := Lib.hid (Nat.ne_of_lt HPr.out.z); have HNS := Lib.hid (Nat.ne_of_lt HSr.out.z); have HQ := Lib.hid HBr.out.size) | skip);
                (first | (have k0 := HK.out.c0; have g0 := HK.out.f0; have k1 := HK.out.c1; have g1 := HK.out.f1) | skip);
                have HPr := Lib.hid (show Box2 w3 _ _ _ from (by first | with_reducible exact HPr.out.below hb3 | with_reducible exact (HPr.out.alloc _).below hb3));
                have HSr := Lib.hid (show Box2 w3 _ _ _ from (by first | with_reducible exact HSr.out.below hb3 | with_reducible exact (HSr.out.alloc _).below hb3));
                have HBr := Lib.hid (show Below wr.heap.size wr w3 from (by first | with_reducible exact HBr.out.trans (hb3.mono HBr.out.size) | with_reducible exact (HBr.out.alloc HBr.out.size _).trans (hb3.mono (HBr.out.alloc HBr.out.size _).size)));
                clear hb3))
        all_goals
          go_wp2_with fail
          go_meet
          first
            | exact ⟨_, rfl, Lib.hid ⟨HQ.out, (HBr.out.setCell HQ.out _).setCell HQ.out _, (put2 k0 k1 _ _).1, (put2 k0 k1 _ _).2, by simpa using HK.out.z⟩⟩
            | exact ⟨_, rfl, Lib.hid ⟨HBr.out.size, HBr.out.alloc HBr.out.size _, box2_new _ _ _ _⟩⟩
      case rest =>
      obtain ⟨Q, rfl, hw⟩ := hcut
      have HW := Lib.hid hw.out.2.1
      have HQb := Lib.hid hw.out.2.2
      have HE := Lib.hid ((HE0.out.below hb.out).below hw.out.2.1)
      have HNQ : Hid (some Q ≠ u10.ownBlock) := Lib.hid fun e => by have := (HL.out.2.1.lt _ e.symm).2; have := hw.out.1; omega
      have HNE : Hid (some Q1 ≠ u10.ownBlock) := Lib.hid fun e => by have := (HL.out.2.1.lt _ e.symm).1; have := HE0.out.z; omega
      clear hw HPr HSr HLk
      go_wp2_with fail
      go_region_held3 (fun w' => (w'.cell? ⟨Q, 0, none⟩ = some (.int .i64 x) ∧ w'.cell? ⟨Q, 1, none⟩ = some (.int .i64 (y - (k : Int)))) ∧ (w'.cell? ⟨Q1, 0, none⟩ = some (.int .i64 1) ∧ w'.cell? ⟨Q1, 1, none⟩ = some (.int .i64 0)))
        (first | with_reducible exact ⟨HQb.out.pair, HE.out.pair⟩ | with_reducible exact ⟨HQb.out.drew.pair, HE.out.drew.pair⟩ | with_reducible exact ⟨(HQb.out.alloc _).pair, (HE.out.alloc _).pair⟩)
        (first
          | (go_at_call 84; refine (squareSpiral_any _).mono ?_; rintro e w4 ⟨⟨R, rfl, hO⟩, hb4⟩; have HO := Lib.hid hO; have HQb := Lib.hid (HQb.out.drew.below hb4); have HE := Lib.hid (HE.out.drew.below hb4); have HW := Lib.hid (HW.out.drew.trans (hb4.mono HW.out.drew.size)); clear hO hb4)
          | (go_at_call 108; refine (HVk.out _ _ _ _ HO.out (Nat.le_refl _)).mono ?_; rintro e w5 ⟨⟨A, c, rfl, hrow⟩, hb5⟩; have HR := Lib.hid (hrow.mono HW.out.size); have HQb := Lib.hid (HQb.out.below hb5); have HE := Lib.hid (HE.out.below hb5); have HW := Lib.hid (HW.out.trans (hb5.mono HW.out.size)); have HLW := Lib.hid ((HL.out.below HW.out (Nat.le_refl _)).2.1.alloc (.cells #[.slice A D c] 31)); clear hrow hb5)
          | (refine step_append_lies _ rfl (.tmp 37) (.tmp 43) 49 rfl wb.heap.size 31 ir (.slice none 0 0) 1 24 Try.underlying49 hir hzr0 hzr1 hzr2 rfl (by decide) u10 rs.length rs (by simp [Act.eval]) HLW.out ⟨w5.heap.size, 0, none⟩ 1 1 [.slice A D c] (by simp [Act.eval]) rfl (sj_new w5 _ _) (by intro u hu; simp at hu; subst hu; rfl) (by omega) (by unfold maxLen; omega) (by omega) (by have := HW.out.size; have := hb.out.size; simp; omega) _ rfl ?_; intro g' cap w6 hown' hgrow hat hlt6; have HO6 := Lib.hid hown'; have HG6 := Lib.hid hgrow; have HQb := Lib.hid ((HQb.out.alloc _).far hgrow HNQ.out); have HE := Lib.hid ((HE.out.alloc _).far hgrow HNE.out); clear hown' hgrow hat))
      have HL2 : Hid (Lists w6 wb.heap.size (.slice (some ⟨g', 0, none⟩) (rs.length + 1) cap) (rs ++ [.slice A D c]) (wnd x y D (k + 1))) := Lib.hid (by
        rw [wnd_succ]
        exact HL.out.app HW.out hb.out.size (by rw [wro_len]; exact HR.out) HO6.out HG6.out)
      have HB6 : Hid (Below wb.heap.size wb w6) := Lib.hid (((hb.out.trans (HW.out.mono hb.out.size)).alloc (Nat.le_trans hb.out.size HW.out.size) _).grown HG6.out (by have := hb.out.size; have := HW.out.size; simp; omega) fun g hg => (HL.out.2.1.lt g hg).1)
      clear HQb HE HLW HW HR HO6 HG6 HL hb
      go_wp2
      go_roundw
      case rel => exact ⟨k + 1, _, by omega, by go_num, by simp; omega, HL2, HB6⟩
      case measure => simp [intOf]; omega
    · obtain rfl : k = G := by omega
      go_wp2
      go_ret2
      exact siSS_of (HL.out.wide HB0.out.size) (HB0.out.trans (hb.out.mono HB0.out.size))
end Go.Proofs.Ytkhjeleoppdjgac
