/- The cursor: a number below another one, a chance, one out of a list. -/
import Derived.Test.YtjfkeflmbgfhmaaGreatDoorDrA
namespace Go.Proofs.YtjfkeflmbgfhmaaGreatDoor
open Go.RowKit

theorem Cur.up {w : World} {B r : Nat} {A : Option Addr} {n c k k' : Nat} (h : Cur w B r A n c k) (hk : k ≤ k') : Cur w B r A n c k' := by
  obtain ⟨i, hi, e⟩ := h.c1
  exact ⟨h.lo, h.lt, h.c0, ⟨i, by omega, e⟩, h.c2, h.f1, h.f2, h.bs⟩
/-- What a call of the cursor leaves: its box moved on, all else as it was. -/
structure Drawn (w w' : World) (B r : Nat) (A : Option Addr) (n c k : Nat) : Prop where
  cur : Cur w' B r A n c k
  grown : w.grownBy w' (some r)
set_option maxHeartbeats 1600000 in
set_option maxRecDepth 4000 in
theorem pick_any (B r : Nat) (A : Option Addr) (n c k : Nat) (m : Int) (w : World) (h : Cur w B r A n c k) (hk : k ≤ 900000) (hn : n ≤ 1000000000000) (m0 : 1 ≤ m) (m1 : m ≤ 65536) :
    Calls Tryz.prog 36 #[.pointer (some ⟨r, 0, none⟩), .int .i64 m] w fun e w' => ∃ x : Int, e = .returned (.int .i64 x) ∧ 0 ≤ x ∧ x < m ∧ Drawn w w' B r A n c (k + 2) := by
  have HC := h
  have HG : w.grownBy w (some r) := World.grownBy.refl _ _
  clear h
  by_cases h1 : m ≤ 1
  · go_enter Tryz.func36, Tryz.ntmps36
    go_wp2
    go_ret
    exact ⟨0, rfl, by omega, by omega, HC.up (by omega), HG⟩
  · by_cases h2 : m ≤ 200
    · go_enter Tryz.func36, Tryz.ntmps36
      go_wp2_with (go_at_call 64; refine (next_any _ _ _ _ _ _ _ HC (by omega) hn).mono ?_; rintro e w1 ⟨x, rfl, x0, x1, hc, hg⟩; replace HC := hc; replace HG := grown_trans HG hg; clear hc hg)
      go_ret
      exact ⟨_, rfl, Int.emod_nonneg _ (by omega), Int.emod_lt_of_pos _ (by omega), HC.up (by omega), HG⟩
    · go_enter Tryz.func36, Tryz.ntmps36
      go_wp2_with (go_at_call 64; refine (next_any _ _ _ _ _ _ _ HC (by omega) hn).mono ?_; rintro e w1 ⟨x, rfl, x0, x1, hc, hg⟩; replace HC := hc; replace HG := grown_trans HG hg; clear hc hg)
      go_ret
      exact ⟨_, rfl, Int.emod_nonneg _ (by omega), Int.emod_lt_of_pos _ (by omega), HC.up (by omega), HG⟩

set_option maxHeartbeats 1600000 in
theorem one_any (B r : Nat) (A : Option Addr) (n c k : Nat) (m : Int) (w : World) (h : Cur w B r A n c k) (hk : k ≤ 900000) (hn : n ≤ 1000000000000) (m0 : 1 ≤ m) (m1 : m ≤ 65536) :
    Calls Tryz.prog 33 #[.pointer (some ⟨r, 0, none⟩), .int .i64 m] w fun e w' => ∃ b : Bool, e = .returned (.bool b) ∧ Drawn w w' B r A n c (k + 2) := by
  go_enter Tryz.func33, Tryz.ntmps33
  go_wp2_with (go_at_call 36; refine (pick_any _ _ _ _ _ _ _ _ h hk hn m0 m1).mono ?_; rintro e w1 ⟨x, rfl, x0, x1, hd⟩)
  go_ret
  exact ⟨_, rfl, hd⟩

set_option maxHeartbeats 1600000 in
theorem among_any (B r : Nat) (A : Option Addr) (n c k : Nat) (L : Option Addr) (m d : Nat) (xs : List Int) (lo hi : Nat) (w : World) (h : Cur w B r A n c k) (hk : k ≤ 900000) (hn : n ≤ 1000000000000) (hm : xs.length = m) (m0 : 1 ≤ m) (m1 : m ≤ 60000)
    (hl : Own w lo hi L (i64s xs)) (hr : r < lo ∨ hi ≤ r) (hw : hi ≤ w.heap.size) :
    Calls Tryz.prog 34 #[.pointer (some ⟨r, 0, none⟩), .slice L m d] w fun e w' => ∃ x : Int, e = .returned (.int .i64 x) ∧ x ∈ xs ∧ Drawn w w' B r A n c (k + 2) := by
  have HM := Lib.hid hm
  have HL := Lib.hid hl
  have i0 : 1 ≤ (m : Int) := by omega
  have i1 : (m : Int) ≤ 65536 := by omega
  clear hm hl
  go_enter Tryz.func34, Tryz.ntmps34
  go_wp2_with fail
  refine (pick_any _ _ _ _ _ _ _ _ h hk hn i0 i1).mono ?_
  rintro e w1 ⟨x, rfl, x0, x1, hd⟩
  obtain ⟨j, rfl⟩ := Int.eq_ofNat_of_zero_le x0
  have hj : j < m := by omega
  obtain ⟨g, o, rfl, g0, g1, hc, _⟩ := HL.out.at_ (k := j) (by simp [HM.out]; exact hj)
  have hcx : w1.cell? ⟨g, o + j, none⟩ = some (.int .i64 (xs[j]'(by rw [HM.out]; exact hj))) := by
    rw [World.cell?_of_block (w := w) (hd.grown.block g (by omega) (by intro e; injection e with e; omega)), hc]
    simp
  have hmem : Hid (xs[j]'(by rw [HM.out]; exact hj) ∈ xs) := Lib.hid (List.getElem_mem _)
  generalize xs[j]'(by rw [HM.out]; exact hj) = z at hcx hmem
  clear hc
  go_wp2
  go_ret
  exact ⟨z, rfl, hmem.out, hd⟩
end Go.Proofs.YtjfkeflmbgfhmaaGreatDoor
