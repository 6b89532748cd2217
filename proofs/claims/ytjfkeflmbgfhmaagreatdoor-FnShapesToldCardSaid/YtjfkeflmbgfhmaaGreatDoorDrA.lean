/- The cursor that draws arguments out of bytes: what each of its calls hands back lies within bounds, and nothing but its own box changes. -/
import Derived.Test.YtjfkeflmbgfhmaaGreatDoorOwn
import Derived.Lib.Hide
import Derived.Deep.QuietTactic
import Derived.BigQuiet
namespace Go.Proofs.YtjfkeflmbgfhmaaGreatDoor
open Go.RowKit

theorem addr_blk (a : Addr) (j : Nat) : (a.add j).block = a.block := by
  unfold Addr.add
  by_cases h : j = 0 <;> simp [h]
/-- A cursor's box at r, not below B; the bytes that it reads lie below B; it has read at most k of them. -/
structure Cur (w : World) (B r : Nat) (A : Option Addr) (n c k : Nat) : Prop where
  lo : B ≤ r
  lt : r < w.heap.size
  c0 : w.cell? ⟨r, 0, none⟩ = some (.slice A n c)
  c1 : ∃ i : Nat, i ≤ k ∧ w.cell? ⟨r, 1, none⟩ = some (.int .i64 i)
  c2 : ∃ s : Int, 0 ≤ s ∧ s ≤ 18446744073709551615 ∧ w.cell? ⟨r, 2, none⟩ = some (.int .u64 s)
  f1 : w.frozen? ⟨r, 1, none⟩ = false
  f2 : w.frozen? ⟨r, 2, none⟩ = false
  bs : ∀ j, j < n → ∃ (a : Addr) (b : Int), A = some a ∧ a.block < B ∧ 0 ≤ b ∧ b ≤ 255 ∧ w.cell? (a.add j) = some (.int .u8 b)

theorem grown_set2 {w w' : World} {r : Nat} (h : w.grownBy w' (some r)) (o : Nat) (v : Value) : w.grownBy (w'.setCell ⟨r, o, none⟩ v) (some r) where
  os := h.os
  tape := h.tape
  output := h.output
  size := by simpa [World.setCell] using h.size
  block := fun i hi hr => by rw [← h.block i hi hr]; exact Below.heap_setCell _ _ _ _ (fun e => hr (by rw [e]))
theorem grown_trans {a b c : World} {row : Option Nat} (h1 : a.grownBy b row) (h2 : b.grownBy c row) : a.grownBy c row :=
  ⟨h2.os.trans h1.os, h2.tape.trans h1.tape, h2.output.trans h1.output, Nat.le_trans h1.size h2.size, fun i hi hr => (h2.block i (Nat.lt_of_lt_of_le hi h1.size) hr).trans (h1.block i hi hr)⟩

theorem u64_bds (x : Int) : 0 ≤ IntKind.u64.wrap x ∧ IntKind.u64.wrap x ≤ 18446744073709551615 := by
  rw [IntKind.wrap_u64]
  omega
theorem and255 (a : Int) (h0 : 0 ≤ a) (h1 : a ≤ 18446744073709551615) : 0 ≤ wrap64 (bits .and .u64 (a / 1099511627776) 255) ∧ wrap64 (bits .and .u64 (a / 1099511627776) 255) ≤ 255 := by
  have d0 : 0 ≤ a / 1099511627776 := by omega
  have d1 : a / 1099511627776 < 18446744073709551616 := by omega
  rw [u64_and _ _ d0 d1 (by omega) (by omega)]
  have l : (a / 1099511627776).toNat &&& (255 : Int).toNat ≤ 255 := Nat.and_le_right
  rw [← IntWalk.i64_left, IntWalk.i64_in _ (by omega)]
  omega
theorem cur_step {w : World} {B r : Nat} {A : Option Addr} {n c k : Nat} (h : Cur w B r A n c k) (q q' i : Nat) (hi : i ≤ k) (T : Int) (t0 : 0 ≤ T) (t1 : T ≤ 18446744073709551615) :
    Cur ((((w.drewN q).setCell ⟨r, 1, none⟩ (.int .i64 ((i : Int) + 1))).setCell ⟨r, 2, none⟩ (.int .u64 T)).drewN q') B r A n c (k + 1) ∧
      w.grownBy ((((w.drewN q).setCell ⟨r, 1, none⟩ (.int .i64 ((i : Int) + 1))).setCell ⟨r, 2, none⟩ (.int .u64 T)).drewN q') (some r) := by
  obtain ⟨lo, lt, c0, ⟨i', hi', c1⟩, ⟨s, s0, s1, c2⟩, f1, f2, bs⟩ := h
  have g0 : w.grownBy (((w.drewN q).setCell ⟨r, 1, none⟩ (.int .i64 ((i : Int) + 1))).setCell ⟨r, 2, none⟩ (.int .u64 T)) (some r) :=
    have g1 : w.grownBy (w.drewN q) (some r) := ⟨rfl, rfl, rfl, Nat.le_refl _, fun _ _ _ => rfl⟩
    grown_set2 (grown_set2 g1 1 _) 2 _
  have e0 : ∀ o v, o ≠ 0 → ∀ W : World, (W.setCell ⟨r, o, none⟩ v).cell? ⟨r, 0, none⟩ = W.cell? ⟨r, 0, none⟩ := fun o v ho W => World.cell?_setCell_other W _ _ _ (fun e => by injection e with _ e _; exact ho e)
  refine ⟨⟨lo, ?_, ?_, ⟨i + 1, by omega, ?_⟩, ⟨T, t0, t1, ?_⟩, ?_, ?_, fun j hj => ?_⟩, ⟨g0.os, g0.tape, g0.output, g0.size, g0.block⟩⟩
  · exact Nat.lt_of_lt_of_le lt g0.size
  · show World.cell? (((w.drewN q).setCell _ _).setCell _ _) _ = _
    rw [e0 2 _ (by omega), e0 1 _ (by omega)]
    exact c0
  · show World.cell? (((w.drewN q).setCell _ _).setCell _ _) _ = _
    rw [World.cell?_setCell_other _ _ _ _ (fun e => by injection e with _ e _; omega)]
    rw [World.cell?_setCell_same (w.drewN q) ⟨r, 1, none⟩ _ c1]
    simp
  · show World.cell? (((w.drewN q).setCell _ _).setCell _ _) _ = _
    have e2 : ((w.drewN q).setCell ⟨r, 1, none⟩ (.int .i64 ((i : Int) + 1))).cell? ⟨r, 2, none⟩ = some (.int .u64 s) := by
      rw [World.cell?_setCell_other _ _ _ _ (fun e => by injection e with _ e _; omega)]
      exact c2
    exact World.cell?_setCell_same _ ⟨r, 2, none⟩ _ e2
  · show World.frozen? (((w.drewN q).setCell _ _).setCell _ _) _ = _
    rw [World.frozen?_setCell, World.frozen?_setCell]
    exact f1
  · show World.frozen? (((w.drewN q).setCell _ _).setCell _ _) _ = _
    rw [World.frozen?_setCell, World.frozen?_setCell]
    exact f2
  · obtain ⟨a, b, e, hg, b0, b1, hb⟩ := bs j hj
    have hne : ∀ o, a.add j ≠ ⟨r, o, none⟩ := fun o e => by
      have := congrArg Addr.block e
      rw [addr_blk] at this
      simp at this
      omega
    refine ⟨a, b, e, hg, b0, b1, ?_⟩
    show World.cell? (((w.drewN q).setCell _ _).setCell _ _) _ = _
    rw [World.cell?_setCell_other _ _ _ _ (fun e => hne 2 e.symm), World.cell?_setCell_other _ _ _ _ (fun e => hne 1 e.symm)]
    exact hb

set_option maxHeartbeats 1600000 in
set_option maxRecDepth 4000 in
theorem next_any (B r : Nat) (A : Option Addr) (n c k : Nat) (w : World) (h : Cur w B r A n c k) (hk : k ≤ 1000000) (_hn : n ≤ 1000000000000) :
    Calls Tryz.prog 64 #[.pointer (some ⟨r, 0, none⟩)] w fun e w' => ∃ x : Int, e = .returned (.int .i64 x) ∧ 0 ≤ x ∧ x ≤ 255 ∧ Cur w' B r A n c (k + 1) ∧ w.grownBy w' (some r) := by
  have HC := Lib.hid h
  obtain ⟨lo, lt, c0, ⟨i, hi, c1⟩, ⟨s, s0, s1, c2⟩, f1, f2, bs⟩ := h
  have HBS := Lib.hid bs
  clear bs
  by_cases hlt : i < n
  · obtain ⟨a, b, rfl, hg, b0, b1, hb⟩ := HBS.out i hlt
    have hlt' : (i : Int) < (n : Int) := by omega
    go_enter Tryz.func64, Tryz.ntmps64
    go_wp2
    go_quiet (fail)
    go_wp2
    go_quiet (fail)
    go_wp2
    go_quiet (fail)
    go_wp2
    go_ret
    obtain ⟨t0, t1⟩ := u64_bds (IntKind.u64.wrap (IntKind.u64.wrap (s * 6364136223846793005) + b) + 1442695040888963407)
    exact ⟨b, rfl, b0, b1, cur_step HC.out _ _ i hi _ t0 t1⟩
  · have hlt' : decide ((i : Int) < (n : Int)) = false := by simp; omega
    have hlt2 : decide ((i : Int) + 1 ≤ (n : Int)) = false := by simp; omega
    go_enter Tryz.func64, Tryz.ntmps64
    go_wp2
    go_quiet (fail)
    go_wp2
    go_quiet (fail)
    go_wp2
    go_ret
    obtain ⟨t0, t1⟩ := u64_bds (IntKind.u64.wrap (IntKind.u64.wrap (s * 6364136223846793005)) + 1442695040888963407)
    obtain ⟨v0, v1⟩ := and255 _ t0 t1
    exact ⟨_, rfl, v0, v1, cur_step HC.out _ _ i hi _ t0 t1⟩
end Go.Proofs.YtjfkeflmbgfhmaaGreatDoor
