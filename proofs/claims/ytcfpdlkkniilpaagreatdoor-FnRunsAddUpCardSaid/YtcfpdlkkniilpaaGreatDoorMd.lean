/- The texts XDrA XDrB XDrC XSoA XSx XSoD XDrD XDrW XDrG XDrH XDrK joined. -/
import Derived.Test.YtcfpdlkkniilpaaGreatDoorOwn
import Derived.Lib.Hide
import Derived.Deep.QuietTactic
import Derived.BigQuiet
import Derived.Test.YtcfpdlkkniilpaaGreatDoorSpA
import Derived.Deep.Cut
import Derived.Test.YtcfpdlkkniilpaaGreatDoorBase
import Derived.Test.YtcfpdlkkniilpaaGreatDoorImB
import Derived.Test.YtcfpdlkkniilpaaGreatDoorSeq
import Derived.Test.YtcfpdlkkniilpaaGreatDoorNum
import Derived.Test.YtcfpdlkkniilpaaGreatDoorImC
import Derived.Test.YtcfpdlkkniilpaaGreatDoorAnW
/- The cursor that draws arguments out of bytes: what each of its calls hands back lies within bounds, and nothing but its own box changes. -/
namespace Go.Proofs.YtcfpdlkkniilpaaGreatDoor
open Go.RowKit

theorem addr_blk (a : Addr) (j : Nat) : (a.add j).block = a.block := by
  unfold Addr.add
  by_cases h : j = 0 <;> simp [h]
/-- A cursor's box at r, not below B; the bytes that it reads lie below B; it has read at most k of them. -/
structure Cur (w : World) (B r : Nat) (A : Option Addr) (n c k : Nat) : Prop where
  lo : B ≤ r
  lt : r < w.heap.size
  c0 : w.cell? ⟨r, 0, none⟩ = some (.slice A n c)
  c1 : ∃ i : Nat, i ≤ k ∧ w.cell? ⟨r, 1, none⟩ = some (.int .i64 i)
  c2 : ∃ s : Int, 0 ≤ s ∧ s ≤ 18446744073709551615 ∧ w.cell? ⟨r, 2, none⟩ = some (.int .u64 s)
  f1 : w.frozen? ⟨r, 1, none⟩ = false
  f2 : w.frozen? ⟨r, 2, none⟩ = false
  bs : ∀ j, j < n → ∃ (a : Addr) (b : Int), A = some a ∧ a.block < B ∧ 0 ≤ b ∧ b ≤ 255 ∧ w.cell? (a.add j) = some (.int .u8 b)

theorem grown_set2 {w w' : World} {r : Nat} (h : w.grownBy w' (some r)) (o : Nat) (v : Value) : w.grownBy (w'.setCell ⟨r, o, none⟩ v) (some r) where
  os := h.os
  tape := h.tape
  output := h.output
  size := by simpa [World.setCell] using h.size
  block := fun i hi hr => by rw [← h.block i hi hr]; exact Below.heap_setCell _ _ _ _ (fun e => hr (by rw [e]))
theorem grown_trans {a b c : World} {row : Option Nat} (h1 : a.grownBy b row) (h2 : b.grownBy c row) : a.grownBy c row :=
  ⟨h2.os.trans h1.os, h2.tape.trans h1.tape, h2.output.trans h1.output, Nat.le_trans h1.size h2.size, fun i hi hr => (h2.block i (Nat.lt_of_lt_of_le hi h1.size) hr).trans (h1.block i hi hr)⟩

theorem u64_bds (x : Int) : 0 ≤ IntKind.u64.wrap x ∧ IntKind.u64.wrap x ≤ 18446744073709551615 := by
  rw [IntKind.wrap_u64]
  omega
theorem and255 (a : Int) (h0 : 0 ≤ a) (h1 : a ≤ 18446744073709551615) : 0 ≤ wrap64 (bits .and .u64 (a / 1099511627776) 255) ∧ wrap64 (bits .and .u64 (a / 1099511627776) 255) ≤ 255 := by
  have d0 : 0 ≤ a / 1099511627776 := by omega
  have d1 : a / 1099511627776 < 18446744073709551616 := by omega
  rw [u64_and _ _ d0 d1 (by omega) (by omega)]
  have l : (a / 1099511627776).toNat &&& (255 : Int).toNat ≤ 255 := Nat.and_le_right
  rw [← IntWalk.i64_left, IntWalk.i64_in _ (by omega)]
  omega
theorem cur_step {w : World} {B r : Nat} {A : Option Addr} {n c k : Nat} (h : Cur w B r A n c k) (q q' i : Nat) (hi : i ≤ k) (T : Int) (t0 : 0 ≤ T) (t1 : T ≤ 18446744073709551615) :
    Cur ((((w.drewN q).setCell ⟨r, 1, none⟩ (.int .i64 ((i : Int) + 1))).setCell ⟨r, 2, none⟩ (.int .u64 T)).drewN q') B r A n c (k + 1) ∧
      w.grownBy ((((w.drewN q).setCell ⟨r, 1, none⟩ (.int .i64 ((i : Int) + 1))).setCell ⟨r, 2, none⟩ (.int .u64 T)).drewN q') (some r) := by
  obtain ⟨lo, lt, c0, ⟨i', hi', c1⟩, ⟨s, s0, s1, c2⟩, f1, f2, bs⟩ := h
  have g0 : w.grownBy (((w.drewN q).setCell ⟨r, 1, none⟩ (.int .i64 ((i : Int) + 1))).setCell ⟨r, 2, none⟩ (.int .u64 T)) (some r) :=
    have g1 : w.grownBy (w.drewN q) (some r) := ⟨rfl, rfl, rfl, Nat.le_refl _, fun _ _ _ => rfl⟩
    grown_set2 (grown_set2 g1 1 _) 2 _
  have e0 : ∀ o v, o ≠ 0 → ∀ W : World, (W.setCell ⟨r, o, none⟩ v).cell? ⟨r, 0, none⟩ = W.cell? ⟨r, 0, none⟩ := fun o v ho W => World.cell?_setCell_other W _ _ _ (fun e => by injection e with _ e _; exact ho e)
  refine ⟨⟨lo, ?_, ?_, ⟨i + 1, by omega, ?_⟩, ⟨T, t0, t1, ?_⟩, ?_, ?_, fun j hj => ?_⟩, ⟨g0.os, g0.tape, g0.output, g0.size, g0.block⟩⟩
  · exact Nat.lt_of_lt_of_le lt g0.size
  · show World.cell? (((w.drewN q).setCell _ _).setCell _ _) _ = _
    rw [e0 2 _ (by omega), e0 1 _ (by omega)]
    exact c0
  · show World.cell? (((w.drewN q).setCell _ _).setCell _ _) _ = _
    rw [World.cell?_setCell_other _ _ _ _ (fun e => by injection e with _ e _; omega)]
    rw [World.cell?_setCell_same (w.drewN q) ⟨r, 1, none⟩ _ c1]
    simp
  · show World.cell? (((w.drewN q).setCell _ _).setCell _ _) _ = _
    have e2 : ((w.drewN q).setCell ⟨r, 1, none⟩ (.int .i64 ((i : Int) + 1))).cell? ⟨r, 2, none⟩ = some (.int .u64 s) := by
      rw [World.cell?_setCell_other _ _ _ _ (fun e => by injection e with _ e _; omega)]
      exact c2
    exact World.cell?_setCell_same _ ⟨r, 2, none⟩ _ e2
  · show World.frozen? (((w.drewN q).setCell _ _).setCell _ _) _ = _
    rw [World.frozen?_setCell, World.frozen?_setCell]
    exact f1
  · show World.frozen? (((w.drewN q).setCell _ _).setCell _ _) _ = _
    rw [World.frozen?_setCell, World.frozen?_setCell]
    exact f2
  · obtain ⟨a, b, e, hg, b0, b1, hb⟩ := bs j hj
    have hne : ∀ o, a.add j ≠ ⟨r, o, none⟩ := fun o e => by
      have := congrArg Addr.block e
      rw [addr_blk] at this
      simp at this
      omega
    refine ⟨a, b, e, hg, b0, b1, ?_⟩
    show World.cell? (((w.drewN q).setCell _ _).setCell _ _) _ = _
    rw [World.cell?_setCell_other _ _ _ _ (fun e => hne 2 e.symm), World.cell?_setCell_other _ _ _ _ (fun e => hne 1 e.symm)]
    exact hb

set_option maxHeartbeats 1600000 in
set_option maxRecDepth 4000 in
theorem next_any (B r : Nat) (A : Option Addr) (n c k : Nat) (w : World) (h : Cur w B r A n c k) (hk : k ≤ 1000000) (_hn : n ≤ 1000000000000) :
    Calls Tryz.prog 61 #[.pointer (some ⟨r, 0, none⟩)] w fun e w' => ∃ x : Int, e = .returned (.int .i64 x) ∧ 0 ≤ x ∧ x ≤ 255 ∧ Cur w' B r A n c (k + 1) ∧ w.grownBy w' (some r) := by
  have HC := Lib.hid h
  obtain ⟨lo, lt, c0, ⟨i, hi, c1⟩, ⟨s, s0, s1, c2⟩, f1, f2, bs⟩ := h
  have HBS := Lib.hid bs
  clear bs
  by_cases hlt : i < n
  · obtain ⟨a, b, rfl, hg, b0, b1, hb⟩ := HBS.out i hlt
    have hlt' : (i : Int) < (n : Int) := by omega
    go_enter Tryz.func61, Tryz.ntmps61
    go_wp2
    go_quiet (fail)
    go_wp2
    go_quiet (fail)
    go_wp2
    go_quiet (fail)
    go_wp2
    go_ret
    obtain ⟨t0, t1⟩ := u64_bds (IntKind.u64.wrap (IntKind.u64.wrap (s * 6364136223846793005) + b) + 1442695040888963407)
    exact ⟨b, rfl, b0, b1, cur_step HC.out _ _ i hi _ t0 t1⟩
  · have hlt' : decide ((i : Int) < (n : Int)) = false := by simp; omega
    have hlt2 : decide ((i : Int) + 1 ≤ (n : Int)) = false := by simp; omega
    go_enter Tryz.func61, Tryz.ntmps61
    go_wp2
    go_quiet (fail)
    go_wp2
    go_quiet (fail)
    go_wp2
    go_ret
    obtain ⟨t0, t1⟩ := u64_bds (IntKind.u64.wrap (IntKind.u64.wrap (s * 6364136223846793005)) + 1442695040888963407)
    obtain ⟨v0, v1⟩ := and255 _ t0 t1
    exact ⟨_, rfl, v0, v1, cur_step HC.out _ _ i hi _ t0 t1⟩
end Go.Proofs.YtcfpdlkkniilpaaGreatDoor

/- The cursor: a number below another one, a chance, one out of a list. -/
namespace Go.Proofs.YtcfpdlkkniilpaaGreatDoor
open Go.RowKit

theorem Cur.up {w : World} {B r : Nat} {A : Option Addr} {n c k k' : Nat} (h : Cur w B r A n c k) (hk : k ≤ k') : Cur w B r A n c k' := by
  obtain ⟨i, hi, e⟩ := h.c1
  exact ⟨h.lo, h.lt, h.c0, ⟨i, by omega, e⟩, h.c2, h.f1, h.f2, h.bs⟩
/-- What a call of the cursor leaves: its box moved on, all else as it was. -/
structure Drawn (w w' : World) (B r : Nat) (A : Option Addr) (n c k : Nat) : Prop where
  cur : Cur w' B r A n c k
  grown : w.grownBy w' (some r)
set_option maxHeartbeats 1600000 in
set_option maxRecDepth 4000 in
theorem pick_any (B r : Nat) (A : Option Addr) (n c k : Nat) (m : Int) (w : World) (h : Cur w B r A n c k) (hk : k ≤ 900000) (hn : n ≤ 1000000000000) (m0 : 1 ≤ m) (m1 : m ≤ 65536) :
    Calls Tryz.prog 48 #[.pointer (some ⟨r, 0, none⟩), .int .i64 m] w fun e w' => ∃ x : Int, e = .returned (.int .i64 x) ∧ 0 ≤ x ∧ x < m ∧ Drawn w w' B r A n c (k + 2) := by
  have HC := h
  have HG : w.grownBy w (some r) := World.grownBy.refl _ _
  clear h
  by_cases h1 : m ≤ 1
  · go_enter Tryz.func48, Tryz.ntmps48
    go_wp2
    go_ret
    exact ⟨0, rfl, by omega, by omega, HC.up (by omega), HG⟩
  · by_cases h2 : m ≤ 200
    · go_enter Tryz.func48, Tryz.ntmps48
      go_wp2_with (go_at_call 61; refine (next_any _ _ _ _ _ _ _ HC (by omega) hn).mono ?_; rintro e w1 ⟨x, rfl, x0, x1, hc, hg⟩; replace HC := hc; replace HG := grown_trans HG hg; clear hc hg)
      go_ret
      exact ⟨_, rfl, Int.emod_nonneg _ (by omega), Int.emod_lt_of_pos _ (by omega), HC.up (by omega), HG⟩
    · go_enter Tryz.func48, Tryz.ntmps48
      go_wp2_with (go_at_call 61; refine (next_any _ _ _ _ _ _ _ HC (by omega) hn).mono ?_; rintro e w1 ⟨x, rfl, x0, x1, hc, hg⟩; replace HC := hc; replace HG := grown_trans HG hg; clear hc hg)
      go_ret
      exact ⟨_, rfl, Int.emod_nonneg _ (by omega), Int.emod_lt_of_pos _ (by omega), HC.up (by omega), HG⟩

set_option maxHeartbeats 1600000 in
theorem one_any (B r : Nat) (A : Option Addr) (n c k : Nat) (m : Int) (w : World) (h : Cur w B r A n c k) (hk : k ≤ 900000) (hn : n ≤ 1000000000000) (m0 : 1 ≤ m) (m1 : m ≤ 65536) :
    Calls Tryz.prog 47 #[.pointer (some ⟨r, 0, none⟩), .int .i64 m] w fun e w' => ∃ b : Bool, e = .returned (.bool b) ∧ Drawn w w' B r A n c (k + 2) := by
  go_enter Tryz.func47, Tryz.ntmps47
  go_wp2_with (go_at_call 48; refine (pick_any _ _ _ _ _ _ _ _ h hk hn m0 m1).mono ?_; rintro e w1 ⟨x, rfl, x0, x1, hd⟩)
  go_ret
  exact ⟨_, rfl, hd⟩

set_option maxHeartbeats 1600000 in
theorem among_any (B r : Nat) (A : Option Addr) (n c k : Nat) (L : Option Addr) (m d : Nat) (xs : List Int) (lo hi : Nat) (w : World) (h : Cur w B r A n c k) (hk : k ≤ 900000) (hn : n ≤ 1000000000000) (hm : xs.length = m) (m0 : 1 ≤ m) (m1 : m ≤ 60000)
    (hl : Own w lo hi L (i64s xs)) (hr : r < lo ∨ hi ≤ r) (hw : hi ≤ w.heap.size) :
    Calls Tryz.prog 44 #[.pointer (some ⟨r, 0, none⟩), .slice L m d] w fun e w' => ∃ x : Int, e = .returned (.int .i64 x) ∧ x ∈ xs ∧ Drawn w w' B r A n c (k + 2) := by
  have HM := Lib.hid hm
  have HL := Lib.hid hl
  have i0 : 1 ≤ (m : Int) := by omega
  have i1 : (m : Int) ≤ 65536 := by omega
  clear hm hl
  go_enter Tryz.func44, Tryz.ntmps44
  go_wp2_with fail
  refine (pick_any _ _ _ _ _ _ _ _ h hk hn i0 i1).mono ?_
  rintro e w1 ⟨x, rfl, x0, x1, hd⟩
  obtain ⟨j, rfl⟩ := Int.eq_ofNat_of_zero_le x0
  have hj : j < m := by omega
  obtain ⟨g, o, rfl, g0, g1, hc, _⟩ := HL.out.at_ (k := j) (by simp [HM.out]; exact hj)
  have hcx : w1.cell? ⟨g, o + j, none⟩ = some (.int .i64 (xs[j]'(by rw [HM.out]; exact hj))) := by
    rw [World.cell?_of_block (w := w) (hd.grown.block g (by omega) (by intro e; injection e with e; omega)), hc]
    simp
  have hmem : Hid (xs[j]'(by rw [HM.out]; exact hj) ∈ xs) := Lib.hid (List.getElem_mem _)
  generalize xs[j]'(by rw [HM.out]; exact hj) = z at hcx hmem
  clear hc
  go_wp2
  go_ret
  exact ⟨z, rfl, hmem.out, hd⟩
end Go.Proofs.YtcfpdlkkniilpaaGreatDoor

/- The cursor's calls of chapters 1 and 3: sides, places, numbers, layers. Whatever the bytes, some numbers come out, and nothing but the cursor's box changes. -/
namespace Go.Proofs.YtcfpdlkkniilpaaGreatDoor
open Go.RowKit

theorem Cur.alloc {w : World} {B r : Nat} {A : Option Addr} {n c k : Nat} (h : Cur w B r A n c k) (hB : ∀ g, g < B → g < w.heap.size) (o : Obj) : Cur (w.alloc o) B r A n c k := by
  obtain ⟨lo, lt, c0, ⟨i, hi, c1⟩, ⟨s, s0, s1, c2⟩, f1, f2, bs⟩ := h
  have hb := (Below.refl w.heap.size w).alloc (Nat.le_refl _) o
  refine ⟨lo, Nat.lt_of_lt_of_le lt hb.size, ?_, ⟨i, hi, ?_⟩, ⟨s, s0, s1, ?_⟩, ?_, ?_, fun j hj => ?_⟩
  · rw [hb.cell (p := ⟨r, 0, none⟩) lt]; exact c0
  · rw [hb.cell (p := ⟨r, 1, none⟩) lt]; exact c1
  · rw [hb.cell (p := ⟨r, 2, none⟩) lt]; exact c2
  · rw [hb.frozen (p := ⟨r, 1, none⟩) lt]; exact f1
  · rw [hb.frozen (p := ⟨r, 2, none⟩) lt]; exact f2
  · obtain ⟨a, b, e, hg, b0, b1, hc⟩ := bs j hj
    exact ⟨a, b, e, hg, b0, b1, by rw [hb.cell (p := a.add j) (by rw [addr_blk]; exact hB _ hg)]; exact hc⟩
theorem Cur.alloc' {w : World} {B r : Nat} {A : Option Addr} {n c k : Nat} (h : Cur w B r A n c k) (o : Obj) : Cur (w.alloc o) B r A n c k :=
  h.alloc (fun g hg => by have := h.lo; have := h.lt; omega) o
/-- A list that has just been made. -/
theorem own_new (w : World) (xs : List Int) (t : TypeId) : Own (w.alloc (.cells (i64s xs).toArray t)) w.heap.size (w.alloc (.cells (i64s xs).toArray t)).heap.size (some ⟨w.heap.size, 0, none⟩) (i64s xs) := fun hn => by
  refine ⟨w.heap.size, 0, rfl, Nat.le_refl _, by simp, fun j u hu => ?_⟩
  have hj : j < (i64s xs).length := (List.getElem?_eq_some_iff.1 hu).1
  constructor
  · simp [go_sem]
    simpa using hu
  · simp [go_sem]
theorem drawn_trans {w w1 w2 : World} {B r : Nat} {A : Option Addr} {n c k k' : Nat} (h1 : w.grownBy w1 (some r)) (h2 : Drawn w1 w2 B r A n c k) (hk : k ≤ k') : Drawn w w2 B r A n c k' :=
  ⟨h2.cur.up hk, grown_trans h1 h2.grown⟩
theorem grown_alloc {w w1 : World} {r : Nat} (h : w.grownBy w1 (some r)) (o : Obj) : w.grownBy (w1.alloc o) (some r) := grown_trans h (World.grownBy_alloc w1 o _)

theorem half_bds (y z : Int) (y0 : 0 ≤ y) (y1 : y < 3) (z0 : 0 ≤ z) (z1 : z < 20) : 0 ≤ y / 2 * z ∧ y / 2 * z ≤ 19 := by
  rcases (show y / 2 = 0 ∨ y / 2 = 1 by omega) with h | h <;> rw [h] <;> omega
theorem num_mid (s k : Int) (h1 : 3 ≤ s) (h2 : s ≤ 24) (h3 : -3000000 ≤ k) (h4 : k ≤ 3000000) : 0 ≤ num s k ∧ num s k ≤ 400000000000000 := by
  have a := num_nn s k h1
  have b := num_twice s k
  obtain ⟨c0, c1, c2, c3, c4, c5, c6⟩ := num_bds s k h1 h2 h3 h4
  omega

end Go.Proofs.YtcfpdlkkniilpaaGreatDoor

/- Guards of chapter 3, and the contracts of its rules of arithmetic. -/
namespace Go.Proofs.YtcfpdlkkniilpaaGreatDoor
open Go.ChangeShapes Go.WideShapes Go.ChangeAt Go.RowKit


end Go.Proofs.YtcfpdlkkniilpaaGreatDoor

/- Simplices, cut off above MaxStacked. No program in sight. -/
namespace Go.Proofs.YtcfpdlkkniilpaaGreatDoor

/-- The cut. -/
def cutOff (v : Int) : Int := if v ≤ 1000000000001 then v else 1000000000001
theorem cutOff_of_le {v : Int} (h : v ≤ 1000000000000) : cutOff v = v := by unfold cutOff; rw [if_pos (by omega)]
theorem cutOff_of_gt {v : Int} (h : 1000000000000 < v) : cutOff v = 1000000000001 := by unfold cutOff; split <;> omega
theorem cutOff_if (v : Int) : cutOff v = if 1000000000001 < v then 1000000000001 else v := by unfold cutOff; split <;> split <;> omega
theorem cutOff_le (v : Int) : cutOff v ≤ 1000000000001 := by unfold cutOff; split <;> omega
theorem cutOff_nn {v : Int} (h : 0 ≤ v) : 0 ≤ cutOff v := by unfold cutOff; split <;> omega
/-- The simplex of dimension i and k, 1 for dimension 0, cut off. -/
def sx (k : Int) : Nat → Int
  | 0 => 1
  | i + 1 => cutOff (sx k i * (k + ((i : Int) + 1) - 1) / ((i : Int) + 1))
theorem sx_succ (k : Int) (i : Nat) : sx k (i + 1) = cutOff (sx k i * (k + ((i : Int) + 1) - 1) / ((i : Int) + 1)) := rfl
theorem sx_nn (k : Int) (hk : 0 ≤ k) (i : Nat) : 0 ≤ sx k i := by
  induction i with
  | zero => simp [sx]
  | succ i ih => exact cutOff_nn (Int.ediv_nonneg (Int.mul_nonneg ih (by omega)) (by omega))
theorem sx_le (k : Int) (i : Nat) : sx k i ≤ 1000000000001 := by
  cases i with
  | zero => simp [sx]
  | succ i => exact cutOff_le _
theorem sx_one (k : Int) (h : k ≤ 2000) : sx k 1 = k := by
  rw [sx_succ]
  have e : sx k 0 * (k + (((0 : Nat) : Int) + 1) - 1) / (((0 : Nat) : Int) + 1) = k := by
    rw [show sx k 0 = 1 from rfl]
    have e1 : (1 : Int) * (k + (((0 : Nat) : Int) + 1) - 1) = k := by omega
    rw [e1]
    simp
  rw [e]
  exact cutOff_of_le (by omega)
theorem sx_zero (i : Nat) : sx 0 (i + 1) = 0 := by
  induction i with
  | zero => exact sx_one 0 (by omega)
  | succ i ih => rw [sx_succ, ih]; simp [cutOff]
/-- What is cut off stays so. -/
theorem sx_stay (k : Int) (hk : 1 ≤ k) (i : Nat) (h : sx k i = 1000000000001) : sx k (i + 1) = 1000000000001 := by
  rw [sx_succ, h]
  refine cutOff_of_gt ?_
  have h1 : (1000000000001 : Int) * ((i : Int) + 1) ≤ 1000000000001 * (k + ((i : Int) + 1) - 1) := Int.mul_le_mul_of_nonneg_left (by omega) (by omega)
  have h2 := Int.ediv_le_ediv (a := (1000000000001 : Int) * ((i : Int) + 1)) (c := (i : Int) + 1) (by omega) h1
  rw [Int.mul_ediv_cancel _ (by omega)] at h2
  omega
theorem sx_stays (k : Int) (hk : 1 ≤ k) (i d : Nat) (h : sx k i = 1000000000001) : sx k (i + d) = 1000000000001 := by
  induction d with
  | zero => exact h
  | succ d ih => exact sx_stay k hk (i + d) ih
theorem sx_step (k : Int) (hk : 0 ≤ k) (hk2 : k ≤ 1999) (i : Nat) : sx k (i + 1) < sx (k + 1) (i + 1) ∨ (1 ≤ k ∧ sx k (i + 1) = 1000000000001 ∧ sx (k + 1) (i + 1) = 1000000000001) := by
  induction i with
  | zero => rw [sx_one k (by omega), sx_one (k + 1) (by omega)]; omega
  | succ i ih =>
    rcases ih with h | ⟨h1, h2, h3⟩
    · have a0 := sx_nn k hk (i + 1)
      have az : k = 0 → sx k (i + 1) = 0 := by rintro rfl; exact sx_zero i
      rw [sx_succ k (i + 1), sx_succ (k + 1) (i + 1)]
      generalize sx k (i + 1) = a at *
      generalize sx (k + 1) (i + 1) = b at *
      obtain ⟨c, hc⟩ : ∃ c : Int, c = ((i + 1 : Nat) : Int) + 1 := ⟨_, rfl⟩
      rw [← hc]
      have c1 : 2 ≤ c := by omega
      have hm : (a * (k + c - 1) + 1 * c) ≤ b * (k + 1 + c - 1) := by
        have h1 : (a + 1) * (k + 1 + c - 1) ≤ b * (k + 1 + c - 1) := Int.mul_le_mul_of_nonneg_right (by omega) (by omega)
        have h2 : (a + 1) * (k + 1 + c - 1) = a * (k + c - 1) + a + (k + c) := by grind
        omega
      have hd := Int.ediv_le_ediv (c := c) (by omega) hm
      rw [Int.add_mul_ediv_right _ _ (by omega)] at hd
      have vz : a = 0 → a * (k + c - 1) / c = 0 := by rintro rfl; simp
      generalize a * (k + c - 1) / c = v at *
      generalize b * (k + 1 + c - 1) / c = v' at *
      rcases Int.lt_or_le 1000000000000 v with h5 | h5
      · refine Or.inr ⟨?_, cutOff_of_gt h5, cutOff_of_gt (by omega)⟩
        rcases Int.lt_or_le 0 k with h6 | h6
        · omega
        · have := vz (az (by omega))
          omega
      · left
        rw [cutOff_of_le h5]
        unfold cutOff
        split <;> omega
    · exact Or.inr ⟨h1, sx_stay k h1 _ h2, sx_stay (k + 1) (by omega) _ h3⟩
theorem sx_mono (k : Int) (hk : 0 ≤ k) (d i : Nat) (h : k + d ≤ 2000) : sx k (i + 1) ≤ sx (k + d) (i + 1) := by
  induction d with
  | zero => simp
  | succ d ih =>
    have h1 := ih (by omega)
    have h2 := sx_step (k + d) (by omega) (by omega) i
    have e : k + ((d + 1 : Nat) : Int) = k + d + 1 := by omega
    rw [e]
    omega
theorem sx_le_of (a b : Int) (ha : 0 ≤ a) (h : a ≤ b) (hb : b ≤ 2000) (i : Nat) : sx a (i + 1) ≤ sx b (i + 1) := by
  have := sx_mono a ha (b - a).toNat i (by omega)
  rwa [show a + ((b - a).toNat : Int) = b from by omega] at this
theorem sx_lt_of (a b : Int) (ha : 0 ≤ a) (h : a < b) (hb : b ≤ 2000) (i : Nat) (hn : sx b (i + 1) ≤ 1000000000000) : sx a (i + 1) < sx b (i + 1) := by
  have h1 := sx_step a ha (by omega) i
  have h2 := sx_le_of (a + 1) b (by omega) (by omega) hb i
  omega
/-- The greatest k up to m whose simplex of dimension i + 1 is no greater than n. -/
def sl (i : Nat) (n : Int) : Nat → Nat
  | 0 => 0
  | m + 1 => if sx ((m : Int) + 1) (i + 1) ≤ n then m + 1 else sl i n m
theorem sl_is (i : Nat) (n : Int) (m : Nat) (hm : m ≤ 2000) : sl i n m ≤ m ∧ ∀ k : Nat, 1 ≤ k → k ≤ m → (sx k (i + 1) ≤ n ↔ k ≤ sl i n m) := by
  induction m with
  | zero => exact ⟨by simp [sl], fun k h1 h2 => by omega⟩
  | succ m ih =>
    obtain ⟨h1, h2⟩ := ih (by omega)
    rw [sl]
    by_cases h : sx ((m : Int) + 1) (i + 1) ≤ n
    · rw [if_pos h]
      refine ⟨by omega, fun k h3 h4 => ⟨fun _ => h4, fun _ => ?_⟩⟩
      have := sx_le_of k ((m : Int) + 1) (by omega) (by omega) (by omega) i
      omega
    · rw [if_neg h]
      refine ⟨by omega, fun k h3 h4 => ?_⟩
      rcases Nat.lt_or_ge k (m + 1) with h5 | h5
      · exact h2 k h3 (by omega)
      · have e : k = m + 1 := by omega
        subst e
        constructor
        · intro h6; exact absurd (by simpa using h6) h
        · intro h6; omega
/-- Where a simplex has n, the greatest one that fits is the first one. -/
theorem sl_first (i : Nat) (n : Int) (hn : 0 ≤ n) (h1 : n ≤ 1000000000000) (k : Nat) (hk : k ≤ 2000) (h : sx k (i + 1) = n) : k = sl i n 2000 := by
  obtain ⟨h2, h3⟩ := sl_is i n 2000 (by omega)
  rcases Nat.lt_or_ge (sl i n 2000) k with h4 | h4
  · have := (h3 k (by omega) hk).1 (by omega)
    omega
  · rcases Nat.lt_or_ge k (sl i n 2000) with h5 | h5
    · have h6 := (h3 (sl i n 2000) (by omega) h2).2 (Nat.le_refl _)
      have h7 := sx_lt_of k (sl i n 2000) (by omega) (by omega) (by omega) i (by omega)
      omega
    · omega
end Go.Proofs.YtcfpdlkkniilpaaGreatDoor

/- The laws FnExactSimplexNumber, FnExactSimplexPlace: the program's simplices are the specification's, whatever the arguments. No condition. -/
namespace Go.Proofs.YtcfpdlkkniilpaaGreatDoor
open Go.ChangeShapes Go.WideShapes Go.ChangeAt Go.RowKit

/-- What one step of a simplex asks. -/
theorem sx_bds (k : Int) (h3 : 0 ≤ k) (h4 : k ≤ 2000) (j : Nat) (hj : j < 8) : 0 ≤ sx k j * (k + ((j : Int) + 1) - 1) ∧ sx k j * (k + ((j : Int) + 1) - 1) ≤ 3000000000000000 := by
  have a0 := sx_nn k h3 j
  have a1 := sx_le k j
  refine ⟨Int.mul_nonneg a0 (by omega), ?_⟩
  have := Int.mul_le_mul (a := sx k j) (b := k + ((j : Int) + 1) - 1) (c := 1000000000001) (d := 2008) a1 (by omega) (by omega) (by omega)
  omega

/-! ### the place of a simplex -/
end Go.Proofs.YtcfpdlkkniilpaaGreatDoor

/- The drawings of chapters 1 and 3: whatever the bytes (a million at most), numbers come out, and no old memory changes. -/
namespace Go.Proofs.YtcfpdlkkniilpaaGreatDoor
open Go.ChangeShapes Go.WideShapes Go.ChangeAt Go.RowKit

/-- Bytes that can be read. -/
def Bys (w : World) (A : Option Addr) (n : Nat) : Prop := ∀ j, j < n → ∃ (a : Addr) (b : Int), A = some a ∧ a.block < w.heap.size ∧ 0 ≤ b ∧ b ≤ 255 ∧ w.cell? (a.add j) = some (.int .u8 b)
theorem Bys.below {w w' : World} {A : Option Addr} {n B : Nat} (h : Bys w A n) (hb : Below B w w') (hB : w.heap.size ≤ B) : Bys w' A n := fun j hj => by
  obtain ⟨a, b, e, hg, b0, b1, hc⟩ := h j hj
  exact ⟨a, b, e, Nat.lt_of_lt_of_le hg hb.size, b0, b1, by rw [hb.cell (p := a.add j) (by rw [addr_blk]; exact Nat.lt_of_lt_of_le hg hB)]; exact hc⟩
theorem cur_new (w : World) (A : Option Addr) (n c : Nat) (T : TypeId) (h : Bys w A n) : Cur (w.alloc (.cells #[.slice A n c, .int .i64 0, .int .u64 0] T)) w.heap.size w.heap.size A n c 0 := by
  refine ⟨Nat.le_refl _, by simp, by simp [go_sem], ⟨0, Nat.le_refl _, by simp [go_sem]⟩, ⟨0, by omega, by omega, by simp [go_sem]⟩, by simp [go_sem], by simp [go_sem], fun j hj => ?_⟩
  obtain ⟨a, b, e, hg, b0, b1, hc⟩ := h j hj
  exact ⟨a, b, e, hg, b0, b1, by rw [((Below.refl w.heap.size w).alloc (Nat.le_refl _) _).cell (p := a.add j) (by rw [addr_blk]; exact hg)]; exact hc⟩
theorem drew_below {w w' : World} {o : Obj} (h : (w.alloc o).grownBy w' (some w.heap.size)) : Below w.heap.size w w' :=
  ((Below.refl w.heap.size w).alloc (Nat.le_refl _) o).grown h (by simp) (fun k e => by cases e; exact Nat.le_refl _)
/-- A []byte argument, opened. -/
theorem view_bytes {H : Type} {enc : TypeId × Value → H} {W : World} {t e : TypeId} {A : Option Addr} {n c : Nat} {d : DataW H} {p : List MemPlace}
    (ht : Tryz.prog.underlying t = some (.slice e)) (he : Tryz.prog.underlying e = some (.int .u8)) (hc : Tryz.prog.cellsOf e = 1)
    (hf : DataW.Trod enc Tryz.prog W 0 (fun _ => true) true t (.slice A n c) d p) : n ≤ 9223372036854775807 ∧ Bys W A n := by
  obtain ⟨fuel, hf⟩ := hf
  rcases open_ints ht he hc hf with ⟨hcs, hx⟩ | ⟨a, len', cap', zs, hcs, _, hl, hm, hz, hx, hcell, hwz⟩
  · simp [Value.cells] at hcs
    obtain ⟨rfl, rfl, rfl⟩ := hcs
    exact ⟨by omega, fun j h => absurd h (by omega)⟩
  · simp [Value.cells] at hcs
    obtain ⟨rfl, rfl, rfl⟩ := hcs
    simp only [if_true] at hz
    unfold maxLen at hm
    refine ⟨by omega, fun j hj => ⟨a, zs.getD j 0, rfl, ?_, ?_, ?_, hcell j (by omega)⟩⟩
    · have h2 := hcell 0 (by omega)
      have h3 : (a.add 0) = a := rfl
      rw [h3] at h2
      rcases Nat.lt_or_ge a.block W.heap.size with h4 | h4
      · exact h4
      · simp [World.cell?, Array.getElem?_eq_none h4] at h2
    · have hw := hwz (zs.getD j 0) (by simp [List.getD, List.getElem?_eq_getElem (show j < zs.length by omega)])
      generalize zs.getD j 0 = b at hw ⊢
      simp [Lit.wf, IntKind.min, IntKind.max, IntKind.bits, IntKind.signed] at hw
      omega
    · have hw := hwz (zs.getD j 0) (by simp [List.getD, List.getElem?_eq_getElem (show j < zs.length by omega)])
      generalize zs.getD j 0 = b at hw ⊢
      simp [Lit.wf, IntKind.min, IntKind.max, IntKind.bits, IntKind.signed] at hw
      omega
def bgB (n m : Nat) : Bool := decide (1048576 < n) || decide (1048576 - (n : Int) < (m : Int))
set_option maxHeartbeats 800000 in
theorem big_any (A B : Option Addr) (n c m d : Nat) (w : World) (hn : n ≤ 9223372036854775807) (_hm : m ≤ 9223372036854775807) :
    Calls Tryz.prog 4 #[.slice A n c, .slice B m d] w fun e w' => e = .returned (.bool (bgB n m)) ∧ w = w' := by
  rcases Nat.lt_or_ge 1048576 n with h | h
  · have h1 : (1048576 : Int) < (n : Int) := by omega
    have HE : Hid (bgB n m = true) := Lib.hid (by simp [bgB, h])
    go_enter Tryz.func4, Tryz.ntmps4
    go_wp2
    go_ret
    exact ⟨by rw [HE.out]; rfl, rfl⟩
  · have h1 : ¬ (1048576 : Int) < (n : Int) := by omega
    have h2 : decide ((1048576 : Int) < (n : Int)) = false := by simp; omega
    have HE : Hid (bgB n m = decide (1048576 - (n : Int) < (m : Int))) := Lib.hid (by simp [bgB]; omega)
    go_enter Tryz.func4, Tryz.ntmps4
    go_wp2
    go_ret
    exact ⟨by rw [HE.out]; rfl, rfl⟩
theorem bg_no {n m : Nat} (h : bgB n m = false) : n ≤ 1048576 ∧ m ≤ 1048576 := by
  simp [bgB] at h
  omega
end Go.Proofs.YtcfpdlkkniilpaaGreatDoor

/- Bytes that are carried from call to call. No condition. -/
namespace Go.Proofs.YtcfpdlkkniilpaaGreatDoor
open Go.RowKit
theorem Bys.on {w w' : World} {A : Option Addr} {n : Nat} (h : Bys w A n) (hb : Below w.heap.size w w') : Bys w' A n := h.below hb (Nat.le_refl _)
/-- A cursor that lies as it lay behind a call that turns no old memory. -/
theorem Cur.on {w w' : World} {B r : Nat} {A : Option Addr} {n c k : Nat} (h : Cur w B r A n c k) (hb : Below w.heap.size w w') : Cur w' B r A n c k := by
  obtain ⟨lo, lt, c0, ⟨i, hi, c1⟩, ⟨s, s0, s1, c2⟩, f1, f2, bs⟩ := h
  refine ⟨lo, Nat.lt_of_lt_of_le lt hb.size, ?_, ⟨i, hi, ?_⟩, ⟨s, s0, s1, ?_⟩, ?_, ?_, fun j hj => ?_⟩
  · rw [hb.cell (p := ⟨r, 0, none⟩) lt]; exact c0
  · rw [hb.cell (p := ⟨r, 1, none⟩) lt]; exact c1
  · rw [hb.cell (p := ⟨r, 2, none⟩) lt]; exact c2
  · rw [hb.frozen (p := ⟨r, 1, none⟩) lt]; exact f1
  · rw [hb.frozen (p := ⟨r, 2, none⟩) lt]; exact f2
  · obtain ⟨a, b, e, hg, b0, b1, hc⟩ := bs j hj
    exact ⟨a, b, e, hg, b0, b1, by rw [hb.cell (p := a.add j) (by rw [addr_blk]; exact Nat.lt_trans (Nat.lt_of_lt_of_le hg lo) lt)]; exact hc⟩
theorem grown_below {w w1 w' : World} {r : Nat} (h : w.grownBy w1 (some r)) (hb : Below w1.heap.size w1 w') : w.grownBy w' (some r) :=
  ⟨hb.os.trans h.os, hb.tape.trans h.tape, hb.output.trans h.output, Nat.le_trans h.size hb.size, fun i hi hr => (hb.block i (Nat.lt_of_lt_of_le hi h.size)).trans (h.block i hi hr)⟩
end Go.Proofs.YtcfpdlkkniilpaaGreatDoor

/- The drawings of chapter 5's squares: whatever the bytes (a million at most), numbers come out, and no old memory changes. -/
namespace Go.Proofs.YtcfpdlkkniilpaaGreatDoor
open Go.ChangeShapes Go.WideShapes Go.ChangeAt Go.RowKit

set_option maxHeartbeats 3200000 in
set_option maxRecDepth 4000 in
theorem runned_any (B r : Nat) (A : Option Addr) (n c k : Nat) (w : World) (h : Cur w B r A n c k) (hk : k ≤ 800000) (hn : n ≤ 1000000000000) :
    Calls Tryz.prog 31 #[.pointer (some ⟨r, 0, none⟩)] w fun e w' => (∃ x : Int, e = .returned (.int .i64 x)) ∧ Drawn w w' B r A n c (k + 8) := by
  have HC := h
  have HG : w.grownBy w (some r) := World.grownBy.refl _ _
  clear h
  go_enter Tryz.func31, Tryz.ntmps31
  go_wp2_with fail
  refine (one_any _ _ _ _ _ _ _ _ HC (by omega) hn (by omega) (by omega)).mono ?_
  rintro e w1 ⟨b, rfl, hd⟩
  replace HC := hd.cur
  replace HG := grown_trans HG hd.grown
  clear hd
  cases b
  · go_wp2_with fail
    refine (one_any _ _ _ _ _ _ _ _ HC (by omega) hn (by omega) (by omega)).mono ?_
    rintro e w1 ⟨b, rfl, hd⟩
    replace HC := hd.cur
    replace HG := grown_trans HG hd.grown
    clear hd
    cases b
    · go_wp2_with fail
      refine (pick_any _ _ _ _ _ _ _ _ HC (by omega) hn (by omega) (by omega)).mono ?_
      rintro e w1 ⟨x, rfl, x0, x1, hd⟩
      replace HC := hd.cur
      replace HG := grown_trans HG hd.grown
      clear hd
      have hx2 : IntKind.i64.wrap (1 + x) = 1 + x := IntWalk.i64_in _ (by omega)
      go_wp2
      go_ret
      exact ⟨⟨_, rfl⟩, HC.up (by omega), HG⟩
    · go_wp2_with fail
      refine (among_any _ _ _ _ _ _ _ 14 _ [1, 2, 4, 8, 9, 15, 16, 27, 45, 64, 105, 225, 720, 945] _ _ _ (HC.alloc' _) (by omega) hn rfl (by omega) (by omega) (own_new _ [1, 2, 4, 8, 9, 15, 16, 27, 45, 64, 105, 225, 720, 945] _) (Or.inl HC.lt) (Nat.le_refl _)).mono ?_
      rintro e w1 ⟨x, rfl, xm, hd⟩
      replace HC := hd.cur
      replace HG := grown_trans (grown_alloc HG _) hd.grown
      clear hd
      go_wp2
      go_ret
      exact ⟨⟨x, rfl⟩, HC.up (by omega), HG⟩
  · go_wp2_with fail
    refine (among_any _ _ _ _ _ _ _ 6 _ [-1, 0, 1, 1000000, 1000001, 999999] _ _ _ (HC.alloc' _) (by omega) hn rfl (by omega) (by omega) (own_new _ [-1, 0, 1, 1000000, 1000001, 999999] _) (Or.inl HC.lt) (Nat.le_refl _)).mono ?_
    rintro e w1 ⟨x, rfl, xm, hd⟩
    replace HC := hd.cur
    replace HG := grown_trans (grown_alloc HG _) hd.grown
    clear hd
    go_wp2
    go_ret
    exact ⟨⟨x, rfl⟩, HC.up (by omega), HG⟩

set_option maxHeartbeats 3200000 in
set_option maxRecDepth 4000 in
theorem DrawRunsOf_any (A : Option Addr) (n c : Nat) (w : World) (h : Bys w A n) (hn : n ≤ 1000000000000) :
    Calls Tryz.prog 5 #[.slice A n c] w fun e w' => (∃ x : Int, e = .returned (.int .i64 x)) ∧ Below w.heap.size w w' := by
  have HC := cur_new w A n c 50 h
  have HG : (w.alloc (.cells #[.slice A n c, .int .i64 0, .int .u64 0] 50)).grownBy (w.alloc (.cells #[.slice A n c, .int .i64 0, .int .u64 0] 50)) (some w.heap.size) := World.grownBy.refl _ _
  go_enter Tryz.func5, Tryz.ntmps5
  go_upto_region 2 with (fail)
  generalize hw0 : w.alloc (.cells #[.slice A n c, .int .i64 0, .int .u64 0] 50) = w0 at HC HG ⊢
  have HW := Lib.hid hw0
  clear hw0
  go_wp2_with fail
  refine (runned_any _ _ _ _ _ _ _ HC (by omega) hn).mono ?_
  rintro e w1 ⟨⟨x, rfl⟩, hd⟩
  replace HC := hd.cur
  replace HG := grown_trans HG hd.grown
  clear hd
  go_wp2
  go_ret
  exact ⟨⟨x, rfl⟩, drew_below (by rw [HW.out]; exact HG)⟩

set_option maxHeartbeats 3200000 in
set_option maxRecDepth 4000 in
theorem DrawCubeAsOdds_any (A : Option Addr) (n c : Nat) (w : World) (h : Bys w A n) (hn : n ≤ 1000000000000) :
    Calls Tryz.prog 51 #[.slice A n c] w fun e w' => (∃ x : Int, e = .returned (.int .i64 x)) ∧ Below w.heap.size w w' := by
  have HC := cur_new w A n c 50 h
  have HG : (w.alloc (.cells #[.slice A n c, .int .i64 0, .int .u64 0] 50)).grownBy (w.alloc (.cells #[.slice A n c, .int .i64 0, .int .u64 0] 50)) (some w.heap.size) := World.grownBy.refl _ _
  go_enter Tryz.func51, Tryz.ntmps51
  go_upto_region 2 with (fail)
  generalize hw0 : w.alloc (.cells #[.slice A n c, .int .i64 0, .int .u64 0] 50) = w0 at HC HG ⊢
  have HW := Lib.hid hw0
  clear hw0
  go_wp2_with fail
  refine (among_any _ _ _ _ _ _ _ 9 _ [1, 2, 3, 4, 5, 10, 1000, 1001, 0] _ _ _ (HC.alloc' _) (by omega) hn rfl (by omega) (by omega) (own_new _ [1, 2, 3, 4, 5, 10, 1000, 1001, 0] _) (Or.inl HC.lt) (Nat.le_refl _)).mono ?_
  rintro e w1 ⟨x, rfl, xm, hd⟩
  replace HC := hd.cur
  replace HG := grown_trans (grown_alloc HG _) hd.grown
  clear hd
  go_wp2
  go_ret
  exact ⟨⟨x, rfl⟩, drew_below (by rw [HW.out]; exact HG)⟩

end Go.Proofs.YtcfpdlkkniilpaaGreatDoor

/- The drawings of chapter 6: whatever the bytes (a million at most), numbers and spots come out, and no old memory changes. -/
namespace Go.Proofs.YtcfpdlkkniilpaaGreatDoor
open Go.ChangeShapes Go.WideShapes Go.ChangeAt Go.RowKit

/-- A box of two numbers that is written at the end. -/
structure Spt (w : World) (R : Nat) : Prop where
  z : R < w.heap.size
  c0 : ∃ a : Int, w.cell? ⟨R, 0, none⟩ = some (.int .i64 a)
  c1 : ∃ a : Int, w.cell? ⟨R, 1, none⟩ = some (.int .i64 a)
  f0 : w.frozen? ⟨R, 0, none⟩ = false
  f1 : w.frozen? ⟨R, 1, none⟩ = false
theorem spt_new (w : World) (T : TypeId) : Spt (w.alloc (.cells #[.int .i64 0, .int .i64 0] T)) w.heap.size := ⟨by simp, ⟨0, by simp [go_sem]⟩, ⟨0, by simp [go_sem]⟩, by simp [go_sem], by simp [go_sem]⟩
theorem Spt.on {w w' : World} {R : Nat} (h : Spt w R) (hb : Below w.heap.size w w') : Spt w' R := by
  obtain ⟨z, ⟨a, c0⟩, ⟨b, c1⟩, f0, f1⟩ := h
  exact ⟨Nat.lt_of_lt_of_le z hb.size, ⟨a, (hb.cell (p := ⟨R, 0, none⟩) z).trans c0⟩, ⟨b, (hb.cell (p := ⟨R, 1, none⟩) z).trans c1⟩, (hb.frozen (p := ⟨R, 0, none⟩) z).trans f0, (hb.frozen (p := ⟨R, 1, none⟩) z).trans f1⟩
theorem Spt.grown {w w' : World} {R r : Nat} (h : Spt w R) (hg : w.grownBy w' (some r)) (hne : R ≠ r) : Spt w' R := by
  obtain ⟨z, ⟨a, c0⟩, ⟨b, c1⟩, f0, f1⟩ := h
  have hb := hg.block R z (by intro e; injection e with e; exact hne e)
  exact ⟨Nat.lt_of_lt_of_le z hg.size, ⟨a, (World.cell?_of_block (a := ⟨R, 0, none⟩) hb).trans c0⟩, ⟨b, (World.cell?_of_block (a := ⟨R, 1, none⟩) hb).trans c1⟩, (World.frozen?_of_block (a := ⟨R, 0, none⟩) hb).trans f0, (World.frozen?_of_block (a := ⟨R, 1, none⟩) hb).trans f1⟩
theorem grown_far {w w' : World} {r R : Nat} (h : w.grownBy w' (some r)) (hR : w.heap.size ≤ R) (o : Nat) (v : Value) : w.grownBy (w'.setCell ⟨R, o, none⟩ v) (some r) where
  os := h.os
  tape := h.tape
  output := h.output
  size := by simpa [World.setCell] using h.size
  block := fun i hi hr => by rw [← h.block i hi hr]; exact Below.heap_setCell _ _ _ _ (fun e => by have e : R = i := by first | exact e | exact e.symm
                                                                                                   omega)
theorem Cur.far {w : World} {B r R : Nat} {A : Option Addr} {n c k : Nat} (h : Cur w B r A n c k) (hne : R ≠ r) (hlo : B ≤ R) (o : Nat) (v : Value) : Cur (w.setCell ⟨R, o, none⟩ v) B r A n c k := by
  obtain ⟨lo, lt, c0, ⟨i, hi, c1⟩, ⟨s, s0, s1, c2⟩, f1, f2, bs⟩ := h
  have hb : ∀ g, g ≠ R → (w.setCell ⟨R, o, none⟩ v).heap[g]? = w.heap[g]? := fun g hg => Below.heap_setCell _ _ _ _ (fun e => by first | exact hg e | exact hg e.symm)
  have hr := hb r (fun e => hne e.symm)
  refine ⟨lo, by simpa [World.setCell] using lt, ?_, ⟨i, hi, ?_⟩, ⟨s, s0, s1, ?_⟩, ?_, ?_, fun j hj => ?_⟩
  · exact (World.cell?_of_block (a := ⟨r, 0, none⟩) hr).trans c0
  · exact (World.cell?_of_block (a := ⟨r, 1, none⟩) hr).trans c1
  · exact (World.cell?_of_block (a := ⟨r, 2, none⟩) hr).trans c2
  · exact (World.frozen?_of_block (a := ⟨r, 1, none⟩) hr).trans f1
  · exact (World.frozen?_of_block (a := ⟨r, 2, none⟩) hr).trans f2
  · obtain ⟨a, b, e, hg, b0, b1, hc⟩ := bs j hj
    exact ⟨a, b, e, hg, b0, b1, (World.cell?_of_block (a := a.add j) (by rw [addr_blk]; exact hb _ (by omega))).trans hc⟩

end Go.Proofs.YtcfpdlkkniilpaaGreatDoor

/- The drawings of chapter 5's runs: whatever the bytes (a million at most), numbers and runs come out, and no old memory changes. -/
namespace Go.Proofs.YtcfpdlkkniilpaaGreatDoor
open Go.ChangeShapes Go.WideShapes Go.ChangeAt Go.RowKit

set_option maxHeartbeats 3200000 in
set_option maxRecDepth 4000 in
theorem DrawSumOfRun_any (A : Option Addr) (n c : Nat) (w : World) (h : Bys w A n) (hn : n ≤ 1000000000000) :
    Calls Tryz.prog 22 #[.slice A n c] w fun e w' => (∃ x y : Int, e = .returned (.agg #[.int .i64 x, .int .i64 y])) ∧ Below w.heap.size w w' := by
  go_enter Tryz.func22, Tryz.ntmps22
  go_upto_region 1 with (fail)
  have HX := spt_new w 31
  have hB0 : Below w.heap.size w (w.alloc (.cells #[.int .i64 0, .int .i64 0] 31)) := below_on _
  have hRl : w.heap.size ≤ w.heap.size := Nat.le_refl _
  replace h := h.on hB0
  generalize w.alloc (.cells #[.int .i64 0, .int .i64 0] 31) = w9 at h HX hB0 ⊢
  have HC := cur_new w9 A n c 50 h
  have HG : (w9.alloc (.cells #[.slice A n c, .int .i64 0, .int .u64 0] 50)).grownBy (w9.alloc (.cells #[.slice A n c, .int .i64 0, .int .u64 0] 50)) (some w9.heap.size) := World.grownBy.refl _ _
  have hne : w.heap.size ≠ w9.heap.size := Nat.ne_of_lt HX.z
  replace HX := HX.on (below_on (.cells #[.slice A n c, .int .i64 0, .int .u64 0] 50))
  go_upto_region 2 with (fail)
  generalize hw0 : w9.alloc (.cells #[.slice A n c, .int .i64 0, .int .u64 0] 50) = w0 at HC HG HX ⊢
  have HW := Lib.hid hw0
  clear hw0
  go_wp2_with fail
  refine (one_any _ _ _ _ _ _ _ _ HC (by omega) hn (by omega) (by omega)).mono ?_
  rintro e w1 ⟨b, rfl, hd⟩
  replace HC := hd.cur
  replace HG := grown_trans HG hd.grown
  replace HX := HX.grown hd.grown hne
  clear hd
  cases b
  · go_wp2_with fail
    refine (pick_any _ _ _ _ _ _ _ _ HC (by omega) hn (by omega) (by omega)).mono ?_
    rintro e w1 ⟨x, rfl, x0, x1, hd⟩
    replace HC := hd.cur
    replace HG := grown_trans HG hd.grown
    replace HX := HX.grown hd.grown hne
    clear hd
    go_wp2_with fail
    refine (pick_any _ _ _ _ _ _ _ _ HC (by omega) hn (by omega) (by omega)).mono ?_
    rintro e w1 ⟨y, rfl, y0, y1, hd⟩
    replace HC := hd.cur
    replace HG := grown_trans HG hd.grown
    replace HX := HX.grown hd.grown hne
    clear hd
    have hx8 : IntKind.i64.wrap (x - 30) = x - 30 := IntWalk.i64_in _ (by omega)
    obtain ⟨hz, ⟨p0, c0⟩, ⟨p1, c1⟩, f0, f1⟩ := HX
    go_wp2
    exact bodyPost_ret (v := .agg #[.int .i64 (x - 30), .int .i64 (y)]) (by simp [results, Tryz.results22, go_sem, c0, c1]) rfl ⟨⟨_, _, rfl⟩, (((hB0.trans ((drew_below (by rw [HW.out]; exact HG)).mono hB0.size)).setCell hRl _).setCell hRl _)⟩
  · go_wp2_with fail
    refine (among_any _ _ _ _ _ _ _ 4 _ [-1000001, -1000000, 1000000, 1000001] _ _ _ (HC.alloc' _) (by omega) hn rfl (by omega) (by omega) (own_new _ [-1000001, -1000000, 1000000, 1000001] _) (Or.inl HC.lt) (Nat.le_refl _)).mono ?_
    rintro e w1 ⟨x, rfl, xm, hd⟩
    replace HC := hd.cur
    replace HG := grown_trans (grown_alloc HG _) hd.grown
    replace HX := (HX.on (below_on _)).grown hd.grown hne
    clear hd
    go_wp2_with fail
    refine (among_any _ _ _ _ _ _ _ 4 _ [-1, 0, 1000000, 1000001] _ _ _ (HC.alloc' _) (by omega) hn rfl (by omega) (by omega) (own_new _ [-1, 0, 1000000, 1000001] _) (Or.inl HC.lt) (Nat.le_refl _)).mono ?_
    rintro e w1 ⟨y, rfl, ym, hd⟩
    replace HC := hd.cur
    replace HG := grown_trans (grown_alloc HG _) hd.grown
    replace HX := (HX.on (below_on _)).grown hd.grown hne
    clear hd
    obtain ⟨hz, ⟨p0, c0⟩, ⟨p1, c1⟩, f0, f1⟩ := HX
    go_wp2
    exact bodyPost_ret (v := .agg #[.int .i64 (x), .int .i64 (y)]) (by simp [results, Tryz.results22, go_sem, c0, c1]) rfl ⟨⟨_, _, rfl⟩, (((hB0.trans ((drew_below (by rw [HW.out]; exact HG)).mono hB0.size)).setCell hRl _).setCell hRl _)⟩

set_option maxHeartbeats 3200000 in
set_option maxRecDepth 4000 in
theorem DrawSumOfSquaresRun_any (A : Option Addr) (n c : Nat) (w : World) (h : Bys w A n) (hn : n ≤ 1000000000000) :
    Calls Tryz.prog 24 #[.slice A n c] w fun e w' => (∃ x y : Int, e = .returned (.agg #[.int .i64 x, .int .i64 y])) ∧ Below w.heap.size w w' := by
  go_enter Tryz.func24, Tryz.ntmps24
  go_upto_region 1 with (fail)
  have HX := spt_new w 31
  have hB0 : Below w.heap.size w (w.alloc (.cells #[.int .i64 0, .int .i64 0] 31)) := below_on _
  have hRl : w.heap.size ≤ w.heap.size := Nat.le_refl _
  replace h := h.on hB0
  generalize w.alloc (.cells #[.int .i64 0, .int .i64 0] 31) = w9 at h HX hB0 ⊢
  have HC := cur_new w9 A n c 50 h
  have HG : (w9.alloc (.cells #[.slice A n c, .int .i64 0, .int .u64 0] 50)).grownBy (w9.alloc (.cells #[.slice A n c, .int .i64 0, .int .u64 0] 50)) (some w9.heap.size) := World.grownBy.refl _ _
  have hne : w.heap.size ≠ w9.heap.size := Nat.ne_of_lt HX.z
  replace HX := HX.on (below_on (.cells #[.slice A n c, .int .i64 0, .int .u64 0] 50))
  go_upto_region 2 with (fail)
  generalize hw0 : w9.alloc (.cells #[.slice A n c, .int .i64 0, .int .u64 0] 50) = w0 at HC HG HX ⊢
  have HW := Lib.hid hw0
  clear hw0
  go_wp2_with fail
  refine (one_any _ _ _ _ _ _ _ _ HC (by omega) hn (by omega) (by omega)).mono ?_
  rintro e w1 ⟨b, rfl, hd⟩
  replace HC := hd.cur
  replace HG := grown_trans HG hd.grown
  replace HX := HX.grown hd.grown hne
  clear hd
  cases b
  · go_wp2_with fail
    refine (pick_any _ _ _ _ _ _ _ _ HC (by omega) hn (by omega) (by omega)).mono ?_
    rintro e w1 ⟨x, rfl, x0, x1, hd⟩
    replace HC := hd.cur
    replace HG := grown_trans HG hd.grown
    replace HX := HX.grown hd.grown hne
    clear hd
    go_wp2_with fail
    refine (pick_any _ _ _ _ _ _ _ _ HC (by omega) hn (by omega) (by omega)).mono ?_
    rintro e w1 ⟨y, rfl, y0, y1, hd⟩
    replace HC := hd.cur
    replace HG := grown_trans HG hd.grown
    replace HX := HX.grown hd.grown hne
    clear hd
    have hx8 : IntKind.i64.wrap (x - 20) = x - 20 := IntWalk.i64_in _ (by omega)
    obtain ⟨hz, ⟨p0, c0⟩, ⟨p1, c1⟩, f0, f1⟩ := HX
    go_wp2
    exact bodyPost_ret (v := .agg #[.int .i64 (x - 20), .int .i64 (y)]) (by simp [results, Tryz.results24, go_sem, c0, c1]) rfl ⟨⟨_, _, rfl⟩, (((hB0.trans ((drew_below (by rw [HW.out]; exact HG)).mono hB0.size)).setCell hRl _).setCell hRl _)⟩
  · go_wp2_with fail
    refine (among_any _ _ _ _ _ _ _ 4 _ [-1001, -1000, 1000, 1001] _ _ _ (HC.alloc' _) (by omega) hn rfl (by omega) (by omega) (own_new _ [-1001, -1000, 1000, 1001] _) (Or.inl HC.lt) (Nat.le_refl _)).mono ?_
    rintro e w1 ⟨x, rfl, xm, hd⟩
    replace HC := hd.cur
    replace HG := grown_trans (grown_alloc HG _) hd.grown
    replace HX := (HX.on (below_on _)).grown hd.grown hne
    clear hd
    go_wp2_with fail
    refine (among_any _ _ _ _ _ _ _ 4 _ [-1, 0, 1000, 1001] _ _ _ (HC.alloc' _) (by omega) hn rfl (by omega) (by omega) (own_new _ [-1, 0, 1000, 1001] _) (Or.inl HC.lt) (Nat.le_refl _)).mono ?_
    rintro e w1 ⟨y, rfl, ym, hd⟩
    replace HC := hd.cur
    replace HG := grown_trans (grown_alloc HG _) hd.grown
    replace HX := (HX.on (below_on _)).grown hd.grown hne
    clear hd
    obtain ⟨hz, ⟨p0, c0⟩, ⟨p1, c1⟩, f0, f1⟩ := HX
    go_wp2
    exact bodyPost_ret (v := .agg #[.int .i64 (x), .int .i64 (y)]) (by simp [results, Tryz.results24, go_sem, c0, c1]) rfl ⟨⟨_, _, rfl⟩, (((hB0.trans ((drew_below (by rw [HW.out]; exact HG)).mono hB0.size)).setCell hRl _).setCell hRl _)⟩

set_option maxHeartbeats 3200000 in
set_option maxRecDepth 4000 in
theorem DrawNoRunUpTo_any (A : Option Addr) (n c : Nat) (w : World) (h : Bys w A n) (hn : n ≤ 1000000000000) :
    Calls Tryz.prog 19 #[.slice A n c] w fun e w' => (∃ x : Int, e = .returned (.int .i64 x)) ∧ Below w.heap.size w w' := by
  have HC := cur_new w A n c 50 h
  have HG : (w.alloc (.cells #[.slice A n c, .int .i64 0, .int .u64 0] 50)).grownBy (w.alloc (.cells #[.slice A n c, .int .i64 0, .int .u64 0] 50)) (some w.heap.size) := World.grownBy.refl _ _
  go_enter Tryz.func19, Tryz.ntmps19
  go_upto_region 2 with (fail)
  generalize hw0 : w.alloc (.cells #[.slice A n c, .int .i64 0, .int .u64 0] 50) = w0 at HC HG ⊢
  have HW := Lib.hid hw0
  clear hw0
  go_wp2_with fail
  refine (among_any _ _ _ _ _ _ _ 11 _ [0, 1, 2, 3, 10, 16, 100, 5000, 5001, -1, 64] _ _ _ (HC.alloc' _) (by omega) hn rfl (by omega) (by omega) (own_new _ [0, 1, 2, 3, 10, 16, 100, 5000, 5001, -1, 64] _) (Or.inl HC.lt) (Nat.le_refl _)).mono ?_
  rintro e w1 ⟨x, rfl, xm, hd⟩
  replace HC := hd.cur
  replace HG := grown_trans (grown_alloc HG _) hd.grown
  clear hd
  go_wp2
  go_ret
  exact ⟨⟨x, rfl⟩, drew_below (by rw [HW.out]; exact HG)⟩

theorem DrawSameSums_any (A : Option Addr) (n c : Nat) (w : World) (h : Bys w A n) (hn : n ≤ 1000000000000) :
    Calls Tryz.prog 27 #[.slice A n c] w fun e w' => (∃ x : Int, e = .returned (.int .i64 x)) ∧ Below w.heap.size w w' := by
  go_enter Tryz.func27, Tryz.ntmps27
  go_wp2_with fail
  refine (DrawCubeAsOdds_any A n c _ h hn).mono ?_
  rintro e w1 ⟨⟨x, rfl⟩, hb⟩
  go_wp2
  go_ret
  exact ⟨⟨x, rfl⟩, hb⟩

end Go.Proofs.YtcfpdlkkniilpaaGreatDoor
