/- The program's map of needs; the fewest parts. -/
import Derived.Test.YtlcmlfodhjmdiaaDoorCoT
import Derived.Maps.Own
import Derived.Maps.OwnOps
import Derived.Maps.OwnSet
import Derived.Maps.Views
namespace Go.Proofs.YtlcmlfodhjmdiaaDoor
open Go.ChangeShapes Go.WideShapes Go.ChangeAt Go.RowKit Go.Maps

/-- The needs of 0, .., k - 1, as a map reads. -/
noncomputable def ND (s : Int) : Nat → DataW Unit
  | 0 => .map []
  | k + 1 => (ND s k).put (.int .i64 (k : Int)) (.lit (.int .i64 (need s k)))
theorem nd_map (s : Int) (k : Nat) : IsMap (ND s k) := by
  cases k with
  | zero => exact isMap_empty
  | succ k =>
    induction k with
    | zero => exact isMap_empty.put _ _
    | succ k ih => exact IsMap.put ih _ _
theorem nd_at (s : Int) (k j : Nat) (h : j < k) (z : DataW Unit) : (ND s k).atKey (.int .i64 (j : Int)) z = .lit (.int .i64 (need s j)) := by
  induction k with
  | zero => omega
  | succ k ih =>
    rw [ND]
    by_cases e : j = k
    · subst e
      exact atKey_put_same (nd_map s j) (by simp [WideAt.IsKeyLit]) _ _
    · rw [atKey_put_other (by simp; omega)]
      exact ih (by omega)
theorem wf64 (a : Int) (h1 : -9223372036854775808 ≤ a) (h2 : a ≤ 9223372036854775807) : (Lit.int .i64 a).wf = true := by
  simp [Lit.wf, IntKind.min, IntKind.max, IntKind.bits, IntKind.signed]
  omega
theorem keyI : Keyed Tryd.prog 3 := int_keyed Tryd.underlying3
theorem zeroI (w : World) : (zeroValue 3).run Tryd.prog w = .ok (.int .i64 0) w := by kernel_rfl

set_option maxRecDepth 100000 in
set_option maxHeartbeats 3200000 in
theorem needsUpTo_any (s : Int) (N : Nat) (w : World) (h1 : 3 ≤ s) (h2 : s ≤ 24) (hN : N ≤ 3000) (hT : TabAt 0 Lib.deBruijn32tab w) (hg : 0 < w.heap.size) :
    Calls Tryd.prog 32 #[.int .i64 s, .int .i64 N] w fun e w' => (∃ b, e = .returned (.map (some b)) ∧ w.heap.size ≤ b ∧ w'.ownsMap Tryd.prog 3 (plainElem Tryd.prog 3) b (N + 1) (ND s (N + 1))) ∧ Below w.heap.size w w' := by
  have p0 := pl_nn s N h1 (by omega)
  have p1 := pl_77 s N h1 (by omega) (by omega)
  have HNP := Lib.hid (fun w => numbersByPlace_any s N w h1 h2 hN)
  have HCP := Lib.hid (fun base0 g0 c0 w => countsByPlace_any s N base0 g0 c0 w h1 h2 hN)
  have HCT : Hid (∀ m : Nat, m ≤ N → T s (pl s N).toNat m ≠ 0 ∧ Lib.ctz 32 (T s (pl s N).toNat m) = need s m) := Lib.hid (fun m hm => ctz_T s m _ h1 h2 (by omega) (by omega) (by
    have h3 := pl_is s m h1 (by omega)
    have h5 := h3.2.1
    have := (fits_iff s N (pl s m) h1 (by omega) h3.1).1 (by omega)
    omega))
  have hK : (pl s N).toNat ≤ 77 := by omega
  generalize (pl s N).toNat = K at *
  have hmm : ∀ (x : Int) (w : World), (Instr.makeMap 36 (some (.int .i64 x))).run Tryd.prog w = .ok (.map (some w.heap.size)) (w.alloc (.map #[] 0)) := fun x w => by
    simp [Instr.makeMap, run_underlying Tryd.underlying36, asInt, asIntOf]
  have HTB := Lib.hid hT
  clear hT
  go_enter Tryd.func32, Tryd.ntmps32
  go_wp2_with (first
    | (go_at_call 40; refine (HNP.out _).mono ?_; rintro e w1 ⟨⟨g, c, rfl, hr⟩, hb⟩; have HR := Lib.hid hr; clear hr)
    | (go_at_call 42; refine (HCP.out _ _ _ _ HR.out).mono ?_; rintro e w2 ⟨⟨v, rs, rfl, hl, hws⟩, hb2⟩; have HL := Lib.hid hl; have HW := Lib.hid hws; clear hl hws)
    | (go_at_call 41; refine (lastCo_any _ _ _ _ _ _ HW.out (by rw [HL.out]; omega) (by rw [HL.out]; omega)).mono ?_; rintro e w3 ⟨⟨g3, c3, rfl, hr3⟩, rfl⟩; have HR3 := Lib.hid hr3; clear hr3))
  have hbA : Below (w.heap.size + 1) (w.alloc (.map #[] 0)) w2 := by
    have a1 := hb
    have a2 := hb2.mono hb.size
    simp only [World.size_alloc] at a1 a2
    exact a1.trans a2
  have hmap : w2.ownsMap Tryd.prog 3 (plainElem (H := Unit) Tryd.prog 3) w.heap.size 0 (ND s 0) :=
    (World.ownsMap_made w Tryd.prog 3 (plainElem (H := Unit) Tryd.prog 3)).kept (row := none) ⟨hbA.os, hbA.tape, hbA.output, hbA.size, fun k hk _ => hbA.block k (by simpa using hk)⟩ (by simp)
  have hB0 : Below w.heap.size w w2 := ((Below.refl _ w).alloc (Nat.le_refl _) _).trans (hbA.mono (by omega))
  have hr3 : Roc w2 (w.heap.size + 1) g3 (N + 1) c3 (fun m => (T s K m : Int)) := by
    have h := HR3.out
    rw [HL.out, Nat.add_sub_cancel] at h
    exact h.wide (by have := hb.size; simp at this; omega)
  have HM := Lib.hid hmap
  have HR4 := Lib.hid hr3
  clear hmap hr3 hb hb2 hbA
  go_loopw [18] (fun i wr => ∃ k : Nat, k ≤ N + 1 ∧ i = .int .i64 k ∧ Hid (wr.ownsMap Tryd.prog 3 (plainElem (H := Unit) Tryd.prog 3) w.heap.size k (ND s k)) ∧ Hid (Roc wr (w.heap.size + 1) g3 (N + 1) c3 (fun m => (T s K m : Int))) ∧ Below w.heap.size w wr) (fun i _ => N + 1 - (intOf i).toNat)
  case atStart => exact ⟨0, Nat.zero_le _, rfl, HM, HR4, hB0⟩
  case round =>
    obtain ⟨k, hk, rfl, hown, hrow, hb⟩ := hrel
    by_cases hlt : k < N + 1
    · have hkI : (k : Int) < (N : Int) + 1 := by omega
      have hc := hrow.out.cell (j := k) hlt
      obtain ⟨hx0, hxc⟩ := HCT.out k (by omega)
      have hxl := T_lt s K k
      have HTw := Lib.hid (TabAt.below HTB.out hb hg)
      have hng := need_sides s k h1 h2 (by omega) (by omega)
      have hnd : ND s (k + 1) = (ND s k).put (.int .i64 (k : Int)) (.lit (.int .i64 (need s k))) := rfl
      have HND := Lib.hid hnd
      have HXC := Lib.hid hxc
      generalize T s K k = x at *
      clear hnd hxc
      go_wp2_with (first
        | (go_at_call 43; refine (least_any _ _ hx0 hxl HTw.out).mono ?_; rw [HXC.out]; rintro e w' ⟨rfl, rfl⟩)
        | (at_mapUpdate; refine wpList_mapUpdate_own _ rfl _ _ _ 36 rfl 3 3 keyI Tryd.underlying36 _ w.heap.size k _ rfl hown.out (by unfold maxLen; omega) _ _ _ rfl rfl (keyOf_int_mk Tryd.underlying3 (wf64 _ (by omega) (by omega))) _ [] (plainElem_int Tryd.underlying3 (wf64 _ (by omega) (by omega))) ?_; intro w5 hown5 hgrow5))
      have hb5 : Below w.heap.size w w5 := hb.grown hgrow5 hb.size (fun j hj => by cases hj; exact Nat.le_refl _)
      have hr5 : Roc w5 (w.heap.size + 1) g3 (N + 1) c3 (fun m => (T s K m : Int)) := World.ownsRow.kept hrow.out hgrow5 (Or.inr (by
        have := hrow.out.lt
        simp [Value.ownBlock]
        omega))
      have HO5 : Hid (w5.ownsMap Tryd.prog 3 (plainElem (H := Unit) Tryd.prog 3) w.heap.size (k + 1) (ND s (k + 1))) := Lib.hid (by rw [HND.out]; exact hown5)
      have HR5 := Lib.hid hr5
      clear hown5 hgrow5 hr5 hc
      go_wp2
      go_roundw
      case rel => exact ⟨k + 1, by omega, by go_num, HO5, HR5, hb5⟩
      case measure => simp [intOf]; omega
    · obtain rfl : k = N + 1 := by omega
      go_wp2
      go_ret
      exact ⟨⟨_, rfl, Nat.le_refl _, hown.out⟩, hb⟩
end Go.Proofs.YtlcmlfodhjmdiaaDoor
