/- The program's map of needs over whatever rising numbers. -/
import Derived.Test.YtegbikakfckehaaDoorCoT
import Derived.Test.YtegbikakfckehaaDoorSgS
import Derived.Maps.Own
import Derived.Maps.OwnOps
import Derived.Maps.OwnSet
import Derived.Maps.Views
namespace Go.Proofs.YtegbikakfckehaaDoor
open Go.ChangeShapes Go.WideShapes Go.ChangeAt Go.RowKit Go.Maps

theorem gctz_T (s : Int → Int) (m : Int) (K : Nat) (h1 : Sq s) (hn : gNeed s m ≤ 31) (h3 : 0 ≤ m) (hK : lst s m ≤ K) : gT s K m ≠ 0 ∧ Lib.ctz 32 (gT s K m) = gNeed s m := by
  have h5 := gNeed_is s h1 m h3
  have b1 : (gT s K m).testBit (gNeed s m) = true := by
    rw [gT_bit]
    have h6 := (gRep_pl s h1 _ m h3 K hK).1 h5.1
    simp [h6]
    omega
  have h0 : gT s K m ≠ 0 := by
    intro e
    rw [e] at b1
    simp at b1
  refine ⟨h0, ?_⟩
  have hlt := gT_lt s K m
  have c1 := ctz_bit (gT s K m) (gNeed s m) h0 (by omega)
  have hle : ¬ gNeed s m < Lib.ctz 32 (gT s K m) := fun h => by
    have := c1.2 h
    rw [b1] at this
    cases this
  have hge : ¬ Lib.ctz 32 (gT s K m) < gNeed s m := fun h => by
    have h7 := c1.1
    rw [gT_bit] at h7
    simp at h7
    exact h5.2 _ h ⟨K, h7.2⟩
  omega

/-- The needs of 0, .., k - 1, as a map reads. -/
noncomputable def gND (s : Int → Int) : Nat → DataW Unit
  | 0 => .map []
  | k + 1 => (gND s k).put (.int .i64 (k : Int)) (.lit (.int .i64 (gNeed s k)))
theorem gnd_map (s : Int → Int) (k : Nat) : IsMap (gND s k) := by
  cases k with
  | zero => exact isMap_empty
  | succ k =>
    induction k with
    | zero => exact isMap_empty.put _ _
    | succ k ih => exact IsMap.put ih _ _
theorem gnd_at (s : Int → Int) (k j : Nat) (h : j < k) (z : DataW Unit) : (gND s k).atKey (.int .i64 (j : Int)) z = .lit (.int .i64 (gNeed s j)) := by
  induction k with
  | zero => omega
  | succ k ih =>
    rw [gND]
    by_cases e : j = k
    · subst e
      exact atKey_put_same (gnd_map s j) (by simp [WideAt.IsKeyLit]) _ _
    · rw [atKey_put_other (by simp; omega)]
      exact ih (by omega)
theorem wf64 (a : Int) (h1 : -9223372036854775808 ≤ a) (h2 : a ≤ 9223372036854775807) : (Lit.int .i64 a).wf = true := by
  simp [Lit.wf, IntKind.min, IntKind.max, IntKind.bits, IntKind.signed]
  omega
theorem keyI : Keyed Tryd.prog 3 := int_keyed Tryd.underlying3
theorem zeroI (w : World) : (zeroValue 3).run Tryd.prog w = .ok (.int .i64 0) w := by kernel_rfl

set_option maxRecDepth 100000 in
set_option maxHeartbeats 3200000 in
theorem gneedsUpTo_any (s : Int → Int) (N base0 g0 c0 : Nat) (w : World) (h1 : Sq s) (hk77 : lst s N ≤ 77) (hnd : ∀ m : Nat, m ≤ N → gNeed s m ≤ 31) (hN : N ≤ 3000) (hnb : Row w base0 g0 ((lst s N).toNat + 1) c0 (fun j => s (j : Int))) (hT : TabAt 0 Lib.deBruijn32tab w) (hg : 0 < w.heap.size) :
    Calls Tryd.prog 43 #[.slice (some ⟨g0, 0, none⟩) ((lst s N).toNat + 1) c0, .int .i64 N] w fun e w' => (∃ b, e = .returned (.map (some b)) ∧ w.heap.size ≤ b ∧ w'.ownsMap Tryd.prog 3 (plainElem Tryd.prog 3) b (N + 1) (gND s (N + 1))) ∧ Below w.heap.size w w' := by
  have p0 := lst_nn h1 N (by omega)
  have p1 := hk77
  have HCP := Lib.hid (fun base0 g0 c0 w => gcountsByPlace_any s N base0 g0 c0 w h1 hk77 hN)
  have HCT : Hid (∀ m : Nat, m ≤ N → gT s (lst s N).toNat m ≠ 0 ∧ Lib.ctz 32 (gT s (lst s N).toNat m) = gNeed s m) := Lib.hid (fun m hm => gctz_T s m _ h1 (hnd m hm) (by omega) (by
    have h3 := lst_is h1 m (by omega)
    have h5 := h3.2.1
    have := (lst_iff h1 N (lst s m) (by omega) h3.1).1 (by omega)
    omega))
  have hK : (lst s N).toNat ≤ 77 := by omega
  generalize (lst s N).toNat = K at *
  have hmm : ∀ (x : Int) (w : World), (Instr.makeMap 54 (some (.int .i64 x))).run Tryd.prog w = .ok (.map (some w.heap.size)) (w.alloc (.map #[] 0)) := fun x w => by
    simp [Instr.makeMap, run_underlying Tryd.underlying54, asInt, asIntOf]
  have HTB := Lib.hid hT
  have HNN := Lib.hid hnd
  have HR : Hid (Row (w.alloc (.map #[] 0)) base0 g0 (K + 1) c0 (fun j => s (j : Int))) := Lib.hid (World.ownsRow.alloc hnb _)
  clear hT hnd hnb
  go_enter Tryd.func43, Tryd.ntmps43
  go_wp2_with (first
    | (go_at_call 69; refine (HCP.out _ _ _ _ HR.out).mono ?_; rintro e w2 ⟨⟨v, rs, rfl, hl, hws⟩, hb2⟩; have HL := Lib.hid hl; have HW := Lib.hid hws; clear hl hws)
    | (go_at_call 68; refine (lastCo_any _ _ _ _ _ _ HW.out (by rw [HL.out]; omega) (by rw [HL.out]; omega)).mono ?_; rintro e w3 ⟨⟨g3, c3, rfl, hr3⟩, rfl⟩; have HR3 := Lib.hid hr3; clear hr3))
  have hbA : Below (w.heap.size + 1) (w.alloc (.map #[] 0)) w2 := by
    have a2 := hb2
    simp only [World.size_alloc] at a2
    exact a2
  have hmap : w2.ownsMap Tryd.prog 3 (plainElem (H := Unit) Tryd.prog 3) w.heap.size 0 (gND s 0) :=
    (World.ownsMap_made w Tryd.prog 3 (plainElem (H := Unit) Tryd.prog 3)).kept (row := none) ⟨hbA.os, hbA.tape, hbA.output, hbA.size, fun k hk _ => hbA.block k (by simpa using hk)⟩ (by simp)
  have hB0 : Below w.heap.size w w2 := ((Below.refl _ w).alloc (Nat.le_refl _) _).trans (hbA.mono (by omega))
  have hr3 : Roc w2 (w.heap.size + 1) g3 (N + 1) c3 (fun m => (gT s K m : Int)) := by
    have h := HR3.out
    rw [HL.out, Nat.add_sub_cancel] at h
    exact h.wide (by simp)
  have HM := Lib.hid hmap
  have HR4 := Lib.hid hr3
  clear hmap hr3 hb2 hbA
  go_loopw [16] (fun i wr => ∃ k : Nat, k ≤ N + 1 ∧ i = .int .i64 k ∧ Hid (wr.ownsMap Tryd.prog 3 (plainElem (H := Unit) Tryd.prog 3) w.heap.size k (gND s k)) ∧ Hid (Roc wr (w.heap.size + 1) g3 (N + 1) c3 (fun m => (gT s K m : Int))) ∧ Below w.heap.size w wr) (fun i _ => N + 1 - (intOf i).toNat)
  case atStart => exact ⟨0, Nat.zero_le _, rfl, HM, HR4, hB0⟩
  case round =>
    obtain ⟨k, hk, rfl, hown, hrow, hb⟩ := hrel
    by_cases hlt : k < N + 1
    · have hkI : (k : Int) < (N : Int) + 1 := by omega
      have hc := hrow.out.cell (j := k) hlt
      obtain ⟨hx0, hxc⟩ := HCT.out k (by omega)
      have hxl := gT_lt s K k
      have HTw := Lib.hid (TabAt.below HTB.out hb hg)
      have hng := HNN.out k (by omega)
      have hnd : gND s (k + 1) = (gND s k).put (.int .i64 (k : Int)) (.lit (.int .i64 (gNeed s k))) := rfl
      have HND := Lib.hid hnd
      have HXC := Lib.hid hxc
      generalize gT s K k = x at *
      clear hnd hxc
      go_wp2_with (first
        | (go_at_call 70; refine (least_any _ _ hx0 hxl HTw.out).mono ?_; rw [HXC.out]; rintro e w' ⟨rfl, rfl⟩)
        | (at_mapUpdate; refine wpList_mapUpdate_own _ rfl _ _ _ 54 rfl 3 3 keyI Tryd.underlying54 _ w.heap.size k _ rfl hown.out (by unfold maxLen; omega) _ _ _ rfl rfl (keyOf_int_mk Tryd.underlying3 (wf64 _ (by omega) (by omega))) _ [] (plainElem_int Tryd.underlying3 (wf64 _ (by omega) (by omega))) ?_; intro w5 hown5 hgrow5))
      have hb5 : Below w.heap.size w w5 := hb.grown hgrow5 hb.size (fun j hj => by cases hj; exact Nat.le_refl _)
      have hr5 : Roc w5 (w.heap.size + 1) g3 (N + 1) c3 (fun m => (gT s K m : Int)) := World.ownsRow.kept hrow.out hgrow5 (Or.inr (by
        have := hrow.out.lt
        simp [Value.ownBlock]
        omega))
      have HO5 : Hid (w5.ownsMap Tryd.prog 3 (plainElem (H := Unit) Tryd.prog 3) w.heap.size (k + 1) (gND s (k + 1))) := Lib.hid (by rw [HND.out]; exact hown5)
      have HR5 := Lib.hid hr5
      clear hown5 hgrow5 hr5 hc
      go_wp2
      go_roundw
      case rel => exact ⟨k + 1, by omega, by go_num, HO5, HR5, hb5⟩
      case measure => simp [intOf]; omega
    · obtain rfl : k = N + 1 := by omega
      go_wp2
      go_ret
      exact ⟨⟨_, rfl, Nat.le_refl _, hown.out⟩, hb⟩
/-- The library's table lies where the program laid it, below the call. -/
structure Tabd (w : World) : Prop where
  tab : TabAt 0 Lib.deBruijn32tab w
  lt : 0 < w.heap.size
theorem Tabd.below {w W : World} (h : Tabd w) (hb : Below w.heap.size w W) : Tabd W := ⟨TabAt.below h.tab hb h.lt, Nat.lt_of_lt_of_le h.lt hb.size⟩
theorem glook_need (s : Int → Int) (k j : Nat) (h : j < k) {c : Int} (hat : (gND s k).atKey (.int .i64 (j : Int)) (.lit (.int .i64 0)) = .lit (.int .i64 c)) : c = (gNeed s j : Int) := by
  rw [gnd_at s k j h] at hat
  injection hat with hat
  injection hat with _ hat
  exact hat.symm
end Go.Proofs.YtegbikakfckehaaDoor
