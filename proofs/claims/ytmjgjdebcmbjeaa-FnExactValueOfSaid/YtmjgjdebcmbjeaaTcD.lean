/- Chapter 8, the program: rows led on: differences, what is behind. -/
import Derived.Test.YtmjgjdebcmbjeaaTcC
import Derived.Test.YtmjgjdebcmbjeaaTbI
namespace Go.Proofs.Ytmjgjdebcmbjeaa
open Go.RowKit

theorem step_app_lng {ops : Array Oper} {o : Oper} {a : Act} {K : Act → World → Prop} {X : Exit → Act → World → Prop} {E : Prop} {w : World} {z : Int} (base : Nat) (hgd : o.guard = none) (s x : Operand)
    (ho : o.op = .call { callee := .builtin .append, args := #[s, x], argTypes := #[48, 48] }) (v : Value) (n : Nat) (xs : List Int) (hs : a.eval s = v) (hG : w.ownsRow base 59 2 v n (l64s xs)) (hB : base ≤ w.heap.size)
    (hx : a.eval x = .slice (some ⟨w.heap.size, 0, none⟩) 1 1) (hl : n ≤ 100000)
    (h : ∀ v' w', w'.ownsRow base 59 2 v' (n + 1) (l64s (xs ++ [z])) → w'.heap.size ≥ w.heap.size → w.grownBy w' v.ownBlock → K (a.put o.dst v') w') :
    if Region.wanted o (yielded ops a.tmps) = true then Oper.wp Try.prog o a (w.alloc (.cells #[.int .u64 (hi8 z), .int .u64 (lo8 z)] 59)) K X else E := by
  obtain ⟨i0, hi0, hz0, hz1, hz2⟩ := info_parts infoLng
  refine step_append_lies _ hgd s x 48 ho base 59 i0 (.agg #[.int .u64 0, .int .u64 0]) 2 16 Try.underlying48 hi0 hz0 hz1 hz2 rfl (by decide) v _ _ hs (hG.alloc _) ⟨w.heap.size, 0, none⟩ 1 1 [.int .u64 (hi8 z), .int .u64 (lo8 z)] hx rfl ?c1 ?c2 (by decide) ?c3 ?c4 ?c5 _ rfl ?_
  case c1 =>
    intro j u hj
    match j, hj with
    | 0, hj => simp at hj; subst hj; simp [Addr.add]
    | 1, hj => simp at hj; subst hj; simp [Addr.add]
  case c2 => intro u hu; simp at hu; rcases hu with rfl | rfl <;> rfl
  case c3 => unfold maxLen; omega
  case c4 => omega
  case c5 => simp; omega
  · intro g cap w4 hown' hgrow _ _
    refine h _ w4 ?_ ?_ ((World.grownBy_alloc w _ _).andThen hgrow fun _ e => Or.inr e)
    · rw [← l64s_app]
      exact hown'
    · exact ((World.grownBy_alloc w _ _).andThen hgrow fun _ e => Or.inr e).size
section
variable {w w' : World} {B g a b c d : Nat} {v1 v2 v3 v4 : Option Value}
theorem two_below (h : w.cell? ⟨g, a, none⟩ = v1 ∧ w.cell? ⟨g, b, none⟩ = v2) (hb : Below B w w') (hg : g < B) : w'.cell? ⟨g, a, none⟩ = v1 ∧ w'.cell? ⟨g, b, none⟩ = v2 :=
  ⟨(hb.cell (p := ⟨g, a, none⟩) hg).trans h.1, (hb.cell (p := ⟨g, b, none⟩) hg).trans h.2⟩
theorem two_alloc (h : w.cell? ⟨g, a, none⟩ = v1 ∧ w.cell? ⟨g, b, none⟩ = v2) (hg : g < w.heap.size) (ob : Obj) : (w.alloc ob).cell? ⟨g, a, none⟩ = v1 ∧ (w.alloc ob).cell? ⟨g, b, none⟩ = v2 :=
  two_below h ((Below.refl w.heap.size w).alloc (Nat.le_refl _) ob) hg
theorem two_grown {row : Option Nat} (h : w.cell? ⟨g, a, none⟩ = v1 ∧ w.cell? ⟨g, b, none⟩ = v2) (hw : w.grownBy w' row) (hg : g < w.heap.size) (hr : some g ≠ row) : w'.cell? ⟨g, a, none⟩ = v1 ∧ w'.cell? ⟨g, b, none⟩ = v2 :=
  ⟨(hw.cell_far ⟨g, a, none⟩ hg hr).trans h.1, (hw.cell_far ⟨g, b, none⟩ hg hr).trans h.2⟩
theorem four_below (h : w.cell? ⟨g, a, none⟩ = v1 ∧ w.cell? ⟨g, b, none⟩ = v2 ∧ w.cell? ⟨g, c, none⟩ = v3 ∧ w.cell? ⟨g, d, none⟩ = v4) (hb : Below B w w') (hg : g < B) : w'.cell? ⟨g, a, none⟩ = v1 ∧ w'.cell? ⟨g, b, none⟩ = v2 ∧ w'.cell? ⟨g, c, none⟩ = v3 ∧ w'.cell? ⟨g, d, none⟩ = v4 :=
  ⟨(hb.cell (p := ⟨g, a, none⟩) hg).trans h.1, (hb.cell (p := ⟨g, b, none⟩) hg).trans h.2.1, (hb.cell (p := ⟨g, c, none⟩) hg).trans h.2.2.1, (hb.cell (p := ⟨g, d, none⟩) hg).trans h.2.2.2⟩
theorem four_alloc (h : w.cell? ⟨g, a, none⟩ = v1 ∧ w.cell? ⟨g, b, none⟩ = v2 ∧ w.cell? ⟨g, c, none⟩ = v3 ∧ w.cell? ⟨g, d, none⟩ = v4) (hg : g < w.heap.size) (ob : Obj) : (w.alloc ob).cell? ⟨g, a, none⟩ = v1 ∧ (w.alloc ob).cell? ⟨g, b, none⟩ = v2 ∧ (w.alloc ob).cell? ⟨g, c, none⟩ = v3 ∧ (w.alloc ob).cell? ⟨g, d, none⟩ = v4 :=
  four_below h ((Below.refl w.heap.size w).alloc (Nat.le_refl _) ob) hg
theorem four_grown {row : Option Nat} (h : w.cell? ⟨g, a, none⟩ = v1 ∧ w.cell? ⟨g, b, none⟩ = v2 ∧ w.cell? ⟨g, c, none⟩ = v3 ∧ w.cell? ⟨g, d, none⟩ = v4) (hw : w.grownBy w' row) (hg : g < w.heap.size) (hr : some g ≠ row) : w'.cell? ⟨g, a, none⟩ = v1 ∧ w'.cell? ⟨g, b, none⟩ = v2 ∧ w'.cell? ⟨g, c, none⟩ = v3 ∧ w'.cell? ⟨g, d, none⟩ = v4 :=
  ⟨(hw.cell_far ⟨g, a, none⟩ hg hr).trans h.1, (hw.cell_far ⟨g, b, none⟩ hg hr).trans h.2.1, (hw.cell_far ⟨g, c, none⟩ hg hr).trans h.2.2.1, (hw.cell_far ⟨g, d, none⟩ hg hr).trans h.2.2.2⟩
end
set_option maxRecDepth 8000 in
set_option maxHeartbeats 1600000 in
theorem differences_any (A : Option Addr) (n c lo hi : Nat) (xs : List Int) (w : World) (hn : xs.length = n) (hm : n ≤ 100000) (ha : Own w lo hi A (l64s xs)) (hh : hi ≤ w.heap.size) :
    Calls Try.prog 62 #[.slice A n c] w (ResR (dif8 xs) w) := by
  have HA := Lib.hid ha
  have HT := Lib.hid fun k h => dif8_take xs k h
  have HL : Hid ((dif8 xs).length = n - 1) := Lib.hid (by rw [dif8_len, hn])
  have HN := Lib.hid hn
  have HM := Lib.hid fun k m W => minus_any (xs.getD m 0) (xs.getD k 0) W
  clear ha hn
  go_enter Try.func62, Try.ntmps62
  go_wp2
  go_loopw [3, 4] (fun v i wr => ∃ k m : Nat, k + 1 = m ∧ k ≤ n - 1 ∧ i = .int .i64 (m : Int) ∧ Hid (wr.ownsRow w.heap.size 59 2 v k (l64s ((dif8 xs).take k))) ∧ Hid (Below w.heap.size w wr)) (fun _ i _ => n - (intOf i).toNat)
  case atStart => exact ⟨0, 1, rfl, by omega, by simp, Lib.hid (by rw [List.take_zero]; exact World.ownsRow_nil _ _ _ _), Lib.hid (Below.refl _ _)⟩
  case round =>
    obtain ⟨k, m, hkm, hk, rfl, hR, hbl⟩ := hrel
    by_cases hlt : m < n
    · have hlt2 : (k : Int) + 1 < (n : Int) := by omega
      have hlt3 : (k : Int) < (n : Int) := by omega
      have hlt4 : (m : Int) < (n : Int) := by omega
      have hk0 : (0 : Int) ≤ (k : Int) := by omega
      have hm0 : (0 : Int) ≤ (m : Int) := by omega
      have e1 : IntKind.i64.wrap ((m : Int) - 1) = (k : Int) := by rw [IntWalk.i64_in _ (by omega)]; omega
      obtain ⟨g, o, rfl, hg0, hg1, t0, t1⟩ := (HA.out.below hbl.out hh).lng (k := m) (by rw [HN.out]; omega)
      obtain ⟨g', o', eA, _, _, s0, s1⟩ := (HA.out.below hbl.out hh).lng (k := k) (by rw [HN.out]; omega)
      injection eA with eA
      injection eA with eA1 eA2 _
      subst eA1 eA2
      have HS := Lib.hid (HT.out k (by rw [HN.out]; omega))
      rw [hkm] at HS
      have HMM := Lib.hid fun W => HM.out k m W
      generalize xs.getD m 0 = y at *
      generalize xs.getD k 0 = x at *
      unfold lng at HMM
      obtain ⟨z, hz⟩ : ∃ z, z = y - x := ⟨_, rfl⟩
      rw [← hz] at HMM HS
      generalize hi8 y = y1 at *
      generalize lo8 y = y2 at *
      generalize hi8 x = x1 at *
      generalize lo8 x = x2 at *
      have hgw : g < w.heap.size := by omega
      have hgr : g < wr.heap.size := Nat.lt_of_lt_of_le hgw hbl.out.size
      have f0 : wr.drew.cell? ⟨g, o + m * 2, none⟩ = some (.int .u64 y1) ∧ wr.drew.cell? ⟨g, o + m * 2 + 1, none⟩ = some (.int .u64 y2) ∧ wr.drew.cell? ⟨g, o + k * 2, none⟩ = some (.int .u64 x1) ∧ wr.drew.cell? ⟨g, o + k * 2 + 1, none⟩ = some (.int .u64 x2) := ⟨t0, t1, s0, s1⟩
      obtain ⟨A', cc', rfl⟩ := row_form hR.out
      have HLK : Hid (((dif8 xs).take k).length = k) := Lib.hid (by rw [List.length_take, HL.out]; omega)
      have HX : Hid (∀ j, Value.ownBlock (.slice A' k cc') = some j → w.heap.size ≤ j) := Lib.hid fun j hj => (hR.out.lt j hj).1
      clear hz t0 t1 s0 s1
      go_wp2
      go_region_held3 (fun w' => w'.cell? ⟨g, o + m * 2, none⟩ = some (.int .u64 y1) ∧ w'.cell? ⟨g, o + m * 2 + 1, none⟩ = some (.int .u64 y2) ∧ w'.cell? ⟨g, o + k * 2, none⟩ = some (.int .u64 x1) ∧ w'.cell? ⟨g, o + k * 2 + 1, none⟩ = some (.int .u64 x2))
        (first | with_reducible exact f3 | with_reducible exact f2 | with_reducible exact f1 | exact f0)
        (first
          | (go_at_call 99; refine (HMM.out _).mono ?_; rintro e w2 ⟨rfl, hb2⟩; have f1 := four_below f0 hb2 hgr; have f2 := four_alloc f1 (Nat.lt_of_lt_of_le hgr hb2.size) (.cells #[.int .u64 (hi8 z), .int .u64 (lo8 z)] 59); have HR2 := Lib.hid (row_below hR.out.drew hb2 (Nat.le_refl _)); have HB2 := Lib.hid (hbl.out.drew.trans (hb2.mono hbl.out.size)))
          | (refine step_app_lng (w := w2) (z := z) w.heap.size rfl _ _ rfl _ k _ rfl HR2.out HB2.out.size rfl (by omega) ?_; intro v' wf hOf hsf hgf; have f3 := four_grown f1 hgf (Nat.lt_of_lt_of_le hgr hb2.size) (fun e => absurd (HX.out _ e.symm) (Nat.not_le.2 hgw)))
          | fail)
      have HOf := Lib.hid (show wf.ownsRow w.heap.size 59 2 v' m (l64s ((dif8 xs).take m)) from by
        rw [HS.out, ← hkm]
        exact hOf)
      have HBf := Lib.hid (HB2.out.grown hgf HB2.out.size (fun j hj => HX.out j hj))
      clear hOf hgf
      go_wp2
      go_roundw
      case rel => exact ⟨m, m + 1, rfl, by omega, by go_num, HOf, HBf⟩
      case measure => simp [intOf]; omega
    · obtain rfl : k = n - 1 := by omega
      have HF : Hid ((dif8 xs).take (n - 1) = dif8 xs) := Lib.hid (List.take_of_length_le (by rw [HL.out]; exact Nat.le_refl _))
      obtain ⟨A', cc', rfl⟩ := row_form hR.out
      have hlt2 : ¬ (m : Int) < (n : Int) := by omega
      have HO := Lib.hid (own_of_row hR.out)
      rw [HF.out] at HO
      go_wp2
      go_ret
      exact ⟨A', cc', by rw [HL.out]; exact row_cap hR.out, by rw [HL.out]; rfl, HO.out, hbl.out⟩
end Go.Proofs.Ytmjgjdebcmbjeaa
