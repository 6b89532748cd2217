/- Chapter 8: rows of differences, by the specification. -/
import Derived.Test.YtmjgjdebcmbjeaaTbH
namespace Go.Proofs.Ytmjgjdebcmbjeaa
open Go.RowKit

theorem step_app_int {ops : Array Oper} {o : Oper} {a : Act} {K : Act → World → Prop} {X : Exit → Act → World → Prop} {E : Prop} {w : World} {z : Int} (base : Nat) (hgd : o.guard = none) (s x : Operand)
    (ho : o.op = .call { callee := .builtin .append, args := #[s, x], argTypes := #[22, 22] }) (v : Value) (n : Nat) (xs : List Int) (hs : a.eval s = v) (hn : xs.length = n) (hG : w.ownsRow base 3 1 v n (i64s xs)) (hB : base ≤ w.heap.size)
    (hx : a.eval x = .slice (some ⟨w.heap.size, 0, none⟩) 1 1) (hl : n ≤ 100000)
    (h : ∀ v' w', w'.ownsRow base 3 1 v' (n + 1) (i64s (xs ++ [z])) → w.grownBy w' v.ownBlock → K (a.put o.dst v') w') :
    if Region.wanted o (yielded ops a.tmps) = true then Oper.wp Try.prog o a (w.alloc (.cells #[.int .i64 z] 3)) K X else E := by
  obtain ⟨i0, hi0, hz0, hz1, hz2⟩ := info_parts infoInt
  refine step_append_lies _ hgd s x 22 ho base 3 i0 (.int .i64 0) 1 8 Try.underlying22 hi0 hz0 hz1 hz2 rfl (by decide) v _ _ hs (hG.alloc _) ⟨w.heap.size, 0, none⟩ 1 1 [.int .i64 z] hx rfl ?c1 ?c2 (by decide) ?c3 ?c4 ?c5 _ rfl ?_
  case c1 =>
    intro j u hj
    match j, hj with
    | 0, hj => simp at hj; subst hj; simp [Addr.add]
  case c2 => intro u hu; simp at hu; subst hu; rfl
  case c3 => unfold maxLen; omega
  case c4 => omega
  case c5 => simp; omega
  · intro g cap w4 hown' hgrow _ _
    refine h _ w4 ?_ ((World.grownBy_alloc w _ _).andThen hgrow fun _ e => Or.inr e)
    simpa using hown'
theorem cell_old8 {w : World} {a : Addr} {v : Value} (h : w.cell? a = some v) (ob : Obj) : (w.drew.alloc ob).cell? a = some v := by
  have h2 : w.drew.cell? a = some v := h
  rw [World.cell?_alloc_old _ _ _ (Nat.ne_of_lt (World.block_lt_of_cell? _ _ h2))]
  exact h2
theorem dif8_take (xs : List Int) (k : Nat) (h : k + 1 < xs.length) : (dif8 xs).take (k + 1) = (dif8 xs).take k ++ [xs.getD (k + 1) 0 - xs.getD k 0] := by
  have hk : k < (dif8 xs).length := by rw [dif8_len]; omega
  rw [List.take_succ_eq_append_getElem hk, ← dif8_at xs k h]
  simp [List.getD_eq_getElem?_getD, hk]
set_option maxRecDepth 4000 in
set_option maxHeartbeats 1600000 in
theorem dfRow_row (A : Option Addr) (n c lo hi : Nat) (xs : List Int) (w : World) (hn : xs.length = n) (hm : n ≤ 100000) (ha : Own w lo hi A (i64s xs)) (hh : hi ≤ w.heap.size) (hb : ∀ j, -1000000000000000 ≤ xs.getD j 0 ∧ xs.getD j 0 ≤ 1000000000000000) :
    Calls Try.prog 59 #[.slice A n c] w fun e w' => (∃ B d, e = .returned (.slice B (n - 1) d) ∧ w'.ownsRow w.heap.size 3 1 (.slice B (n - 1) d) (n - 1) (i64s (dif8 xs))) ∧ Below w.heap.size w w' := by
  have HA := Lib.hid ha
  have HB := Lib.hid hb
  have HT := Lib.hid fun k h => dif8_take xs k h
  have HL : Hid ((dif8 xs).length = n - 1) := Lib.hid (by rw [dif8_len, hn])
  have HLT : Hid (∀ k, k ≤ n - 1 → ((dif8 xs).take k).length = k) := Lib.hid fun k hk => by rw [List.length_take, dif8_len, hn]; omega
  have HG := Lib.hid (show ∀ k, k < n → (i64s xs)[k]? = some (.int .i64 (xs.getD k 0)) from fun k hk => by simp [List.getD_eq_getElem?_getD, hn, hk])
  have HIL : Hid ((i64s xs).length = n) := Lib.hid (by simp [hn])
  have HR0 : Hid (w.ownsRow w.heap.size 3 1 (.slice none 0 0) 0 (i64s ((dif8 xs).take 0))) := Lib.hid (by rw [List.take_zero]; exact World.ownsRow_nil _ _ _ _)
  clear ha hb
  go_enter Try.func59, Try.ntmps59
  go_wp2
  go_loopw [3, 4] (fun v i wr => ∃ k m : Nat, k + 1 = m ∧ k ≤ n - 1 ∧ i = .int .i64 (m : Int) ∧ Hid (wr.ownsRow w.heap.size 3 1 v k (i64s ((dif8 xs).take k))) ∧ Hid (Below w.heap.size w wr)) (fun _ i _ => n - (intOf i).toNat)
  case atStart => exact ⟨0, 1, rfl, by omega, by simp, HR0, Lib.hid (Below.refl _ _)⟩
  case round =>
    obtain ⟨k, m, hkm, hk, rfl, hR, hbl⟩ := hrel
    by_cases hlt : m < n
    · have hlt2 : (k : Int) + 1 < (n : Int) := by omega
      have hlt3 : (k : Int) < (n : Int) := by omega
      have hk0 : (0 : Int) ≤ (k : Int) := by omega
      obtain ⟨g, o, rfl, hg0, hg1, hcs⟩ := (HA.out.below hbl.out hh) (by rw [HIL.out]; omega)
      have s1 := (hcs _ _ (HG.out m hlt)).1
      have s0 := (hcs _ _ (HG.out k (by omega))).1
      have hb1 := HB.out m
      have hb0 := HB.out k
      have hst := HT.out k (by rw [hn]; omega)
      rw [hkm] at hst
      have HLK := Lib.hid (HLT.out k (by omega))
      generalize xs.getD m 0 = y at *
      generalize xs.getD k 0 = x at *
      have HS := Lib.hid hst
      have e1 : IntKind.i64.wrap ((m : Int) - 1) = (k : Int) := by rw [IntWalk.i64_in _ (by omega)]; omega
      have e2 : IntKind.i64.wrap (y - x) = y - x := IntWalk.i64_in _ (by omega)
      clear hcs hst
      go_wp2
      have c1 := cell_old8 s1 (.cells #[.int .i64 (y - x)] 3)
      have c0 := cell_old8 s0 (.cells #[.int .i64 (y - x)] 3)
      obtain ⟨A', cc', rfl⟩ := row_form hR.out
      have HX : Hid (∀ j, Value.ownBlock (.slice A' k cc') = some j → w.heap.size ≤ j) := Lib.hid fun j hj => (hR.out.lt j hj).1
      have hgw : g < w.heap.size := by omega
      go_region_held3 (fun w' => w'.cell? ⟨g, o + m, none⟩ = some (.int .i64 y) ∧ w'.cell? ⟨g, o + k, none⟩ = some (.int .i64 x))
        (first | with_reducible exact sF | exact ⟨s1, s0⟩ | exact ⟨c1, c0⟩)
        (first
          | (refine step_app_int (w := wr.drew) (z := y - x) w.heap.size rfl _ _ rfl _ k _ rfl HLK.out hR.out hbl.out.size rfl (by omega) ?_; intro v' wf hOf hgf; have sF := And.intro ((hgf.cell s1 (fun e => absurd (HX.out _ e.symm) (Nat.not_le.2 hgw)))) ((hgf.cell s0 (fun e => absurd (HX.out _ e.symm) (Nat.not_le.2 hgw)))))
          | fail)
      have HOf := Lib.hid (show wf.ownsRow w.heap.size 3 1 v' m (i64s ((dif8 xs).take m)) from by
        rw [HS.out, ← hkm]
        exact hOf)
      have HBf := Lib.hid (hbl.out.drew.grown hgf hbl.out.size (fun j hj => HX.out j hj))
      clear hOf hgf
      go_wp2
      go_roundw
      case rel => exact ⟨m, m + 1, rfl, by omega, by go_num, HOf, HBf⟩
      case measure => simp [intOf]; omega
    · obtain rfl : k = n - 1 := by omega
      have HF : Hid ((dif8 xs).take (n - 1) = dif8 xs) := Lib.hid (List.take_of_length_le (by rw [HL.out]; exact Nat.le_refl _))
      obtain ⟨A', cc', rfl⟩ := row_form hR.out
      have hlt2 : ¬ (m : Int) < (n : Int) := by omega
      have HO := hR
      rw [HF.out] at HO
      go_wp2
      go_ret
      exact ⟨⟨A', cc', rfl, HO.out⟩, hbl.out⟩
theorem dfRow_any (A : Option Addr) (n c lo hi : Nat) (xs : List Int) (w : World) (hn : xs.length = n) (hm : n ≤ 100000) (ha : Own w lo hi A (i64s xs)) (hh : hi ≤ w.heap.size) (hb : ∀ j, -1000000000000000 ≤ xs.getD j 0 ∧ xs.getD j 0 ≤ 1000000000000000) :
    Calls Try.prog 59 #[.slice A n c] w fun e w' => (∃ B d, e = .returned (.slice B (n - 1) d) ∧ Own w' w.heap.size w'.heap.size B (i64s (dif8 xs))) ∧ Below w.heap.size w w' := by
  refine (dfRow_row A n c lo hi xs w hn hm ha hh hb).mono ?_
  rintro e w' ⟨⟨B, d, rfl, h⟩, hb2⟩
  exact ⟨⟨B, d, rfl, own_of_row h⟩, hb2⟩
end Go.Proofs.Ytmjgjdebcmbjeaa
