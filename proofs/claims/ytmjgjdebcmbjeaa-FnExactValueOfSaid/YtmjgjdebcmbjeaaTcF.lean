/- Chapter 8, the program: the first numbers of rows led on by a step. -/
import Derived.Test.YtmjgjdebcmbjeaaTcE
namespace Go.Proofs.Ytmjgjdebcmbjeaa
open Go.RowKit

theorem own_grown {w w' : World} {lo hi : Nat} {A : Option Addr} {cs : List Value} {row : Option Nat} (h : Own w lo hi A cs) (hg : w.grownBy w' row) (hh : hi ≤ w.heap.size) (hr : ∀ j, row = some j → j < lo ∨ hi ≤ j) : Own w' lo hi A cs := fun hn => by
  obtain ⟨g, o, e, h1, h2, hc⟩ := h hn
  have hne : some g ≠ row := fun e2 => by
    have := hr g e2.symm
    omega
  refine ⟨g, o, e, h1, h2, fun j u hu => ?_⟩
  rw [hg.cell_far ⟨g, o + j, none⟩ (by show g < _; omega) hne, hg.frozen_far ⟨g, o + j, none⟩ (by show g < _; omega) hne]
  exact hc j u hu
/-- A function that leads rows on by a step. -/
structure Leads (fid : Nat) (S : List Int → List Int) : Prop where
  cf : ∀ (args : Array Value) (W : World), (callFunc fid args).run Try.prog W = .ok (.enter fid args) W
  go : ∀ (A : Option Addr) (n c lo hi : Nat) (xs : List Int) (W : World), xs.length = n → n ≤ 100000 → Own W lo hi A (l64s xs) → hi ≤ W.heap.size → Calls Try.prog fid #[.slice A n c] W (ResR (S xs) W)
  len : ∀ xs : List Int, (S xs).length ≤ xs.length
theorem itr8_len {S : List Int → List Int} (h : ∀ xs : List Int, (S xs).length ≤ xs.length) (xs : List Int) : ∀ k, (itr8 S k xs).length ≤ xs.length
  | 0 => Nat.le_refl _
  | k + 1 => Nat.le_trans (h _) (itr8_len h xs k)
theorem leads_behind : Leads 83 stp8 where
  cf := fun _ _ => by kernel_rfl
  go := fun A n c lo hi xs W hn hm ha hh => behind_any A n c lo hi xs W hn hm ha hh
  len := fun xs => Nat.le_of_eq (stp8_len xs)
theorem leads_differences : Leads 62 dif8 where
  cf := fun _ _ => by kernel_rfl
  go := fun A n c lo hi xs W hn hm ha hh => differences_any A n c lo hi xs W hn hm ha hh
  len := fun xs => by rw [dif8_len]; omega
set_option maxRecDepth 8000 in
set_option maxHeartbeats 1600000 in
theorem firsts_any (fid : Nat) (S : List Int → List Int) (hS : Leads fid S) (A : Option Addr) (n c lo hi cnt : Nat) (xs : List Int) (w : World) (hn : xs.length = n) (hm : n ≤ 100000) (hcnt : cnt ≤ 100000) (ha : Own w lo hi A (l64s xs)) (hh : hi ≤ w.heap.size) :
    Calls Try.prog 103 #[.slice A n c, .func (.func fid) #[] #[], .int .i64 (cnt : Int)] w (ResR (fst8 S cnt xs) w) := by
  obtain ⟨i0, hi0, hz0, hz1, hz2⟩ := info_parts infoLng
  have HT := Lib.hid fun k => fst8_snoc S k xs
  have HSt : Hid (∀ k, itr8 S (k + 1) xs = S (itr8 S k xs)) := Lib.hid fun k => rfl
  have HL := Lib.hid fun k => itr8_len hS.len xs k
  have HF := Lib.hid fst8_len
  have HGo := Lib.hid hS.go
  have hcf := hS.cf
  have H0 : Hid (Own w lo hi A (l64s (itr8 S 0 xs)) ∧ (itr8 S 0 xs).length = n ∧ l64s (fst8 S 0 xs) = []) := Lib.hid ⟨ha, hn, rfl⟩
  have HN := Lib.hid hn
  clear ha hn hS
  go_enter Try.func103, Try.ntmps103
  go_wp2
  go_loopw [0, 7, 9] (fun rv v i wr => ∃ (k : Nat) (A' : Option Addr) (n' c' lo' hi' : Nat), k ≤ cnt ∧ i = .int .i64 (k : Int) ∧ rv = .slice A' n' c' ∧ Hid (n' = (itr8 S k xs).length) ∧ Hid (Own wr lo' hi' A' (l64s (itr8 S k xs)) ∧ hi' ≤ wr.heap.size ∧ ∀ j, v.ownBlock = some j → j < lo' ∨ hi' ≤ j) ∧ Hid (wr.ownsRow w.heap.size 59 2 v k (l64s (fst8 S k xs))) ∧ Hid (Below w.heap.size w wr)) (fun _ _ i _ => cnt - (intOf i).toNat)
  case atStart => exact ⟨0, A, n, c, lo, hi, by omega, by simp, rfl, Lib.hid H0.out.2.1.symm, Lib.hid ⟨H0.out.1, hh, fun j hj => by simp [Value.ownBlock] at hj⟩, Lib.hid (by rw [H0.out.2.2]; exact World.ownsRow_nil _ _ _ _), Lib.hid (Below.refl _ _)⟩
  case round =>
    obtain ⟨k, A', n', c', lo', hi', hk, rfl, rfl, hn', hO, hR, hbl⟩ := hrel
    by_cases hlt : k < cnt
    · have hki : (k : Int) < (cnt : Int) := by omega
      have hn1 : n' ≤ 100000 := by
        rw [hn'.out]
        exact Nat.le_trans (HL.out k) (by rw [HN.out]; exact hm)
      have HK := Lib.hid (HT.out k)
      have HSk := Lib.hid (HSt.out k)
      generalize itr8 S k xs = ys at *
      generalize fst8 S k xs = fs at *
      have H1 := Lib.hid (first_any A' n' c' lo' hi' ys wr hn'.out.symm (by omega) hO.out.1 hO.out.2.1)
      obtain ⟨x, hx⟩ : ∃ x, x = ys.headD 0 := ⟨_, rfl⟩
      rw [← hx] at H1 HK
      unfold lng at H1
      clear hx
      go_wp2_with (first
        | (go_at_call 109; refine H1.out.mono ?_; rintro e w2 ⟨rfl, hb2⟩; have HR2 := Lib.hid (row_below hR.out hb2 (Nat.le_refl _)); have HO2 := Lib.hid (hO.out.1.below hb2 hO.out.2.1); have HS2 := Lib.hid hb2.size; have HB2 := Lib.hid (hbl.out.trans (hb2.mono hbl.out.size)); clear hb2)
        | (at_builtin; refine wpList_append_own _ rfl _ _ 48 rfl w.heap.size 59 i0 (.agg #[.int .u64 0, .int .u64 0]) 2 16 Try.underlying48 hi0 hz0 hz1 hz2 rfl (by decide) _ _ _ rfl (HR2.out.alloc _) ⟨w2.heap.size, 0, none⟩ 1 1 [.int .u64 (hi8 x), .int .u64 (lo8 x)] rfl rfl ?c1 ?c2 ?c3 ?c4 ?c5 ?_))
      case c1 =>
        intro j u hj
        match j, hj with
        | 0, hj => simp at hj; subst hj; simp [Addr.add]
        | 1, hj => simp at hj; subst hj; simp [Addr.add]
      case c2 => intro u hu; simp at hu; rcases hu with rfl | rfl <;> rfl
      case c3 => unfold maxLen; omega
      case c4 => omega
      case c5 => exact Nat.le_trans HB2.out.size (by simp)
      · intro v' w5 hown' hgrow _
        rw [l64s_app, ← HK.out] at hown'
        have HO5 := Lib.hid (own_grown (own_grown HO2.out (World.grownBy_alloc w2 (.cells #[.int .u64 (hi8 x), .int .u64 (lo8 x)] 59) none) (Nat.le_trans hO.out.2.1 HS2.out) (fun j hj => by cases hj)) hgrow (Nat.le_trans (Nat.le_trans hO.out.2.1 HS2.out) (by simp)) hO.out.2.2)
        have HR5 := Lib.hid hown'
        have HB5 : Hid (Below w.heap.size w w5) := Lib.hid ((HB2.out.alloc HB2.out.size _).grown hgrow (Nat.le_trans HB2.out.size (by simp)) fun g hg => (HR2.out.lt g hg).1)
        have HZ5 : Hid (hi' ≤ w5.heap.size) := Lib.hid (Nat.le_trans (Nat.le_trans hO.out.2.1 HS2.out) (Nat.le_trans (by simp) hgrow.size))
        have HG5 := Lib.hid (HGo.out A' n' c' lo' hi' ys w5 hn'.out.symm hn1 HO5.out HZ5.out)
        clear hown' hgrow
        go_wp2_with (refine HG5.out.mono ?_; rintro e w6 ⟨B, d, hd, rfl, hO6, hb6⟩)
        refine ⟨⟨k + 1, B, (S ys).length, d, w5.heap.size, w6.heap.size, by omega, by go_num, rfl, Lib.hid (by rw [HSk.out]), Lib.hid ⟨by rw [HSk.out]; exact hO6, Nat.le_refl _, fun j hj => .inl ((HR5.out.lt j hj).2)⟩, Lib.hid (row_below HR5.out hb6 (Nat.le_refl _)), Lib.hid (HB5.out.trans (hb6.mono HB5.out.size))⟩, by simp [intOf]; omega⟩
    · obtain rfl : k = cnt := by omega
      obtain ⟨B, d, rfl⟩ := row_form hR.out
      have HO := Lib.hid (own_of_row hR.out)
      have HLk := Lib.hid (HF.out S k xs)
      go_wp2
      go_ret
      exact ⟨B, d, by rw [HLk.out]; exact row_cap hR.out, by rw [HLk.out]; rfl, HO.out, hbl.out⟩
end Go.Proofs.Ytmjgjdebcmbjeaa
