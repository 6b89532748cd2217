/- Chapter 8: the law TimesPlace. -/
import Derived.Test.YtmjgjdebcmbjeaaTbV
import Derived.Test.YtmjgjdebcmbjeaaTcL
import Derived.Test.YtmjgjdebcmbjeaaTbG
import Derived.Test.YtmjgjdebcmbjeaaLfTimesPlace
namespace Go.Proofs.Ytmjgjdebcmbjeaa
open Go.ChangeShapes Go.WideShapes Go.ChangeAt Go.RowKit

def prv8 (xs : List Int) (j : Nat) : Int := if j = 0 then 0 else xs.getD (j - 1) 0
/-- The products while the first k numbers are laid. -/
def tm8 (xs : List Int) (k : Nat) (j : Nat) : Int := if j < k then (j : Int) * (prv8 xs j + xs.getD j 0) else if j = k then (j : Int) * prv8 xs j else 0
theorem tm8_zero (xs : List Int) (j : Nat) : tm8 xs 0 j = 0 := by
  unfold tm8
  rw [if_neg (by omega)]
  split
  · rename_i h
    subst h
    simp
  · rfl
theorem tm8_at (xs : List Int) (k : Nat) : tm8 xs k k = (k : Int) * prv8 xs k ∧ tm8 xs k (k + 1) = 0 := by
  unfold tm8
  rw [if_neg (by omega), if_pos rfl, if_neg (by omega), if_neg (by omega)]
  exact ⟨rfl, rfl⟩
theorem tm8_step (xs : List Int) (k : Nat) : ∀ j, upd (upd (tm8 xs k) k ((k : Int) * prv8 xs k + (k : Int) * xs.getD k 0)) (k + 1) (((k : Int) + 1) * xs.getD k 0) j = tm8 xs (k + 1) j := fun j => by
  unfold upd tm8
  by_cases h1 : j = k + 1
  · subst h1
    rw [if_pos rfl, if_neg (by omega), if_pos rfl]
    unfold prv8
    rw [if_neg (by omega), Nat.add_sub_cancel]
    simp
  · rw [if_neg h1]
    by_cases h2 : j = k
    · subst h2
      rw [if_pos rfl, if_pos (by omega), Int.mul_add]
    · rw [if_neg h2]
      by_cases h3 : j < k
      · rw [if_pos h3, if_pos (by omega)]
      · rw [if_neg h3, if_neg h2, if_neg (by omega), if_neg h1]
theorem mul12 (k : Int) (x : Int) (h0 : 0 ≤ k) (h1 : k ≤ 12) (h2 : -1000000 ≤ x) (h3 : x ≤ 1000000) : -12000000 ≤ k * x ∧ k * x ≤ 12000000 := by
  have a := Int.mul_le_mul_of_nonneg_left h3 h0
  have b := Int.mul_le_mul_of_nonneg_left h2 h0
  omega
theorem prv8_bd {xs : List Int} (h : Bd 1000000 xs) (j : Nat) : -1000000 ≤ prv8 xs j ∧ prv8 xs j ≤ 1000000 := by
  unfold prv8
  split
  · omega
  · exact h _
/-- The products. -/
def tms8 (xs : List Int) : List Int := tab (tm8 xs xs.length) (xs.length + 1)
theorem tms8_len (xs : List Int) : (tms8 xs).length = xs.length + 1 := tab_len _ _
theorem tms8_bd {xs : List Int} (h : Bd 1000000 xs) (hl : xs.length ≤ 12) : Bd 24000000 (tms8 xs) := fun j => by
  by_cases hj : j < xs.length + 1
  · have e : (tms8 xs).getD j 0 = tm8 xs xs.length j := by rw [List.getD_eq_getElem?_getD, tms8, tab_get _ _ _ hj]; rfl
    rw [e]
    unfold tm8
    have a := mul12 (j : Int) (prv8 xs j) (by omega) (by omega) (prv8_bd h j).1 (prv8_bd h j).2
    have b := mul12 (j : Int) (xs.getD j 0) (by omega) (by omega) (h j).1 (h j).2
    split
    · rw [Int.mul_add]; omega
    · split
      · omega
      · omega
  · have e : (tms8 xs).getD j 0 = 0 := by rw [List.getD_eq_getElem?_getD, List.getElem?_eq_none (by rw [tms8_len]; omega)]; rfl
    rw [e]
    omega
set_option maxRecDepth 8000 in
set_option maxHeartbeats 3200000 in
theorem mulPlace_any (A : Option Addr) (n c lo hi : Nat) (xs : List Int) (w : World) (hn : xs.length = n) (hm : n ≤ 12) (hbd : Bd 1000000 xs) (ha : Own w lo hi A (i64s xs)) (hh : hi ≤ w.heap.size) :
    Calls Try.prog 87 #[.slice A n c] w fun e w' => (∃ B d, e = .returned (.slice B (trm8 (tms8 xs)).length d) ∧ Own w' w.heap.size w'.heap.size B (l64s (trm8 (tms8 xs)))) ∧ Below w.heap.size w w' := by
  obtain ⟨i0, hi0, hz0, hz1, hz2⟩ := info_parts infoInt
  have HA := Lib.hid ha
  have HBd := Lib.hid hbd
  have HPv := Lib.hid fun j => prv8_bd hbd j
  have HG3 := Lib.hid (show ∀ k, k < n → (i64s xs)[k]? = some (.int .i64 (xs.getD k 0)) from fun k hk => by simp [List.getD_eq_getElem?_getD, hn, hk])
  have HIL : Hid ((i64s xs).length = n) := Lib.hid (by simp [hn])
  have HAt := Lib.hid (tm8_at xs)
  have HStep := Lib.hid (tm8_step xs)
  have HZ := Lib.hid (tm8_zero xs)
  obtain ⟨N, hN⟩ : ∃ N, N = n + 1 := ⟨_, rfl⟩
  have e0 : IntKind.i64.wrap ((n : Int) + 1) = (N : Int) := by rw [IntWalk.i64_in _ (by omega)]; omega
  have hTe : tab (tm8 xs n) N = tms8 xs := by rw [hN, tms8, hn]
  have HNN := Lib.hid hN
  have hN13 : N ≤ 13 := by omega
  have HHI := Lib.hid hh
  have htb := tms8_bd hbd (by omega)
  have htl : (tms8 xs).length = N := by rw [tms8_len, hn, hN]
  have HRo := Lib.hid fun B d l W (h : Own W l W.heap.size B (i64s (tms8 xs))) => rowOf_any B N d l W.heap.size (tms8 xs) W htl (by omega) h (Nat.le_refl _) (htb.i64 (by omega))
  have HTr := Lib.hid fun B d l W (hd : (tms8 xs).length ≤ d) (h : Own W l W.heap.size B (l64s (tms8 xs))) => trim_any B (tms8 xs).length d l W.heap.size (tms8 xs) W rfl (by omega) hd (htb.sm (by omega)) h (Nat.le_refl _)
  have HTe := Lib.hid hTe
  clear hbd ha hn hTe htb htl hN
  go_enter Try.func87, Try.ntmps87
  go_wp2_with (at_make; refine wpList_make_full _ rfl _ _ 22 rfl w.heap.size 3 i0 (.int .i64 0) 1 Try.underlying22 hi0 hz0 hz1 _ _ _ _ N rfl rfl rfl rfl (by rw [hz2]; omega) (by unfold maxLen; omega) (Nat.le_refl _) ?_; intro w1 hown1 hgrow1)
  have hb1 : Below w.heap.size w w1 := (Below.refl _ _).grown hgrow1 (Nat.le_refl _) (fun g hg => by cases hg)
  have HB1 := Lib.hid hb1
  have HR1 : Hid (Row w1 w.heap.size w.heap.size N N (tm8 xs 0)) := Lib.hid ((row_made hown1).congr fun m _ => (HZ.out m).symm)
  have hhi := HHI.out
  clear hown1 hgrow1 hb1
  go_loopw [12] (fun i wr => ∃ k : Nat, k ≤ n ∧ i = .int .i64 (k : Int) ∧ Hid (Row wr w.heap.size w.heap.size N N (tm8 xs k)) ∧ Hid (Below w.heap.size w wr)) (fun i _ => n - (intOf i).toNat)
  case atStart => exact ⟨0, by omega, by simp, HR1, HB1⟩
  case round =>
    obtain ⟨k, hk, rfl, hR, hbl⟩ := hrel
    by_cases hlt : k < n
    · have hN := HNN.out
      have hki : (k : Int) < (n : Int) := by omega
      have hk0 : (0 : Int) ≤ (k : Int) := by omega
      obtain ⟨ga, o, rfl, hg0, hg1, hcs⟩ := (HA.out.below hbl.out hhi) (by rw [HIL.out]; omega)
      have c0 := (hcs _ _ (HG3.out k hlt)).1
      have hne : ga ≠ w.heap.size := by omega
      obtain ⟨m, hkm⟩ : ∃ m, m = k + 1 := ⟨_, rfl⟩
      have k0 := hR.out.cell (j := k) (by omega)
      have k1 := hR.out.cell (j := m) (by omega)
      have z0 := hR.out.frozen k
      have z1 := hR.out.frozen m
      rw [(HAt.out k).1] at k0
      rw [hkm, (HAt.out k).2, ← hkm] at k1
      have b0 := HBd.out k
      have b1 := HPv.out k
      have d0 := mul12 (k : Int) (xs.getD k 0) hk0 (by omega) b0.1 b0.2
      have d1 := mul12 (k : Int) (prv8 xs k) hk0 (by omega) b1.1 b1.2
      have d2 := mul12 ((k : Int) + 1) (xs.getD k 0) (by omega) (by omega) b0.1 b0.2
      have HS := Lib.hid (HStep.out k)
      generalize xs.getD k 0 = x at *
      generalize hu : (k : Int) * prv8 xs k = u at *
      generalize hp : (k : Int) * x = p at *
      generalize hq : ((k : Int) + 1) * x = q at *
      have hR2 := (hR.out.set k (u + p)).set m q
      have hgl := hR.out.lt
      have HR2 : Hid (Row ((wr.setCell ⟨w.heap.size, k, none⟩ (.int .i64 (u + p))).setCell ⟨w.heap.size, m, none⟩ (.int .i64 q)) w.heap.size w.heap.size N N (tm8 xs (k + 1))) := Lib.hid (hR2.congr fun j _ => by rw [hkm]; exact HS.out j)
      have HB2 : Hid (Below w.heap.size w ((wr.setCell ⟨w.heap.size, k, none⟩ (.int .i64 (u + p))).setCell ⟨w.heap.size, m, none⟩ (.int .i64 q))) := Lib.hid ((hbl.out.setCell (p := ⟨w.heap.size, k, none⟩) hgl.1 _).setCell (p := ⟨w.heap.size, m, none⟩) hgl.1 _)
      have k1b : (wr.setCell ⟨w.heap.size, k, none⟩ (.int .i64 (u + p))).cell? ⟨w.heap.size, m, none⟩ = some (.int .i64 0) := (World.cell?_setCell_other _ _ _ _ (fun e => by injection e with _ e2 _; omega)).trans k1
      have z1b : (wr.setCell ⟨w.heap.size, k, none⟩ (.int .i64 (u + p))).frozen? ⟨w.heap.size, m, none⟩ = false := (World.frozen?_setCell _ _ _ _).trans z1
      have e1 : IntKind.i64.wrap ((k : Int) + 1) = (m : Int) := by rw [IntWalk.i64_in _ (by omega)]; omega
      have e2 : IntKind.i64.wrap ((k : Int) * x) = p := by rw [hp]; exact IntWalk.i64_in _ (by omega)
      have e3 : IntKind.i64.wrap (u + p) = u + p := IntWalk.i64_in _ (by omega)
      have e4 : IntKind.i64.wrap ((m : Int) * x) = q := by rw [show (m : Int) = (k : Int) + 1 by omega, hq]; exact IntWalk.i64_in _ (by omega)
      have e5 : IntKind.i64.wrap (0 + q) = q := by rw [Int.zero_add]; exact IntWalk.i64_in _ (by omega)
      have e6 : IntKind.i64.wrap q = q := IntWalk.i64_in _ (by omega)
      have q1 : (k : Int) < (N : Int) := by omega
      have q2 : (m : Int) < (N : Int) := by omega
      have q3 : (0 : Int) ≤ (m : Int) := by omega
      have HKM := Lib.hid hkm
      clear hcs hR2 hgl hkm hu hp hq k1 z1 d0 d1 d2 b0 b1 hN
      go_wp2
      exact ⟨⟨m, by have := HKM.out; omega, rfl, Lib.hid (by rw [HKM.out]; rw [HKM.out] at HR2; exact HR2.out), HB2⟩, by have := HKM.out; simp [intOf]; omega⟩
    · obtain rfl : k = n := by omega
      have hO := hR.out.own
      rw [HTe.out] at hO
      have HO := Lib.hid hO
      clear hO
      go_wp2_with (first
        | (go_at_call 61; refine (HRo.out _ _ _ _ HO.out).mono ?_; rintro e v0 ⟨B0, d0, hd0, rfl, hO0, hb0⟩; have HO0 := Lib.hid hO0; have HB0 := Lib.hid (hbl.out.trans (hb0.mono hbl.out.size)); have HZ0 := Lib.hid hbl.out.size; clear hO0 hb0)
        | (go_at_call 81; refine (HTr.out _ _ _ _ hd0 HO0.out).mono ?_; rintro e v1 ⟨⟨B1, d1, rfl, hO1⟩, hb1⟩))
      go_ret
      exact ⟨⟨B1, d1, rfl, hO1.wide HZ0.out hb1.size⟩, HB0.out.trans (hb1.mono HB0.out.size)⟩
theorem impl_TimesPlace_no (A : Option Addr) (n c lo : Nat) (xs : List Int) (w : World) (hn : xs.length = n) (hm : n ≤ 1048576) (ha : Own w lo w.heap.size A (i64s xs)) (h : fm8 xs = false) :
    Calls Try.prog 51 #[.slice A n c] w (ResI false [] w) := by
  have HG := Lib.hid (isForm8_any A n c lo w.heap.size xs w hn hm ha)
  rw [h] at HG
  clear ha hn h
  go_enter Try.func51, Try.ntmps51
  go_wp2_with (go_at_call 72; refine HG.out.mono ?_; rintro e w' ⟨rfl, rfl⟩)
  go_ret2
  exact resI_nil (Below.refl _ _)
set_option maxRecDepth 8000 in
set_option maxHeartbeats 1600000 in
theorem impl_TimesPlace_yes (A : Option Addr) (n c lo : Nat) (xs : List Int) (w : World) (hn : xs.length = n) (ha : Own w lo w.heap.size A (i64s xs)) (h : fm8 xs = true) :
    Calls Try.prog 51 #[.slice A n c] w (ResI (ent8 (trm8 (tms8 xs))) (ans8 (ent8 (trm8 (tms8 xs))) (trm8 (tms8 xs))) w) := by
  have hl : n ≤ 12 := by rw [← hn]; exact fm8_len h
  have hbd : Bd 1000000 xs := fm8_bd h
  have HG := Lib.hid (isForm8_any A n c lo w.heap.size xs w hn (by omega) ha)
  rw [h] at HG
  have HM := Lib.hid (mulPlace_any A n c lo w.heap.size xs w hn hl hbd ha (Nat.le_refl _))
  have htb := (tms8_bd hbd (by omega)).trm
  have htl : (trm8 (tms8 xs)).length ≤ 1000 := by rw [trm8_len]; exact Nat.le_trans (tln8_le _ _) (by rw [tms8_len]; omega)
  have HE := Lib.hid fun B d l W (h : Own W l W.heap.size B (l64s (trm8 (tms8 xs)))) => entries_any B (trm8 (tms8 xs)).length d l W.heap.size (trm8 (tms8 xs)) W rfl htl (htb.sm (by omega)) h (Nat.le_refl _)
  generalize ent8 (trm8 (tms8 xs)) = r at *
  generalize ans8 r (trm8 (tms8 xs)) = zs at *
  generalize trm8 (tms8 xs) = ts at *
  clear hbd h htb htl ha hn
  go_enter Try.func51, Try.ntmps51
  go_wp2_with (first
    | (go_at_call 72; refine HG.out.mono ?_; rintro e w' ⟨rfl, rfl⟩)
    | (go_at_call 87; refine HM.out.mono ?_; rintro e v1 ⟨⟨B1, d1, rfl, hO1⟩, hb1⟩; have HO1 := Lib.hid hO1; have HB1 := Lib.hid hb1; clear hO1 hb1)
    | (go_at_call 68; refine (HE.out _ _ _ _ HO1.out).mono ?_; rintro e v9 ⟨B9, d9, rfl, hO9, hb9⟩))
  go_ret2
  exact ⟨B9, d9, rfl, hO9.wide HB1.out.size (Nat.le_refl _), HB1.out.trans (hb9.mono HB1.out.size)⟩
theorem spec_TimesPlace_no (A : Option Addr) (n c lo : Nat) (xs : List Int) (w : World) (hn : xs.length = n) (hm : n ≤ 1048576) (ha : Own w lo w.heap.size A (i64s xs)) (h : fm8 xs = false) :
    Calls Try.prog 50 #[.slice A n c] w (ResI false [] w) := by
  have HG := Lib.hid (dfForm_any A n c lo w.heap.size xs w hn hm ha)
  rw [h] at HG
  clear ha hn h
  go_enter Try.func50, Try.ntmps50
  go_wp2_with (go_at_call 69; refine HG.out.mono ?_; rintro e w' ⟨rfl, rfl⟩)
  go_ret2
  exact resI_nil (Below.refl _ _)
set_option maxRecDepth 8000 in
set_option maxHeartbeats 3200000 in
theorem spec_TimesPlace_yes (A : Option Addr) (n c lo : Nat) (xs : List Int) (w : World) (hn : xs.length = n) (ha : Own w lo w.heap.size A (i64s xs)) (h : fm8 xs = true) :
    Calls Try.prog 50 #[.slice A n c] w (ResI (ent8 (trm8 (tms8 xs))) (ans8 (ent8 (trm8 (tms8 xs))) (trm8 (tms8 xs))) w) := by
  have hm : n ≤ 12 := by rw [← hn]; exact fm8_len h
  have hbd : Bd 1000000 xs := fm8_bd h
  have HG := Lib.hid (dfForm_any A n c lo w.heap.size xs w hn (by omega) ha)
  rw [h] at HG
  obtain ⟨i0, hi0, hz0, hz1, hz2⟩ := info_parts infoInt
  have HA := Lib.hid ha
  have HBd := Lib.hid hbd
  have HPv := Lib.hid fun j => prv8_bd hbd j
  have HG3 := Lib.hid (show ∀ k, k < n → (i64s xs)[k]? = some (.int .i64 (xs.getD k 0)) from fun k hk => by simp [List.getD_eq_getElem?_getD, hn, hk])
  have HIL : Hid ((i64s xs).length = n) := Lib.hid (by simp [hn])
  have HAt := Lib.hid (tm8_at xs)
  have HStep := Lib.hid (tm8_step xs)
  have HZ := Lib.hid (tm8_zero xs)
  obtain ⟨N, hN⟩ : ∃ N, N = n + 1 := ⟨_, rfl⟩
  have e0 : IntKind.i64.wrap ((n : Int) + 1) = (N : Int) := by rw [IntWalk.i64_in _ (by omega)]; omega
  have hTe : tab (tm8 xs n) N = tms8 xs := by rw [hN, tms8, hn]
  have HNN := Lib.hid hN
  have hN13 : N ≤ 13 := by omega
  have HHI := Lib.hid (Nat.le_refl w.heap.size)
  have htl : (tms8 xs).length = N := by rw [tms8_len, hn, hN]
  have HTe := Lib.hid hTe
  have HTr := Lib.hid fun B l W (h : Own W l W.heap.size B (i64s (tms8 xs))) => dfTrim_any B N N l W.heap.size (tms8 xs) W htl (by omega) (Nat.le_refl _) h (Nat.le_refl _)
  have hf := fm8_trm (tms8 xs)
  have htl2 : (trm8 (tms8 xs)).length ≤ 1000 := by rw [trm8_len]; exact Nat.le_trans (tln8_le _ _) (by rw [tms8_len]; omega)
  have HDy := Lib.hid fun (hr : ent8 (trm8 (tms8 xs)) = true) B d l W (h : Own W l W.heap.size B (i64s (trm8 (tms8 xs)))) => dfIf_yes B (trm8 (tms8 xs)).length d l W.heap.size (trm8 (tms8 xs)) W rfl (by omega) h (hf.trans hr)
  have HDn := Lib.hid fun (hr : ent8 (trm8 (tms8 xs)) = false) B d l W (h : Own W l W.heap.size B (i64s (trm8 (tms8 xs)))) => dfIf_no B (trm8 (tms8 xs)).length d l W.heap.size (trm8 (tms8 xs)) W rfl (by omega) h (hf.trans hr)
  obtain ⟨r, hr⟩ : ∃ r, r = ent8 (trm8 (tms8 xs)) := ⟨_, rfl⟩
  rw [← hr] at HDy HDn ⊢
  clear hbd ha hn hTe htl h hf htl2 hr hN
  go_enter Try.func50, Try.ntmps50
  go_wp2_with (first
    | (go_at_call 69; refine HG.out.mono ?_; rintro e w' ⟨rfl, rfl⟩)
    | (at_make; refine wpList_make_full _ rfl _ _ 22 rfl w.heap.size 3 i0 (.int .i64 0) 1 Try.underlying22 hi0 hz0 hz1 _ _ _ _ N rfl rfl rfl rfl (by rw [hz2]; omega) (by unfold maxLen; omega) (Nat.le_refl _) ?_; intro w1 hown1 hgrow1))
  have hb1 : Below w.heap.size w w1 := (Below.refl _ _).grown hgrow1 (Nat.le_refl _) (fun g hg => by cases hg)
  have HB1 := Lib.hid hb1
  have HR1 : Hid (Row w1 w.heap.size w.heap.size N N (tm8 xs 0)) := Lib.hid ((row_made hown1).congr fun m _ => (HZ.out m).symm)
  have hhi := HHI.out
  clear hown1 hgrow1 hb1
  go_loopw [16] (fun i wr => ∃ k : Nat, k ≤ n ∧ i = .int .i64 (k : Int) ∧ Hid (Row wr w.heap.size w.heap.size N N (tm8 xs k)) ∧ Hid (Below w.heap.size w wr)) (fun i _ => n - (intOf i).toNat)
  case atStart => exact ⟨0, by omega, by simp, HR1, HB1⟩
  case round =>
    obtain ⟨k, hk, rfl, hR, hbl⟩ := hrel
    by_cases hlt : k < n
    · have hN := HNN.out
      have hki : (k : Int) < (n : Int) := by omega
      have hk0 : (0 : Int) ≤ (k : Int) := by omega
      obtain ⟨ga, o, rfl, hg0, hg1, hcs⟩ := (HA.out.below hbl.out hhi) (by rw [HIL.out]; omega)
      have c0 := (hcs _ _ (HG3.out k hlt)).1
      have hne : ga ≠ w.heap.size := by omega
      obtain ⟨m, hkm⟩ : ∃ m, m = k + 1 := ⟨_, rfl⟩
      have k0 := hR.out.cell (j := k) (by omega)
      have k1 := hR.out.cell (j := m) (by omega)
      have z0 := hR.out.frozen k
      have z1 := hR.out.frozen m
      rw [(HAt.out k).1] at k0
      rw [hkm, (HAt.out k).2, ← hkm] at k1
      have b0 := HBd.out k
      have b1 := HPv.out k
      have d0 := mul12 (k : Int) (xs.getD k 0) hk0 (by omega) b0.1 b0.2
      have d1 := mul12 (k : Int) (prv8 xs k) hk0 (by omega) b1.1 b1.2
      have d2 := mul12 ((k : Int) + 1) (xs.getD k 0) (by omega) (by omega) b0.1 b0.2
      have HS := Lib.hid (HStep.out k)
      generalize xs.getD k 0 = x at *
      generalize hu : (k : Int) * prv8 xs k = u at *
      generalize hp : (k : Int) * x = p at *
      generalize hq : ((k : Int) + 1) * x = q at *
      have hR2 := (hR.out.set k (u + p)).set m q
      have hgl := hR.out.lt
      have HR2 : Hid (Row ((wr.setCell ⟨w.heap.size, k, none⟩ (.int .i64 (u + p))).setCell ⟨w.heap.size, m, none⟩ (.int .i64 q)) w.heap.size w.heap.size N N (tm8 xs (k + 1))) := Lib.hid (hR2.congr fun j _ => by rw [hkm]; exact HS.out j)
      have HB2 : Hid (Below w.heap.size w ((wr.setCell ⟨w.heap.size, k, none⟩ (.int .i64 (u + p))).setCell ⟨w.heap.size, m, none⟩ (.int .i64 q))) := Lib.hid ((hbl.out.setCell (p := ⟨w.heap.size, k, none⟩) hgl.1 _).setCell (p := ⟨w.heap.size, m, none⟩) hgl.1 _)
      have k1b : (wr.setCell ⟨w.heap.size, k, none⟩ (.int .i64 (u + p))).cell? ⟨w.heap.size, m, none⟩ = some (.int .i64 0) := (World.cell?_setCell_other _ _ _ _ (fun e => by injection e with _ e2 _; omega)).trans k1
      have z1b : (wr.setCell ⟨w.heap.size, k, none⟩ (.int .i64 (u + p))).frozen? ⟨w.heap.size, m, none⟩ = false := (World.frozen?_setCell _ _ _ _).trans z1
      have e1 : IntKind.i64.wrap ((k : Int) + 1) = (m : Int) := by rw [IntWalk.i64_in _ (by omega)]; omega
      have e2 : IntKind.i64.wrap ((k : Int) * x) = p := by rw [hp]; exact IntWalk.i64_in _ (by omega)
      have e3 : IntKind.i64.wrap (u + p) = u + p := IntWalk.i64_in _ (by omega)
      have e4 : IntKind.i64.wrap ((m : Int) * x) = q := by rw [show (m : Int) = (k : Int) + 1 by omega, hq]; exact IntWalk.i64_in _ (by omega)
      have e5 : IntKind.i64.wrap (0 + q) = q := by rw [Int.zero_add]; exact IntWalk.i64_in _ (by omega)
      have e6 : IntKind.i64.wrap q = q := IntWalk.i64_in _ (by omega)
      have q1 : (k : Int) < (N : Int) := by omega
      have q2 : (m : Int) < (N : Int) := by omega
      have q3 : (0 : Int) ≤ (m : Int) := by omega
      have HKM := Lib.hid hkm
      clear hcs hR2 hgl hkm hu hp hq k1 z1 d0 d1 d2 b0 b1 hN
      go_wp2
      exact ⟨⟨m, by have := HKM.out; omega, rfl, Lib.hid (by rw [HKM.out]; rw [HKM.out] at HR2; exact HR2.out), HB2⟩, by have := HKM.out; simp [intOf]; omega⟩
    · obtain rfl : k = n := by omega
      have hO := hR.out.own
      rw [HTe.out] at hO
      have HO := Lib.hid hO
      clear hO
      cases r with
      | true =>
        go_wp2_with (first
          | (go_at_call 86; refine (HTr.out _ _ _ HO.out).mono ?_; rintro e v1 ⟨⟨B1, d1, rfl, hO1⟩, hb1⟩; have HO1 := Lib.hid (own_of_row hO1); have HB1' := Lib.hid (hbl.out.trans (hb1.mono hbl.out.size)); clear hO1 hb1)
          | (go_at_call 67; refine (HDy.out (by trivial) _ _ _ _ HO1.out).mono ?_; rintro e w' ⟨rfl, rfl⟩))
        go_ret2
        exact ⟨B1, d1, rfl, HO1.out.wide hbl.out.size (Nat.le_refl _), HB1'.out⟩
      | false =>
        go_wp2_with (first
          | (go_at_call 86; refine (HTr.out _ _ _ HO.out).mono ?_; rintro e v1 ⟨⟨B1, d1, rfl, hO1⟩, hb1⟩; have HO1 := Lib.hid (own_of_row hO1); have HB1' := Lib.hid (hbl.out.trans (hb1.mono hbl.out.size)); clear hO1 hb1)
          | (go_at_call 67; refine (HDn.out (by trivial) _ _ _ _ HO1.out).mono ?_; rintro e w' ⟨rfl, rfl⟩))
        go_ret2
        exact resI_nil HB1'.out
theorem walk_TimesPlace (A : Option Addr) (n c : Nat) (xs : List Int) (w : World) (hn : xs.length = n) (hl : n ≤ 9223372036854775807) (ha : Rd w w.heap.size A (i64s xs)) :
    Calls Try.prog 15 #[.slice A n c] w fun e w' => e = .returned (.bool true) ∧ Below w.heap.size w w' := by
  by_cases hm : n ≤ 1048576
  · cases h : fm8 xs with
    | false => exact lawLL_TimesPlace A n c xs [] false w hn hm (by simp) ha (fun B d lo W hO => spec_TimesPlace_no B n d lo xs W hn hm hO h) (fun B d lo W hO => impl_TimesPlace_no B n d lo xs W hn hm hO h)
    | true => exact lawLL_TimesPlace A n c xs _ _ w hn hm (ans8_len (by rw [trm8_len]; exact Nat.le_trans (tln8_le _ _) (by rw [tms8_len]; omega))) ha (fun B d lo W hO => spec_TimesPlace_yes B n d lo xs W hn hO h) (fun B d lo W hO => impl_TimesPlace_yes B n d lo xs W hn hO h)
  · exact lawL_TimesPlace_big A n c w (by omega)
end Go.Proofs.Ytmjgjdebcmbjeaa
