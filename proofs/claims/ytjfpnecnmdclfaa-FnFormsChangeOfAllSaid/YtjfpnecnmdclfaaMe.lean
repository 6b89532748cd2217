/- The texts XTbU XTbV XTbG XLfTimesPlace XTcP XTcN XTcQ joined. -/
import Derived.Test.YtjfpnecnmdclfaaTbT
import Derived.Test.YtjfpnecnmdclfaaMd
import Derived.Test.YtjfpnecnmdclfaaMa
import Derived.BigRegion
import Derived.Test.YtjfpnecnmdclfaaMb
import Derived.Test.YtjfpnecnmdclfaaSuI
/- Chapter 8, by the specification: forms. -/
namespace Go.Proofs.Ytjfpnecnmdclfaa
open Go.RowKit

theorem dfIf_yes (A : Option Addr) (n c lo hi : Nat) (xs : List Int) (w : World) (hn : xs.length = n) (hm : n ≤ 1048576) (ha : Own w lo hi A (i64s xs)) (h : fm8 xs = true) :
    Calls Try.prog 37 #[.slice A n c] w fun e w' => e = .returned (.tuple #[.slice A n c, .bool true]) ∧ w = w' := by
  have := dfIf_any A n c lo hi xs w hn hm ha
  rw [h] at this
  exact this
theorem dfIf_no (A : Option Addr) (n c lo hi : Nat) (xs : List Int) (w : World) (hn : xs.length = n) (hm : n ≤ 1048576) (ha : Own w lo hi A (i64s xs)) (h : fm8 xs = false) :
    Calls Try.prog 37 #[.slice A n c] w fun e w' => e = .returned (.tuple #[.slice none 0 0, .bool false]) ∧ w = w' := by
  have := dfIf_any A n c lo hi xs w hn hm ha
  rw [h] at this
  exact this
theorem fm8_of_last {xs : List Int} (h : 0 < xs.length → xs.getD (xs.length - 1) 0 ≠ 0) : fm8 xs = ent8 xs := by
  rw [fm8_ent]
  by_cases h0 : xs.length = 0
  · rw [decide_eq_true h0, Bool.true_or, Bool.and_true]
  · rw [decide_eq_true (p := xs.getD (xs.length - 1) 0 ≠ 0) (h (by omega)), Bool.or_true, Bool.and_true]
theorem fm8_trm (xs : List Int) : fm8 (trm8 xs) = ent8 (trm8 xs) := fm8_of_last (trm8_last xs)
theorem fm8_last {xs : List Int} (h : fm8 xs = true) (h0 : 0 < xs.length) : xs.getD (xs.length - 1) 0 ≠ 0 := by
  rw [fm8_ent, Bool.and_eq_true, Bool.or_eq_true, decide_eq_true_iff, decide_eq_true_iff] at h
  rcases h.2 with h1 | h1
  · omega
  · exact h1
end Go.Proofs.Ytjfpnecnmdclfaa

/- Chapter 8, by the specification: FormBehind. -/
namespace Go.Proofs.Ytjfpnecnmdclfaa
open Go.RowKit

theorem tab_list (xs : List Int) : tab (fun j => xs.getD j 0) xs.length = xs := by
  apply List.ext_getElem?
  intro i
  by_cases hi : i < xs.length
  · rw [tab_get _ _ _ hi]
    simp [List.getD_eq_getElem?_getD, hi]
  · rw [List.getElem?_eq_none (by rw [tab_len]; omega), List.getElem?_eq_none (by omega)]
theorem tab_eq {xs : List Int} {f : Nat → Int} {n : Nat} (hn : xs.length = n) (h : ∀ j, j < n → f j = xs.getD j 0) : tab f n = xs := by
  rw [tab_congr (g := fun j => xs.getD j 0) h, ← hn]
  exact tab_list xs
theorem row_base {w : World} {base : Nat} {e : TypeId} {size n c : Nat} {A : Option Addr} {cs : List Value} (h : w.ownsRow base e size (.slice A n c) n cs) (h0 : 0 < n) : ∃ g, A = some ⟨g, 0, none⟩ := by
  rcases h.2 with ⟨hv, e0⟩ | ⟨g, cap, cur, hv, _⟩
  · omega
  · injection hv with hA _ _
    exact ⟨g, hA⟩
/-- The numbers while the first k are led on. -/
def led8 (xs : List Int) (k : Nat) (j : Nat) : Int := if j < k then xs.getD j 0 + xs.getD (j + 1) 0 else xs.getD j 0
theorem led8_set (xs : List Int) (k : Nat) (x : Int) (hx : x = xs.getD k 0 + xs.getD (k + 1) 0) : ∀ j, upd (led8 xs k) k x j = led8 xs (k + 1) j := fun j => by
  unfold upd led8
  by_cases h : j = k
  · subst h
    rw [if_pos rfl, if_pos (by omega), hx]
  · rw [if_neg h]
    by_cases h2 : j < k
    · rw [if_pos h2, if_pos (by omega)]
    · rw [if_neg h2, if_neg (by omega)]
theorem spec_FormBehind_no (A : Option Addr) (n c lo : Nat) (xs : List Int) (w : World) (hn : xs.length = n) (hm : n ≤ 1048576) (ha : Own w lo w.heap.size A (i64s xs)) (h : fm8 xs = false) :
    Calls Try.prog 10 #[.slice A n c] w (ResI false [] w) := by
  have HG := Lib.hid (dfForm_any A n c lo w.heap.size xs w hn hm ha)
  rw [h] at HG
  clear ha hn h
  go_enter Try.func10, Try.ntmps10
  go_wp2_with (go_at_call 36; refine HG.out.mono ?_; rintro e w' ⟨rfl, rfl⟩)
  go_ret2
  exact resI_nil (Below.refl _ _)
theorem fm8_stp {xs : List Int} (h : fm8 xs = true) : fm8 (stp8 xs) = ent8 (stp8 xs) := fm8_of_last fun h0 => by
  rw [stp8_len] at h0 ⊢
  rw [stp8_at]
  have h1 := fm8_last h h0
  have e : xs.getD (xs.length - 1 + 1) 0 = 0 := by
    rw [List.getD_eq_getElem?_getD, List.getElem?_eq_none (by omega)]
    rfl
  rw [e]
  omega
set_option maxRecDepth 8000 in
set_option maxHeartbeats 1600000 in
theorem spec_FormBehind_yes (A : Option Addr) (n c lo : Nat) (xs : List Int) (w : World) (hn : xs.length = n) (ha : Own w lo w.heap.size A (i64s xs)) (h : fm8 xs = true) :
    Calls Try.prog 10 #[.slice A n c] w (ResI (ent8 (stp8 xs)) (ans8 (ent8 (stp8 xs)) (stp8 xs)) w) := by
  have hl := fm8_len h
  have hbd := fm8_bd h
  rw [hn] at hl
  have HG := Lib.hid (dfForm_any A n c lo w.heap.size xs w hn (by omega) ha)
  rw [h] at HG
  have HOw := Lib.hid (l1Own8_any A n c w.heap.size xs w hn (by omega) ha.rd (Nat.le_refl _))
  have hf := fm8_stp h
  have hsl : (stp8 xs).length = n := by rw [stp8_len, hn]
  have HDy := Lib.hid fun (hr : ent8 (stp8 xs) = true) B d l W (h : Own W l W.heap.size B (i64s (stp8 xs))) => dfIf_yes B n d l W.heap.size (stp8 xs) W hsl (by omega) h (hf.trans hr)
  have HDn := Lib.hid fun (hr : ent8 (stp8 xs) = false) B d l W (h : Own W l W.heap.size B (i64s (stp8 xs))) => dfIf_no B n d l W.heap.size (stp8 xs) W hsl (by omega) h (hf.trans hr)
  obtain ⟨r, hr⟩ : ∃ r, r = ent8 (stp8 xs) := ⟨_, rfl⟩
  rw [← hr] at HDy HDn ⊢
  by_cases h0 : n = 0
  · have hx : xs = [] := List.eq_nil_of_length_eq_zero (hn.trans h0)
    subst hx
    subst h0
    obtain rfl : r = true := hr
    show Calls _ _ _ _ (ResI true [] w)
    have HD := Lib.hid fun B d l W h => HDy.out rfl B d l W h
    clear HDy HDn hbd hf ha h
    go_enter Try.func10, Try.ntmps10
    go_wp2_with (first
      | (go_at_call 36; refine HG.out.mono ?_; rintro e w' ⟨rfl, rfl⟩)
      | (go_at_call 39; refine HOw.out.mono ?_; rintro e w1 ⟨⟨B0, d0, rfl, hR0⟩, hb0⟩; have HR0 := Lib.hid hR0; have HB0 := Lib.hid hb0; clear hR0 hb0))
    go_loopw [5] (fun i wr => i = .int .i64 0 ∧ wr = w1) (fun _ _ => 0)
    case atStart => exact ⟨rfl, rfl⟩
    case round =>
      obtain ⟨rfl, rfl⟩ := hrel
      go_wp2_with (go_at_call 37; refine (HD.out B0 d0 0 _ Own.nil_).mono ?_; rintro e w' ⟨rfl, rfl⟩)
      go_ret2
      exact ⟨B0, d0, rfl, Own.nil_, HB0.out⟩
  · have HN := Lib.hid hn
    have HBd := Lib.hid hbd
    have HEnd : Hid (∀ m, m + 1 = n → tab (led8 xs m) n = stp8 xs) := Lib.hid fun m hm => tab_eq hsl fun j hj => by
      rw [stp8_at]
      unfold led8
      split
      · rfl
      · have e : xs.getD (j + 1) 0 = 0 := by
          rw [List.getD_eq_getElem?_getD, List.getElem?_eq_none (by omega)]
          rfl
        rw [e]
        omega
    have HBeg : Hid (i64s (tab (led8 xs 0) n) = i64s xs) := Lib.hid (by
      rw [tab_eq (xs := xs) hn]
      intro j hj
      unfold led8
      rw [if_neg (by omega)])
    have HSet := Lib.hid fun k x hx => led8_set xs k x hx
    have HV := Lib.hid (show ∀ k, led8 xs k k = xs.getD k 0 ∧ led8 xs k (k + 1) = xs.getD (k + 1) 0 from fun k => by
      unfold led8
      rw [if_neg (by omega), if_neg (by omega)]
      exact ⟨rfl, rfl⟩)
    have HSl := Lib.hid hsl
    have hn1 : 1 ≤ n := by omega
    clear hbd hf ha h hr hn hsl h0
    go_enter Try.func10, Try.ntmps10
    go_wp2_with (first
      | (go_at_call 36; refine HG.out.mono ?_; rintro e w' ⟨rfl, rfl⟩)
      | (go_at_call 39; refine HOw.out.mono ?_; rintro e w1 ⟨⟨B0, d0, rfl, hR0⟩, hb0⟩; obtain ⟨g, rfl⟩ := row_base hR0 (by omega); have HR0 := Lib.hid hR0; have HB0 := Lib.hid hb0; clear hR0 hb0))
    go_loopw [5] (fun i wr => ∃ k : Nat, k + 1 ≤ n ∧ i = .int .i64 (k : Int) ∧ Hid (Row wr w.heap.size g n d0 (led8 xs k)) ∧ Hid (Below w.heap.size w wr)) (fun i _ => n - (intOf i).toNat)
    case atStart => exact ⟨0, by omega, by simp, Lib.hid (by unfold Row; rw [HBeg.out]; exact HR0.out), HB0⟩
    case round =>
      obtain ⟨k, hk, rfl, hR, hbl⟩ := hrel
      have e1 : IntKind.i64.wrap ((k : Int) + 1) = (k : Int) + 1 := IntWalk.i64_in _ (by omega)
      by_cases hlt : k + 1 < n
      · obtain ⟨m, hkm⟩ : ∃ m, m = k + 1 := ⟨_, rfl⟩
        have c0 := hR.out.cell (j := k) (by omega)
        have c1 := hR.out.cell (j := m) (by omega)
        have z0 := hR.out.frozen k
        rw [(HV.out k).1] at c0
        rw [hkm, (HV.out k).2, ← hkm] at c1
        have b0 := HBd.out k
        have b1 := HBd.out m
        have HS := Lib.hid (HSet.out k (xs.getD k 0 + xs.getD m 0) (by rw [hkm]))
        have hR2 := hR.out.set k (xs.getD k 0 + xs.getD m 0)
        have hgl := hR.out.lt
        generalize xs.getD k 0 = x at *
        generalize xs.getD m 0 = y at *
        have HR2 := Lib.hid ((hR2.congr (f' := led8 xs (k + 1)) fun j _ => HS.out j).drew)
        have HB2 : Hid (Below w.heap.size w (wr.setCell ⟨g, k, none⟩ (.int .i64 (x + y))).drew) := Lib.hid ((hbl.out.setCell (p := ⟨g, k, none⟩) hgl.1 _).drew)
        have q1 : (k : Int) + 1 < (n : Int) := by omega
        have q2 : (k : Int) < (n : Int) := by omega
        have q3 : (0 : Int) ≤ (k : Int) := by omega
        have q4 : (m : Int) < (n : Int) := by omega
        have q5 : (0 : Int) ≤ (m : Int) := by omega
        have e2 : IntKind.i64.wrap ((k : Int) + 1) = (m : Int) := by rw [e1]; omega
        have q6 : (k : Int) + 1 = (m : Int) := by omega
        have e3 : IntKind.i64.wrap (x + y) = x + y := IntWalk.i64_in _ (by omega)
        have HKM := Lib.hid hkm
        clear hR2 hgl hkm e1 q1 q6
        go_wp2
        go_region
        go_wp2
        go_roundw
        case rel => exact ⟨m, by have := HKM.out; omega, rfl, Lib.hid (by rw [HKM.out]; exact HR2.out), HB2⟩
        case measure => have := HKM.out; simp [intOf]; omega
      · obtain ⟨m, hkm⟩ : ∃ m, m + 1 = n := ⟨k, by omega⟩
        obtain rfl : k = m := by omega
        have hE := HEnd.out k hkm
        have hO := hR.out.own
        rw [hE] at hO
        have HO := Lib.hid hO
        have q1 : ¬ (k : Int) + 1 < (n : Int) := by omega
        clear hO hE hkm
        cases r with
        | true =>
          go_wp2_with (go_at_call 37; refine (HDy.out rfl _ _ _ _ HO.out).mono ?_; rintro e w' ⟨rfl, rfl⟩)
          go_ret2
          exact ⟨_, d0, by rw [show ans8 true (stp8 xs) = stp8 xs from rfl, HSl.out]; rfl, HO.out, hbl.out⟩
        | false =>
          go_wp2_with (go_at_call 37; refine (HDn.out rfl _ _ _ _ HO.out).mono ?_; rintro e w' ⟨rfl, rfl⟩)
          go_ret2
          exact resI_nil hbl.out
end Go.Proofs.Ytjfpnecnmdclfaa

/- Chapter 8: the frames of the laws that hand back plain values; lists that are too long for a law. -/
namespace Go.Proofs.Ytjfpnecnmdclfaa
open Go.RowKit

end Go.Proofs.Ytjfpnecnmdclfaa

/- Chapter 8: the frame of the law TimesPlace. -/
namespace Go.Proofs.Ytjfpnecnmdclfaa
open Go.RowKit

end Go.Proofs.Ytjfpnecnmdclfaa

/- Chapter 8: the law TimesPlace. -/
namespace Go.Proofs.Ytjfpnecnmdclfaa
open Go.ChangeShapes Go.WideShapes Go.ChangeAt Go.RowKit

def prv8 (xs : List Int) (j : Nat) : Int := if j = 0 then 0 else xs.getD (j - 1) 0
/-- The products while the first k numbers are laid. -/
def tm8 (xs : List Int) (k : Nat) (j : Nat) : Int := if j < k then (j : Int) * (prv8 xs j + xs.getD j 0) else if j = k then (j : Int) * prv8 xs j else 0
theorem tm8_zero (xs : List Int) (j : Nat) : tm8 xs 0 j = 0 := by
  unfold tm8
  rw [if_neg (by omega)]
  split
  · rename_i h
    subst h
    simp
  · rfl
theorem tm8_at (xs : List Int) (k : Nat) : tm8 xs k k = (k : Int) * prv8 xs k ∧ tm8 xs k (k + 1) = 0 := by
  unfold tm8
  rw [if_neg (by omega), if_pos rfl, if_neg (by omega), if_neg (by omega)]
  exact ⟨rfl, rfl⟩
theorem tm8_step (xs : List Int) (k : Nat) : ∀ j, upd (upd (tm8 xs k) k ((k : Int) * prv8 xs k + (k : Int) * xs.getD k 0)) (k + 1) (((k : Int) + 1) * xs.getD k 0) j = tm8 xs (k + 1) j := fun j => by
  unfold upd tm8
  by_cases h1 : j = k + 1
  · subst h1
    rw [if_pos rfl, if_neg (by omega), if_pos rfl]
    unfold prv8
    rw [if_neg (by omega), Nat.add_sub_cancel]
    simp
  · rw [if_neg h1]
    by_cases h2 : j = k
    · subst h2
      rw [if_pos rfl, if_pos (by omega), Int.mul_add]
    · rw [if_neg h2]
      by_cases h3 : j < k
      · rw [if_pos h3, if_pos (by omega)]
      · rw [if_neg h3, if_neg h2, if_neg (by omega), if_neg h1]
theorem mul12 (k : Int) (x : Int) (h0 : 0 ≤ k) (h1 : k ≤ 12) (h2 : -1000000 ≤ x) (h3 : x ≤ 1000000) : -12000000 ≤ k * x ∧ k * x ≤ 12000000 := by
  have a := Int.mul_le_mul_of_nonneg_left h3 h0
  have b := Int.mul_le_mul_of_nonneg_left h2 h0
  omega
theorem prv8_bd {xs : List Int} (h : Bd 1000000 xs) (j : Nat) : -1000000 ≤ prv8 xs j ∧ prv8 xs j ≤ 1000000 := by
  unfold prv8
  split
  · omega
  · exact h _
/-- The products. -/
def tms8 (xs : List Int) : List Int := tab (tm8 xs xs.length) (xs.length + 1)
theorem tms8_len (xs : List Int) : (tms8 xs).length = xs.length + 1 := tab_len _ _
theorem tms8_bd {xs : List Int} (h : Bd 1000000 xs) (hl : xs.length ≤ 12) : Bd 24000000 (tms8 xs) := fun j => by
  by_cases hj : j < xs.length + 1
  · have e : (tms8 xs).getD j 0 = tm8 xs xs.length j := by rw [List.getD_eq_getElem?_getD, tms8, tab_get _ _ _ hj]; rfl
    rw [e]
    unfold tm8
    have a := mul12 (j : Int) (prv8 xs j) (by omega) (by omega) (prv8_bd h j).1 (prv8_bd h j).2
    have b := mul12 (j : Int) (xs.getD j 0) (by omega) (by omega) (h j).1 (h j).2
    split
    · rw [Int.mul_add]; omega
    · split
      · omega
      · omega
  · have e : (tms8 xs).getD j 0 = 0 := by rw [List.getD_eq_getElem?_getD, List.getElem?_eq_none (by rw [tms8_len]; omega)]; rfl
    rw [e]
    omega
set_option maxRecDepth 8000 in
set_option maxHeartbeats 3200000 in
theorem mulPlace_any (A : Option Addr) (n c lo hi : Nat) (xs : List Int) (w : World) (hn : xs.length = n) (hm : n ≤ 12) (hbd : Bd 1000000 xs) (ha : Own w lo hi A (i64s xs)) (hh : hi ≤ w.heap.size) :
    Calls Try.prog 40 #[.slice A n c] w fun e w' => (∃ B d, e = .returned (.slice B (trm8 (tms8 xs)).length d) ∧ Own w' w.heap.size w'.heap.size B (l64s (trm8 (tms8 xs)))) ∧ Below w.heap.size w w' := by
  obtain ⟨i0, hi0, hz0, hz1, hz2⟩ := info_parts infoInt
  have HA := Lib.hid ha
  have HBd := Lib.hid hbd
  have HPv := Lib.hid fun j => prv8_bd hbd j
  have HG3 := Lib.hid (show ∀ k, k < n → (i64s xs)[k]? = some (.int .i64 (xs.getD k 0)) from fun k hk => by simp [List.getD_eq_getElem?_getD, hn, hk])
  have HIL : Hid ((i64s xs).length = n) := Lib.hid (by simp [hn])
  have HAt := Lib.hid (tm8_at xs)
  have HStep := Lib.hid (tm8_step xs)
  have HZ := Lib.hid (tm8_zero xs)
  obtain ⟨N, hN⟩ : ∃ N, N = n + 1 := ⟨_, rfl⟩
  have e0 : IntKind.i64.wrap ((n : Int) + 1) = (N : Int) := by rw [IntWalk.i64_in _ (by omega)]; omega
  have hTe : tab (tm8 xs n) N = tms8 xs := by rw [hN, tms8, hn]
  have HNN := Lib.hid hN
  have hN13 : N ≤ 13 := by omega
  have HHI := Lib.hid hh
  have htb := tms8_bd hbd (by omega)
  have htl : (tms8 xs).length = N := by rw [tms8_len, hn, hN]
  have HRo := Lib.hid fun B d l W (h : Own W l W.heap.size B (i64s (tms8 xs))) => rowOf_any B N d l W.heap.size (tms8 xs) W htl (by omega) h (Nat.le_refl _) (htb.i64 (by omega))
  have HTr := Lib.hid fun B d l W (hd : (tms8 xs).length ≤ d) (h : Own W l W.heap.size B (l64s (tms8 xs))) => trim_any B (tms8 xs).length d l W.heap.size (tms8 xs) W rfl (by omega) hd (htb.sm (by omega)) h (Nat.le_refl _)
  have HTe := Lib.hid hTe
  clear hbd ha hn hTe htb htl hN
  go_enter Try.func40, Try.ntmps40
  go_wp2_with (at_make; refine wpList_make_full _ rfl _ _ 24 rfl w.heap.size 3 i0 (.int .i64 0) 1 Try.underlying24 hi0 hz0 hz1 _ _ _ _ N rfl rfl rfl rfl (by rw [hz2]; omega) (by unfold maxLen; omega) (Nat.le_refl _) ?_; intro w1 hown1 hgrow1)
  have hb1 : Below w.heap.size w w1 := (Below.refl _ _).grown hgrow1 (Nat.le_refl _) (fun g hg => by cases hg)
  have HB1 := Lib.hid hb1
  have HR1 : Hid (Row w1 w.heap.size w.heap.size N N (tm8 xs 0)) := Lib.hid ((row_made hown1).congr fun m _ => (HZ.out m).symm)
  have hhi := HHI.out
  clear hown1 hgrow1 hb1
  go_loopw [12] (fun i wr => ∃ k : Nat, k ≤ n ∧ i = .int .i64 (k : Int) ∧ Hid (Row wr w.heap.size w.heap.size N N (tm8 xs k)) ∧ Hid (Below w.heap.size w wr)) (fun i _ => n - (intOf i).toNat)
  case atStart => exact ⟨0, by omega, by simp, HR1, HB1⟩
  case round =>
    obtain ⟨k, hk, rfl, hR, hbl⟩ := hrel
    by_cases hlt : k < n
    · have hN := HNN.out
      have hki : (k : Int) < (n : Int) := by omega
      have hk0 : (0 : Int) ≤ (k : Int) := by omega
      obtain ⟨ga, o, rfl, hg0, hg1, hcs⟩ := (HA.out.below hbl.out hhi) (by rw [HIL.out]; omega)
      have c0 := (hcs _ _ (HG3.out k hlt)).1
      have hne : ga ≠ w.heap.size := by omega
      obtain ⟨m, hkm⟩ : ∃ m, m = k + 1 := ⟨_, rfl⟩
      have k0 := hR.out.cell (j := k) (by omega)
      have k1 := hR.out.cell (j := m) (by omega)
      have z0 := hR.out.frozen k
      have z1 := hR.out.frozen m
      rw [(HAt.out k).1] at k0
      rw [hkm, (HAt.out k).2, ← hkm] at k1
      have b0 := HBd.out k
      have b1 := HPv.out k
      have d0 := mul12 (k : Int) (xs.getD k 0) hk0 (by omega) b0.1 b0.2
      have d1 := mul12 (k : Int) (prv8 xs k) hk0 (by omega) b1.1 b1.2
      have d2 := mul12 ((k : Int) + 1) (xs.getD k 0) (by omega) (by omega) b0.1 b0.2
      have HS := Lib.hid (HStep.out k)
      generalize xs.getD k 0 = x at *
      generalize hu : (k : Int) * prv8 xs k = u at *
      generalize hp : (k : Int) * x = p at *
      generalize hq : ((k : Int) + 1) * x = q at *
      have hR2 := (hR.out.set k (u + p)).set m q
      have hgl := hR.out.lt
      have HR2 : Hid (Row ((wr.setCell ⟨w.heap.size, k, none⟩ (.int .i64 (u + p))).setCell ⟨w.heap.size, m, none⟩ (.int .i64 q)) w.heap.size w.heap.size N N (tm8 xs (k + 1))) := Lib.hid (hR2.congr fun j _ => by rw [hkm]; exact HS.out j)
      have HB2 : Hid (Below w.heap.size w ((wr.setCell ⟨w.heap.size, k, none⟩ (.int .i64 (u + p))).setCell ⟨w.heap.size, m, none⟩ (.int .i64 q))) := Lib.hid ((hbl.out.setCell (p := ⟨w.heap.size, k, none⟩) hgl.1 _).setCell (p := ⟨w.heap.size, m, none⟩) hgl.1 _)
      have k1b : (wr.setCell ⟨w.heap.size, k, none⟩ (.int .i64 (u + p))).cell? ⟨w.heap.size, m, none⟩ = some (.int .i64 0) := (World.cell?_setCell_other _ _ _ _ (fun e => by injection e with _ e2 _; omega)).trans k1
      have z1b : (wr.setCell ⟨w.heap.size, k, none⟩ (.int .i64 (u + p))).frozen? ⟨w.heap.size, m, none⟩ = false := (World.frozen?_setCell _ _ _ _).trans z1
      have e1 : IntKind.i64.wrap ((k : Int) + 1) = (m : Int) := by rw [IntWalk.i64_in _ (by omega)]; omega
      have e2 : IntKind.i64.wrap ((k : Int) * x) = p := by rw [hp]; exact IntWalk.i64_in _ (by omega)
      have e3 : IntKind.i64.wrap (u + p) = u + p := IntWalk.i64_in _ (by omega)
      have e4 : IntKind.i64.wrap ((m : Int) * x) = q := by rw [show (m : Int) = (k : Int) + 1 by omega, hq]; exact IntWalk.i64_in _ (by omega)
      have e5 : IntKind.i64.wrap (0 + q) = q := by rw [Int.zero_add]; exact IntWalk.i64_in _ (by omega)
      have e6 : IntKind.i64.wrap q = q := IntWalk.i64_in _ (by omega)
      have q1 : (k : Int) < (N : Int) := by omega
      have q2 : (m : Int) < (N : Int) := by omega
      have q3 : (0 : Int) ≤ (m : Int) := by omega
      have HKM := Lib.hid hkm
      clear hcs hR2 hgl hkm hu hp hq k1 z1 d0 d1 d2 b0 b1 hN
      go_wp2
      exact ⟨⟨m, by have := HKM.out; omega, rfl, Lib.hid (by rw [HKM.out]; rw [HKM.out] at HR2; exact HR2.out), HB2⟩, by have := HKM.out; simp [intOf]; omega⟩
    · obtain rfl : k = n := by omega
      have hO := hR.out.own
      rw [HTe.out] at hO
      have HO := Lib.hid hO
      clear hO
      go_wp2_with (first
        | (go_at_call 33; refine (HRo.out _ _ _ _ HO.out).mono ?_; rintro e v0 ⟨B0, d0, hd0, rfl, hO0, hb0⟩; have HO0 := Lib.hid hO0; have HB0 := Lib.hid (hbl.out.trans (hb0.mono hbl.out.size)); have HZ0 := Lib.hid hbl.out.size; clear hO0 hb0)
        | (go_at_call 34; refine (HTr.out _ _ _ _ hd0 HO0.out).mono ?_; rintro e v1 ⟨⟨B1, d1, rfl, hO1⟩, hb1⟩))
      go_ret
      exact ⟨⟨B1, d1, rfl, hO1.wide HZ0.out hb1.size⟩, HB0.out.trans (hb1.mono HB0.out.size)⟩
theorem impl_TimesPlace_no (A : Option Addr) (n c lo : Nat) (xs : List Int) (w : World) (hn : xs.length = n) (hm : n ≤ 1048576) (ha : Own w lo w.heap.size A (i64s xs)) (h : fm8 xs = false) :
    Calls Try.prog 11 #[.slice A n c] w (ResI false [] w) := by
  have HG := Lib.hid (isForm8_any A n c lo w.heap.size xs w hn hm ha)
  rw [h] at HG
  clear ha hn h
  go_enter Try.func11, Try.ntmps11
  go_wp2_with (go_at_call 32; refine HG.out.mono ?_; rintro e w' ⟨rfl, rfl⟩)
  go_ret2
  exact resI_nil (Below.refl _ _)
set_option maxRecDepth 8000 in
set_option maxHeartbeats 1600000 in
theorem impl_TimesPlace_yes (A : Option Addr) (n c lo : Nat) (xs : List Int) (w : World) (hn : xs.length = n) (ha : Own w lo w.heap.size A (i64s xs)) (h : fm8 xs = true) :
    Calls Try.prog 11 #[.slice A n c] w (ResI (ent8 (trm8 (tms8 xs))) (ans8 (ent8 (trm8 (tms8 xs))) (trm8 (tms8 xs))) w) := by
  have hl : n ≤ 12 := by rw [← hn]; exact fm8_len h
  have hbd : Bd 1000000 xs := fm8_bd h
  have HG := Lib.hid (isForm8_any A n c lo w.heap.size xs w hn (by omega) ha)
  rw [h] at HG
  have HM := Lib.hid (mulPlace_any A n c lo w.heap.size xs w hn hl hbd ha (Nat.le_refl _))
  have htb := (tms8_bd hbd (by omega)).trm
  have htl : (trm8 (tms8 xs)).length ≤ 1000 := by rw [trm8_len]; exact Nat.le_trans (tln8_le _ _) (by rw [tms8_len]; omega)
  have HE := Lib.hid fun B d l W (h : Own W l W.heap.size B (l64s (trm8 (tms8 xs)))) => entries_any B (trm8 (tms8 xs)).length d l W.heap.size (trm8 (tms8 xs)) W rfl htl (htb.sm (by omega)) h (Nat.le_refl _)
  generalize ent8 (trm8 (tms8 xs)) = r at *
  generalize ans8 r (trm8 (tms8 xs)) = zs at *
  generalize trm8 (tms8 xs) = ts at *
  clear hbd h htb htl ha hn
  go_enter Try.func11, Try.ntmps11
  go_wp2_with (first
    | (go_at_call 32; refine HG.out.mono ?_; rintro e w' ⟨rfl, rfl⟩)
    | (go_at_call 40; refine HM.out.mono ?_; rintro e v1 ⟨⟨B1, d1, rfl, hO1⟩, hb1⟩; have HO1 := Lib.hid hO1; have HB1 := Lib.hid hb1; clear hO1 hb1)
    | (go_at_call 35; refine (HE.out _ _ _ _ HO1.out).mono ?_; rintro e v9 ⟨B9, d9, rfl, hO9, hb9⟩))
  go_ret2
  exact ⟨B9, d9, rfl, hO9.wide HB1.out.size (Nat.le_refl _), HB1.out.trans (hb9.mono HB1.out.size)⟩
theorem spec_TimesPlace_no (A : Option Addr) (n c lo : Nat) (xs : List Int) (w : World) (hn : xs.length = n) (hm : n ≤ 1048576) (ha : Own w lo w.heap.size A (i64s xs)) (h : fm8 xs = false) :
    Calls Try.prog 12 #[.slice A n c] w (ResI false [] w) := by
  have HG := Lib.hid (dfForm_any A n c lo w.heap.size xs w hn hm ha)
  rw [h] at HG
  clear ha hn h
  go_enter Try.func12, Try.ntmps12
  go_wp2_with (go_at_call 36; refine HG.out.mono ?_; rintro e w' ⟨rfl, rfl⟩)
  go_ret2
  exact resI_nil (Below.refl _ _)
set_option maxRecDepth 8000 in
set_option maxHeartbeats 3200000 in
theorem spec_TimesPlace_yes (A : Option Addr) (n c lo : Nat) (xs : List Int) (w : World) (hn : xs.length = n) (ha : Own w lo w.heap.size A (i64s xs)) (h : fm8 xs = true) :
    Calls Try.prog 12 #[.slice A n c] w (ResI (ent8 (trm8 (tms8 xs))) (ans8 (ent8 (trm8 (tms8 xs))) (trm8 (tms8 xs))) w) := by
  have hm : n ≤ 12 := by rw [← hn]; exact fm8_len h
  have hbd : Bd 1000000 xs := fm8_bd h
  have HG := Lib.hid (dfForm_any A n c lo w.heap.size xs w hn (by omega) ha)
  rw [h] at HG
  obtain ⟨i0, hi0, hz0, hz1, hz2⟩ := info_parts infoInt
  have HA := Lib.hid ha
  have HBd := Lib.hid hbd
  have HPv := Lib.hid fun j => prv8_bd hbd j
  have HG3 := Lib.hid (show ∀ k, k < n → (i64s xs)[k]? = some (.int .i64 (xs.getD k 0)) from fun k hk => by simp [List.getD_eq_getElem?_getD, hn, hk])
  have HIL : Hid ((i64s xs).length = n) := Lib.hid (by simp [hn])
  have HAt := Lib.hid (tm8_at xs)
  have HStep := Lib.hid (tm8_step xs)
  have HZ := Lib.hid (tm8_zero xs)
  obtain ⟨N, hN⟩ : ∃ N, N = n + 1 := ⟨_, rfl⟩
  have e0 : IntKind.i64.wrap ((n : Int) + 1) = (N : Int) := by rw [IntWalk.i64_in _ (by omega)]; omega
  have hTe : tab (tm8 xs n) N = tms8 xs := by rw [hN, tms8, hn]
  have HNN := Lib.hid hN
  have hN13 : N ≤ 13 := by omega
  have HHI := Lib.hid (Nat.le_refl w.heap.size)
  have htl : (tms8 xs).length = N := by rw [tms8_len, hn, hN]
  have HTe := Lib.hid hTe
  have HTr := Lib.hid fun B l W (h : Own W l W.heap.size B (i64s (tms8 xs))) => dfTrim_any B N N l W.heap.size (tms8 xs) W htl (by omega) (Nat.le_refl _) h (Nat.le_refl _)
  have hf := fm8_trm (tms8 xs)
  have htl2 : (trm8 (tms8 xs)).length ≤ 1000 := by rw [trm8_len]; exact Nat.le_trans (tln8_le _ _) (by rw [tms8_len]; omega)
  have HDy := Lib.hid fun (hr : ent8 (trm8 (tms8 xs)) = true) B d l W (h : Own W l W.heap.size B (i64s (trm8 (tms8 xs)))) => dfIf_yes B (trm8 (tms8 xs)).length d l W.heap.size (trm8 (tms8 xs)) W rfl (by omega) h (hf.trans hr)
  have HDn := Lib.hid fun (hr : ent8 (trm8 (tms8 xs)) = false) B d l W (h : Own W l W.heap.size B (i64s (trm8 (tms8 xs)))) => dfIf_no B (trm8 (tms8 xs)).length d l W.heap.size (trm8 (tms8 xs)) W rfl (by omega) h (hf.trans hr)
  obtain ⟨r, hr⟩ : ∃ r, r = ent8 (trm8 (tms8 xs)) := ⟨_, rfl⟩
  rw [← hr] at HDy HDn ⊢
  clear hbd ha hn hTe htl h hf htl2 hr hN
  go_enter Try.func12, Try.ntmps12
  go_wp2_with (first
    | (go_at_call 36; refine HG.out.mono ?_; rintro e w' ⟨rfl, rfl⟩)
    | (at_make; refine wpList_make_full _ rfl _ _ 24 rfl w.heap.size 3 i0 (.int .i64 0) 1 Try.underlying24 hi0 hz0 hz1 _ _ _ _ N rfl rfl rfl rfl (by rw [hz2]; omega) (by unfold maxLen; omega) (Nat.le_refl _) ?_; intro w1 hown1 hgrow1))
  have hb1 : Below w.heap.size w w1 := (Below.refl _ _).grown hgrow1 (Nat.le_refl _) (fun g hg => by cases hg)
  have HB1 := Lib.hid hb1
  have HR1 : Hid (Row w1 w.heap.size w.heap.size N N (tm8 xs 0)) := Lib.hid ((row_made hown1).congr fun m _ => (HZ.out m).symm)
  have hhi := HHI.out
  clear hown1 hgrow1 hb1
  go_loopw [16] (fun i wr => ∃ k : Nat, k ≤ n ∧ i = .int .i64 (k : Int) ∧ Hid (Row wr w.heap.size w.heap.size N N (tm8 xs k)) ∧ Hid (Below w.heap.size w wr)) (fun i _ => n - (intOf i).toNat)
  case atStart => exact ⟨0, by omega, by simp, HR1, HB1⟩
  case round =>
    obtain ⟨k, hk, rfl, hR, hbl⟩ := hrel
    by_cases hlt : k < n
    · have hN := HNN.out
      have hki : (k : Int) < (n : Int) := by omega
      have hk0 : (0 : Int) ≤ (k : Int) := by omega
      obtain ⟨ga, o, rfl, hg0, hg1, hcs⟩ := (HA.out.below hbl.out hhi) (by rw [HIL.out]; omega)
      have c0 := (hcs _ _ (HG3.out k hlt)).1
      have hne : ga ≠ w.heap.size := by omega
      obtain ⟨m, hkm⟩ : ∃ m, m = k + 1 := ⟨_, rfl⟩
      have k0 := hR.out.cell (j := k) (by omega)
      have k1 := hR.out.cell (j := m) (by omega)
      have z0 := hR.out.frozen k
      have z1 := hR.out.frozen m
      rw [(HAt.out k).1] at k0
      rw [hkm, (HAt.out k).2, ← hkm] at k1
      have b0 := HBd.out k
      have b1 := HPv.out k
      have d0 := mul12 (k : Int) (xs.getD k 0) hk0 (by omega) b0.1 b0.2
      have d1 := mul12 (k : Int) (prv8 xs k) hk0 (by omega) b1.1 b1.2
      have d2 := mul12 ((k : Int) + 1) (xs.getD k 0) (by omega) (by omega) b0.1 b0.2
      have HS := Lib.hid (HStep.out k)
      generalize xs.getD k 0 = x at *
      generalize hu : (k : Int) * prv8 xs k = u at *
      generalize hp : (k : Int) * x = p at *
      generalize hq : ((k : Int) + 1) * x = q at *
      have hR2 := (hR.out.set k (u + p)).set m q
      have hgl := hR.out.lt
      have HR2 : Hid (Row ((wr.setCell ⟨w.heap.size, k, none⟩ (.int .i64 (u + p))).setCell ⟨w.heap.size, m, none⟩ (.int .i64 q)) w.heap.size w.heap.size N N (tm8 xs (k + 1))) := Lib.hid (hR2.congr fun j _ => by rw [hkm]; exact HS.out j)
      have HB2 : Hid (Below w.heap.size w ((wr.setCell ⟨w.heap.size, k, none⟩ (.int .i64 (u + p))).setCell ⟨w.heap.size, m, none⟩ (.int .i64 q))) := Lib.hid ((hbl.out.setCell (p := ⟨w.heap.size, k, none⟩) hgl.1 _).setCell (p := ⟨w.heap.size, m, none⟩) hgl.1 _)
      have k1b : (wr.setCell ⟨w.heap.size, k, none⟩ (.int .i64 (u + p))).cell? ⟨w.heap.size, m, none⟩ = some (.int .i64 0) := (World.cell?_setCell_other _ _ _ _ (fun e => by injection e with _ e2 _; omega)).trans k1
      have z1b : (wr.setCell ⟨w.heap.size, k, none⟩ (.int .i64 (u + p))).frozen? ⟨w.heap.size, m, none⟩ = false := (World.frozen?_setCell _ _ _ _).trans z1
      have e1 : IntKind.i64.wrap ((k : Int) + 1) = (m : Int) := by rw [IntWalk.i64_in _ (by omega)]; omega
      have e2 : IntKind.i64.wrap ((k : Int) * x) = p := by rw [hp]; exact IntWalk.i64_in _ (by omega)
      have e3 : IntKind.i64.wrap (u + p) = u + p := IntWalk.i64_in _ (by omega)
      have e4 : IntKind.i64.wrap ((m : Int) * x) = q := by rw [show (m : Int) = (k : Int) + 1 by omega, hq]; exact IntWalk.i64_in _ (by omega)
      have e5 : IntKind.i64.wrap (0 + q) = q := by rw [Int.zero_add]; exact IntWalk.i64_in _ (by omega)
      have e6 : IntKind.i64.wrap q = q := IntWalk.i64_in _ (by omega)
      have q1 : (k : Int) < (N : Int) := by omega
      have q2 : (m : Int) < (N : Int) := by omega
      have q3 : (0 : Int) ≤ (m : Int) := by omega
      have HKM := Lib.hid hkm
      clear hcs hR2 hgl hkm hu hp hq k1 z1 d0 d1 d2 b0 b1 hN
      go_wp2
      exact ⟨⟨m, by have := HKM.out; omega, rfl, Lib.hid (by rw [HKM.out]; rw [HKM.out] at HR2; exact HR2.out), HB2⟩, by have := HKM.out; simp [intOf]; omega⟩
    · obtain rfl : k = n := by omega
      have hO := hR.out.own
      rw [HTe.out] at hO
      have HO := Lib.hid hO
      clear hO
      cases r with
      | true =>
        go_wp2_with (first
          | (go_at_call 41; refine (HTr.out _ _ _ HO.out).mono ?_; rintro e v1 ⟨⟨B1, d1, rfl, hO1⟩, hb1⟩; have HO1 := Lib.hid (own_of_row hO1); have HB1' := Lib.hid (hbl.out.trans (hb1.mono hbl.out.size)); clear hO1 hb1)
          | (go_at_call 37; refine (HDy.out (by trivial) _ _ _ _ HO1.out).mono ?_; rintro e w' ⟨rfl, rfl⟩))
        go_ret2
        exact ⟨B1, d1, rfl, HO1.out.wide hbl.out.size (Nat.le_refl _), HB1'.out⟩
      | false =>
        go_wp2_with (first
          | (go_at_call 41; refine (HTr.out _ _ _ HO.out).mono ?_; rintro e v1 ⟨⟨B1, d1, rfl, hO1⟩, hb1⟩; have HO1 := Lib.hid (own_of_row hO1); have HB1' := Lib.hid (hbl.out.trans (hb1.mono hbl.out.size)); clear hO1 hb1)
          | (go_at_call 37; refine (HDn.out (by trivial) _ _ _ _ HO1.out).mono ?_; rintro e w' ⟨rfl, rfl⟩))
        go_ret2
        exact resI_nil HB1'.out
end Go.Proofs.Ytjfpnecnmdclfaa

/- Chapter 8, the program: FormOfSums. -/
namespace Go.Proofs.Ytjfpnecnmdclfaa
open Go.RowKit

theorem Bd.cons0 {M : Int} {xs : List Int} (h : Bd M xs) : Bd M (0 :: xs) := fun j => by
  have := h.nonneg
  cases j with
  | zero => simp; omega
  | succ j => rw [List.getD_cons_succ]; exact h j
theorem impl_FormOfSums_no (A : Option Addr) (n c lo : Nat) (xs : List Int) (w : World) (hn : xs.length = n) (hm : n ≤ 1048576) (ha : Own w lo w.heap.size A (i64s xs)) (h : fm8 xs = false) :
    Calls Try.prog 7 #[.slice A n c] w (ResI false [] w) := by
  have HG := Lib.hid (isForm8_any A n c lo w.heap.size xs w hn hm ha)
  rw [h] at HG
  clear ha hn h
  go_enter Try.func7, Try.ntmps7
  go_wp2_with (go_at_call 32; refine HG.out.mono ?_; rintro e w' ⟨rfl, rfl⟩)
  go_ret2
  exact resI_nil (Below.refl _ _)
set_option maxRecDepth 8000 in
set_option maxHeartbeats 1600000 in
theorem impl_FormOfSums_yes (A : Option Addr) (n c lo : Nat) (xs : List Int) (w : World) (hn : xs.length = n) (ha : Own w lo w.heap.size A (i64s xs)) (h : fm8 xs = true) :
    Calls Try.prog 7 #[.slice A n c] w (ResI (ent8 (trm8 (0 :: xs))) (ans8 (ent8 (trm8 (0 :: xs))) (trm8 (0 :: xs))) w) := by
  subst hn
  have hl : xs.length ≤ 12 := fm8_len h
  have hbd : Bd 1000000 xs := fm8_bd h
  have HG := Lib.hid (isForm8_any A xs.length c lo w.heap.size xs w rfl (by omega) ha)
  rw [h] at HG
  obtain ⟨i0, hi0, hz0, hz1, hz2⟩ := info_parts infoInt
  have HLi : Hid ((w.alloc (.cells #[.int .i64 0] 3)).ownsRow w.heap.size 3 1 (.slice (some ⟨w.heap.size, 0, none⟩) 1 1) 1 [.int .i64 0]) := Lib.hid (World.ownsRow_lit w #[.int .i64 0] 1 (Nat.le_refl _) (by decide) rfl)
  have HA := Lib.hid (ha.rd.below ((Below.refl w.heap.size w).alloc (Nat.le_refl _) (.cells #[.int .i64 0] 3)) (Nat.le_refl _))
  have HXL : Hid ((i64s xs).length = xs.length) := Lib.hid (by simp)
  have HR := Lib.hid fun B d l W (h : Own W l W.heap.size B (i64s (0 :: xs))) => rowOf_any B (1 + xs.length) d l W.heap.size (0 :: xs) W (by simp; omega) (by omega) h (Nat.le_refl _) (hbd.cons0.i64 (by omega))
  have H0 := Lib.hid fun B d l W (hd : (0 :: xs).length ≤ d) (h : Own W l W.heap.size B (l64s (0 :: xs))) => trim_any B (0 :: xs).length d l W.heap.size (0 :: xs) W rfl (by simp; omega) hd (hbd.cons0.sm (by omega)) h (Nat.le_refl _)
  have HE := Lib.hid fun B d l W (h : Own W l W.heap.size B (l64s (trm8 (0 :: xs)))) => entries_any B (trm8 (0 :: xs)).length d l W.heap.size (trm8 (0 :: xs)) W rfl (by rw [trm8_len]; exact Nat.le_trans (tln8_le _ _) (by simp; omega)) ((hbd.cons0.trm).sm (by omega)) h (Nat.le_refl _)
  clear hbd h
  generalize ent8 (trm8 (0 :: xs)) = r at *
  generalize ans8 r (trm8 (0 :: xs)) = zs at *
  skip
  go_enter Try.func7, Try.ntmps7
  go_wp2_with (first
    | (go_at_call 32; refine HG.out.mono ?_; rintro e w' ⟨rfl, rfl⟩)
    | (at_builtin; refine wpList_append_src rfl _ _ 24 rfl w.heap.size 3 i0 (.int .i64 0) 8 Try.underlying24 hi0 hz0 hz1 hz2 rfl (.slice (some ⟨w.heap.size, 0, none⟩) 1 1) 1 [.int .i64 0] rfl HLi.out A xs.length c (i64s xs) rfl (by rw [HXL.out]) w.heap.size HA.out (i64s_one _) (by unfold maxLen; omega) (by omega) (by simp) ?_; intro v' w3 hown' hgrow; obtain ⟨A1, c1, rfl⟩ := row_form hown'; have HB3 := Lib.hid (((Below.refl w.heap.size w).alloc (Nat.le_refl _) (.cells #[.int .i64 0] 3)).grown hgrow (by simp) (fun g hg => (by simp [Value.ownBlock] at hg; omega))); have HO3 := Lib.hid (own_of_row hown'); clear hown' hgrow)
    | (go_at_call 33; refine (HR.out _ _ _ _ HO3.out).mono ?_; rintro e v0 ⟨B0, d0, hd0, rfl, hO0, hb0⟩; have HO0 := Lib.hid (hO0.wide (Nat.le_refl _) (Nat.le_refl _)); have HB0 := Lib.hid (HB3.out.trans (hb0.mono HB3.out.size)); clear hO0 hb0)
    | (go_at_call 34; refine (H0.out _ _ _ _ hd0 HO0.out).mono ?_; rintro e v1 ⟨⟨B1, d1, rfl, hO1⟩, hb1⟩; have HO1 := Lib.hid (hO1.wide (Nat.le_refl _) (by first | exact hb1.size | exact Nat.le_refl _)); have HB1 := Lib.hid (HB0.out.trans (hb1.mono HB0.out.size)); clear hO1 hb1)
    | (go_at_call 35; refine (HE.out _ _ _ _ HO1.out).mono ?_; rintro e v9 ⟨B9, d9, rfl, hO9, hb9⟩))
  go_ret2
  exact ⟨B9, d9, rfl, hO9.wide HB1.out.size (Nat.le_refl _), HB1.out.trans (hb9.mono HB1.out.size)⟩
end Go.Proofs.Ytjfpnecnmdclfaa

/- Chapter 8: the law ShapeOfList. -/
namespace Go.Proofs.Ytjfpnecnmdclfaa
open Go.ChangeShapes Go.WideShapes Go.ChangeAt Go.RowKit

def sd8 (xs : List Int) : Int := xs.getD 2 0 - 2 * xs.getD 1 0 + xs.getD 0 0 + 2
/-- The first k numbers are those of the places from p on. -/
def mt8 (s p : Int) (xs : List Int) : Nat → Bool
  | 0 => true
  | k + 1 => mt8 s p xs k && (num s (p + (k : Int)) == xs.getD k 0)
theorem mt8_no (s p : Int) (xs : List Int) (k : Nat) (h : mt8 s p xs k = false) : ∀ n, k ≤ n → mt8 s p xs n = false
  | 0, hn => by obtain rfl : k = 0 := by omega
                exact h
  | n + 1, hn => by
    rcases Nat.lt_or_ge k (n + 1) with h1 | h1
    · rw [mt8, mt8_no s p xs k h n (by omega), Bool.false_and]
    · obtain rfl : k = n + 1 := by omega
      exact h
abbrev R3 (a b : Int) (ok : Bool) : Ending := .returned (.tuple #[.int .i64 a, .int .i64 b, .bool ok])
/-- What is handed back when the sides are right. -/
def ans3 (r : Bool) (s p : Int) : Ending := if r = true then R3 s p true else R3 0 0 false
theorem spec_ShapeOfList_no (A : Option Addr) (n c lo : Nat) (xs : List Int) (w : World) (hn : xs.length = n) (hm : n ≤ 1048576) (ha : Own w lo w.heap.size A (i64s xs)) (h : gd8 xs = false ∨ n < 3) :
    Calls Try.prog 26 #[.slice A n c] w fun e w' => e = R3 0 0 false ∧ Below w.heap.size w w' := by
  have HG := Lib.hid (dfGood_any A n c lo w.heap.size xs w hn hm ha)
  clear ha hn
  cases hg : gd8 xs with
  | false =>
    rw [hg] at HG
    clear h hg
    go_enter Try.func26, Try.ntmps26
    go_wp2_with (go_at_call 47; refine HG.out.mono ?_; rintro e w' ⟨rfl, rfl⟩)
    go_ret3
    exact ⟨rfl, Below.refl _ _⟩
  | true =>
    rw [hg] at HG
    have h3 : (n : Int) < 3 := by
      rcases h with h | h
      · rw [hg] at h; cases h
      · omega
    clear h hg
    go_enter Try.func26, Try.ntmps26
    go_wp2_with (go_at_call 47; refine HG.out.mono ?_; rintro e w' ⟨rfl, rfl⟩)
    go_ret3
    exact ⟨rfl, Below.refl _ _⟩
theorem impl_ShapeOfList_no (A : Option Addr) (n c lo : Nat) (xs : List Int) (w : World) (hn : xs.length = n) (hm : n ≤ 1048576) (ha : Own w lo w.heap.size A (i64s xs)) (h : gd8 xs = false ∨ n < 3) :
    Calls Try.prog 25 #[.slice A n c] w fun e w' => e = R3 0 0 false ∧ Below w.heap.size w w' := by
  have HG := Lib.hid (isList8_any A n c lo w.heap.size xs w hn hm ha)
  clear ha hn
  cases hg : gd8 xs with
  | false =>
    rw [hg] at HG
    clear h hg
    go_enter Try.func25, Try.ntmps25
    go_wp2_with (go_at_call 46; refine HG.out.mono ?_; rintro e w' ⟨rfl, rfl⟩)
    go_ret3
    exact ⟨rfl, Below.refl _ _⟩
  | true =>
    rw [hg] at HG
    have h3 : (n : Int) < 3 := by
      rcases h with h | h
      · rw [hg] at h; cases h
      · omega
    clear h hg
    go_enter Try.func25, Try.ntmps25
    go_wp2_with (go_at_call 46; refine HG.out.mono ?_; rintro e w' ⟨rfl, rfl⟩)
    go_ret3
    exact ⟨rfl, Below.refl _ _⟩
/-- What stands in the list, as the walks ask it. -/
theorem shape_cells {w : World} {lo hi : Nat} {A : Option Addr} {xs : List Int} (ha : Own w lo hi A (i64s xs)) (h3 : 3 ≤ xs.length) : ∃ g o, A = some ⟨g, o, none⟩ ∧ g < hi ∧
    w.cell? ⟨g, o, none⟩ = some (.int .i64 (xs.getD 0 0)) ∧ w.cell? ⟨g, o + 1, none⟩ = some (.int .i64 (xs.getD 1 0)) ∧ w.cell? ⟨g, o + 2, none⟩ = some (.int .i64 (xs.getD 2 0)) ∧
    ∀ j, j < xs.length → w.cell? ⟨g, o + j, none⟩ = some (.int .i64 (xs.getD j 0)) := by
  obtain ⟨g, o, e, _, h2, hc⟩ := ha (by simp; omega)
  have hj : ∀ j, j < xs.length → w.cell? ⟨g, o + j, none⟩ = some (.int .i64 (xs.getD j 0)) := fun j hj => (hc j _ (by simp [List.getD_eq_getElem?_getD, hj])).1
  exact ⟨g, o, e, h2, hj 0 (by omega), hj 1 (by omega), hj 2 (by omega), hj⟩
set_option maxRecDepth 8000 in
set_option maxHeartbeats 1600000 in
theorem spec_ShapeOfList_out (A : Option Addr) (n c lo : Nat) (xs : List Int) (w : World) (hn : xs.length = n) (ha : Own w lo w.heap.size A (i64s xs)) (h : gd8 xs = true) (h3 : 3 ≤ n) (ho : (sd8 xs < 3 ∨ 24 < sd8 xs) ∨ xs.getD 0 0 < 0) :
    Calls Try.prog 26 #[.slice A n c] w fun e w' => e = R3 0 0 false ∧ Below w.heap.size w w' := by
  have hl := gd8_len h
  rw [hn] at hl
  have HG := Lib.hid (dfGood_any A n c lo w.heap.size xs w hn (by omega) ha)
  rw [h] at HG
  have b0 := gd8_at h 0
  have b1 := gd8_at h 1
  have b2 := gd8_at h 2
  obtain ⟨g, o, rfl, hg, c0, c1, c2, hcs⟩ := shape_cells ha (by omega)
  have hs : sd8 xs = xs.getD 2 0 - 2 * xs.getD 1 0 + xs.getD 0 0 + 2 := rfl
  generalize sd8 xs = s at *
  generalize xs.getD 0 0 = x at *
  generalize xs.getD 1 0 = y at *
  generalize xs.getD 2 0 = z at *
  have e1 : IntKind.i64.wrap (2 * y) = 2 * y := IntWalk.i64_in _ (by omega)
  have e2 : IntKind.i64.wrap (z - 2 * y) = z - 2 * y := IntWalk.i64_in _ (by omega)
  have e3 : IntKind.i64.wrap (z - 2 * y + x) = z - 2 * y + x := IntWalk.i64_in _ (by omega)
  have e4 : IntKind.i64.wrap (z - 2 * y + x + 2) = s := by rw [IntWalk.i64_in _ (by omega), hs]
  have q3 : ¬ (n : Int) < 3 := by omega
  have q0 : (0 : Int) < (n : Int) := by omega
  have q1 : (1 : Int) < (n : Int) := by omega
  have q2 : (2 : Int) < (n : Int) := by omega
  by_cases h1 : s < 3 ∨ 24 < s
  · have HS := Lib.hid fun W => shSides_no s W h1
    clear h1 ho hs ha hn h b0 b1 b2 hcs h3 hl
    go_enter Try.func26, Try.ntmps26
    go_wp2_with (go_at_call 47; refine HG.out.mono ?_; rintro e w' ⟨rfl, rfl⟩)
    go_region
    all_goals
      go_wp2_with (go_at_call 53; refine (HS.out _).mono ?_; rintro e w' ⟨rfl, rfl⟩)
      go_ret3
      exact ⟨rfl, (Below.refl _ _).drew⟩
  · have HS := Lib.hid fun W => shSides_yes s W (by omega) (by omega)
    have hx : x < 0 := by omega
    clear h1 ho hs ha hn h b0 b1 b2 hcs h3 hl
    go_enter Try.func26, Try.ntmps26
    go_wp2_with (go_at_call 47; refine HG.out.mono ?_; rintro e w' ⟨rfl, rfl⟩)
    go_region
    all_goals
      go_wp2_with (go_at_call 53; refine (HS.out _).mono ?_; rintro e w' ⟨rfl, rfl⟩)
      go_ret3
      exact ⟨rfl, (Below.refl _ _).drew⟩
set_option maxRecDepth 8000 in
set_option maxHeartbeats 3200000 in
theorem spec_ShapeOfList_in (A : Option Addr) (n c lo : Nat) (xs : List Int) (w : World) (hn : xs.length = n) (ha : Own w lo w.heap.size A (i64s xs)) (h : gd8 xs = true) (h3 : 3 ≤ n) (hs1 : 3 ≤ sd8 xs) (hs2 : sd8 xs ≤ 24) (hx0 : 0 ≤ xs.getD 0 0) :
    Calls Try.prog 26 #[.slice A n c] w fun e w' => e = ans3 (mt8 (sd8 xs) (pl (sd8 xs) (xs.getD 0 0)) xs n) (sd8 xs) (pl (sd8 xs) (xs.getD 0 0)) ∧ Below w.heap.size w w' := by
  have hl := gd8_len h
  rw [hn] at hl
  have HG := Lib.hid (dfGood_any A n c lo w.heap.size xs w hn (by omega) ha)
  rw [h] at HG
  have b0 := gd8_at h 0
  have b1 := gd8_at h 1
  have b2 := gd8_at h 2
  obtain ⟨g, o, rfl, hg, c0, c1, c2, hcs⟩ := shape_cells ha (by omega)
  have hs : sd8 xs = xs.getD 2 0 - 2 * xs.getD 1 0 + xs.getD 0 0 + 2 := rfl
  have HC := Lib.hid hcs
  rw [hn] at HC
  generalize sd8 xs = s at *
  have HS := Lib.hid fun W => shSides_yes s W hs1 hs2
  have HBl := Lib.hid fun W => shBelow_any s (xs.getD 0 0) W hs1 hs2 hx0 (by omega)
  have p0 := pl_nn s (xs.getD 0 0) hs1 hx0
  have p1 := pl_le s (xs.getD 0 0) hs1 hx0 (by omega)
  have HNm := Lib.hid fun (k : Int) W h5 h6 => shNumber_any s k W hs1 hs2 h5 h6
  generalize pl s (xs.getD 0 0) = p at *
  obtain ⟨r, hr⟩ : ∃ r, r = mt8 s p xs n := ⟨_, rfl⟩
  rw [← hr]
  have HR := Lib.hid hr
  have HM := Lib.hid (show ∀ k, mt8 s p xs (k + 1) = (mt8 s p xs k && (num s (p + (k : Int)) == xs.getD k 0)) from fun _ => rfl)
  have HNo := Lib.hid fun k (h : mt8 s p xs k = false) hk => mt8_no s p xs k h n hk
  have HM0 : Hid (mt8 s p xs 0 = true) := Lib.hid rfl
  obtain ⟨e, he⟩ : ∃ e, e = ans3 r s p := ⟨_, rfl⟩
  rw [← he]
  have HE := Lib.hid he
  generalize hx : xs.getD 0 0 = x at *
  generalize xs.getD 1 0 = y at *
  generalize xs.getD 2 0 = z at *
  have e1 : IntKind.i64.wrap (2 * y) = 2 * y := IntWalk.i64_in _ (by omega)
  have e2 : IntKind.i64.wrap (z - 2 * y) = z - 2 * y := IntWalk.i64_in _ (by omega)
  have e3 : IntKind.i64.wrap (z - 2 * y + x) = z - 2 * y + x := IntWalk.i64_in _ (by omega)
  have e4 : IntKind.i64.wrap (z - 2 * y + x + 2) = s := by rw [IntWalk.i64_in _ (by omega), hs]
  have q3 : ¬ (n : Int) < 3 := by omega
  have q0 : (0 : Int) < (n : Int) := by omega
  have q1 : (1 : Int) < (n : Int) := by omega
  have q2 : (2 : Int) < (n : Int) := by omega
  have hxn : ¬ x < 0 := by omega
  clear hs ha hn h b0 b1 b2 hcs hr he hx
  go_enter Try.func26, Try.ntmps26
  go_wp2_with (go_at_call 47; refine HG.out.mono ?_; rintro e w' ⟨rfl, rfl⟩)
  go_region
  all_goals
    go_wp2_with (first
      | (go_at_call 53; refine (HS.out _).mono ?_; rintro e w' ⟨rfl, rfl⟩)
      | (go_at_call 61; refine (HBl.out _).mono ?_; rintro e w' ⟨rfl, rfl⟩))
    go_loopw [46] (fun i wr => ∃ k : Nat, k ≤ n ∧ i = .int .i64 (k : Int) ∧ Hid (mt8 s p xs k = true) ∧ wr = w.drew) (fun i _ => n - (intOf i).toNat)
    case atStart => exact ⟨0, by omega, by simp, HM0, rfl⟩
    case round =>
      obtain ⟨k, hk, rfl, HP, rfl⟩ := hrel
      by_cases hlt : k < n
      · have hki : (k : Int) < (n : Int) := by omega
        have hk0 : (0 : Int) ≤ (k : Int) := by omega
        have ck : w.drew.cell? ⟨g, o + k, none⟩ = some (.int .i64 (xs.getD k 0)) := HC.out k hlt
        have HMk := Lib.hid (HM.out k)
        rw [HP.out, Bool.true_and] at HMk
        have e5 : IntKind.i64.wrap (p + (k : Int)) = p + (k : Int) := IntWalk.i64_in _ (by omega)
        have HNk := Lib.hid fun W => HNm.out (p + (k : Int)) W (by omega) (by omega)
        generalize xs.getD k 0 = v at *
        generalize num s (p + (k : Int)) = u at *
        by_cases huv : u = v
        · have HP2 : Hid (mt8 s p xs (k + 1) = true) := Lib.hid (by rw [HMk.out, huv]; simp)
          go_wp2_with (go_at_call 57; refine (HNk.out _).mono ?_; rintro e w' ⟨rfl, rfl⟩)
          go_roundw
          case rel => exact ⟨k + 1, by omega, by go_num, HP2, by trivial⟩
          case measure => simp [intOf]; omega
        · have hf : r = false := by rw [HR.out]; exact HNo.out (k + 1) (by rw [HMk.out]; simpa using huv) (by omega)
          have hE : e = R3 0 0 false := by rw [HE.out, hf]; rfl
          subst hE
          clear hf
          go_wp2_with (go_at_call 57; refine (HNk.out _).mono ?_; rintro e w' ⟨rfl, rfl⟩)
          first | (rw [Exit.noGoto_ret]; go_ret3) | go_ret3
          exact ⟨rfl, (Below.refl _ _).drew⟩
      · obtain rfl : k = n := by omega
        have hE : e = R3 s p true := by rw [HE.out, HR.out, HP.out]; rfl
        subst hE
        go_wp2
        go_ret3
        exact ⟨rfl, (Below.refl _ _).drew⟩
theorem neg_fits (s n : Int) (h1 : 3 ≤ s) (h2 : s ≤ 24) (h3 : n < 0) : Fits 0 (4 - s) (s - 2) n 0 (num s) :=
  ⟨fun k h5 h6 => polyRule_bds s k h1 h2 (by omega) (by omega), by omega, by omega, fun k h5 _ => ⟨fun h => by have := num_nn s k h1; omega, fun h => by omega⟩⟩
/-- The place of a number, found or not. -/
theorem placeOf8 (s x : Int) (w : World) (h1 : 3 ≤ s) (h2 : s ≤ 24) (h4 : x ≤ 1000000) :
    Calls Try.prog 59 #[.agg #[.int .i64 0, .int .i64 (4 - s), .int .i64 (s - 2)], .int .i64 x] w fun e w' => (∃ (q : Int) (b : Bool), e = .returned (.tuple #[.int .i64 q, .bool b]) ∧ (b = true → 0 ≤ x ∧ q = pl s x) ∧ (b = false → x < 0 ∨ num s (pl s x) ≠ x) ∧ 0 ≤ q ∧ q ≤ 2000000) ∧ Below w.heap.size w w' := by
  by_cases hx : x < 0
  · refine (placeOf_no _ _ _ _ _ _ w (neg_fits s x h1 h2 hx) (by rw [num_zero]; omega)).mono ?_
    rintro e w' ⟨rfl, hb⟩
    exact ⟨⟨0, false, rfl, (fun h => by cases h), (fun _ => .inl hx), by omega, by omega⟩, hb⟩
  · have p0 := pl_nn s x h1 (by omega)
    have p1 := pl_le s x h1 (by omega) (by omega)
    by_cases hc : num s (pl s x) = x
    · refine (placeOf_yes _ _ _ _ _ _ w (poly_fits s x h1 h2 (by omega) (by omega)) hc).mono ?_
      rintro e w' ⟨rfl, hb⟩
      exact ⟨⟨_, true, rfl, (fun _ => ⟨by omega, rfl⟩), (fun h => by cases h), by omega, by omega⟩, hb⟩
    · refine (placeOf_no _ _ _ _ _ _ w (poly_fits s x h1 h2 (by omega) (by omega)) hc).mono ?_
      rintro e w' ⟨rfl, hb⟩
      exact ⟨⟨0, false, rfl, (fun h => by cases h), (fun _ => .inr hc), by omega, by omega⟩, hb⟩
set_option maxRecDepth 8000 in
set_option maxHeartbeats 1600000 in
theorem impl_ShapeOfList_out (A : Option Addr) (n c lo : Nat) (xs : List Int) (w : World) (hn : xs.length = n) (ha : Own w lo w.heap.size A (i64s xs)) (h : gd8 xs = true) (h3 : 3 ≤ n) (ho : sd8 xs < 3 ∨ 24 < sd8 xs) :
    Calls Try.prog 25 #[.slice A n c] w fun e w' => e = R3 0 0 false ∧ Below w.heap.size w w' := by
  have hl := gd8_len h
  rw [hn] at hl
  have HG := Lib.hid (isList8_any A n c lo w.heap.size xs w hn (by omega) ha)
  rw [h] at HG
  have b0 := gd8_at h 0
  have b1 := gd8_at h 1
  have b2 := gd8_at h 2
  obtain ⟨g, o, rfl, hg, c0, c1, c2, hcs⟩ := shape_cells ha (by omega)
  have hs : sd8 xs = xs.getD 2 0 - 2 * xs.getD 1 0 + xs.getD 0 0 + 2 := rfl
  generalize sd8 xs = s at *
  generalize xs.getD 0 0 = x at *
  generalize xs.getD 1 0 = y at *
  generalize xs.getD 2 0 = z at *
  have e1 : IntKind.i64.wrap (2 * y) = 2 * y := IntWalk.i64_in _ (by omega)
  have e2 : IntKind.i64.wrap (z - 2 * y) = z - 2 * y := IntWalk.i64_in _ (by omega)
  have e3 : IntKind.i64.wrap (z - 2 * y + x) = z - 2 * y + x := IntWalk.i64_in _ (by omega)
  have e4 : IntKind.i64.wrap (z - 2 * y + x + 2) = s := by rw [IntWalk.i64_in _ (by omega), hs]
  have q3 : ¬ (n : Int) < 3 := by omega
  have q0 : (0 : Int) < (n : Int) := by omega
  have q1 : (1 : Int) < (n : Int) := by omega
  have q2 : (2 : Int) < (n : Int) := by omega
  have HS := Lib.hid fun W => areSides_no s W ho
  clear ho hs ha hn h b0 b1 b2 hcs h3 hl
  go_enter Try.func25, Try.ntmps25
  go_wp2_with (go_at_call 46; refine HG.out.mono ?_; rintro e w' ⟨rfl, rfl⟩)
  go_region
  all_goals
    go_wp2_with (go_at_call 52; refine (HS.out _).mono ?_; rintro e w' ⟨rfl, rfl⟩)
    go_ret3
    exact ⟨rfl, (Below.refl _ _).drew⟩
/-- The rule's three numbers in a variable. -/
structure Rule3 (w : World) (B : Nat) (s : Int) : Prop where
  c0 : w.cell? ⟨B, 0, none⟩ = some (.int .i64 0)
  c1 : w.cell? ⟨B, 1, none⟩ = some (.int .i64 (4 - s))
  c2 : w.cell? ⟨B, 2, none⟩ = some (.int .i64 (s - 2))
theorem Rule3.below {w w' : World} {B H : Nat} {s : Int} (h : Rule3 w B s) (hb : Below H w w') (hH : B < H) : Rule3 w' B s :=
  ⟨(hb.cell (p := ⟨B, 0, none⟩) hH).trans h.c0, (hb.cell (p := ⟨B, 1, none⟩) hH).trans h.c1, (hb.cell (p := ⟨B, 2, none⟩) hH).trans h.c2⟩
set_option maxRecDepth 8000 in
set_option maxHeartbeats 3200000 in
theorem impl_ShapeOfList_in (A : Option Addr) (n c lo : Nat) (xs : List Int) (w : World) (hn : xs.length = n) (ha : Own w lo w.heap.size A (i64s xs)) (h : gd8 xs = true) (h3 : 3 ≤ n) (hs1 : 3 ≤ sd8 xs) (hs2 : sd8 xs ≤ 24) (e0 : Ending)
    (he1 : 0 ≤ xs.getD 0 0 → e0 = ans3 (mt8 (sd8 xs) (pl (sd8 xs) (xs.getD 0 0)) xs n) (sd8 xs) (pl (sd8 xs) (xs.getD 0 0))) (he2 : xs.getD 0 0 < 0 → e0 = R3 0 0 false) :
    Calls Try.prog 25 #[.slice A n c] w fun e w' => e = e0 ∧ Below w.heap.size w w' := by
  have hl := gd8_len h
  rw [hn] at hl
  have HG := Lib.hid (isList8_any A n c lo w.heap.size xs w hn (by omega) ha)
  rw [h] at HG
  have b0 := gd8_at h 0
  have b1 := gd8_at h 1
  have b2 := gd8_at h 2
  obtain ⟨g, o, rfl, hg, c0, c1, c2, hcs⟩ := shape_cells ha (by omega)
  have hs : sd8 xs = xs.getD 2 0 - 2 * xs.getD 1 0 + xs.getD 0 0 + 2 := rfl
  have HC := Lib.hid hcs
  rw [hn] at HC
  have HX0 := Lib.hid (show ∀ s p, mt8 s p xs 1 = (num s (p + ((0 : Nat) : Int)) == xs.getD 0 0) from fun _ _ => by rw [mt8, mt8, Bool.true_and])
  generalize sd8 xs = s at *
  have HS := Lib.hid fun W => areSides_yes s W hs1 hs2
  have HPr := Lib.hid fun W => polygonRule_any s W hs1 hs2
  have HPl := Lib.hid fun W => placeOf8 s (xs.getD 0 0) W hs1 hs2 (by omega)
  have HNm := Lib.hid fun (k : Int) W h5 h6 => numberAt_any 0 (4 - s) (s - 2) k (num s k) W (polyRule_bds s k hs1 hs2 h5 h6)
  have HM := Lib.hid (show ∀ p k, mt8 s p xs (k + 1) = (mt8 s p xs k && (num s (p + (k : Int)) == xs.getD k 0)) from fun _ _ => rfl)
  have HNo := Lib.hid fun p k (h : mt8 s p xs k = false) hk => mt8_no s p xs k h n hk
  have HM0 : Hid (∀ p, mt8 s p xs 0 = true) := Lib.hid fun _ => rfl
  have HE1 := Lib.hid he1
  have HE2 := Lib.hid he2
  have HXx : Hid (xs.getD 0 0 = xs.getD 0 0) := Lib.hid rfl
  generalize xs.getD 0 0 = x at *
  generalize xs.getD 1 0 = y at *
  generalize xs.getD 2 0 = z at *
  have e1 : IntKind.i64.wrap (2 * y) = 2 * y := IntWalk.i64_in _ (by omega)
  have e2 : IntKind.i64.wrap (z - 2 * y) = z - 2 * y := IntWalk.i64_in _ (by omega)
  have e3 : IntKind.i64.wrap (z - 2 * y + x) = z - 2 * y + x := IntWalk.i64_in _ (by omega)
  have e4 : IntKind.i64.wrap (z - 2 * y + x + 2) = s := by rw [IntWalk.i64_in _ (by omega), hs]
  have q3 : ¬ (n : Int) < 3 := by omega
  have q0 : (0 : Int) < (n : Int) := by omega
  have q1 : (1 : Int) < (n : Int) := by omega
  have q2 : (2 : Int) < (n : Int) := by omega
  clear hs ha hn h b0 b1 b2 hcs he1 he2 HXx
  go_enter Try.func25, Try.ntmps25
  go_wp2_with (go_at_call 46; refine HG.out.mono ?_; rintro e w' ⟨rfl, rfl⟩)
  go_region
  all_goals
    go_wp2_with (first
      | (go_at_call 52; refine (HS.out _).mono ?_; rintro e w' ⟨rfl, rfl⟩)
      | (go_at_call 58; refine (HPr.out _).mono ?_; rintro e w1 ⟨rfl, hb1⟩; have HB1 := Lib.hid hb1; have d0 : w1.cell? ⟨g, o, none⟩ = some (.int .i64 x) := (hb1.cell (p := ⟨g, o, none⟩) hg).trans c0; clear hb1))
    have HBx : Hid (Rule3 (w1.alloc (.cells #[.int .i64 0, .int .i64 (4 - s), .int .i64 (s - 2)] 59)) w1.heap.size s) := Lib.hid ⟨by simp [go_sem], by simp [go_sem], by simp [go_sem]⟩
    have HW : Hid (Below w.heap.size w (w1.alloc (.cells #[.int .i64 0, .int .i64 (4 - s), .int .i64 (s - 2)] 59))) := Lib.hid ((((Below.refl w.heap.size w).drew).trans HB1.out).alloc HB1.out.size _)
    have hz : w1.heap.size < (w1.alloc (.cells #[.int .i64 0, .int .i64 (4 - s), .int .i64 (s - 2)] 59)).heap.size := by simp
    have HZ1 : Hid (w.heap.size ≤ w1.heap.size) := Lib.hid HB1.out.size
    generalize w1.alloc (.cells #[.int .i64 0, .int .i64 (4 - s), .int .i64 (s - 2)] 59) = w2 at *
    have f0 : w2.drew.cell? ⟨w1.heap.size, 0, none⟩ = some (.int .i64 0) ∧ w2.drew.cell? ⟨w1.heap.size, 1, none⟩ = some (.int .i64 (4 - s)) ∧ w2.drew.cell? ⟨w1.heap.size, 2, none⟩ = some (.int .i64 (s - 2)) ∧ w2.drew.cell? ⟨g, o, none⟩ = some (.int .i64 x) := ⟨HBx.out.c0, HBx.out.c1, HBx.out.c2, (HW.out.cell (p := ⟨g, o, none⟩) hg).trans c0⟩
    have q00 : (0 : Int) < (n : Int) := by omega
    have q0n : 0 < n := by omega
    go_region_held3 (fun w' => w'.cell? ⟨w1.heap.size, 0, none⟩ = some (.int .i64 0) ∧ w'.cell? ⟨w1.heap.size, 1, none⟩ = some (.int .i64 (4 - s)) ∧ w'.cell? ⟨w1.heap.size, 2, none⟩ = some (.int .i64 (s - 2)) ∧ w'.cell? ⟨g, o, none⟩ = some (.int .i64 x))
      (first | with_reducible exact f1 | exact f0)
      (first
        | (go_at_call 59; refine (HPl.out _).mono ?_; rintro e w3 ⟨⟨q, b, rfl, hq1, hq2, hq3, hq4⟩, hb3⟩; have f1 : w3.cell? ⟨w1.heap.size, 0, none⟩ = some (.int .i64 0) ∧ w3.cell? ⟨w1.heap.size, 1, none⟩ = some (.int .i64 (4 - s)) ∧ w3.cell? ⟨w1.heap.size, 2, none⟩ = some (.int .i64 (s - 2)) ∧ w3.cell? ⟨g, o, none⟩ = some (.int .i64 x) := ⟨(hb3.cell (p := ⟨w1.heap.size, 0, none⟩) hz).trans f0.1, (hb3.cell (p := ⟨w1.heap.size, 1, none⟩) hz).trans f0.2.1, (hb3.cell (p := ⟨w1.heap.size, 2, none⟩) hz).trans f0.2.2.1, (hb3.cell (p := ⟨g, o, none⟩) (Nat.lt_of_lt_of_le hg (Nat.le_trans HZ1.out (Nat.le_of_lt hz)))).trans f0.2.2.2⟩)
        | fail)
    have HW3 : Hid (Below w.heap.size w w3) := Lib.hid (HW.out.drew.trans (hb3.mono HW.out.size))
    have HR3 : Hid (Rule3 w3 w1.heap.size s) := Lib.hid ⟨f1.1, f1.2.1, f1.2.2.1⟩
    have HZ3 : Hid (w1.heap.size < w3.heap.size) := Lib.hid (Nat.lt_of_lt_of_le hz hb3.size)
    obtain ⟨B, hB⟩ : ∃ B, B = w1.heap.size := ⟨_, rfl⟩
    rw [← hB] at HR3 HZ3 ⊢
    clear f0 f1 hb3 hz hB d0 c0 c1 c2
    cases b with
    | false =>
      have hfail : e0 = R3 0 0 false := by
        by_cases hx : x < 0
        · exact HE2.out hx
        · rw [HE1.out (by omega), HNo.out (pl s x) 1 (by
            rw [HX0.out]
            have h1 := (hq2 rfl).resolve_left hx
            simpa using h1) (by omega)]
          rfl
      subst hfail
      clear hq1 hq2
      go_wp2
      go_loopw [8, 47] (fun v i wr => ∃ k : Nat, k ≤ n ∧ i = .int .i64 (k : Int) ∧ v = .bool false ∧ wr = w3) (fun _ i _ => n - (intOf i).toNat)
      case atStart => exact ⟨0, by omega, by simp, rfl, rfl⟩
      case round =>
        obtain ⟨k, hk, rfl, rfl, rfl⟩ := hrel
        by_cases hlt : k < n
        · have hki : (k : Int) < (n : Int) := by omega
          have hk0 : (0 : Int) ≤ (k : Int) := by omega
          have ck : wr.cell? ⟨g, o + k, none⟩ = some (.int .i64 (xs.getD k 0)) := (HW3.out.cell (p := ⟨g, o + k, none⟩) hg).trans (HC.out k hlt)
          go_wp2
          go_roundw
          case rel => exact ⟨k + 1, by omega, by go_num, rfl, by trivial⟩
          case measure => simp [intOf]; omega
        · obtain rfl : k = n := by omega
          go_wp2
          go_ret3
          exact ⟨rfl, HW3.out⟩
    | true =>
      obtain ⟨hx, rfl⟩ := hq1 rfl
      have HE := Lib.hid (HE1.out hx)
      generalize pl s x = q at *
      clear hq2
      go_wp2
      go_loopw [8, 47] (fun v i wr => ∃ k : Nat, k ≤ n ∧ i = .int .i64 (k : Int) ∧ v = .bool (mt8 s q xs k) ∧ Hid (Rule3 wr B s ∧ B < wr.heap.size) ∧ Hid (Below w.heap.size w wr)) (fun _ i _ => n - (intOf i).toNat)
      case atStart => exact ⟨0, by omega, by simp, by rw [HM0.out], Lib.hid ⟨HR3.out, HZ3.out⟩, HW3⟩
      case round =>
        obtain ⟨k, hk, rfl, rfl, hRl, hbl⟩ := hrel
        by_cases hlt : k < n
        · have hki : (k : Int) < (n : Int) := by omega
          have hk0 : (0 : Int) ≤ (k : Int) := by omega
          have ck : wr.cell? ⟨g, o + k, none⟩ = some (.int .i64 (xs.getD k 0)) := (hbl.out.cell (p := ⟨g, o + k, none⟩) hg).trans (HC.out k hlt)
          have HMk := Lib.hid (HM.out q k)
          have e5 : IntKind.i64.wrap (q + (k : Int)) = q + (k : Int) := IntWalk.i64_in _ (by omega)
          have HNk := Lib.hid fun W => HNm.out (q + (k : Int)) W (by omega) (by omega)
          have r0 := hRl.out.1.c0
          have r1 := hRl.out.1.c1
          have r2 := hRl.out.1.c2
          generalize xs.getD k 0 = v at *
          generalize num s (q + (k : Int)) = u at *
          cases hm : mt8 s q xs k with
          | true =>
            rw [hm, Bool.true_and] at HMk
            clear hm
            go_wp2_with (go_at_call 60; refine (HNk.out _).mono ?_; rintro e w5 ⟨rfl, hb5⟩)
            have HB5 := Lib.hid (hbl.out.trans (hb5.mono hbl.out.size))
            have HR5 := Lib.hid (hRl.out.1.below hb5 hRl.out.2)
            have HZ5 := Lib.hid (Nat.lt_of_lt_of_le hRl.out.2 hb5.size)
            clear hb5
            go_roundw
            case rel => exact ⟨k + 1, by omega, by go_num, by rw [HMk.out], Lib.hid ⟨HR5.out, HZ5.out⟩, HB5⟩
            case measure => simp [intOf]; omega
          | false =>
            rw [hm, Bool.false_and] at HMk
            clear hm
            go_wp2
            go_roundw
            case rel => exact ⟨k + 1, by omega, by go_num, by rw [HMk.out], hRl, hbl⟩
            case measure => simp [intOf]; omega
        · obtain rfl : k = n := by omega
          cases hm : mt8 s q xs k with
          | true =>
            have hE : e0 = R3 s q true := by rw [HE.out, hm]; rfl
            subst hE
            clear hm
            go_wp2
            go_ret3
            exact ⟨rfl, hbl.out⟩
          | false =>
            have hE : e0 = R3 0 0 false := by rw [HE.out, hm]; rfl
            subst hE
            clear hm
            go_wp2
            go_ret3
            exact ⟨rfl, hbl.out⟩
end Go.Proofs.Ytjfpnecnmdclfaa
