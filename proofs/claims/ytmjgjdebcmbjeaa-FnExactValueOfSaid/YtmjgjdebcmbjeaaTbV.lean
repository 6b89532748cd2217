/- Chapter 8, by the specification: FormBehind. -/
import Derived.Test.YtmjgjdebcmbjeaaTbU
import Derived.Test.YtmjgjdebcmbjeaaSuR
import Derived.BigRegion
namespace Go.Proofs.Ytmjgjdebcmbjeaa
open Go.RowKit

theorem tab_list (xs : List Int) : tab (fun j => xs.getD j 0) xs.length = xs := by
  apply List.ext_getElem?
  intro i
  by_cases hi : i < xs.length
  · rw [tab_get _ _ _ hi]
    simp [List.getD_eq_getElem?_getD, hi]
  · rw [List.getElem?_eq_none (by rw [tab_len]; omega), List.getElem?_eq_none (by omega)]
theorem tab_eq {xs : List Int} {f : Nat → Int} {n : Nat} (hn : xs.length = n) (h : ∀ j, j < n → f j = xs.getD j 0) : tab f n = xs := by
  rw [tab_congr (g := fun j => xs.getD j 0) h, ← hn]
  exact tab_list xs
theorem row_base {w : World} {base : Nat} {e : TypeId} {size n c : Nat} {A : Option Addr} {cs : List Value} (h : w.ownsRow base e size (.slice A n c) n cs) (h0 : 0 < n) : ∃ g, A = some ⟨g, 0, none⟩ := by
  rcases h.2 with ⟨hv, e0⟩ | ⟨g, cap, cur, hv, _⟩
  · omega
  · injection hv with hA _ _
    exact ⟨g, hA⟩
/-- The numbers while the first k are led on. -/
def led8 (xs : List Int) (k : Nat) (j : Nat) : Int := if j < k then xs.getD j 0 + xs.getD (j + 1) 0 else xs.getD j 0
theorem led8_set (xs : List Int) (k : Nat) (x : Int) (hx : x = xs.getD k 0 + xs.getD (k + 1) 0) : ∀ j, upd (led8 xs k) k x j = led8 xs (k + 1) j := fun j => by
  unfold upd led8
  by_cases h : j = k
  · subst h
    rw [if_pos rfl, if_pos (by omega), hx]
  · rw [if_neg h]
    by_cases h2 : j < k
    · rw [if_pos h2, if_pos (by omega)]
    · rw [if_neg h2, if_neg (by omega)]
theorem spec_FormBehind_no (A : Option Addr) (n c lo : Nat) (xs : List Int) (w : World) (hn : xs.length = n) (hm : n ≤ 1048576) (ha : Own w lo w.heap.size A (i64s xs)) (h : fm8 xs = false) :
    Calls Try.prog 44 #[.slice A n c] w (ResI false [] w) := by
  have HG := Lib.hid (dfForm_any A n c lo w.heap.size xs w hn hm ha)
  rw [h] at HG
  clear ha hn h
  go_enter Try.func44, Try.ntmps44
  go_wp2_with (go_at_call 69; refine HG.out.mono ?_; rintro e w' ⟨rfl, rfl⟩)
  go_ret2
  exact resI_nil (Below.refl _ _)
theorem fm8_stp {xs : List Int} (h : fm8 xs = true) : fm8 (stp8 xs) = ent8 (stp8 xs) := fm8_of_last fun h0 => by
  rw [stp8_len] at h0 ⊢
  rw [stp8_at]
  have h1 := fm8_last h h0
  have e : xs.getD (xs.length - 1 + 1) 0 = 0 := by
    rw [List.getD_eq_getElem?_getD, List.getElem?_eq_none (by omega)]
    rfl
  rw [e]
  omega
set_option maxRecDepth 8000 in
set_option maxHeartbeats 1600000 in
theorem spec_FormBehind_yes (A : Option Addr) (n c lo : Nat) (xs : List Int) (w : World) (hn : xs.length = n) (ha : Own w lo w.heap.size A (i64s xs)) (h : fm8 xs = true) :
    Calls Try.prog 44 #[.slice A n c] w (ResI (ent8 (stp8 xs)) (ans8 (ent8 (stp8 xs)) (stp8 xs)) w) := by
  have hl := fm8_len h
  have hbd := fm8_bd h
  rw [hn] at hl
  have HG := Lib.hid (dfForm_any A n c lo w.heap.size xs w hn (by omega) ha)
  rw [h] at HG
  have HOw := Lib.hid (l1Own8_any A n c w.heap.size xs w hn (by omega) ha.rd (Nat.le_refl _))
  have hf := fm8_stp h
  have hsl : (stp8 xs).length = n := by rw [stp8_len, hn]
  have HDy := Lib.hid fun (hr : ent8 (stp8 xs) = true) B d l W (h : Own W l W.heap.size B (i64s (stp8 xs))) => dfIf_yes B n d l W.heap.size (stp8 xs) W hsl (by omega) h (hf.trans hr)
  have HDn := Lib.hid fun (hr : ent8 (stp8 xs) = false) B d l W (h : Own W l W.heap.size B (i64s (stp8 xs))) => dfIf_no B n d l W.heap.size (stp8 xs) W hsl (by omega) h (hf.trans hr)
  obtain ⟨r, hr⟩ : ∃ r, r = ent8 (stp8 xs) := ⟨_, rfl⟩
  rw [← hr] at HDy HDn ⊢
  by_cases h0 : n = 0
  · have hx : xs = [] := List.eq_nil_of_length_eq_zero (hn.trans h0)
    subst hx
    subst h0
    obtain rfl : r = true := hr
    show Calls _ _ _ _ (ResI true [] w)
    have HD := Lib.hid fun B d l W h => HDy.out rfl B d l W h
    clear HDy HDn hbd hf ha h
    go_enter Try.func44, Try.ntmps44
    go_wp2_with (first
      | (go_at_call 69; refine HG.out.mono ?_; rintro e w' ⟨rfl, rfl⟩)
      | (go_at_call 82; refine HOw.out.mono ?_; rintro e w1 ⟨⟨B0, d0, rfl, hR0⟩, hb0⟩; have HR0 := Lib.hid hR0; have HB0 := Lib.hid hb0; clear hR0 hb0))
    go_loopw [5] (fun i wr => i = .int .i64 0 ∧ wr = w1) (fun _ _ => 0)
    case atStart => exact ⟨rfl, rfl⟩
    case round =>
      obtain ⟨rfl, rfl⟩ := hrel
      go_wp2_with (go_at_call 67; refine (HD.out B0 d0 0 _ Own.nil_).mono ?_; rintro e w' ⟨rfl, rfl⟩)
      go_ret2
      exact ⟨B0, d0, rfl, Own.nil_, HB0.out⟩
  · have HN := Lib.hid hn
    have HBd := Lib.hid hbd
    have HEnd : Hid (∀ m, m + 1 = n → tab (led8 xs m) n = stp8 xs) := Lib.hid fun m hm => tab_eq hsl fun j hj => by
      rw [stp8_at]
      unfold led8
      split
      · rfl
      · have e : xs.getD (j + 1) 0 = 0 := by
          rw [List.getD_eq_getElem?_getD, List.getElem?_eq_none (by omega)]
          rfl
        rw [e]
        omega
    have HBeg : Hid (i64s (tab (led8 xs 0) n) = i64s xs) := Lib.hid (by
      rw [tab_eq (xs := xs) hn]
      intro j hj
      unfold led8
      rw [if_neg (by omega)])
    have HSet := Lib.hid fun k x hx => led8_set xs k x hx
    have HV := Lib.hid (show ∀ k, led8 xs k k = xs.getD k 0 ∧ led8 xs k (k + 1) = xs.getD (k + 1) 0 from fun k => by
      unfold led8
      rw [if_neg (by omega), if_neg (by omega)]
      exact ⟨rfl, rfl⟩)
    have HSl := Lib.hid hsl
    have hn1 : 1 ≤ n := by omega
    clear hbd hf ha h hr hn hsl h0
    go_enter Try.func44, Try.ntmps44
    go_wp2_with (first
      | (go_at_call 69; refine HG.out.mono ?_; rintro e w' ⟨rfl, rfl⟩)
      | (go_at_call 82; refine HOw.out.mono ?_; rintro e w1 ⟨⟨B0, d0, rfl, hR0⟩, hb0⟩; obtain ⟨g, rfl⟩ := row_base hR0 (by omega); have HR0 := Lib.hid hR0; have HB0 := Lib.hid hb0; clear hR0 hb0))
    go_loopw [5] (fun i wr => ∃ k : Nat, k + 1 ≤ n ∧ i = .int .i64 (k : Int) ∧ Hid (Row wr w.heap.size g n d0 (led8 xs k)) ∧ Hid (Below w.heap.size w wr)) (fun i _ => n - (intOf i).toNat)
    case atStart => exact ⟨0, by omega, by simp, Lib.hid (by unfold Row; rw [HBeg.out]; exact HR0.out), HB0⟩
    case round =>
      obtain ⟨k, hk, rfl, hR, hbl⟩ := hrel
      have e1 : IntKind.i64.wrap ((k : Int) + 1) = (k : Int) + 1 := IntWalk.i64_in _ (by omega)
      by_cases hlt : k + 1 < n
      · obtain ⟨m, hkm⟩ : ∃ m, m = k + 1 := ⟨_, rfl⟩
        have c0 := hR.out.cell (j := k) (by omega)
        have c1 := hR.out.cell (j := m) (by omega)
        have z0 := hR.out.frozen k
        rw [(HV.out k).1] at c0
        rw [hkm, (HV.out k).2, ← hkm] at c1
        have b0 := HBd.out k
        have b1 := HBd.out m
        have HS := Lib.hid (HSet.out k (xs.getD k 0 + xs.getD m 0) (by rw [hkm]))
        have hR2 := hR.out.set k (xs.getD k 0 + xs.getD m 0)
        have hgl := hR.out.lt
        generalize xs.getD k 0 = x at *
        generalize xs.getD m 0 = y at *
        have HR2 := Lib.hid ((hR2.congr (f' := led8 xs (k + 1)) fun j _ => HS.out j).drew)
        have HB2 : Hid (Below w.heap.size w (wr.setCell ⟨g, k, none⟩ (.int .i64 (x + y))).drew) := Lib.hid ((hbl.out.setCell (p := ⟨g, k, none⟩) hgl.1 _).drew)
        have q1 : (k : Int) + 1 < (n : Int) := by omega
        have q2 : (k : Int) < (n : Int) := by omega
        have q3 : (0 : Int) ≤ (k : Int) := by omega
        have q4 : (m : Int) < (n : Int) := by omega
        have q5 : (0 : Int) ≤ (m : Int) := by omega
        have e2 : IntKind.i64.wrap ((k : Int) + 1) = (m : Int) := by rw [e1]; omega
        have q6 : (k : Int) + 1 = (m : Int) := by omega
        have e3 : IntKind.i64.wrap (x + y) = x + y := IntWalk.i64_in _ (by omega)
        have HKM := Lib.hid hkm
        clear hR2 hgl hkm e1 q1 q6
        go_wp2
        go_region
        go_wp2
        go_roundw
        case rel => exact ⟨m, by have := HKM.out; omega, rfl, Lib.hid (by rw [HKM.out]; exact HR2.out), HB2⟩
        case measure => have := HKM.out; simp [intOf]; omega
      · obtain ⟨m, hkm⟩ : ∃ m, m + 1 = n := ⟨k, by omega⟩
        obtain rfl : k = m := by omega
        have hE := HEnd.out k hkm
        have hO := hR.out.own
        rw [hE] at hO
        have HO := Lib.hid hO
        have q1 : ¬ (k : Int) + 1 < (n : Int) := by omega
        clear hO hE hkm
        cases r with
        | true =>
          go_wp2_with (go_at_call 67; refine (HDy.out rfl _ _ _ _ HO.out).mono ?_; rintro e w' ⟨rfl, rfl⟩)
          go_ret2
          exact ⟨_, d0, by rw [show ans8 true (stp8 xs) = stp8 xs from rfl, HSl.out]; rfl, HO.out, hbl.out⟩
        | false =>
          go_wp2_with (go_at_call 67; refine (HDn.out rfl _ _ _ _ HO.out).mono ?_; rintro e w' ⟨rfl, rfl⟩)
          go_ret2
          exact resI_nil hbl.out
end Go.Proofs.Ytmjgjdebcmbjeaa
