/- Chapter 8, by the specification: tables of differences, forms of lists. -/
import Derived.Test.YtjfpnecnmdclfaaMb
import Derived.Test.YtjfpnecnmdclfaaRuL
import Derived.Test.YtjfpnecnmdclfaaSuI
namespace Go.Proofs.Ytjfpnecnmdclfaa
open Go.RowKit

set_option maxHeartbeats 800000 in
theorem l1Own8_any (A : Option Addr) (n c hi : Nat) (xs : List Int) (w : World) (hn : xs.length = n) (hm : n ≤ 1000) (ha : Rd w hi A (i64s xs)) (hh : hi ≤ w.heap.size) :
    Calls Try.prog 39 #[.slice A n c] w fun e w' => (∃ B d, e = .returned (.slice B n d) ∧ w'.ownsRow w.heap.size 3 1 (.slice B n d) n (i64s xs)) ∧ Below w.heap.size w w' := by
  obtain ⟨i0, hi0, hz0, hz1, hz2⟩ := info_parts infoInt
  have HA := Lib.hid (ha.below ((Below.refl w.heap.size w).alloc (Nat.le_refl _) (.cells #[] 3)) hh)
  have HN := Lib.hid hn
  have hlit : (w.alloc (.cells #[] 3)).ownsRow w.heap.size 3 1 (.slice (some ⟨w.heap.size, 0, none⟩) 0 0) 0 [] := World.ownsRow_lit w #[] 0 (Nat.le_refl _) (by unfold maxLen; omega) rfl
  have HL := Lib.hid hlit
  clear ha hn hlit
  go_enter Try.func39, Try.ntmps39
  go_wp2_with (at_builtin; refine wpList_append_src rfl _ _ 24 rfl w.heap.size 3 i0 (.int .i64 0) 8 Try.underlying24 hi0 hz0 hz1 hz2 rfl (.slice (some ⟨w.heap.size, 0, none⟩) 0 0) 0 [] rfl HL.out A n c (i64s xs) rfl (by simp [HN.out]) hi HA.out (i64s_one _) (by unfold maxLen; omega) (by omega) (by simp) ?_; intro v' w3 hown' hgrow)
  have hb3 : Below w.heap.size w w3 := ((Below.refl w.heap.size w).alloc (Nat.le_refl _) (.cells #[] 3)).grown hgrow (by simp) fun g hg => by
    simp [Value.ownBlock] at hg
    omega
  have HO : Hid (w3.ownsRow w.heap.size 3 1 v' n (i64s xs)) := Lib.hid (by simpa using hown')
  obtain ⟨B, d, rfl⟩ := row_form HO.out
  clear hown' hgrow
  go_wp2
  go_ret
  exact ⟨⟨B, d, rfl, HO.out⟩, hb3⟩
theorem i64s_take (xs : List Int) (k : Nat) : (i64s xs).take k = i64s (xs.take k) := by
  simp
theorem own_take8 {w : World} {lo hi : Nat} {A : Option Addr} {cs : List Value} (h : Own w lo hi A cs) (k : Nat) : Own w lo hi A (cs.take k) := fun hn => by
  have hl : (cs.take k).length ≤ cs.length := by rw [List.length_take]; omega
  obtain ⟨g, o, e, h1, h2, hc⟩ := h (by omega)
  refine ⟨g, o, e, h1, h2, fun j u hu => hc j u ?_⟩
  rw [List.getElem?_take] at hu
  split at hu
  · exact hu
  · cases hu
set_option maxRecDepth 8000 in
set_option maxHeartbeats 800000 in
theorem dfTrim_any (A : Option Addr) (n c lo hi : Nat) (xs : List Int) (w : World) (hn : xs.length = n) (hm : n ≤ 1000) (hc : n ≤ c) (ha : Own w lo hi A (i64s xs)) (hh : hi ≤ w.heap.size) :
    Calls Try.prog 41 #[.slice A n c] w fun e w' => (∃ B d, e = .returned (.slice B (trm8 xs).length d) ∧ w'.ownsRow w.heap.size 3 1 (.slice B (trm8 xs).length d) (trm8 xs).length (i64s (trm8 xs))) ∧ Below w.heap.size w w' := by
  have HA := Lib.hid ha
  have HIL : Hid ((i64s xs).length = n) := Lib.hid (by simp [hn])
  have HG := Lib.hid (show ∀ k, k < n → (i64s xs)[k]? = some (.int .i64 (xs.getD k 0)) from fun k hk => by simp [List.getD_eq_getElem?_getD, hn, hk])
  have HT := Lib.hid (show ∀ k, tln8 xs (k + 1) = if xs.getD k 0 = 0 then tln8 xs k else k + 1 from fun k => rfl)
  have HL : Hid ((trm8 xs).length = tln8 xs n) := Lib.hid (by rw [trm8_len, hn])
  have HTr : Hid (trm8 xs = xs.take (tln8 xs n)) := Lib.hid (by rw [trm8, hn])
  have H0 : Hid (tln8 xs 0 = 0) := Lib.hid rfl
  have HO1 := Lib.hid fun B d k (hk : (trm8 xs).length = k) (hk2 : k ≤ 1000) (h : Own w lo hi B (i64s (trm8 xs))) => l1Own8_any B k d hi (trm8 xs) w hk hk2 h.rd hh
  clear ha hn
  go_enter Try.func41, Try.ntmps41
  go_wp2
  go_loopw [3] (fun i wr => ∃ k : Nat, k ≤ n ∧ i = .int .i64 (k : Int) ∧ Hid (tln8 xs k = tln8 xs n) ∧ wr = w) (fun i _ => (intOf i).toNat)
  case atStart => exact ⟨n, Nat.le_refl _, by simp, Lib.hid rfl, rfl⟩
  case round =>
    obtain ⟨k, hk, rfl, hT, rfl⟩ := hrel
    by_cases h0 : k = 0
    · subst h0
      have HZ : Hid ((trm8 xs).length = 0 ∧ i64s (trm8 xs) = []) := by
        have h1 := hT.out
        rw [H0.out] at h1
        have h2 : (trm8 xs).length = 0 := by rw [HL.out, ← h1]
        exact Lib.hid ⟨h2, by rw [List.eq_nil_of_length_eq_zero h2]; rfl⟩
      have hc0 : (0 : Int) ≤ (c : Int) := by omega
      have HO2 := Lib.hid fun B d => HO1.out B d 0 HZ.out.1 (by omega) (by rw [HZ.out.2]; exact Own.nil_)
      have HE : Hid ((trm8 xs).length = 0) := Lib.hid HZ.out.1
      clear HO1 HZ
      cases A with
      | none =>
        go_wp2_with (go_at_call 39; refine (HO2.out _ _).mono ?_; rintro e w2 ⟨⟨B, d, rfl, hO⟩, hb⟩)
        go_ret
        exact ⟨⟨B, d, by rw [HE.out]; rfl, by rw [HE.out]; exact hO⟩, hb⟩
      | some ad =>
        go_wp2_with (go_at_call 39; refine (HO2.out _ _).mono ?_; rintro e w2 ⟨⟨B, d, rfl, hO⟩, hb⟩)
        go_ret
        exact ⟨⟨B, d, by rw [HE.out]; rfl, by rw [HE.out]; exact hO⟩, hb⟩
    · obtain ⟨m, hkm⟩ : ∃ m, m + 1 = k := ⟨k - 1, by omega⟩
      have hmn : (m : Int) < (n : Int) := by omega
      have hm0 : (0 : Int) ≤ (m : Int) := by omega
      have hk1 : (k : Int) > 0 := by omega
      have e1 : IntKind.i64.wrap ((k : Int) - 1) = (m : Int) := by rw [IntWalk.i64_in _ (by omega)]; omega
      obtain ⟨g, o, rfl, hg0, hg1, hcs⟩ := HA.out (by rw [HIL.out]; omega)
      have hcx := (hcs _ _ (HG.out m (by omega))).1
      have HTk := Lib.hid (HT.out m)
      generalize xs.getD m 0 = x at *
      clear hcs
      by_cases hx : x = 0
      · have HX2 := Lib.hid hx
        have HKM := Lib.hid hkm
        clear hkm
        go_wp2
        exact ⟨⟨m, by omega, rfl, Lib.hid (by rw [← hT.out, ← HKM.out, HTk.out, if_pos HX2.out]), trivial⟩, by have := HKM.out; simp [intOf]; omega⟩
      · have HE : Hid ((trm8 xs).length = k ∧ Own wr lo hi (some ⟨g, o, none⟩) (i64s (trm8 xs))) := by
          have h1 : tln8 xs n = k := by rw [← hT.out, ← hkm, HTk.out, if_neg hx]
          exact Lib.hid ⟨by rw [HL.out, h1], by rw [HTr.out, h1, ← i64s_take]; exact own_take8 HA.out _⟩
        have hck : (k : Int) ≤ (c : Int) := by omega
        have HO2 := Lib.hid fun d => HO1.out (some ⟨g, o, none⟩) d k HE.out.1 (by omega) HE.out.2
        clear hkm HO1
        go_wp2_with (go_at_call 39; refine (HO2.out _).mono ?_; rintro e w2 ⟨⟨B, d, rfl, hO⟩, hb⟩)
        go_ret
        exact ⟨⟨B, d, by rw [HE.out.1]; rfl, by rw [HE.out.1]; exact hO⟩, hb⟩
theorem dfIf_any (A : Option Addr) (n c lo hi : Nat) (xs : List Int) (w : World) (hn : xs.length = n) (hm : n ≤ 1048576) (ha : Own w lo hi A (i64s xs)) :
    Calls Try.prog 37 #[.slice A n c] w fun e w' => e = .returned (if fm8 xs = true then .tuple #[.slice A n c, .bool true] else .tuple #[.slice none 0 0, .bool false]) ∧ w = w' := by
  have HF := Lib.hid (dfForm_any A n c lo hi xs w hn hm ha)
  generalize fm8 xs = r at *
  clear ha hn
  cases r with
  | false =>
    go_enter Try.func37, Try.ntmps37
    go_wp2_with (go_at_call 36; refine HF.out.mono ?_; rintro e w' ⟨rfl, rfl⟩)
    go_ret2
    exact ⟨rfl, rfl⟩
  | true =>
    go_enter Try.func37, Try.ntmps37
    go_wp2_with (go_at_call 36; refine HF.out.mono ?_; rintro e w' ⟨rfl, rfl⟩)
    go_ret2
    exact ⟨rfl, rfl⟩
end Go.Proofs.Ytjfpnecnmdclfaa
