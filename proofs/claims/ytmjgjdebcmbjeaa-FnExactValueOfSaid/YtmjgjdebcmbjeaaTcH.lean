/- Chapter 8, the program: zeros cut off; values of forms. -/
import Derived.Test.YtmjgjdebcmbjeaaTcF
import Derived.Test.YtmjgjdebcmbjeaaTcB
namespace Go.Proofs.Ytmjgjdebcmbjeaa
open Go.RowKit

/-- Not greater than 2^126, either sign. -/
def Sm (xs : List Int) : Prop := ∀ j, -85070591730234615865843651857942052864 ≤ xs.getD j 0 ∧ xs.getD j 0 ≤ 85070591730234615865843651857942052864
theorem eq_zero8 (x : Int) (h1 : -85070591730234615865843651857942052864 ≤ x) (h2 : x ≤ 85070591730234615865843651857942052864) : (hi8 x == 0 && lo8 x == 0) = decide (x = 0) := by
  by_cases h : x = 0
  · subst h
    rfl
  · rw [decide_eq_false h]
    cases e : (hi8 x == 0 && lo8 x == 0) with
    | false => rfl
    | true =>
      simp only [Bool.and_eq_true, beq_iff_eq] at e
      have := long_eq x 0 h1 h2 (by omega) (by omega) e.1.symm e.2.symm
      omega
theorem l64s_take : ∀ (xs : List Int) (k : Nat), (l64s xs).take (k * 2) = l64s (xs.take k)
  | [], k => by simp [l64s]
  | v :: l, 0 => by simp [l64s]
  | v :: l, k + 1 => by
    rw [show (k + 1) * 2 = k * 2 + 2 by omega, List.take_succ_cons]
    simp only [l64s, List.take_succ_cons]
    rw [l64s_take l k]
theorem l64s_drop : ∀ (xs : List Int) (k : Nat), (l64s xs).drop (k * 2) = l64s (xs.drop k)
  | [], k => by simp [l64s]
  | v :: l, 0 => by simp [l64s]
  | v :: l, k + 1 => by
    rw [show (k + 1) * 2 = k * 2 + 2 by omega, List.drop_succ_cons]
    simp only [l64s, List.drop_succ_cons]
    rw [l64s_drop l k]
theorem own_take {w : World} {lo hi : Nat} {A : Option Addr} {cs : List Value} (h : Own w lo hi A cs) (k : Nat) : Own w lo hi A (cs.take k) := fun hn => by
  have hl : (cs.take k).length ≤ cs.length := by rw [List.length_take]; omega
  obtain ⟨g, o, e, h1, h2, hc⟩ := h (by omega)
  refine ⟨g, o, e, h1, h2, fun j u hu => hc j u ?_⟩
  rw [List.getElem?_take] at hu
  split at hu
  · exact hu
  · cases hu
theorem own_drop {w : World} {lo hi g o : Nat} {cs : List Value} (h : Own w lo hi (some ⟨g, o, none⟩) cs) (k : Nat) : Own w lo hi (some ⟨g, o + k, none⟩) (cs.drop k) := fun hn => by
  rw [List.length_drop] at hn
  obtain ⟨g', o', e, h1, h2, hc⟩ := h (by omega)
  injection e with e
  injection e with e1 e2 _
  subst e1 e2
  refine ⟨g, o + k, rfl, h1, h2, fun j u hu => ?_⟩
  rw [List.getElem?_drop] at hu
  have := hc (k + j) u hu
  rw [← Nat.add_assoc] at this
  exact this
set_option maxRecDepth 8000 in
set_option maxHeartbeats 800000 in
theorem trim_any (A : Option Addr) (n c lo hi : Nat) (xs : List Int) (w : World) (hn : xs.length = n) (hm : n ≤ 100000) (hc : n ≤ c) (hX : Sm xs) (ha : Own w lo hi A (l64s xs)) (hh : hi ≤ w.heap.size) :
    Calls Try.prog 81 #[.slice A n c] w fun e w' => (∃ B d, e = .returned (.slice B (trm8 xs).length d) ∧ Own w' lo hi B (l64s (trm8 xs))) ∧ Below w.heap.size w w' := by
  have HA := Lib.hid ha
  have HN := Lib.hid hn
  have HX := Lib.hid hX
  have HT := Lib.hid (show ∀ k, tln8 xs (k + 1) = if xs.getD k 0 = 0 then tln8 xs k else k + 1 from fun k => rfl)
  have HL : Hid ((trm8 xs).length = tln8 xs n) := Lib.hid (by rw [trm8_len, hn])
  have HTr : Hid (trm8 xs = xs.take (tln8 xs n)) := Lib.hid (by rw [trm8, hn])
  have H0 : Hid (tln8 xs 0 = 0) := Lib.hid rfl
  clear ha hn hX
  go_enter Try.func81, Try.ntmps81
  go_wp2
  go_loopw [3] (fun i wr => ∃ k : Nat, k ≤ n ∧ i = .int .i64 (k : Int) ∧ Hid (tln8 xs k = tln8 xs n) ∧ wr = w) (fun i _ => (intOf i).toNat)
  case atStart => exact ⟨n, Nat.le_refl _, by simp, Lib.hid rfl, rfl⟩
  case round =>
    obtain ⟨k, hk, rfl, hT, rfl⟩ := hrel
    by_cases h0 : k = 0
    · subst h0
      have HZ : Hid ((trm8 xs).length = 0 ∧ l64s (trm8 xs) = []) := by
        have h1 := hT.out
        rw [H0.out] at h1
        have h2 : (trm8 xs).length = 0 := by rw [HL.out, ← h1]
        exact Lib.hid ⟨h2, by rw [List.eq_nil_of_length_eq_zero h2]; rfl⟩
      have hc0 : (0 : Int) ≤ (c : Int) := by omega
      cases A with
      | none =>
        go_wp2
        go_ret
        exact ⟨⟨none, 0, by rw [HZ.out.1]; rfl, by rw [HZ.out.2]; exact Own.nil_⟩, Below.refl _ _⟩
      | some ad =>
        go_wp2
        go_ret
        exact ⟨⟨some ad, 0, by rw [HZ.out.1]; rfl, by rw [HZ.out.2]; exact Own.nil_⟩, Below.refl _ _⟩
    · obtain ⟨m, hkm⟩ : ∃ m, m + 1 = k := ⟨k - 1, by omega⟩
      have hmn : (m : Int) < (n : Int) := by omega
      have hm0 : (0 : Int) ≤ (m : Int) := by omega
      have hk1 : (k : Int) > 0 := by omega
      have e1 : IntKind.i64.wrap ((k : Int) - 1) = (m : Int) := by rw [IntWalk.i64_in _ (by omega)]; omega
      obtain ⟨g, o, rfl, hg0, hg1, s0, s1⟩ := HA.out.lng (k := m) (by rw [HN.out]; omega)
      have hxb := HX.out m
      have HTk := Lib.hid (HT.out m)
      have hq : ∀ W, (Op.equalIn 10000 59 (.agg #[.int .u64 (hi8 (xs.getD m 0)), .int .u64 (lo8 (xs.getD m 0))]) (.agg #[.int .u64 0, .int .u64 0])).run Try.prog W = .ok (decide (xs.getD m 0 = 0)) W := fun W => by
        rw [eq_lng, eq_zero8 _ hxb.1 hxb.2]
      generalize xs.getD m 0 = x at *
      generalize hi8 x = x1 at *
      generalize lo8 x = x2 at *
      by_cases hx : x = 0
      · rw [decide_eq_true hx] at hq
        have HX2 := Lib.hid hx
        have HKM := Lib.hid hkm
        clear hx hkm
        go_wp2
        exact ⟨⟨m, by omega, rfl, Lib.hid (by rw [← hT.out, ← HKM.out, HTk.out, if_pos HX2.out]), trivial⟩, by have := HKM.out; simp [intOf]; omega⟩
      · rw [decide_eq_false hx] at hq
        have HE : Hid ((trm8 xs).length = k ∧ Own wr lo hi (some ⟨g, o, none⟩) (l64s (trm8 xs))) := by
          have h1 : tln8 xs n = k := by rw [← hT.out, ← hkm, HTk.out, if_neg hx]
          exact Lib.hid ⟨by rw [HL.out, h1], by rw [HTr.out, h1, ← l64s_take]; exact own_take HA.out _⟩
        clear hx hkm
        go_wp2
        go_ret
        exact ⟨⟨some ⟨g, o, none⟩, k, by rw [HE.out.1]; rfl, HE.out.2⟩, Below.refl _ _⟩
set_option maxRecDepth 8000 in
set_option maxHeartbeats 800000 in
theorem values_any (A : Option Addr) (n c lo hi f k : Nat) (xs : List Int) (w : World) (hn : xs.length = n) (hm : n ≤ 100000) (hf : f + k ≤ 100000) (hk : 1 ≤ k) (ha : Own w lo hi A (l64s xs)) (hh : hi ≤ w.heap.size) :
    Calls Try.prog 74 #[.slice A n c, .int .i64 (f : Int), .int .i64 (k : Int)] w (ResR ((fst8 stp8 (f + k) xs).drop f) w) := by
  have HF := Lib.hid fun W => firsts_any 83 stp8 leads_behind A n c lo hi (f + k) xs W hn hm hf
  have HA := Lib.hid ha
  have HL : Hid ((fst8 stp8 (f + k) xs).length = f + k) := Lib.hid (fst8_len _ _ _)
  have HD : Hid (((fst8 stp8 (f + k) xs).drop f).length = k) := Lib.hid (by rw [List.length_drop, fst8_len]; omega)
  obtain ⟨s, hs⟩ : ∃ s, s = f + k := ⟨_, rfl⟩
  rw [← hs] at HF HL HD
  have HS := Lib.hid hs
  have e1 : IntKind.i64.wrap ((f : Int) + (k : Int)) = (s : Int) := by rw [IntWalk.i64_in _ (by omega)]; omega
  have g1 : (f : Int) ≤ (s : Int) := by omega
  have g0 : (0 : Int) ≤ (f : Int) := by omega
  have e2 : (s : Int) - (f : Int) = (k : Int) := by omega
  rw [← hs]
  clear ha hn hs
  go_enter Try.func74, Try.ntmps74
  go_wp2_with (go_at_call 103; refine (HF.out _ HA.out hh).mono ?_; rintro e w2 ⟨B, d, hd, rfl, hO, hb⟩; rw [HL.out] at hd ⊢; obtain ⟨g, o, rfl, hg⟩ : ∃ g o, B = some ⟨g, o, none⟩ ∧ True := (by obtain ⟨g, o, e, _⟩ := hO (by rw [l64s_len, HL.out]; omega); exact ⟨g, o, e, trivial⟩); have gd : (s : Int) ≤ (d : Int) := (by omega))
  go_ret
  have hsf : s - f = k := by omega
  refine ⟨some ⟨g, o + f * 2, none⟩, k, by rw [HD.out]; exact Nat.le_refl _, by rw [HD.out, ← hsf]; rfl, ?_, hb⟩
  rw [← l64s_drop]
  exact own_drop hO (f * 2)
set_option maxHeartbeats 400000 in
theorem fullForm_any (A : Option Addr) (n c lo hi : Nat) (xs : List Int) (w : World) (hn : xs.length = n) (hm : n ≤ 100000) (ha : Own w lo hi A (l64s xs)) (hh : hi ≤ w.heap.size) :
    Calls Try.prog 85 #[.slice A n c] w (ResR (fst8 dif8 n xs) w) := by
  have HF := Lib.hid (firsts_any 62 dif8 leads_differences A n c lo hi n xs w hn hm hm ha hh)
  clear ha hn hh
  go_enter Try.func85, Try.ntmps85
  go_wp2_with (go_at_call 103; refine HF.out.mono ?_; rintro e w2 ⟨B, d, hd, rfl, hO, hb⟩)
  go_ret
  exact ⟨B, d, hd, rfl, hO, hb⟩
set_option maxHeartbeats 400000 in
theorem form_any (A : Option Addr) (n c lo hi : Nat) (xs : List Int) (w : World) (hn : xs.length = n) (hm : n ≤ 100000) (hX : Sm (fst8 dif8 n xs)) (ha : Own w lo hi A (l64s xs)) (hh : hi ≤ w.heap.size) :
    Calls Try.prog 66 #[.slice A n c] w fun e w' => (∃ B d, e = .returned (.slice B (trm8 (fst8 dif8 n xs)).length d) ∧ Own w' w.heap.size w'.heap.size B (l64s (trm8 (fst8 dif8 n xs)))) ∧ Below w.heap.size w w' := by
  have HF := Lib.hid (fullForm_any A n c lo hi xs w hn hm ha hh)
  have HT := Lib.hid fun B d l h W (h1 : _ ≤ d) h2 h3 => trim_any B (fst8 dif8 n xs).length d l h (fst8 dif8 n xs) W rfl (by rw [fst8_len]; exact hm) h1 hX h2 h3
  clear ha hn hh hX
  generalize fst8 dif8 n xs = ys at *
  go_enter Try.func66, Try.ntmps66
  go_wp2_with (first
    | (go_at_call 85; refine HF.out.mono ?_; rintro e w2 ⟨B, d, hd, rfl, hO, hb⟩; have HO := Lib.hid hO; have HB := Lib.hid hb; clear hO hb)
    | (go_at_call 81; refine (HT.out _ _ _ _ _ hd HO.out (Nat.le_refl _)).mono ?_; rintro e w3 ⟨⟨C, q, rfl, hO3⟩, hb3⟩))
  go_ret
  exact ⟨⟨C, q, rfl, hO3.wide (Nat.le_refl _) hb3.size⟩, HB.out.trans (hb3.mono HB.out.size)⟩
end Go.Proofs.Ytmjgjdebcmbjeaa
