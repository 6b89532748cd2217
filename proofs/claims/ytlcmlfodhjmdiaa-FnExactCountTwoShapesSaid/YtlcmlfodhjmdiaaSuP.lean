/- The law FnExactAreParts: the program tells parts as the specification does, whatever the arguments; the list is left as it was. No condition. -/
import Derived.Test.YtlcmlfodhjmdiaaSuB
namespace Go.Proofs.Ytlcmlfodhjmdiaa
open Go.ChangeShapes Go.WideShapes Go.ChangeAt Go.RowKit

theorem addr_block (a : Addr) (j : Nat) : (a.add j).block = a.block := by
  unfold Addr.add
  by_cases h : j = 0 <;> simp [h]
theorem addr_none (g o j : Nat) : (⟨g, o, none⟩ : Addr).add j = ⟨g, o + j, none⟩ := by
  unfold Addr.add
  by_cases h : j = 0 <;> simp [h]
/-- A slice at the address A reads as the cells cs, in a block below hi. -/
def Rd (w : World) (hi : Nat) (A : Option Addr) (cs : List Value) : Prop :=
  0 < cs.length → ∃ ad : Addr, A = some ad ∧ ad.block < hi ∧ ∀ j u, cs[j]? = some u → w.cell? (ad.add j) = some u
section
variable {w w' : World} {lo hi : Nat} {A : Option Addr} {cs : List Value}
theorem Rd.below {B : Nat} (h : Rd w hi A cs) (hb : Below B w w') (hB : hi ≤ B) : Rd w' hi A cs := fun hn => by
  obtain ⟨ad, e, h1, hc⟩ := h hn
  refine ⟨ad, e, h1, fun j u hu => ?_⟩
  rw [hb.cell (p := ad.add j) (by rw [addr_block]; exact Nat.lt_of_lt_of_le h1 hB)]
  exact hc j u hu
theorem Rd.at_ (h : Rd w hi A cs) {k : Nat} (hk : k < cs.length) : ∃ ad : Addr, A = some ad ∧ ad.block < hi ∧ w.cell? (ad.add k) = some cs[k] := by
  obtain ⟨ad, e, h1, hc⟩ := h (by omega)
  exact ⟨ad, e, h1, hc k _ (List.getElem?_eq_getElem hk)⟩
theorem Own.rd (h : Own w lo hi A cs) : Rd w hi A cs := fun hn => by
  obtain ⟨g, o, e, h1, h2, hc⟩ := h hn
  exact ⟨⟨g, o, none⟩, e, h2, fun j u hu => by rw [addr_none]; exact (hc j u hu).1⟩
end
/-- An argument that is a slice of numbers. -/
theorem view_ints {H : Type} {enc : TypeId × Value → H} {W : World} {t e : TypeId} {A : Option Addr} {n c : Nat} {d : DataW H} {p : List MemPlace}
    (ht : Try.prog.underlying t = some (.slice e)) (he : Try.prog.underlying e = some (.int .i64)) (hc : Try.prog.cellsOf e = 1)
    (hf : DataW.Trod enc Try.prog W 0 (fun _ => true) true t (.slice A n c) d p) : ∃ Z : List Int, Z.length = n ∧ n ≤ 9223372036854775807 ∧ Rd W W.heap.size A (i64s Z) := by
  obtain ⟨fuel, hf⟩ := hf
  rcases open_ints ht he hc hf with ⟨hcs, hx⟩ | ⟨a, len', cap', zs, hcs, _, hl, hm, hz, hx, hcell, hwz⟩
  · simp [Value.cells] at hcs
    obtain ⟨rfl, rfl, rfl⟩ := hcs
    exact ⟨[], rfl, by omega, fun h => absurd h (by simp)⟩
  · simp [Value.cells] at hcs
    obtain ⟨rfl, rfl, rfl⟩ := hcs
    simp only [if_true] at hz
    unfold maxLen at hm
    refine ⟨zs.take n, (by simp; omega), by omega, fun h => ?_⟩
    have h0 : 0 < n := by
      simp only [List.length_map, List.length_take] at h
      omega
    refine ⟨a, rfl, ?_, fun j u hu => ?_⟩
    · have h2 := hcell 0 (by omega)
      have h3 : (a.add 0) = a := rfl
      rw [h3] at h2
      rcases Nat.lt_or_ge a.block W.heap.size with h4 | h4
      · exact h4
      · simp [World.cell?, Array.getElem?_eq_none h4] at h2
    · have hj := (List.getElem?_eq_some_iff.1 hu).1
      simp only [List.length_map, List.length_take] at hj
      rw [hcell j (by omega), ← hu]
      simp [List.getD_eq_getElem?_getD, List.getElem?_take, show j < n from by omega]
      rw [List.getElem?_eq_getElem (by omega)]
      rfl
theorem fill_set (ys cs : List Value) (k : Nat) (h : k < ys.length) (h2 : k < cs.length) : (ys.take k ++ cs.drop k).set k ys[k] = ys.take (k + 1) ++ cs.drop (k + 1) := by
  have e1 : (ys.take k).length = k := by simp; omega
  rw [List.set_append_right _ _ (by omega), e1, Nat.sub_self, List.drop_eq_getElem_cons h2, List.set_cons_zero, List.take_succ_eq_append_getElem h, List.append_assoc]
  rfl

set_option maxHeartbeats 800000 in
theorem toIntS_any (A : Option Addr) (n c : Nat) (xs : List Int) (w : World) (hn : xs.length = n) (hm : n ≤ 1048576) (ha : Rd w w.heap.size A (i64s xs)) :
    Calls Try.prog 19 #[.slice A n c] w fun e w' => (∃ B d, e = .returned (.slice B n d) ∧ Own w' w.heap.size w'.heap.size B (i64s xs)) ∧ Below w.heap.size w w' := by
  obtain ⟨i0, hi0, hz0, hz1, hz2⟩ := info_parts infoInt
  have HA := Lib.hid ha
  have HN := Lib.hid hn
  clear ha hn
  go_enter Try.func19, Try.ntmps19
  go_wp2_with (at_make; refine wpList_make_full _ rfl _ _ 28 rfl w.heap.size 3 i0 (.int .i64 0) 1 Try.underlying28 hi0 hz0 hz1 _ _ _ _ n rfl rfl rfl rfl (by rw [hz2]; omega) (by unfold maxLen; omega) (Nat.le_refl _) ?_; intro w1 hown1 hgrow1)
  have hb1 : Below w.heap.size w w1 := (Below.refl _ _).grown hgrow1 (Nat.le_refl _) (fun g hg => by cases hg)
  obtain ⟨cs, hcs⟩ : ∃ cs, cs = (madeCells (Value.int .i64 0).cells (n * 1)).toList := ⟨_, rfl⟩
  have hown2 := own_of_row hown1
  rw [← hcs] at hown2
  have hcl : cs.length = n := by
    rw [hcs]
    have := hown1.1
    simpa using this
  have HO := Lib.hid hown2
  have HC := Lib.hid hcl
  clear hcs hown1 hgrow1 hown2 hcl
  go_wp2
  go_loopw [4] (fun i wr => ∃ k : Nat, k ≤ n ∧ i = .int .i64 k ∧ Hid (Own wr w.heap.size w1.heap.size (some ⟨w.heap.size, 0, none⟩) ((i64s xs).take k ++ cs.drop k)) ∧ Below w.heap.size w wr ∧ w1.heap.size ≤ wr.heap.size) (fun i _ => n - (intOf i).toNat)
  case atStart => exact ⟨0, Nat.zero_le _, rfl, by simpa using HO, hb1, Nat.le_refl _⟩
  case round =>
    obtain ⟨k, hk, rfl, hown, hb, hsz⟩ := hrel
    by_cases hlt : k < n
    · have hl1 : k < (i64s xs).length := by simp [HN.out, hlt]
      have hl2 : k < cs.length := by rw [HC.out]; exact hlt
      have hlen : k < ((i64s xs).take k ++ cs.drop k).length := by simp [HN.out, HC.out]; omega
      obtain ⟨ad, rfl, had, hca⟩ := ((HA.out).below hb (Nat.le_refl _)).at_ hl1
      obtain ⟨g, o, hgo, hg1, hg2, hcb, hfb⟩ := hown.out.at_ hlen
      injection hgo with hgo
      injection hgo with hg0 ho0 _
      subst hg0
      subst ho0
      have hcx : wr.cell? (ad.add k) = some (.int .i64 (xs[k]'(by rw [HN.out]; exact hlt))) := by simpa using hca
      have hset := hown.out.set_ k hlen (i64s xs)[k]
      rw [fill_set _ _ k hl1 hl2] at hset
      have hval : (i64s xs)[k] = .int .i64 (xs[k]'(by rw [HN.out]; exact hlt)) := by simp
      rw [hval] at hset
      generalize xs[k]'(by rw [HN.out]; exact hlt) = z at hcx hset
      generalize ((i64s xs).take k ++ cs.drop k)[k]'hlen = u at hcb
      have HS := Lib.hid hset
      have hb2 : Below w.heap.size w (wr.setCell ⟨w.heap.size, 0 + k, none⟩ (.int .i64 z)) := hb.setCell hg1 _
      have hi : (k : Int) < (n : Int) := by omega
      clear hown hset hval hl1 hl2 hlen hca
      simp only [Nat.zero_add] at hcb hfb hb2 HS
      go_wp2
      go_roundw
      case rel => exact ⟨k + 1, by omega, by go_num, HS, hb2, by simpa using hsz⟩
      case measure => simp [intOf]; omega
    · obtain rfl : k = n := by omega
      have hO := hown.out
      rw [List.take_of_length_le (by simp [HN.out]), List.drop_eq_nil_of_le (by rw [HC.out]; exact Nat.le_refl _), List.append_nil] at hO
      have HO3 := Lib.hid (hO.wide (Nat.le_refl _) hsz)
      clear hO
      go_wp2
      go_ret
      exact ⟨⟨_, _, rfl, HO3.out⟩, hb⟩

/-- What stands ahead of a place: the greatest place there may be, or the place before. -/
def bef (xs : List Int) (j : Nat) : Int := if j = 0 then 1000 else xs.getD (j - 1) 0
/-- The first k are places of parts. -/
def Parts (xs : List Int) (k : Nat) : Prop := ∀ j, j < k → 1 ≤ xs.getD j 0 ∧ xs.getD j 0 ≤ bef xs j
theorem parts_zero (xs : List Int) : Parts xs 0 := fun j h => by omega
theorem parts_succ {xs : List Int} {k : Nat} (h : Parts xs k) (h1 : 1 ≤ xs.getD k 0) (h2 : xs.getD k 0 ≤ bef xs k) : Parts xs (k + 1) := fun j hj => by
  by_cases e : j = k
  · subst e; exact ⟨h1, h2⟩
  · exact h j (by omega)
theorem bef_le {xs : List Int} {k : Nat} (h : Parts xs k) : bef xs k ≤ 1000 := by
  induction k with
  | zero => simp [bef]
  | succ k ih =>
    have h1 := (h k (by omega)).2
    have h2 := ih (fun j hj => h j (by omega))
    have e : bef xs (k + 1) = xs.getD k 0 := by simp [bef]
    omega

theorem spec_AreParts_no (s : Int) (A : Option Addr) (n c : Nat) (w : World) (h : (s < 3 ∨ 24 < s) ∨ 100 < n) (hm : n ≤ 1048576) :
    Calls Try.prog 18 #[.int .i64 s, .slice A n c] w fun e w' => e = .returned (.tuple #[.bool false, .bool false]) ∧ Below w.heap.size w w' := by
  by_cases hs : s < 3 ∨ 24 < s
  · have H := Lib.hid hs
    clear h hs
    go_enter Try.func18, Try.ntmps18
    go_wp2_with (go_at_call 45; refine (shSides_no _ _ H.out).mono ?_; rintro e w' ⟨rfl, rfl⟩)
    go_ret2
    exact ⟨rfl, Below.refl _ _⟩
  · have h1 : 3 ≤ s := by omega
    have h2 : s ≤ 24 := by omega
    have h3 : 100 < (n : Int) := by omega
    clear h hs
    go_enter Try.func18, Try.ntmps18
    go_wp2_with (go_at_call 45; refine (shSides_yes _ _ h1 h2).mono ?_; rintro e w' ⟨rfl, rfl⟩)
    go_ret2
    exact ⟨rfl, Below.refl _ _⟩
theorem impl_AreParts_no (s : Int) (A : Option Addr) (n c : Nat) (w : World) (h : (s < 3 ∨ 24 < s) ∨ 100 < n) (hm : n ≤ 1048576) :
    Calls Try.prog 20 #[.int .i64 s, .slice A n c] w fun e w' => e = .returned (.tuple #[.bool false, .bool false]) ∧ Below w.heap.size w w' := by
  by_cases hs : s < 3 ∨ 24 < s
  · have H := Lib.hid hs
    clear h hs
    go_enter Try.func20, Try.ntmps20
    go_wp2_with (go_at_call 47; refine (areSides_no _ _ H.out).mono ?_; rintro e w' ⟨rfl, rfl⟩)
    go_ret2
    exact ⟨rfl, Below.refl _ _⟩
  · have h1 : 3 ≤ s := by omega
    have h2 : s ≤ 24 := by omega
    have h3 : 100 < (n : Int) := by omega
    clear h hs
    go_enter Try.func20, Try.ntmps20
    go_wp2_with (go_at_call 47; refine (areSides_yes _ _ h1 h2).mono ?_; rintro e w' ⟨rfl, rfl⟩)
    go_ret2
    exact ⟨rfl, Below.refl _ _⟩

theorem Rd.get {w : World} {hi : Nat} {A : Option Addr} {xs : List Int} {k : Nat} (h : Rd w hi A (i64s xs)) (hk : k < xs.length) : ∃ ad : Addr, A = some ad ∧ ad.block < hi ∧ w.cell? (ad.add k) = some (.int .i64 (xs.getD k 0)) := by
  obtain ⟨ad, e, h1, h2⟩ := h.at_ (k := k) (by simpa using hk)
  refine ⟨ad, e, h1, ?_⟩
  rw [h2]
  simp [List.getD_eq_getElem?_getD, List.getElem?_eq_getElem hk]

set_option maxHeartbeats 800000 in
theorem spec_AreParts_yes (s : Int) (A : Option Addr) (n c : Nat) (xs : List Int) (r : Bool) (hi : Nat) (w : World) (h1 : 3 ≤ s) (h2 : s ≤ 24) (hn : xs.length = n) (hm : n ≤ 100) (hr : r = true ↔ Parts xs n) (ha : Rd w hi A (i64s xs)) :
    Calls Try.prog 18 #[.int .i64 s, .slice A n c] w fun e w' => e = .returned (.tuple #[.bool r, .bool true]) ∧ Below w.heap.size w w' := by
  have HA := Lib.hid ha
  have HN := Lib.hid hn
  have HR := Lib.hid hr
  clear ha hn hr
  go_enter Try.func18, Try.ntmps18
  go_wp2_with (go_at_call 45; refine (shSides_yes _ _ h1 h2).mono ?_; rintro e w' ⟨rfl, rfl⟩)
  go_loopw [18] (fun i wr => ∃ k : Nat, k ≤ n ∧ i = .int .i64 k ∧ Hid (Parts xs k) ∧ ∃ q, wr = w.drewN q) (fun i _ => n - (intOf i).toNat)
  case atStart => exact ⟨0, Nat.zero_le _, rfl, Lib.hid (parts_zero xs), 0, rfl⟩
  case round =>
    obtain ⟨k, hk, rfl, HP, q, rfl⟩ := hrel
    by_cases hlt : k < n
    · obtain ⟨ad, rfl, _, hcx⟩ := HA.out.get (k := k) (by rw [HN.out]; exact hlt)
      have hbl := bef_le HP.out
      obtain ⟨x, hx⟩ : ∃ x, x = xs.getD k 0 := ⟨_, rfl⟩
      rw [← hx] at hcx
      have HX := Lib.hid hx
      have hi : (k : Int) < (n : Int) := by omega
      clear hx
      by_cases hin : x < 1 ∨ 1000 < x
      · have H := Lib.hid hin
        have hF : r = false := by
          cases r with
          | false => rfl
          | true =>
            have := (HR.out.1 rfl) k hlt
            rw [← HX.out] at this
            omega
        subst hF
        clear hin hbl
        go_wp2_with (go_at_call 46; refine (in_no _ _ _ _ H.out).mono ?_; rintro e w' ⟨rfl, rfl⟩)
        first | (rw [Exit.noGoto_ret]; go_ret2) | go_ret2
        exact ⟨rfl, below_drewN (Below.refl _ _) _⟩
      · have hx1 : 1 ≤ x := by omega
        have hx2 : x ≤ 1000 := by omega
        clear hin
        by_cases hk0 : k = 0
        · subst hk0
          have HP2 := Lib.hid (parts_succ HP.out (by rw [← HX.out]; exact hx1) (by rw [← HX.out]; simpa [bef] using hx2))
          rw [show ad.add 0 = ad from rfl] at hcx
          clear hbl HP
          go_wp2_with (go_at_call 46; refine (in_yes _ _ _ _ hx1 hx2).mono ?_; rintro e w' ⟨rfl, rfl⟩)
          go_roundw
          case rel => exact ⟨0 + 1, by omega, by go_num, HP2, q, rfl⟩
          case measure => simp [intOf]; omega
        · obtain ⟨ad', had', _, hcy⟩ := HA.out.get (k := k - 1) (by rw [HN.out]; omega)
          injection had' with had'
          subst had'
          have e1 : bef xs k = xs.getD (k - 1) 0 := by simp [bef, hk0]
          obtain ⟨y, hy⟩ : ∃ y, y = xs.getD (k - 1) 0 := ⟨_, rfl⟩
          rw [← hy] at hcy e1
          have hkp : 0 < (k : Int) := by omega
          have hkt : ((k : Int) - 1).toNat = k - 1 := by omega
          have hkn : 0 ≤ (k : Int) - 1 := by omega
          have hkm : (k : Int) - 1 < (n : Int) := by omega
          by_cases hyx : y < x
          · have hF : r = false := by
              cases r with
              | false => rfl
              | true =>
                have := (HR.out.1 rfl) k hlt
                rw [← HX.out, e1] at this
                omega
            subst hF
            clear hbl e1 hy hk0
            go_wp2_with (go_at_call 46; refine (in_yes _ _ _ _ hx1 hx2).mono ?_; rintro e w' ⟨rfl, rfl⟩)
            first | (rw [Exit.noGoto_ret]; go_ret2) | go_ret2
            exact ⟨rfl, below_drewN (Below.refl _ _) _⟩
          · have HP2 := Lib.hid (parts_succ HP.out (by rw [← HX.out]; exact hx1) (by rw [← HX.out, e1]; omega))
            clear hbl HP e1 hy hk0
            go_wp2_with (go_at_call 46; refine (in_yes _ _ _ _ hx1 hx2).mono ?_; rintro e w' ⟨rfl, rfl⟩)
            go_roundw
            case rel => exact ⟨k + 1, by omega, by go_num, HP2, q, rfl⟩
            case measure => simp [intOf]; omega
    · obtain rfl : k = n := by omega
      have hT : r = true := HR.out.2 HP.out
      subst hT
      go_wp2
      go_ret2
      exact ⟨rfl, below_drewN (Below.refl _ _) _⟩

set_option maxHeartbeats 800000 in
theorem impl_AreParts_yes (s : Int) (A : Option Addr) (n c : Nat) (xs : List Int) (r : Bool) (hi : Nat) (w : World) (h1 : 3 ≤ s) (h2 : s ≤ 24) (hn : xs.length = n) (hm : n ≤ 100) (hr : r = true ↔ Parts xs n) (ha : Rd w hi A (i64s xs)) :
    Calls Try.prog 20 #[.int .i64 s, .slice A n c] w fun e w' => e = .returned (.tuple #[.bool r, .bool true]) ∧ Below w.heap.size w w' := by
  have HA := Lib.hid ha
  have HN := Lib.hid hn
  have HR := Lib.hid hr
  clear ha hn hr
  go_enter Try.func20, Try.ntmps20
  go_wp2_with (go_at_call 47; refine (areSides_yes _ _ h1 h2).mono ?_; rintro e w' ⟨rfl, rfl⟩)
  go_loopw [6, 19] (fun b i wr => ∃ k : Nat, k ≤ n ∧ i = .int .i64 k ∧ b = .int .i64 (bef xs k) ∧ Hid (Parts xs k) ∧ ∃ q, wr = w.drewN q) (fun _ i _ => n - (intOf i).toNat)
  case atStart => exact ⟨0, Nat.zero_le _, rfl, rfl, Lib.hid (parts_zero xs), 0, rfl⟩
  case round =>
    obtain ⟨k, hk, rfl, rfl, HP, q, rfl⟩ := hrel
    by_cases hlt : k < n
    · obtain ⟨ad, rfl, _, hcx⟩ := HA.out.get (k := k) (by rw [HN.out]; exact hlt)
      have hbl := bef_le HP.out
      have e1 : bef xs (k + 1) = xs.getD k 0 := by simp [bef]
      obtain ⟨x, hx⟩ : ∃ x, x = xs.getD k 0 := ⟨_, rfl⟩
      rw [← hx] at hcx e1
      have HX := Lib.hid hx
      have HE := Lib.hid e1
      have hi : (k : Int) < (n : Int) := by omega
      clear hx e1
      obtain ⟨b, hb⟩ : ∃ b, b = bef xs k := ⟨_, rfl⟩
      have HB := Lib.hid hb
      rw [← hb] at hbl ⊢
      clear hb
      by_cases hin : x < 1 ∨ b < x
      · have H := Lib.hid hin
        have hF : r = false := by
          cases r with
          | false => rfl
          | true =>
            have := (HR.out.1 rfl) k hlt
            rw [← HX.out, ← HB.out] at this
            omega
        subst hF
        clear hin hbl
        go_wp2_with (go_at_call 48; refine (within_no _ _ _ _ H.out).mono ?_; rintro e w' ⟨rfl, rfl⟩)
        first | (rw [Exit.noGoto_ret]; go_ret2) | go_ret2
        exact ⟨rfl, below_drewN (Below.refl _ _) _⟩
      · have hx1 : 1 ≤ x := by omega
        have hx2 : x ≤ b := by omega
        clear hin
        have HP2 := Lib.hid (parts_succ HP.out (by rw [← HX.out]; exact hx1) (by rw [← HX.out, ← HB.out]; exact hx2))
        clear hbl HP
        go_wp2_with (go_at_call 48; refine (within_yes _ _ _ _ hx1 hx2).mono ?_; rintro e w' ⟨rfl, rfl⟩)
        go_roundw
        case rel => exact ⟨k + 1, by omega, by go_num, by rw [HE.out], HP2, q, rfl⟩
        case measure => simp [intOf]; omega
    · obtain rfl : k = n := by omega
      have hT : r = true := HR.out.2 HP.out
      subst hT
      go_wp2
      go_ret2
      exact ⟨rfl, below_drewN (Below.refl _ _) _⟩

set_option maxHeartbeats 800000 in
theorem law_AreParts (s : Int) (A : Option Addr) (n c : Nat) (xs : List Int) (r0 r1 : Bool) (w : World) (hn : xs.length = n) (hm : n ≤ 1048576) (ha : Rd w w.heap.size A (i64s xs))
    (hs : ∀ (B : Option Addr) (d hi : Nat) (w : World), Rd w hi B (i64s xs) → Calls Try.prog 18 #[.int .i64 s, .slice B n d] w fun e w' => e = .returned (.tuple #[.bool r0, .bool r1]) ∧ Below w.heap.size w w')
    (hi : ∀ (B : Option Addr) (d hi : Nat) (w : World), Rd w hi B (i64s xs) → Calls Try.prog 20 #[.int .i64 s, .slice B n d] w fun e w' => e = .returned (.tuple #[.bool r0, .bool r1]) ∧ Below w.heap.size w w') :
    Calls Try.prog 4 #[.int .i64 s, .slice A n c] w fun e w' => e = .returned (.bool true) ∧ Below w.heap.size w w' := by
  have HS := Lib.hid hs
  have HI := Lib.hid hi
  have HA := Lib.hid ha
  have HN := Lib.hid hn
  clear hs hi ha hn
  have hmi : (n : Int) ≤ 1048576 := by omega
  go_enter Try.func4, Try.ntmps4
  go_wp2_with fail
  refine (toIntS_any A n c xs _ HN.out hm HA.out).mono ?_
  rintro e w1 ⟨⟨B1, d1, rfl, o1⟩, b1⟩
  go_wp2_with fail
  refine (HS.out B1 d1 w1.heap.size w1 o1.rd).mono ?_
  rintro e w2 ⟨rfl, b2⟩
  have b02 : Below w.heap.size w w2 := b1.trans (b2.mono b1.size)
  clear o1
  go_wp2_with fail
  refine (toIntS_any A n c xs _ HN.out hm (fun h => by obtain ⟨ad, e1, e2, e3⟩ := (HA.out.below b02 (Nat.le_refl _)) h; exact ⟨ad, e1, Nat.lt_of_lt_of_le e2 b02.size, e3⟩)).mono ?_
  rintro e w3 ⟨⟨B3, d3, rfl, o3⟩, b3⟩
  have b03 : Below w.heap.size w w3 := b02.trans (b3.mono b02.size)
  go_wp2_with fail
  refine (HI.out B3 d3 w3.heap.size w3 o3.rd).mono ?_
  rintro e w4 ⟨rfl, b4⟩
  have o4 := o3.below b4 (Nat.le_refl _)
  have b04 : Below w.heap.size w w4 := b03.trans (b4.mono b03.size)
  clear o3 b1 b2 b02 b3 b03
  go_wp2_with fail
  refine (toIntS_any A n c xs _ HN.out hm (fun h => by obtain ⟨ad, e1, e2, e3⟩ := (HA.out.below b04 (Nat.le_refl _)) h; exact ⟨ad, e1, Nat.lt_of_lt_of_le e2 b04.size, e3⟩)).mono ?_
  rintro e w5 ⟨⟨B5, d5, rfl, o5⟩, b5⟩
  have o45 := o4.below b5 b4.size
  have b05 : Below w.heap.size w w5 := b04.trans (b5.mono b04.size)
  clear o4 b04 b5
  go_wp2_with fail
  refine (eqIntS_same B3 B5 n d3 d5 _ _ _ _ xs _ HN.out (by omega) o45 o5).mono ?_
  rintro e w6 ⟨rfl, q6, rfl⟩
  go_wp2
  go_ret
  exact ⟨rfl, below_drewN b05 _⟩
theorem walk_AreParts (s : Int) (A : Option Addr) (n c : Nat) (xs : List Int) (w : World) (hn : xs.length = n) (hl : n ≤ 9223372036854775807) (ha : Rd w w.heap.size A (i64s xs)) :
    Calls Try.prog 4 #[.int .i64 s, .slice A n c] w fun e w' => e = .returned (.bool true) ∧ Below w.heap.size w w' := by
  by_cases hm : n ≤ 1048576
  · by_cases h : (s < 3 ∨ 24 < s) ∨ 100 < n
    · exact law_AreParts s A n c xs false false w hn hm ha (fun B d _ w _ => spec_AreParts_no s B n d w h hm) (fun B d _ w _ => impl_AreParts_no s B n d w h hm)
    · obtain ⟨r, hr⟩ : ∃ r : Bool, r = true ↔ Parts xs n := by
        by_cases h : Parts xs n
        · exact ⟨true, by simp [h]⟩
        · exact ⟨false, by simp [h]⟩
      exact law_AreParts s A n c xs r true w hn hm ha (fun B d hi w h2 => spec_AreParts_yes s B n d xs r hi w (by omega) (by omega) hn (by omega) hr h2) (fun B d hi w h2 => impl_AreParts_yes s B n d xs r hi w (by omega) (by omega) hn (by omega) hr h2)
  · have hm2 : 1048576 < (n : Int) := by omega
    clear ha hn hm
    go_enter Try.func4, Try.ntmps4
    go_wp2
    go_ret
    exact ⟨rfl, Below.refl _ _⟩
end Go.Proofs.Ytlcmlfodhjmdiaa
