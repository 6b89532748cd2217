/- Chapter 8, the program: sums from a first number. -/
import Derived.Test.YtmjgjdebcmbjeaaTcF
namespace Go.Proofs.Ytmjgjdebcmbjeaa
open Go.RowKit

/-- A first number, and behind it each sum. -/
def sms8 (a : Int) : List Int → List Int
  | [] => [a]
  | x :: l => a :: sms8 (a + x) l
theorem sms8_len : ∀ (l : List Int) (a : Int), (sms8 a l).length = l.length + 1
  | [], _ => rfl
  | x :: l, a => by rw [sms8, List.length_cons, sms8_len l]; rfl
theorem sms8_snoc : ∀ (l : List Int) (a x : Int), sms8 a (l ++ [x]) = sms8 a l ++ [(sms8 a l).getD l.length 0 + x]
  | [], a, x => rfl
  | y :: l, a, x => by
    show a :: sms8 (a + y) (l ++ [x]) = _
    rw [sms8_snoc l (a + y) x]
    show _ = a :: (sms8 (a + y) l ++ [(a :: sms8 (a + y) l).getD (l.length + 1) 0 + x])
    rw [List.getD_cons_succ]
set_option maxRecDepth 8000 in
set_option maxHeartbeats 800000 in
theorem lastOf_any (A : Option Addr) (n c lo hi : Nat) (xs : List Int) (w : World) (hn : xs.length = n + 1) (hm : n ≤ 100000) (ha : Own w lo hi A (l64s xs)) (hh : hi ≤ w.heap.size) :
    Calls Try.prog 105 #[.slice A (n + 1) c] w fun e w' => e = .returned (lng (xs.getD n 0)) ∧ Below w.heap.size w w' := by
  obtain ⟨g, o, rfl, hg1, hg2, c0, c1⟩ := ha.lng (k := n) (by omega)
  have hgw : g < w.heap.size := by omega
  obtain ⟨m, hmn⟩ : ∃ m, m = n + 1 := ⟨_, rfl⟩
  rw [← hmn]
  have e1 : IntKind.i64.wrap ((m : Int) - 1) = (n : Int) := by rw [IntWalk.i64_in _ (by omega)]; omega
  have h1 : (n : Int) < (m : Int) := by omega
  have h0 : (0 : Int) ≤ (n : Int) := by omega
  unfold lng
  generalize hi8 (xs.getD n 0) = a at *
  generalize lo8 (xs.getD n 0) = b at *
  have k := two_alloc ⟨c0, c1⟩ hgw (.cells #[.int .u64 0, .int .u64 0] 59)
  obtain ⟨k0, k1⟩ := k
  clear ha c0 c1 hn hmn
  go_enter Try.func105, Try.ntmps105
  go_wp2
  exact bodyPost_ret (v := .agg #[.int .u64 a, .int .u64 b]) (by simp [results, Try.results105, go_sem]) rfl ⟨rfl, (Below.refl _ _).alloc (Nat.le_refl _) _⟩
set_option maxRecDepth 8000 in
set_option maxHeartbeats 1600000 in
theorem sumsFrom_any (a : Int) (A : Option Addr) (n c lo hi : Nat) (xs : List Int) (w : World) (hn : xs.length = n) (hm : n ≤ 100000) (ha : Own w lo hi A (l64s xs)) (hh : hi ≤ w.heap.size) :
    Calls Try.prog 79 #[.slice A n c, lng a] w (ResR (sms8 a xs) w) := by
  have HA := Lib.hid ha
  have HN := Lib.hid hn
  have HT := Lib.hid (show ∀ k, k < n → sms8 a (xs.take (k + 1)) = sms8 a (xs.take k) ++ [(sms8 a (xs.take k)).getD k 0 + xs.getD k 0] from fun k hk => by
    have h1 : xs.take (k + 1) = xs.take k ++ [xs.getD k 0] := by
      rw [List.take_succ_eq_append_getElem (by omega)]
      simp [List.getD_eq_getElem?_getD, hn, hk]
    have h2 : (xs.take k).length = k := by rw [List.length_take]; omega
    rw [h1, sms8_snoc, h2])
  have HL := Lib.hid (show ∀ k, k ≤ n → (sms8 a (xs.take k)).length = k + 1 from fun k hk => by rw [sms8_len, List.length_take, hn]; omega)
  have H0 : Hid (l64s (sms8 a (xs.take 0)) = [.int .u64 (hi8 a), .int .u64 (lo8 a)]) := Lib.hid (by rw [List.take_zero]; rfl)
  clear ha hn
  unfold lng
  generalize hi8 a = a1 at *
  generalize lo8 a = a2 at *
  have hlit : ((w.alloc (.cells #[.int .u64 a1, .int .u64 a2] 59)).alloc (.cells #[.int .u64 a1, .int .u64 a2] 59)).ownsRow w.heap.size 59 2 (.slice (some ⟨w.heap.size + 1, 0, none⟩) 1 1) 1 [.int .u64 a1, .int .u64 a2] := by
    have := World.ownsRow_lit (base := w.heap.size) (e := 59) (size := 2) (w.alloc (.cells #[.int .u64 a1, .int .u64 a2] 59)) #[.int .u64 a1, .int .u64 a2] 1 (by simp) (by decide) rfl
    simpa using this
  have HLi := Lib.hid hlit
  clear hlit
  go_enter Try.func79, Try.ntmps79
  go_wp2
  go_loopw [5, 12] (fun v i wr => ∃ k : Nat, k ≤ n ∧ i = .int .i64 (k : Int) ∧ Hid (wr.ownsRow w.heap.size 59 2 v (k + 1) (l64s (sms8 a (xs.take k)))) ∧ Hid (Below w.heap.size w wr)) (fun _ i _ => n - (intOf i).toNat)
  case atStart => exact ⟨0, by omega, by simp, Lib.hid (by rw [H0.out]; exact HLi.out), Lib.hid (((Below.refl _ _).alloc (Nat.le_refl _) _).alloc (by simp) _)⟩
  case round =>
    obtain ⟨k, hk, rfl, hR, hbl⟩ := hrel
    by_cases hlt : k < n
    · have hki : (k : Int) < (n : Int) := by omega
      have hk0 : (0 : Int) ≤ (k : Int) := by omega
      obtain ⟨g, o, rfl, hg0, hg1, s0, s1⟩ := (HA.out.below hbl.out hh).lng (k := k) (by rw [HN.out]; omega)
      obtain ⟨A', cc', rfl⟩ := row_form hR.out
      have HK := Lib.hid (HT.out k hlt)
      have HLk := Lib.hid (HL.out k hk)
      generalize xs.getD k 0 = x at *
      generalize sms8 a (xs.take k) = ys at *
      obtain ⟨u, hu⟩ : ∃ u, u = ys.getD k 0 := ⟨_, rfl⟩
      obtain ⟨z, hz⟩ : ∃ z, z = u + x := ⟨_, rfl⟩
      have HP := Lib.hid fun W => plus_any u x W
      have HLO := Lib.hid fun W lo2 hi2 (h : Own W lo2 hi2 A' (l64s ys)) hh2 => lastOf_any A' k cc' lo2 hi2 ys W HLk.out (by omega) h hh2
      rw [← hu, ← hz] at HK
      rw [← hz] at HP
      rw [← hu] at HLO
      unfold lng at HP HLO
      generalize hi8 x = x1 at *
      generalize lo8 x = x2 at *
      generalize hi8 u = u1 at *
      generalize lo8 u = u2 at *
      clear hu hz
      have q0 : (wr.alloc (.cells #[.int .u64 x1, .int .u64 x2] 59)).cell? ⟨wr.heap.size, 0, none⟩ = some (.int .u64 x1) ∧ (wr.alloc (.cells #[.int .u64 x1, .int .u64 x2] 59)).cell? ⟨wr.heap.size, 1, none⟩ = some (.int .u64 x2) := ⟨by simp [go_sem], by simp [go_sem]⟩
      have hb1 := (Below.refl wr.heap.size wr).alloc (Nat.le_refl _) (.cells #[.int .u64 x1, .int .u64 x2] 59)
      have HR1 := Lib.hid (row_below hR.out hb1 (Nat.le_refl _))
      have HB1 := Lib.hid (hbl.out.alloc hbl.out.size (.cells #[.int .u64 x1, .int .u64 x2] 59))
      have HX : Hid (∀ j, Value.ownBlock (.slice A' (k + 1) cc') = some j → w.heap.size ≤ j ∧ j < wr.heap.size) := Lib.hid fun j hj => ⟨(hR.out.lt j hj).1, (hR.out.lt j hj).2⟩
      have hzz : wr.heap.size < (wr.alloc (.cells #[.int .u64 x1, .int .u64 x2] 59)).heap.size := by simp
      clear hb1
      go_wp2
      generalize (wr.alloc (.cells #[.int .u64 x1, .int .u64 x2] 59)) = w1 at *
      have f0 : w1.drew.cell? ⟨wr.heap.size, 0, none⟩ = some (.int .u64 x1) ∧ w1.drew.cell? ⟨wr.heap.size, 1, none⟩ = some (.int .u64 x2) := q0
      go_region_held3 (fun w' => w'.cell? ⟨wr.heap.size, 0, none⟩ = some (.int .u64 x1) ∧ w'.cell? ⟨wr.heap.size, 1, none⟩ = some (.int .u64 x2))
        (first | with_reducible exact f4 | with_reducible exact f3 | with_reducible exact f2 | with_reducible exact f1 | exact f0)
        (first
          | (go_at_call 105; refine (HLO.out _ _ _ (own_of_row HR1.out.drew) (Nat.le_refl _)).mono ?_; rintro e w2 ⟨rfl, hb2⟩; have f1 := two_below f0 hb2 hzz; have hz2 : wr.heap.size < w2.heap.size := Nat.lt_of_lt_of_le hzz hb2.size; have HR2 := Lib.hid (row_below HR1.out.drew hb2 (Nat.le_refl _)); have HB2 := Lib.hid (HB1.out.drew.trans (hb2.mono HB1.out.size)))
          | (go_at_call 106; refine (HP.out _).mono ?_; rintro e w3 ⟨rfl, hb3⟩; have f2 := two_below f1 hb3 hz2; have hz3 : wr.heap.size < w3.heap.size := Nat.lt_of_lt_of_le hz2 hb3.size; have f3 := two_alloc f2 hz3 (.cells #[.int .u64 (hi8 z), .int .u64 (lo8 z)] 59); have HR3 := Lib.hid (row_below HR2.out hb3 (Nat.le_refl _)); have HB3 := Lib.hid (HB2.out.trans (hb3.mono HB2.out.size)))
          | (refine step_app_lng (w := w3) (z := z) w.heap.size rfl _ _ rfl _ (k + 1) _ rfl HR3.out HB3.out.size rfl (by omega) ?_; intro v' wf hOf hsf hgf; have f4 := two_grown f2 hgf hz3 (fun e => absurd (HX.out _ e.symm).2 (Nat.lt_irrefl _)))
          | fail)
      have HOf := Lib.hid hOf
      rw [← HK.out] at HOf
      have HBf := Lib.hid (HB3.out.grown hgf HB3.out.size (fun j hj => (HX.out j hj).1))
      clear hOf hgf
      go_wp2
      go_roundw
      case rel => exact ⟨k + 1, by omega, by go_num, HOf, HBf⟩
      case measure => simp [intOf]; omega
    · obtain rfl : k = n := by omega
      have HLk : Hid ((sms8 a xs).length = k + 1) := Lib.hid (by rw [sms8_len, HN.out])
      obtain ⟨B, d, rfl⟩ := row_form hR.out
      have HO := Lib.hid (own_of_row hR.out)
      rw [List.take_of_length_le (by rw [HN.out]; exact Nat.le_refl _)] at HO
      go_wp2
      go_ret
      exact ⟨B, d, by rw [HLk.out]; exact row_cap hR.out, by rw [HLk.out]; rfl, HO.out, hbl.out⟩
end Go.Proofs.Ytmjgjdebcmbjeaa
