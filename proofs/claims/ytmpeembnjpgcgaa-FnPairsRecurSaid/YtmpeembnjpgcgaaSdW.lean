/- Chapter 4: the recurrences of a list, going on by one: the program's sides, the laws RecurrenceOf, GoOnBy. -/
import Derived.Test.YtmpeembnjpgcgaaSdV
namespace Go.Proofs.Ytmpeembnjpgcgaa
open Go.ChangeShapes Go.WideShapes Go.ChangeAt Go.RowKit

theorem infoRec : (Try.prog.info? 52).map (fun i => (i.zero, i.size, i.bytes)) = some (some (.agg #[.int .i64 0, .int .i64 0]), 2, 16) := by kernel_rfl
def rpr (xs : List (Int × Int)) : List Value := xs.flatMap fun x => [.int .i64 x.1, .int .i64 x.2]
theorem rpr_app (xs : List (Int × Int)) (a b : Int) : rpr xs ++ [.int .i64 a, .int .i64 b] = rpr (xs ++ [(a, b)]) := by simp [rpr]
/-- The rules that a list keeps, among the first k factors. -/
def recL (xs : List Int) : Nat → List (Int × Int)
  | 0 => []
  | k + 1 => if hitF xs (-1000 + (k : Int)) then recL xs k ++ [(-1000 + (k : Int), cOf xs (-1000 + (k : Int)))] else recL xs k
theorem recL_len (xs : List Int) (k : Nat) : ((recL xs k).length : Int) = (recT xs k).2.2 ∧ (recL xs k).length ≤ k := by
  induction k with
  | zero => simp [recL, recT]
  | succ k ih =>
    rw [recL, recT]
    split
    · simp only [List.length_append, List.length_cons, List.length_nil]
      omega
    · omega
theorem recL_one (xs : List Int) (k : Nat) (p : Int × Int) (h : recL xs k = [p]) : p = ((recT xs k).1, (recT xs k).2.1) := by
  induction k with
  | zero => simp [recL] at h
  | succ k ih =>
    rw [recL] at h
    rw [recT]
    split at h
    · rename_i hh
      rw [if_pos hh]
      cases hr : recL xs k with
      | nil => rw [hr] at h; simpa using h.symm
      | cons q qs => rw [hr] at h; simp at h
    · rename_i hh
      rw [if_neg hh]
      exact ih h
set_option maxHeartbeats 3200000 in
theorem recsOf_any (ad : Addr) (n cap hB : Nat) (xs : List Int) (w : World) (hn : xs.length = n) (hm1 : 4 ≤ n) (hm2 : n ≤ 20) (ha : Rd w hB (some ad) (i64s xs)) (hh : hB ≤ w.heap.size) (hX : ∀ i, -1000000000000000 ≤ xs.getD i 0 ∧ xs.getD i 0 ≤ 1000000000000000) :
    Calls Try.prog 39 #[.slice (some ad) n cap] w fun e w' => (∃ B d, e = .returned (.slice B (recL xs 2001).length d) ∧ Own w' w.heap.size w'.heap.size B (rpr (recL xs 2001))) ∧ Below w.heap.size w w' := by
  obtain ⟨i0, hi0, hz0, hz1, hz2⟩ := info_parts infoRec
  have HA := Lib.hid ha
  have HX := Lib.hid hX
  have HN := Lib.hid hn
  have HC : ∀ W : World, Hid (Below w.heap.size w W → ∀ j, j < n → W.cell? (ad.add j) = some (.int .i64 (xs.getD j 0))) := fun W => Lib.hid fun hb j hj => by
    obtain ⟨ad', h1, h2, h3⟩ := (ha.below hb hh).get (k := j) (by omega)
    cases h1
    exact h3
  have hadb : ad.block < w.heap.size := by
    obtain ⟨ad', h1, h2, h3⟩ := ha.get (k := 0) (by omega)
    cases h1
    omega
  have HLn := Lib.hid (recL_len xs)
  clear hX ha hn
  have n1 : (2 : Int) < (n : Int) := by omega
  have n2 : (1 : Int) < (n : Int) := by omega
  have n3 : (0 : Int) < (n : Int) := by omega
  go_enter Try.func39, Try.ntmps39
  go_wp2
  go_loopw [3, 4] (fun v fi wr => ∃ k : Nat, k ≤ 2001 ∧ fi = .int .i64 (-1000 + (k : Int)) ∧ Hid (wr.ownsRow w.heap.size 52 2 v (recL xs k).length (rpr (recL xs k))) ∧ Hid (Below w.heap.size w wr)) (fun _ fi _ => (1001 - intOf fi).toNat)
  case atStart => exact ⟨0, by omega, by simp, Lib.hid (World.ownsRow_nil _ _ _ _), Lib.hid (Below.refl _ _)⟩
  case round =>
    obtain ⟨k, hk, rfl, hown, hb⟩ := hrel
    by_cases hlt : k < 2001
    · obtain ⟨f, hf⟩ : ∃ f, f = -1000 + (k : Int) := ⟨_, rfl⟩
      have hre : recL xs (k + 1) = if hitF xs f then recL xs k ++ [(f, cOf xs f)] else recL xs k := by rw [hf]; rfl
      have hlen := (HLn.out k).2
      have hf1 : -1000 ≤ f := by omega
      have hf2 : f ≤ 1000 := by omega
      have hfk : k = (f + 1000).toNat := by omega
      rw [← hf]
      have HK := Lib.hid hfk
      have HK2 := Lib.hid hf
      clear hf hfk
      have hsz := hb.out.size
      have hadw : ad.block < wr.heap.size := by omega
      have c0 : wr.cell? ad = some (.int .i64 (xs.getD 0 0)) := (HC wr).out hb.out 0 (by omega)
      have c1 : wr.cell? ⟨ad.block, ad.off + 1, none⟩ = some (.int .i64 (xs.getD 1 0)) := (HC wr).out hb.out 1 (by omega)
      have c2 : wr.cell? ⟨ad.block, ad.off + 2, none⟩ = some (.int .i64 (xs.getD 2 0)) := (HC wr).out hb.out 2 (by omega)
      have c0' : (wr.alloc (.cells #[.int .i64 0, .int .i64 0] 52)).cell? ad = some (.int .i64 (xs.getD 0 0)) := (((Below.refl wr.heap.size wr).alloc (Nat.le_refl _) _).cell hadw).trans c0
      obtain ⟨y0, y1⟩ := HX.out 0
      obtain ⟨y2, y3⟩ := HX.out 1
      obtain ⟨y4, y5⟩ := HX.out 2
      have hcc : cOf xs f = xs.getD 2 0 - f * xs.getD 1 0 + xs.getD 0 0 := rfl
      obtain ⟨C, hC⟩ : ∃ C, C = cOf xs f := ⟨_, rfl⟩
      rw [← hC] at hcc hre
      have HCC := Lib.hid hC
      have HRE := Lib.hid hre
      clear hC hre
      generalize xs.getD 0 0 = x0 at *
      generalize xs.getD 1 0 = x1 at *
      generalize xs.getD 2 0 = x2 at *
      obtain ⟨p1, p2⟩ := mil_le f x1 1000000000000000 hf1 hf2 y2 y3
      have q1 : IntKind.i64.wrap (f * x1) = f * x1 := IntWalk.i64_in _ (by omega)
      have q2 : IntKind.i64.wrap (x2 - f * x1) = x2 - f * x1 := IntWalk.i64_in _ (by omega)
      have q3 : IntKind.i64.wrap (x2 - f * x1 + x0) = C := by rw [IntWalk.i64_in _ (by omega), hcc]
      clear hcc p1 p2
      go_wp2_with fail
      go_region
      have hb1 : Below w.heap.size w ((wr.alloc (.cells #[.int .i64 f, .int .i64 C] 52)).drew) := (hb.out.alloc hb.out.size _).drew
      have z1 : wr.heap.size < ((wr.alloc (.cells #[.int .i64 f, .int .i64 C] 52)).drew).heap.size := by simp
      have k0 : ((wr.alloc (.cells #[.int .i64 f, .int .i64 C] 52)).drew).cell? ⟨wr.heap.size, 0, none⟩ = some (.int .i64 f) := by simp [go_sem]
      have k1 : ((wr.alloc (.cells #[.int .i64 f, .int .i64 C] 52)).drew).cell? ⟨wr.heap.size, 1, none⟩ = some (.int .i64 C) := by simp [go_sem]
      have ho1 := Lib.hid (row_below hown.out ((Below.refl wr.heap.size wr).alloc (Nat.le_refl _) (.cells #[.int .i64 f, .int .i64 C] 52)).drew (Nat.le_refl _))
      obtain ⟨Q, hQ⟩ : ∃ Q, Q = wr.heap.size := ⟨_, rfl⟩
      generalize (wr.alloc (.cells #[.int .i64 f, .int .i64 C] 52)).drew = w1 at *
      rw [← hQ] at k0 k1 z1 ⊢
      have HB1 := Lib.hid hb1
      clear c0 c1 c2 c0' q1 q2 q3 hb hown hb1 hQ hsz hadw y0 y1 y2 y3 y4 y5 n1 n2 n3
      by_cases hin : C < -1000 ∨ 1000 < C
      · have HBW := Lib.hid (betw_no hin)
        have hh : hitF xs f = false := by rw [hitF, ← HCC.out, betw_no hin, Bool.false_and]
        have HE : Hid (recL xs (k + 1) = recL xs k) := Lib.hid (by rw [HRE.out, if_neg (by rw [hh]; simp)])
        have HO1 : Hid (w1.ownsRow w.heap.size 52 2 u3 (recL xs (k + 1)).length (rpr (recL xs (k + 1)))) := Lib.hid (by rw [HE.out]; exact ho1.out)
        clear hh hin
        go_wp2_with (go_at_call 38; refine (ofSize_any C 1000 _ (by omega) (by omega)).mono ?_; rw [HBW.out]; rintro e w' ⟨rfl, rfl⟩)
        go_roundw
        case rel => exact ⟨k + 1, by omega, by have := HK2.out; congr 1; omega, HO1, HB1⟩
        case measure => simp [intOf]; omega
      · have g1 : -1000 ≤ C := by omega
        have g2 : C ≤ 1000 := by omega
        have HBW := Lib.hid (betw_yes g1 g2)
        have hht : hitF xs f = keepsTo xs f C (n - 2) := by rw [hitF, ← HCC.out, betw_yes g1 g2, Bool.true_and, HN.out]
        clear hin
        obtain ⟨kp, hkp⟩ : ∃ kp, kp = keepsTo xs f C (n - 2) := ⟨_, rfl⟩
        have HKP := Lib.hid hkp
        rw [← hkp] at hht
        clear hkp
        cases kp with
        | false =>
          have HE : Hid (recL xs (k + 1) = recL xs k) := Lib.hid (by rw [HRE.out, if_neg (by rw [hht]; simp)])
          clear hht
          go_wp2_with (first
            | (go_at_call 38; refine (ofSize_any C 1000 _ (by omega) (by omega)).mono ?_; rw [HBW.out]; rintro e w' ⟨rfl, rfl⟩)
            | (go_at_call 51; refine (keptBy_any f C ad n cap hB xs _ hf1 hf2 g1 g2 HN.out hm1 hm2 (HA.out.below HB1.out hh) (Nat.le_trans hh HB1.out.size) HX.out).mono ?_; rw [← HKP.out]; rintro e w4 ⟨rfl, hb4⟩))
          have HO1 : Hid (w4.ownsRow w.heap.size 52 2 u3 (recL xs (k + 1)).length (rpr (recL xs (k + 1)))) := Lib.hid (by rw [HE.out]; exact row_below ho1.out hb4 (Nat.le_refl _))
          have HB4 := Lib.hid (HB1.out.trans (hb4.mono HB1.out.size))
          clear hb4
          go_roundw
          case rel => exact ⟨k + 1, by omega, by have := HK2.out; congr 1; omega, HO1, HB4⟩
          case measure => simp [intOf]; omega
        | true =>
          have HE : Hid (recL xs (k + 1) = recL xs k ++ [(f, C)]) := Lib.hid (by rw [HRE.out, if_pos hht, HCC.out])
          clear hht
          go_wp2_with (first
            | (go_at_call 38; refine (ofSize_any C 1000 _ (by omega) (by omega)).mono ?_; rw [HBW.out]; rintro e w' ⟨rfl, rfl⟩)
            | (go_at_call 51; refine (keptBy_any f C ad n cap hB xs _ hf1 hf2 g1 g2 HN.out hm1 hm2 (HA.out.below HB1.out hh) (Nat.le_trans hh HB1.out.size) HX.out).mono ?_; rw [← HKP.out]; rintro e w4 ⟨rfl, hb4⟩; have e0 := (hb4.cell (p := ⟨Q, 0, none⟩) z1).trans k0; have e1 := (hb4.cell (p := ⟨Q, 1, none⟩) z1).trans k1; have HO4 := Lib.hid (row_below ho1.out hb4 (Nat.le_refl _)); have HB4 := Lib.hid (HB1.out.trans (hb4.mono HB1.out.size)); clear hb4 k0 k1)
            | (at_builtin; refine wpList_append_own _ rfl _ _ 49 rfl w.heap.size 52 i0 (.agg #[.int .i64 0, .int .i64 0]) 2 16 Try.underlying49 hi0 hz0 hz1 hz2 rfl (by decide) _ _ _ rfl (HO4.out.alloc _) ⟨w4.heap.size, 0, none⟩ 1 1 [.int .i64 f, .int .i64 C] rfl rfl ?c1 ?c2 ?c3 ?c4 ?c5 ?_))
          case c1 =>
            intro j u hj
            match j, hj with
            | 0, hj => simp at hj; subst hj; simp [Addr.add]
            | 1, hj => simp at hj; subst hj; simp [Addr.add]
          case c2 => intro u hu; simp at hu; rcases hu with rfl | rfl <;> rfl
          case c3 => unfold maxLen; omega
          case c4 => omega
          case c5 => have := HB4.out.size; simp; omega
          · intro v' w5 hown' hgrow _
            rw [rpr_app, ← HE.out] at hown'
            have e6 : (recL xs k).length + 1 = (recL xs (k + 1)).length := by rw [HE.out]; simp
            rw [e6] at hown'
            have hb5 : Below w.heap.size w w5 := (HB4.out.alloc HB4.out.size _).grown hgrow (by have := HB4.out.size; simp; omega) fun g hg => (HO4.out.lt g hg).1
            have HO := Lib.hid hown'
            have HB5 := Lib.hid hb5
            clear hown' hgrow hb5 e6
            go_wp2
            go_roundw
            case rel => exact ⟨k + 1, by omega, by have := HK2.out; congr 1; omega, HO, HB5⟩
            case measure => simp [intOf]; omega
    · obtain rfl : k = 2001 := by omega
      obtain ⟨B, d, rfl⟩ := row_form hown.out
      go_wp2
      go_ret
      exact ⟨⟨B, d, rfl, own_of_row hown.out⟩, hb.out⟩
end Go.Proofs.Ytmpeembnjpgcgaa
