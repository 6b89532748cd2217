/- The first places: the greatest place that leaves what so many more places can make; the program's search. -/
import Derived.Test.YtlcmlfodhjmdiaaDoorCoV
import Derived.Test.YtlcmlfodhjmdiaaDoorSuI
namespace Go.Proofs.YtlcmlfodhjmdiaaDoor
open Go.ChangeShapes Go.WideShapes Go.ChangeAt Go.RowKit Go.Maps

/-- The place k leaves what c more can make. -/
def Q (s m : Int) (c : Nat) (k : Nat) : Prop := num s (k : Int) ≤ m ∧ need s (m - num s (k : Int)) ≤ c
noncomputable instance (s m : Int) (c k : Nat) : Decidable (Q s m c k) := inferInstanceAs (Decidable (_ ∧ _))
/-- The greatest such place up to K (0 where there is none). -/
noncomputable def sc (s m : Int) (c : Nat) : Nat → Nat
  | 0 => 0
  | k + 1 => if Q s m c (k + 1) then k + 1 else sc s m c k
theorem sc_le (s m : Int) (c K : Nat) : sc s m c K ≤ K := by
  induction K with
  | zero => simp [sc]
  | succ K ih => rw [sc]; split <;> omega
theorem sc_above (s m : Int) (c K : Nat) : ∀ j, sc s m c K < j → j ≤ K → ¬ Q s m c j := by
  induction K with
  | zero => intro j h1 h2; omega
  | succ K ih =>
    intro j h1 h2
    rw [sc] at h1
    split at h1
    · omega
    · rename_i h
      by_cases e : j = K + 1
      · subst e; exact h
      · exact ih j h1 (by omega)
theorem sc_Q (s m : Int) (c K k : Nat) (hk : k ≤ K) (hq : Q s m c k) : Q s m c (sc s m c K) := by
  induction K with
  | zero =>
    have : k = 0 := by omega
    subst this
    exact hq
  | succ K ih =>
    rw [sc]
    split
    · assumption
    · rename_i h
      refine ih ?_
      rcases Nat.lt_or_ge K k with h1 | h1
      · have : k = K + 1 := by omega
        subst this
        exact absurd hq h
      · exact h1
theorem sc_step (s m : Int) (c k : Nat) (h : ¬ Q s m c (k + 1)) : sc s m c (k + 1) = sc s m c k := by rw [sc, if_neg h]
theorem sc_hit (s m : Int) (c k : Nat) (h : Q s m c k) : sc s m c k = k := by
  cases k with
  | zero => rfl
  | succ k => rw [sc, if_pos h]
/-- No place beyond K will do. -/
def None (s m : Int) (c K : Nat) : Prop := ∀ j, K < j → ¬ Q s m c j
theorem none_pl (s m : Int) (c K : Nat) (hs : 3 ≤ s) (hm : 0 ≤ m) (hK : pl s m ≤ K) : None s m c K := fun j hj hq => by
  have := (fits_iff s m j hs hm (by omega)).1 hq.1
  omega
theorem sc_is (s m : Int) (c K : Nat) (hs : 3 ≤ s) (hm : 0 ≤ m) (hn : need s m ≤ c + 1) (h0 : None s m c K) : Q s m c (sc s m c K) := by
  by_cases h : need s m ≤ c
  · exact sc_Q s m c K 0 (by omega) ⟨by simpa [num_zero] using hm, by simpa [num_zero] using h⟩
  · have hmp : 0 < m := by
      rcases Int.lt_or_le 0 m with h1 | h1
      · exact h1
      · have : m = 0 := by omega
        subst this
        rw [need_zero] at h
        omega
    obtain ⟨k, hk1, hk2, hk3⟩ := need_top s m hs hmp
    obtain ⟨k', rfl⟩ := Int.eq_ofNat_of_zero_le (show 0 ≤ k by omega)
    have hq : Q s m c k' := ⟨hk2, by omega⟩
    refine sc_Q s m c K k' ?_ hq
    rcases Nat.lt_or_ge K k' with h1 | h1
    · exact absurd hq (h0 k' h1)
    · exact h1
theorem none_next (s m : Int) (c K : Nat) (hs : 3 ≤ s) (h0 : None s m (c + 1) K) : None s (m - num s (sc s m (c + 1) K : Int)) c (sc s m (c + 1) K) := by
  intro j hj hq
  have hnn := num_nn s (sc s m (c + 1) K : Int) hs
  have hq1 := hq.1
  have hq2 := hq.2
  have hQ : Q s m (c + 1) j := by
    refine ⟨by omega, ?_⟩
    rcases Nat.eq_zero_or_pos (sc s m (c + 1) K) with h | h
    · rw [h] at hq2
      simp only [show (((0 : Nat) : Int)) = 0 from rfl, num_zero, Int.sub_zero] at hq2
      omega
    · have h2 := need_put s (m - num s (j : Int)) (sc s m (c + 1) K : Int) (by omega) (by omega) hs
      rw [show m - num s (j : Int) - num s (sc s m (c + 1) K : Int) = m - num s (sc s m (c + 1) K : Int) - num s (j : Int) from by omega] at h2
      omega
  rcases Nat.lt_or_ge K j with h | h
  · exact h0 j h hQ
  · exact sc_above s m (c + 1) K j hj h hQ
/-- The first c places that are m together, none beyond K. -/
noncomputable def fp (s : Int) : Nat → Int → Nat → List Int
  | 0, _, _ => []
  | c + 1, m, K => (sc s m c K : Int) :: fp s c (m - num s (sc s m c K : Int)) (sc s m c K)
theorem fp_len (s : Int) (c : Nat) : ∀ (m : Int) (K : Nat), (fp s c m K).length = c := by
  induction c with
  | zero => intro m K; rfl
  | succ c ih => intro m K; rw [fp, List.length_cons, ih]

set_option maxHeartbeats 6400000 in
theorem firstPlaces_any (s : Int) (N C b : Nat) (w : World) (h1 : 3 ≤ s) (h2 : s ≤ 24) (hN : N ≤ 3000) (hC : C ≤ 24) (hn : need s N ≤ C)
    (hm : w.ownsMap Tryd.prog 3 (plainElem (H := Unit) Tryd.prog 3) b (N + 1) (ND s (N + 1))) :
    Calls Tryd.prog 31 #[.int .i64 s, .int .i64 N, .int .i64 C, .map (some b)] w fun e w' => (∃ A c, e = .returned (.slice A C c) ∧ Own w' w.heap.size w'.heap.size A (i64s (fp s C N (pl s N).toNat))) ∧ Below w.heap.size w w' := by
  obtain ⟨i0, hi0, hz0, hz1, hz2⟩ := info_parts infoInt
  have p0 := pl_nn s N h1 (by omega)
  have p1 := pl_77 s N h1 (by omega) (by omega)
  have HNP := Lib.hid (fun w => numbersByPlace_any s N w h1 h2 hN)
  have hK : (pl s N).toNat ≤ 77 := by omega
  have HN0 := Lib.hid (fun c => none_pl s N c (pl s N).toNat h1 (by omega) (by omega))
  have HFL := Lib.hid (fp_len s C N (pl s N).toNat)
  generalize (pl s N).toNat = K at *
  have HM := Lib.hid hm
  have hbl := hm.lt
  clear hm
  go_enter Tryd.func31, Tryd.ntmps31
  go_wp2_with (go_at_call 40; refine (HNP.out _).mono ?_; rintro e w1 ⟨⟨g, c, rfl, hr⟩, hb⟩)
  have HR := Lib.hid hr
  have HM1 := Lib.hid (HM.out.kept (row := none) (w' := w1) ⟨hb.os, hb.tape, hb.output, hb.size, fun i hi _ => hb.block i hi⟩ (by simp))
  clear hr
  have hbl1 := HM1.out.lt
  go_loopw [10, 11, 12, 13] (fun p l v mo wr => ∃ (q : Nat) (k : Nat) (m : Int) (xs : List Int), k ≤ K ∧ 0 ≤ m ∧ m ≤ N ∧ q ≤ C ∧ p = .int .i64 k ∧ l = .int .i64 m ∧ mo = .int .i64 ((q : Int) - 1) ∧ need s m ≤ q ∧ Hid (1 ≤ q → None s m (q - 1) k) ∧ Hid (xs ++ fp s q m k = fp s C N K) ∧ Hid (wr.ownsRow w1.heap.size 3 1 v xs.length (i64s xs)) ∧ Below w1.heap.size w1 wr) (fun _ _ _ mo _ => (intOf mo + 1).toNat)
  case atStart => exact ⟨C, K, N, [], Nat.le_refl _, by omega, Int.le_refl _, Nat.le_refl _, by simp, rfl, rfl, hn, Lib.hid (fun _ => HN0.out _), Lib.hid rfl, Lib.hid (World.ownsRow_nil _ _ _ _), Below.refl _ _⟩
  case round =>
    obtain ⟨q, k, m, xs, hk, hm0, hm1, hqC, rfl, rfl, rfl, hnm, hno, hx, hown, hb2⟩ := hrel
    cases q with
    | zero =>
      have hE : Hid (xs = fp s C N K) := Lib.hid (by have := hx.out; rwa [fp, List.append_nil] at this)
      have hneg : (((0 : Nat) : Int)) - 1 = -1 := by omega
      rw [hneg]
      obtain ⟨A, c, rfl⟩ := row_form hown.out
      clear hx hneg
      go_wp2
      go_ret
      have hl : xs.length = C := by rw [hE.out, HFL.out]
      have ho := own_of_row hown.out
      rw [← hE.out]
      refine ⟨⟨A, c, ?_, ho.wide hb.size (Nat.le_refl _)⟩, hb.trans (hb2.mono hb.size)⟩
      rw [← hl]
      rfl
    | succ q =>
      have hqI : (((q + 1 : Nat) : Int)) - 1 = (q : Int) := by omega
      have hq0 : (0 : Int) ≤ (q : Int) := by omega
      rw [hqI]
      have hno2 : None s m q k := by have := hno.out (by omega); simpa using this
      have hQs := sc_is s m q k h1 hm0 hnm hno2
      have HQS := Lib.hid hQs
      have hsl := sc_le s m q k
      have hxl : xs.length ≤ 24 := by
        have h5 := HFL.out
        rw [← hx.out, List.length_append] at h5
        omega
      have HNX : Hid (1 ≤ q → None s (m - num s (sc s m q k : Int)) (q - 1) (sc s m q k)) := Lib.hid (fun hr => by
        obtain ⟨r, rfl⟩ : ∃ r, q = r + 1 := ⟨q - 1, by omega⟩
        simpa using none_next s m r k h1 hno2)
      obtain ⟨t, ht⟩ : ∃ t, t = sc s m q k := ⟨_, rfl⟩
      rw [← ht] at HNX HQS
      have HT := Lib.hid ht
      have HFP : Hid (fp s (q + 1) m k = (t : Int) :: fp s q (m - num s (t : Int)) t) := Lib.hid (by rw [fp, ← ht])
      rw [← ht] at hsl
      clear hno hno2 hQs hqI ht
      go_wp2
      go_loopw [10] (fun p wr2 => ∃ k2 : Nat, p = .int .i64 k2 ∧ k2 ≤ k ∧ t ≤ k2 ∧ Hid (sc s m q k2 = t) ∧ Hid (wr2.ownsRow w1.heap.size 3 1 u12 xs.length (i64s xs)) ∧ Below w1.heap.size w1 wr2) (fun p _ => (intOf p).toNat)
      case atStart => exact ⟨k, rfl, Nat.le_refl _, by omega, Lib.hid HT.out.symm, hown, hb2⟩
      case round =>
        clear hown hb2
        obtain ⟨k2, rfl, hk2, htk, hsc, hown, hb2⟩ := hrel
        have hnn := num_nn s (k2 : Int) h1
        have hcn := (HR.out.below hb2 (Nat.le_refl _)).cell (j := k2) (by omega)
        have HMr := Lib.hid (HM1.out.kept (row := none) (w' := wr) ⟨hb2.os, hb2.tape, hb2.output, hb2.size, fun i hi _ => hb2.block i hi⟩ (by simp))
        have hkI : (k2 : Int) < (K : Int) + 1 := by omega
        have hkI0 : (0 : Int) ≤ (k2 : Int) := by omega
        by_cases hq : Q s m q k2
        · have htk2 : t = k2 := by rw [← hsc.out, sc_hit s m q k2 hq]
          have hq1 := hq.1
          have hq2 := hq.2
          have hns := num_small s (k2 : Int) h1 h2 (by omega) (by omega)
          obtain ⟨r, hr⟩ := Int.eq_ofNat_of_zero_le (show 0 ≤ m - num s (k2 : Int) by omega)
          obtain ⟨cc, hrun, hat, _⟩ := HMr.out.lookup_int keyI Tryd.underlying36 Tryd.underlying3 (zeroI wr) (keyOf_int_mk Tryd.underlying3 (wf64 (r : Int) (by omega) (by omega)))
          obtain rfl := look_need s (N + 1) r (by omega) hat
          rw [hr] at hq2
          have hq2I : (need s r : Int) ≤ (q : Int) := by omega
          have HX2 : Hid ((xs ++ [(t : Int)]) ++ fp s q r t = fp s C N K) := Lib.hid (by rw [← hx.out, HFP.out, htk2, ← hr]; simp)
          have HN2 : Hid (1 ≤ q → None s (r : Int) (q - 1) t) := Lib.hid (fun h => by rw [← hr, ← htk2]; exact HNX.out h)
          have hrm : (r : Int) ≤ m := by omega
          have HNR := Lib.hid hq2
          obtain ⟨x, hxe⟩ : ∃ x, x = num s (k2 : Int) := ⟨_, rfl⟩
          rw [← hxe] at hcn hq1 hr hns hnn
          subst htk2
          clear hq hq2 hat hxe hsc
          generalize (need s r : Int) = nr at *
          go_wp2_with (at_builtin; refine wpList_append_own _ rfl _ _ 22 rfl w1.heap.size 3 i0 (.int .i64 0) 1 8 Tryd.underlying22 hi0 hz0 hz1 hz2 rfl (by decide) _ _ _ rfl (hown.out.alloc _) ⟨wr.heap.size, 0, none⟩ 1 1 [.int .i64 (t : Int)] rfl rfl ?c1 ?c2 ?c3 ?c4 ?c5 ?_)
          case c1 =>
            intro j u hj
            match j, hj with
            | 0, hj => simp at hj; subst hj; simp [Addr.add]
          case c2 => intro u hu; simp at hu; subst hu; rfl
          case c3 => unfold maxLen; omega
          case c4 => omega
          case c5 => have := hb2.size; simp; omega
          · intro v' w5 hown' hgrow _
            rw [snoc_i64] at hown'
            have hb5 : Below w1.heap.size w1 w5 := (hb2.alloc hb2.size _).grown hgrow (by have := hb2.size; simp; omega) fun g hg => (hown.out.lt g hg).1
            have HO : Hid (w5.ownsRow w1.heap.size 3 1 v' (xs ++ [(t : Int)]).length (i64s (xs ++ [(t : Int)]))) := Lib.hid (by simpa using hown')
            have hcn5 := (HR.out.below hb5 (Nat.le_refl _)).cell (j := t) (by omega)
            have hcn6 : w5.cell? ⟨g, t, none⟩ = some (.int .i64 x) := by
              have e1 := (HR.out.below hb2 (Nat.le_refl _)).cell (j := t) (by omega)
              rw [hcn] at e1
              rw [hcn5, ← e1]
            clear hown' hgrow hown hb2 hcn hcn5 hrun
            go_wp2
            go_roundw
            case rel => exact ⟨q, t, r, xs ++ [(t : Int)], by omega, by omega, by omega, by omega, rfl, rfl, by go_num, HNR.out, HN2, HX2, HO, hb5⟩
            case measure => simp [intOf] <;> omega
        · cases k2 with
          | zero =>
            have : t = 0 := by omega
            subst this
            exact absurd HQS.out hq
          | succ k3 =>
            have hsc2 : Hid (sc s m q k3 = t) := Lib.hid (by rw [← sc_step s m q k3 hq]; exact hsc.out)
            have htk3 : t ≤ k3 := by
              have := sc_le s m q k3
              rw [hsc2.out] at this
              exact this
            have hcast : ((k3 + 1 : Nat) : Int) = (k3 : Int) + 1 := by omega
            by_cases hgt : m < num s ((k3 + 1 : Nat) : Int)
            · obtain ⟨x, hxe⟩ : ∃ x, x = num s ((k3 + 1 : Nat) : Int) := ⟨_, rfl⟩
              rw [← hxe] at hcn hgt
              clear hq hxe hsc hcast hnn
              go_wp2_with fail
              go_roundw
              case rel => exact ⟨k3, by go_num, by omega, htk3, hsc2, hown, hb2⟩
              case measure => simp [intOf] <;> omega
            · obtain ⟨r, hr⟩ := Int.eq_ofNat_of_zero_le (show 0 ≤ m - num s ((k3 + 1 : Nat) : Int) by omega)
              obtain ⟨cc, hrun, hat, _⟩ := HMr.out.lookup_int keyI Tryd.underlying36 Tryd.underlying3 (zeroI wr) (keyOf_int_mk Tryd.underlying3 (wf64 (r : Int) (by omega) (by omega)))
              obtain rfl := look_need s (N + 1) r (by omega) hat
              have hq2I : (q : Int) < (need s r : Int) := by
                rcases Int.lt_or_le (q : Int) (need s r : Int) with h | h
                · exact h
                · exact absurd ⟨by omega, by rw [hr]; omega⟩ hq
              have hle : num s ((k3 + 1 : Nat) : Int) ≤ m := by omega
              have hns := num_small s ((k3 + 1 : Nat) : Int) h1 h2 (by omega) (by omega)
              obtain ⟨x, hxe⟩ : ∃ x, x = num s ((k3 + 1 : Nat) : Int) := ⟨_, rfl⟩
              rw [← hxe] at hcn hle hr hns hnn
              clear hq hxe hsc hcast hgt hat
              generalize (need s r : Int) = nr at *
              go_wp2_with fail
              go_roundw
              case rel => exact ⟨k3, by go_num, by omega, htk3, hsc2, hown, hb2⟩
              case measure => simp [intOf] <;> omega
end Go.Proofs.YtlcmlfodhjmdiaaDoor
