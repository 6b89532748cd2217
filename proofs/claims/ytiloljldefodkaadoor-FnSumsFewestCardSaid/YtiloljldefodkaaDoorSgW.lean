/- The first places over whatever rising numbers. -/
import Derived.Test.YtiloljldefodkaaDoorMc
import Derived.Test.YtiloljldefodkaaDoorSuI
namespace Go.Proofs.YtiloljldefodkaaDoor
open Go.ChangeShapes Go.WideShapes Go.ChangeAt Go.RowKit Go.Maps

/-- The place k leaves what c more can make. -/
def gQ (s : Int → Int) (m : Int) (c : Nat) (k : Nat) : Prop := s (k : Int) ≤ m ∧ gNeed s (m - s (k : Int)) ≤ c
noncomputable instance (s : Int → Int) (m : Int) (c k : Nat) : Decidable (gQ s m c k) := inferInstanceAs (Decidable (_ ∧ _))
/-- The greatest such place up to K (0 where there is none). -/
noncomputable def gsc (s : Int → Int) (m : Int) (c : Nat) : Nat → Nat
  | 0 => 0
  | k + 1 => if gQ s m c (k + 1) then k + 1 else gsc s m c k
theorem gsc_le (s : Int → Int) (m : Int) (c K : Nat) : gsc s m c K ≤ K := by
  induction K with
  | zero => simp [gsc]
  | succ K ih => rw [gsc]; split <;> omega
theorem gsc_above (s : Int → Int) (m : Int) (c K : Nat) : ∀ j, gsc s m c K < j → j ≤ K → ¬ gQ s m c j := by
  induction K with
  | zero => intro j h1 h2; omega
  | succ K ih =>
    intro j h1 h2
    rw [gsc] at h1
    split at h1
    · omega
    · rename_i h
      by_cases e : j = K + 1
      · subst e; exact h
      · exact ih j h1 (by omega)
theorem gsc_Q (s : Int → Int) (m : Int) (c K k : Nat) (hk : k ≤ K) (hq : gQ s m c k) : gQ s m c (gsc s m c K) := by
  induction K with
  | zero =>
    have : k = 0 := by omega
    subst this
    exact hq
  | succ K ih =>
    rw [gsc]
    split
    · assumption
    · rename_i h
      refine ih ?_
      rcases Nat.lt_or_ge K k with h1 | h1
      · have : k = K + 1 := by omega
        subst this
        exact absurd hq h
      · exact h1
theorem gsc_step (s : Int → Int) (m : Int) (c k : Nat) (h : ¬ gQ s m c (k + 1)) : gsc s m c (k + 1) = gsc s m c k := by rw [gsc, if_neg h]
theorem gsc_hit (s : Int → Int) (m : Int) (c k : Nat) (h : gQ s m c k) : gsc s m c k = k := by
  cases k with
  | zero => rfl
  | succ k => rw [gsc, if_pos h]
/-- No place beyond K will do. -/
def gNone (s : Int → Int) (m : Int) (c K : Nat) : Prop := ∀ j, K < j → ¬ gQ s m c j
theorem gnone_pl (s : Int → Int) (m : Int) (c K : Nat) (hs : Sq s) (hm : 0 ≤ m) (hK : lst s m ≤ K) : gNone s m c K := fun j hj hq => by
  have := (lst_iff hs m j hm (by omega)).1 hq.1
  omega
theorem gsc_is (s : Int → Int) (m : Int) (c K : Nat) (hs : Sq s) (hm : 0 ≤ m) (hn : gNeed s m ≤ c + 1) (h0 : gNone s m c K) : gQ s m c (gsc s m c K) := by
  by_cases h : gNeed s m ≤ c
  · exact gsc_Q s m c K 0 (by omega) ⟨by simpa [hs.zero] using hm, by simpa [hs.zero] using h⟩
  · have hmp : 0 < m := by
      rcases Int.lt_or_le 0 m with h1 | h1
      · exact h1
      · have : m = 0 := by omega
        subst this
        rw [gNeed_zero s hs] at h
        omega
    obtain ⟨k, hk1, hk2, hk3⟩ := gNeed_top s m hs hmp
    obtain ⟨k', rfl⟩ := Int.eq_ofNat_of_zero_le (show 0 ≤ k by omega)
    have hq : gQ s m c k' := ⟨hk2, by omega⟩
    refine gsc_Q s m c K k' ?_ hq
    rcases Nat.lt_or_ge K k' with h1 | h1
    · exact absurd hq (h0 k' h1)
    · exact h1
theorem gnone_next (s : Int → Int) (m : Int) (c K : Nat) (hs : Sq s) (h0 : gNone s m (c + 1) K) : gNone s (m - s (gsc s m (c + 1) K : Int)) c (gsc s m (c + 1) K) := by
  intro j hj hq
  have hnn := hs.nn (k := (gsc s m (c + 1) K : Int)) (by omega)
  have hq1 := hq.1
  have hq2 := hq.2
  have hQ : gQ s m (c + 1) j := by
    refine ⟨by omega, ?_⟩
    rcases Nat.eq_zero_or_pos (gsc s m (c + 1) K) with h | h
    · rw [h] at hq2
      simp only [show (((0 : Nat) : Int)) = 0 from rfl, hs.zero, Int.sub_zero] at hq2
      omega
    · have h2 := gNeed_put s (m - s (j : Int)) (gsc s m (c + 1) K : Int) (by omega) (by omega) hs
      rw [show m - s (j : Int) - s (gsc s m (c + 1) K : Int) = m - s (gsc s m (c + 1) K : Int) - s (j : Int) from by omega] at h2
      omega
  rcases Nat.lt_or_ge K j with h | h
  · exact h0 j h hQ
  · exact gsc_above s m (c + 1) K j hj h hQ
/-- The first c places that are m together, none beyond K. -/
noncomputable def gfp (s : Int → Int) : Nat → Int → Nat → List Int
  | 0, _, _ => []
  | c + 1, m, K => (gsc s m c K : Int) :: gfp s c (m - s (gsc s m c K : Int)) (gsc s m c K)
theorem gfp_len (s : Int → Int) (c : Nat) : ∀ (m : Int) (K : Nat), (gfp s c m K).length = c := by
  induction c with
  | zero => intro m K; rfl
  | succ c ih => intro m K; rw [gfp, List.length_cons, ih]

set_option maxHeartbeats 6400000 in
theorem gfirstPlaces_any (s : Int → Int) (N C b base0 g0 c0 : Nat) (w : World) (h1 : Sq s) (hk77 : lst s N ≤ 77) (hN : N ≤ 3000) (hnb : Row w base0 g0 ((lst s N).toNat + 1) c0 (fun j => s (j : Int))) (hC : C ≤ 24) (hsm : ∀ k : Int, 0 ≤ k → k ≤ 77 → s k ≤ 1000000) (hn : gNeed s N ≤ C)
    (hm : w.ownsMap Tryd.prog 3 (plainElem (H := Unit) Tryd.prog 3) b (N + 1) (gND s (N + 1))) :
    Calls Tryd.prog 33 #[.slice (some ⟨g0, 0, none⟩) ((lst s N).toNat + 1) c0, .int .i64 N, .int .i64 C, .map (some b)] w fun e w' => (∃ A c, e = .returned (.slice A C c) ∧ Own w' w.heap.size w'.heap.size A (i64s (gfp s C N (lst s N).toNat))) ∧ Below w.heap.size w w' := by
  obtain ⟨i0, hi0, hz0, hz1, hz2⟩ := info_parts infoInt
  have p0 := lst_nn h1 N (by omega)
  have p1 := hk77
  have hK : (lst s N).toNat ≤ 77 := by omega
  have HN0 := Lib.hid (fun c => gnone_pl s N c (lst s N).toNat h1 (by omega) (by omega))
  have HFL := Lib.hid (gfp_len s C N (lst s N).toNat)
  generalize (lst s N).toNat = K at *
  have HSM := Lib.hid hsm
  have HM := Lib.hid hm
  have hbl := hm.lt
  have HR := Lib.hid hnb
  have hb : Below w.heap.size w w := Below.refl _ _
  have HM1 := HM
  have hbl1 := hbl
  clear hm hnb
  go_enter Tryd.func33, Tryd.ntmps33
  go_wp2
  go_loopw [9, 10, 11, 12] (fun p l v mo wr => ∃ (q : Nat) (k : Nat) (m : Int) (xs : List Int), k ≤ K ∧ 0 ≤ m ∧ m ≤ N ∧ q ≤ C ∧ p = .int .i64 k ∧ l = .int .i64 m ∧ mo = .int .i64 ((q : Int) - 1) ∧ gNeed s m ≤ q ∧ Hid (1 ≤ q → gNone s m (q - 1) k) ∧ Hid (xs ++ gfp s q m k = gfp s C N K) ∧ Hid (wr.ownsRow w.heap.size 3 1 v xs.length (i64s xs)) ∧ Below w.heap.size w wr) (fun _ _ _ mo _ => (intOf mo + 1).toNat)
  case atStart => exact ⟨C, K, N, [], Nat.le_refl _, by omega, Int.le_refl _, Nat.le_refl _, by simp, rfl, rfl, hn, Lib.hid (fun _ => HN0.out _), Lib.hid rfl, Lib.hid (World.ownsRow_nil _ _ _ _), Below.refl _ _⟩
  case round =>
    obtain ⟨q, k, m, xs, hk, hm0, hm1, hqC, rfl, rfl, rfl, hnm, hno, hx, hown, hb2⟩ := hrel
    cases q with
    | zero =>
      have hE : Hid (xs = gfp s C N K) := Lib.hid (by have := hx.out; rwa [gfp, List.append_nil] at this)
      have hneg : (((0 : Nat) : Int)) - 1 = -1 := by omega
      rw [hneg]
      obtain ⟨A, c, rfl⟩ := row_form hown.out
      clear hx hneg
      go_wp2
      go_ret
      have hl : xs.length = C := by rw [hE.out, HFL.out]
      have ho := own_of_row hown.out
      rw [← hE.out]
      refine ⟨⟨A, c, ?_, ho.wide hb.size (Nat.le_refl _)⟩, hb.trans (hb2.mono hb.size)⟩
      rw [← hl]
      rfl
    | succ q =>
      have hqI : (((q + 1 : Nat) : Int)) - 1 = (q : Int) := by omega
      have hq0 : (0 : Int) ≤ (q : Int) := by omega
      rw [hqI]
      have hno2 : gNone s m q k := by have := hno.out (by omega); simpa using this
      have hQs := gsc_is s m q k h1 hm0 hnm hno2
      have HQS := Lib.hid hQs
      have hsl := gsc_le s m q k
      have hxl : xs.length ≤ 24 := by
        have h5 := HFL.out
        rw [← hx.out, List.length_append] at h5
        omega
      have HNX : Hid (1 ≤ q → gNone s (m - s (gsc s m q k : Int)) (q - 1) (gsc s m q k)) := Lib.hid (fun hr => by
        obtain ⟨r, rfl⟩ : ∃ r, q = r + 1 := ⟨q - 1, by omega⟩
        simpa using gnone_next s m r k h1 hno2)
      obtain ⟨t, ht⟩ : ∃ t, t = gsc s m q k := ⟨_, rfl⟩
      rw [← ht] at HNX HQS
      have HT := Lib.hid ht
      have HFP : Hid (gfp s (q + 1) m k = (t : Int) :: gfp s q (m - s (t : Int)) t) := Lib.hid (by rw [gfp, ← ht])
      rw [← ht] at hsl
      clear hno hno2 hQs hqI ht
      go_wp2
      go_loopw [9] (fun p wr2 => ∃ k2 : Nat, p = .int .i64 k2 ∧ k2 ≤ k ∧ t ≤ k2 ∧ Hid (gsc s m q k2 = t) ∧ Hid (wr2.ownsRow w.heap.size 3 1 u11 xs.length (i64s xs)) ∧ Below w.heap.size w wr2) (fun p _ => (intOf p).toNat)
      case atStart => exact ⟨k, rfl, Nat.le_refl _, by omega, Lib.hid HT.out.symm, hown, hb2⟩
      case round =>
        clear hown hb2
        obtain ⟨k2, rfl, hk2, htk, hsc, hown, hb2⟩ := hrel
        have hnn := h1.nn (k := (k2 : Int)) (by omega)
        have hcn := (HR.out.below hb2 (Nat.le_refl _)).cell (j := k2) (by omega)
        have HMr := Lib.hid (HM1.out.kept (row := none) (w' := wr) ⟨hb2.os, hb2.tape, hb2.output, hb2.size, fun i hi _ => hb2.block i hi⟩ (by simp))
        have hkI : (k2 : Int) < (K : Int) + 1 := by omega
        have hkI0 : (0 : Int) ≤ (k2 : Int) := by omega
        by_cases hq : gQ s m q k2
        · have htk2 : t = k2 := by rw [← hsc.out, gsc_hit s m q k2 hq]
          have hq1 := hq.1
          have hq2 := hq.2
          have hns := HSM.out (k2 : Int) (by omega) (by omega)
          obtain ⟨r, hr⟩ := Int.eq_ofNat_of_zero_le (show 0 ≤ m - s (k2 : Int) by omega)
          obtain ⟨cc, hrun, hat, _⟩ := HMr.out.lookup_int keyI Tryd.underlying49 Tryd.underlying3 (zeroI wr) (keyOf_int_mk Tryd.underlying3 (wf64 (r : Int) (by omega) (by omega)))
          obtain rfl := glook_need s (N + 1) r (by omega) hat
          rw [hr] at hq2
          have hq2I : (gNeed s r : Int) ≤ (q : Int) := by omega
          have HX2 : Hid ((xs ++ [(t : Int)]) ++ gfp s q r t = gfp s C N K) := Lib.hid (by rw [← hx.out, HFP.out, htk2, ← hr]; simp)
          have HN2 : Hid (1 ≤ q → gNone s (r : Int) (q - 1) t) := Lib.hid (fun h => by rw [← hr, ← htk2]; exact HNX.out h)
          have hrm : (r : Int) ≤ m := by omega
          have HNR := Lib.hid hq2
          obtain ⟨x, hxe⟩ : ∃ x, x = s (k2 : Int) := ⟨_, rfl⟩
          rw [← hxe] at hcn hq1 hr hns hnn
          subst htk2
          clear hq hq2 hat hxe hsc
          generalize (gNeed s r : Int) = nr at *
          go_wp2_with (at_builtin; refine wpList_append_own _ rfl _ _ 26 rfl w.heap.size 3 i0 (.int .i64 0) 1 8 Tryd.underlying26 hi0 hz0 hz1 hz2 rfl (by decide) _ _ _ rfl (hown.out.alloc _) ⟨wr.heap.size, 0, none⟩ 1 1 [.int .i64 (t : Int)] rfl rfl ?c1 ?c2 ?c3 ?c4 ?c5 ?_)
          case c1 =>
            intro j u hj
            match j, hj with
            | 0, hj => simp at hj; subst hj; simp [Addr.add]
          case c2 => intro u hu; simp at hu; subst hu; rfl
          case c3 => unfold maxLen; omega
          case c4 => omega
          case c5 => have := hb2.size; simp; omega
          · intro v' w5 hown' hgrow _
            rw [snoc_i64] at hown'
            have hb5 : Below w.heap.size w w5 := (hb2.alloc hb2.size _).grown hgrow (by have := hb2.size; simp; omega) fun g hg => (hown.out.lt g hg).1
            have HO : Hid (w5.ownsRow w.heap.size 3 1 v' (xs ++ [(t : Int)]).length (i64s (xs ++ [(t : Int)]))) := Lib.hid (by simpa using hown')
            have hcn5 := (HR.out.below hb5 (Nat.le_refl _)).cell (j := t) (by omega)
            have hcn6 : w5.cell? ⟨g0, t, none⟩ = some (.int .i64 x) := by
              have e1 := (HR.out.below hb2 (Nat.le_refl _)).cell (j := t) (by omega)
              rw [hcn] at e1
              rw [hcn5, ← e1]
            clear hown' hgrow hown hb2 hcn hcn5 hrun
            go_wp2
            go_roundw
            case rel => exact ⟨q, t, r, xs ++ [(t : Int)], by omega, by omega, by omega, by omega, rfl, rfl, by go_num, HNR.out, HN2, HX2, HO, hb5⟩
            case measure => simp [intOf] <;> omega
        · cases k2 with
          | zero =>
            have : t = 0 := by omega
            subst this
            exact absurd HQS.out hq
          | succ k3 =>
            have hsc2 : Hid (gsc s m q k3 = t) := Lib.hid (by rw [← gsc_step s m q k3 hq]; exact hsc.out)
            have htk3 : t ≤ k3 := by
              have := gsc_le s m q k3
              rw [hsc2.out] at this
              exact this
            have hcast : ((k3 + 1 : Nat) : Int) = (k3 : Int) + 1 := by omega
            by_cases hgt : m < s ((k3 + 1 : Nat) : Int)
            · obtain ⟨x, hxe⟩ : ∃ x, x = s ((k3 + 1 : Nat) : Int) := ⟨_, rfl⟩
              rw [← hxe] at hcn hgt
              clear hq hxe hsc hcast hnn
              go_wp2_with fail
              go_roundw
              case rel => exact ⟨k3, by go_num, by omega, htk3, hsc2, hown, hb2⟩
              case measure => simp [intOf] <;> omega
            · obtain ⟨r, hr⟩ := Int.eq_ofNat_of_zero_le (show 0 ≤ m - s ((k3 + 1 : Nat) : Int) by omega)
              obtain ⟨cc, hrun, hat, _⟩ := HMr.out.lookup_int keyI Tryd.underlying49 Tryd.underlying3 (zeroI wr) (keyOf_int_mk Tryd.underlying3 (wf64 (r : Int) (by omega) (by omega)))
              obtain rfl := glook_need s (N + 1) r (by omega) hat
              have hq2I : (q : Int) < (gNeed s r : Int) := by
                rcases Int.lt_or_le (q : Int) (gNeed s r : Int) with h | h
                · exact h
                · exact absurd ⟨by omega, by rw [hr]; omega⟩ hq
              have hle : s ((k3 + 1 : Nat) : Int) ≤ m := by omega
              have hns := HSM.out ((k3 + 1 : Nat) : Int) (by omega) (by omega)
              obtain ⟨x, hxe⟩ : ∃ x, x = s ((k3 + 1 : Nat) : Int) := ⟨_, rfl⟩
              rw [← hxe] at hcn hle hr hns hnn
              clear hq hxe hsc hcast hgt hat
              generalize (gNeed s r : Int) = nr at *
              go_wp2_with fail
              go_roundw
              case rel => exact ⟨k3, by go_num, by omega, htk3, hsc2, hown, hb2⟩
              case measure => simp [intOf] <;> omega
end Go.Proofs.YtiloljldefodkaaDoor
