/- The law FnExactThreeTriangles: the program's three triangles are the specification's, whatever the number. No condition. -/
import Derived.Test.YtiloljldefodkaaDoorCoW
import Derived.Test.YtiloljldefodkaaDoorSuQ
namespace Go.Proofs.YtiloljldefodkaaDoor
open Go.ChangeShapes Go.WideShapes Go.ChangeAt Go.RowKit Go.Maps

/-- m is a sum of at most c parts of places up to k. -/
def Can (s : Int) (k c : Nat) (m : Int) : Prop := ∃ i, i ≤ c ∧ 0 < W s k i m
theorem can_need {s : Int} {k c : Nat} {m : Int} (hs : 3 ≤ s) (h : Can s k c m) : 0 ≤ m ∧ need s m ≤ c := by
  obtain ⟨i, hi, hw⟩ := h
  have h1 := rep_nn s hs i m ⟨k, hw⟩
  have h2 := need_le s m h1 i ⟨k, hw⟩
  exact ⟨h1, by omega⟩
theorem none_rep {s : Int} {k c : Nat} {m : Int} (hs : 3 ≤ s) (hm : 0 ≤ m) (i : Nat) (hi : i ≤ c) (hr : Rep s i m) (h0 : 1 ≤ c → None s m (c - 1) k) : 0 < W s k i m := by
  cases i with
  | zero =>
    have := (rep_zero s m).1 hr
    subst this
    rw [W_k0]
    simp
  | succ i =>
    obtain ⟨K', hK'⟩ := hr
    obtain ⟨l, hl, hw⟩ := W_top s K' i m hK'
    have h1 := rep_nn s hs i _ ⟨l + 1, hw⟩
    have h2 := need_le s _ h1 i ⟨l + 1, hw⟩
    have hq : Q s m (c - 1) (l + 1) := ⟨by push_cast; omega, by push_cast; omega⟩
    have hlk : l + 1 ≤ k := by
      rcases Nat.lt_or_ge k (l + 1) with h3 | h3
      · exact absurd hq (h0 (by omega) (l + 1) h3)
      · exact h3
    exact W_put s l k i m hlk (Nat.lt_of_lt_of_le hw (W_le s i _ hlk))
theorem none_can {s : Int} {k c : Nat} {m : Int} (hs : 3 ≤ s) (hm : 0 ≤ m) (hn : need s m ≤ c) (h0 : 1 ≤ c → None s m (c - 1) k) : Can s k c m :=
  ⟨need s m, hn, none_rep hs hm _ hn (need_is s m hm).1 h0⟩
theorem Zc_pos (s : Int) (k : Nat) (m : Int) (c : Nat) : 0 < Zc s k m c ↔ Can s k c m := by
  induction c with
  | zero =>
    rw [Zc]
    constructor
    · exact fun h => ⟨0, Nat.le_refl _, h⟩
    · rintro ⟨i, hi, h⟩
      have : i = 0 := by omega
      subst this
      exact h
  | succ c ih =>
    rw [Zc]
    constructor
    · intro h
      by_cases h1 : 0 < Zc s k m c
      · obtain ⟨i, hi, hw⟩ := ih.1 h1
        exact ⟨i, by omega, hw⟩
      · exact ⟨c + 1, Nat.le_refl _, by omega⟩
    · rintro ⟨i, hi, hw⟩
      by_cases e : i = c + 1
      · subst e; omega
      · have := ih.2 ⟨i, by omega, hw⟩
        omega
theorem Lz_ne (s : Int) (k c : Nat) (m : Int) : Lz s k c m ≠ [] ↔ Can s k c m := by
  rw [← Zc_pos, ← Lz_len]
  constructor
  · intro h
    rcases Nat.eq_zero_or_pos (Lz s k c m).length with h1 | h1
    · exact absurd (List.length_eq_zero_iff.1 h1) h
    · exact h1
  · intro h e
    rw [e] at h
    simp at h
theorem hd_map (a : Int) (P : List (List Int)) (h : P ≠ []) : hd (P.map (List.cons a)) = a :: hd P := by
  cases P with
  | nil => exact absurd rfl h
  | cons x P => rfl
theorem hd_scan (s m : Int) (hs : 3 ≤ s) (c K : Nat) (hc : Can s (sc s m c K) c (m - num s (sc s m c K : Int))) :
    hd (Lz s K (c + 1) m) = (sc s m c K : Int) :: hd (Lz s (sc s m c K) c (m - num s (sc s m c K : Int))) := by
  induction K with
  | zero =>
    have e : sc s m c 0 = 0 := rfl
    rw [e] at hc ⊢
    simp only [show (((0 : Nat) : Int)) = 0 from rfl, num_zero, Int.sub_zero] at hc ⊢
    rw [Lz, hd_map _ _ ((Lz_ne _ _ _ _).2 hc)]
  | succ K ih =>
    by_cases hq : Q s m c (K + 1)
    · have e : sc s m c (K + 1) = K + 1 := sc_hit s m c (K + 1) hq
      rw [e] at hc ⊢
      rw [Lz]
      have hcast : ((K + 1 : Nat) : Int) = (K : Int) + 1 := by omega
      rw [hcast] at hc ⊢
      have hne : (Lz s (K + 1) c (m - num s ((K : Int) + 1))).map (List.cons ((K : Int) + 1)) ≠ [] := by
        intro h
        rw [List.map_eq_nil_iff] at h
        exact (Lz_ne _ _ _ _).2 hc h
      rw [hd_app _ _ hne, hd_map _ _ ((Lz_ne _ _ _ _).2 hc)]
    · have e := sc_step s m c K hq
      rw [e] at hc ⊢
      rw [Lz]
      have hem : Lz s (K + 1) c (m - num s ((K : Int) + 1)) = [] := by
        by_cases h : Lz s (K + 1) c (m - num s ((K : Int) + 1)) = []
        · exact h
        · have h2 := can_need hs ((Lz_ne _ _ _ _).1 h)
          exact absurd ⟨by push_cast; omega, by push_cast; exact h2.2⟩ hq
      rw [hem]
      exact ih hc
theorem hd_fp (s : Int) (hs : 3 ≤ s) (c : Nat) : ∀ (m : Int) (K : Nat), 0 ≤ m → need s m ≤ c → (1 ≤ c → None s m (c - 1) K) → hd (Lz s K c m) = fp s c m K := by
  induction c with
  | zero =>
    intro m K hm hn _
    have hm0 : m = 0 := by
      rcases Int.lt_or_le 0 m with h | h
      · have := need_pos s m h; omega
      · omega
    subst hm0
    rw [Lz_k0]
    rfl
  | succ c ih =>
    intro m K hm hn h0
    have h1 : None s m c K := by simpa using h0 (by omega)
    have hq := sc_is s m c K hs hm hn h1
    have hno : 1 ≤ c → None s (m - num s (sc s m c K : Int)) (c - 1) (sc s m c K) := fun h => by
      obtain ⟨r, rfl⟩ : ∃ r, c = r + 1 := ⟨c - 1, by omega⟩
      simpa using none_next s m r K hs h1
    have hq1 := hq.1
    rw [hd_scan s m hs c K (none_can hs (by omega) hq.2 hno), fp, ih _ _ (by omega) hq.2 hno]

theorem impl_AsManyAsSides_no (s n : Int) (w : World) (h : (s < 3 ∨ 24 < s) ∨ (n < 0 ∨ 3000 < n)) :
    Calls Tryd.prog 13 #[.int .i64 s, .int .i64 n] w (ResI false [] w) := by
  have H := Lib.hid h
  clear h
  go_enter Tryd.func13, Tryd.ntmps13
  go_wp2_with (go_at_call 30; refine (assum_no _ _ _ H.out).mono ?_; rintro e w' ⟨rfl, rfl⟩)
  go_ret2
  exact resI_nil (Below.refl _ _)
theorem impl_AsManyAsSides_yes (S N : Nat) (w : World) (h1 : 3 ≤ S) (h2 : S ≤ 24) (hN : N ≤ 3000) (ht : Tabd w) :
    Calls Tryd.prog 13 #[.int .i64 S, .int .i64 N] w (ResI true (fp S S N (pl S N).toNat) w) := by
  have i1 : (0 : Int) ≤ (N : Int) := by omega
  have i2 : (N : Int) ≤ 3000 := by omega
  have i3 : (3 : Int) ≤ (S : Int) := by omega
  have i4 : (S : Int) ≤ 24 := by omega
  have hns := need_sides S N i3 i4 i1 i2
  have HFL := Lib.hid (fp_len S S N (pl S N).toNat)
  have HTB := Lib.hid ht
  have HNP := Lib.hid fun w => numbersByPlace_any S N w i3 i4 hN
  have HNU := Lib.hid fun (base0 g0 c0 : Nat) (w : World) hnb hT hg => needsUpTo_any S N base0 g0 c0 w i3 i4 hN hnb hT hg
  have HFP := Lib.hid fun (b base0 g0 c0 : Nat) (w : World) hnb hm => firstPlaces_any S N S b base0 g0 c0 w i3 i4 hN hnb h2 (by omega) hm
  generalize fp S S N (pl S N).toNat = L at *
  generalize (pl S N).toNat = K at *
  go_enter Tryd.func13, Tryd.ntmps13
  go_wp2_with (first
    | (go_at_call 30; refine (assum_yes _ _ _ i3 i4 i1 i2).mono ?_; rintro e w' ⟨rfl, rfl⟩)
    | (go_at_call 31; refine (HNP.out _).mono ?_; rintro e wn ⟨⟨gn, cn, rfl, hrn⟩, hbn⟩; have HRn := Lib.hid hrn; clear hrn)
    | (go_at_call 32; refine (HNU.out _ _ _ _ HRn.out (HTB.out.below hbn).tab (HTB.out.below hbn).lt).mono ?_; rintro e w1 ⟨⟨b, rfl, hle0, hm⟩, hbx⟩; have hb := hbn.trans (hbx.mono hbn.size); have hle := Nat.le_trans hbn.size hle0; have HM := Lib.hid hm; have HR1 := Lib.hid (HRn.out.below hbx (Nat.le_refl _)); clear hm hle0)
    | (go_at_call 33; refine (HFP.out _ _ _ _ _ HR1.out HM.out).mono ?_; rintro e w2 ⟨⟨A, c, rfl, ho⟩, hb2⟩))
  go_ret2
  refine ⟨A, c, ?_, ho.wide hb.size (Nat.le_refl _), hb.trans (hb2.mono hb.size)⟩
  rw [HFL.out]
  rfl
theorem impl_ThreeTriangles_of (n : Int) (ok : Bool) (xs : List Int) (w : World) (h : Calls Tryd.prog 13 #[.int .i64 3, .int .i64 n] w (ResI ok xs w)) :
    Calls Tryd.prog 20 #[.int .i64 n] w (ResI ok xs w) := by
  have H := Lib.hid h
  clear h
  go_enter Tryd.func20, Tryd.ntmps20
  go_wp2_with (go_at_call 13; refine H.out.mono ?_; rintro e w1 ⟨A, c, rfl, ho, hb⟩)
  go_ret2
  exact ⟨A, c, rfl, ho, hb⟩
end Go.Proofs.YtiloljldefodkaaDoor
