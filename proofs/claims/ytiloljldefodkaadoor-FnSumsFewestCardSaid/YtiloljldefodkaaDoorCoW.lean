/- The first places: the greatest place that leaves what so many more places can make; the program's search. -/
import Derived.Test.YtiloljldefodkaaDoorMc
import Derived.Test.YtiloljldefodkaaDoorSuI
import Derived.Test.YtiloljldefodkaaDoorSgW
namespace Go.Proofs.YtiloljldefodkaaDoor
open Go.ChangeShapes Go.WideShapes Go.ChangeAt Go.RowKit Go.Maps

/-- The place k leaves what c more can make. -/
def Q (s m : Int) (c : Nat) (k : Nat) : Prop := num s (k : Int) ≤ m ∧ need s (m - num s (k : Int)) ≤ c
noncomputable instance (s m : Int) (c k : Nat) : Decidable (Q s m c k) := inferInstanceAs (Decidable (_ ∧ _))
/-- The greatest such place up to K (0 where there is none). -/
noncomputable def sc (s m : Int) (c : Nat) : Nat → Nat
  | 0 => 0
  | k + 1 => if Q s m c (k + 1) then k + 1 else sc s m c k
theorem sc_le (s m : Int) (c K : Nat) : sc s m c K ≤ K := by
  induction K with
  | zero => simp [sc]
  | succ K ih => rw [sc]; split <;> omega
theorem sc_above (s m : Int) (c K : Nat) : ∀ j, sc s m c K < j → j ≤ K → ¬ Q s m c j := by
  induction K with
  | zero => intro j h1 h2; omega
  | succ K ih =>
    intro j h1 h2
    rw [sc] at h1
    split at h1
    · omega
    · rename_i h
      by_cases e : j = K + 1
      · subst e; exact h
      · exact ih j h1 (by omega)
theorem sc_Q (s m : Int) (c K k : Nat) (hk : k ≤ K) (hq : Q s m c k) : Q s m c (sc s m c K) := by
  induction K with
  | zero =>
    have : k = 0 := by omega
    subst this
    exact hq
  | succ K ih =>
    rw [sc]
    split
    · assumption
    · rename_i h
      refine ih ?_
      rcases Nat.lt_or_ge K k with h1 | h1
      · have : k = K + 1 := by omega
        subst this
        exact absurd hq h
      · exact h1
theorem sc_step (s m : Int) (c k : Nat) (h : ¬ Q s m c (k + 1)) : sc s m c (k + 1) = sc s m c k := by rw [sc, if_neg h]
theorem sc_hit (s m : Int) (c k : Nat) (h : Q s m c k) : sc s m c k = k := by
  cases k with
  | zero => rfl
  | succ k => rw [sc, if_pos h]
/-- No place beyond K will do. -/
def None (s m : Int) (c K : Nat) : Prop := ∀ j, K < j → ¬ Q s m c j
theorem none_pl (s m : Int) (c K : Nat) (hs : 3 ≤ s) (hm : 0 ≤ m) (hK : pl s m ≤ K) : None s m c K := fun j hj hq => by
  have := (fits_iff s m j hs hm (by omega)).1 hq.1
  omega
theorem sc_is (s m : Int) (c K : Nat) (hs : 3 ≤ s) (hm : 0 ≤ m) (hn : need s m ≤ c + 1) (h0 : None s m c K) : Q s m c (sc s m c K) := by
  by_cases h : need s m ≤ c
  · exact sc_Q s m c K 0 (by omega) ⟨by simpa [num_zero] using hm, by simpa [num_zero] using h⟩
  · have hmp : 0 < m := by
      rcases Int.lt_or_le 0 m with h1 | h1
      · exact h1
      · have : m = 0 := by omega
        subst this
        rw [need_zero] at h
        omega
    obtain ⟨k, hk1, hk2, hk3⟩ := need_top s m hs hmp
    obtain ⟨k', rfl⟩ := Int.eq_ofNat_of_zero_le (show 0 ≤ k by omega)
    have hq : Q s m c k' := ⟨hk2, by omega⟩
    refine sc_Q s m c K k' ?_ hq
    rcases Nat.lt_or_ge K k' with h1 | h1
    · exact absurd hq (h0 k' h1)
    · exact h1
theorem none_next (s m : Int) (c K : Nat) (hs : 3 ≤ s) (h0 : None s m (c + 1) K) : None s (m - num s (sc s m (c + 1) K : Int)) c (sc s m (c + 1) K) := by
  intro j hj hq
  have hnn := num_nn s (sc s m (c + 1) K : Int) hs
  have hq1 := hq.1
  have hq2 := hq.2
  have hQ : Q s m (c + 1) j := by
    refine ⟨by omega, ?_⟩
    rcases Nat.eq_zero_or_pos (sc s m (c + 1) K) with h | h
    · rw [h] at hq2
      simp only [show (((0 : Nat) : Int)) = 0 from rfl, num_zero, Int.sub_zero] at hq2
      omega
    · have h2 := need_put s (m - num s (j : Int)) (sc s m (c + 1) K : Int) (by omega) (by omega) hs
      rw [show m - num s (j : Int) - num s (sc s m (c + 1) K : Int) = m - num s (sc s m (c + 1) K : Int) - num s (j : Int) from by omega] at h2
      omega
  rcases Nat.lt_or_ge K j with h | h
  · exact h0 j h hQ
  · exact sc_above s m (c + 1) K j hj h hQ
/-- The first c places that are m together, none beyond K. -/
noncomputable def fp (s : Int) : Nat → Int → Nat → List Int
  | 0, _, _ => []
  | c + 1, m, K => (sc s m c K : Int) :: fp s c (m - num s (sc s m c K : Int)) (sc s m c K)
theorem fp_len (s : Int) (c : Nat) : ∀ (m : Int) (K : Nat), (fp s c m K).length = c := by
  induction c with
  | zero => intro m K; rfl
  | succ c ih => intro m K; rw [fp, List.length_cons, ih]

theorem Q_gen (s m : Int) (c k : Nat) : gQ (num s) m c k ↔ Q s m c k := by
  unfold gQ Q
  rw [gNeed_num]
theorem sc_gen (s m : Int) (c K : Nat) : gsc (num s) m c K = sc s m c K := by
  induction K with
  | zero => rfl
  | succ K ih =>
    by_cases h : Q s m c (K + 1)
    · rw [gsc, if_pos ((Q_gen s m c (K + 1)).2 h), sc, if_pos h]
    · rw [gsc, if_neg (fun h2 => h ((Q_gen s m c (K + 1)).1 h2)), sc, if_neg h, ih]
theorem fp_gen (s : Int) (C : Nat) : ∀ (m : Int) (K : Nat), gfp (num s) C m K = fp s C m K := by
  induction C with
  | zero => intro m K; rfl
  | succ C ih => intro m K; rw [gfp, fp, sc_gen, ih]
theorem firstPlaces_any (s : Int) (N C b base0 g0 c0 : Nat) (w : World) (h1 : 3 ≤ s) (h2 : s ≤ 24) (hN : N ≤ 3000) (hnb : Row w base0 g0 ((pl s N).toNat + 1) c0 (fun j => num s (j : Int))) (hC : C ≤ 24) (hn : need s N ≤ C)
    (hm : w.ownsMap Tryd.prog 3 (plainElem (H := Unit) Tryd.prog 3) b (N + 1) (ND s (N + 1))) :
    Calls Tryd.prog 33 #[.slice (some ⟨g0, 0, none⟩) ((pl s N).toNat + 1) c0, .int .i64 N, .int .i64 C, .map (some b)] w fun e w' => (∃ A c, e = .returned (.slice A C c) ∧ Own w' w.heap.size w'.heap.size A (i64s (fp s C N (pl s N).toNat))) ∧ Below w.heap.size w w' := by
  have hL := lst_num s N h1 (by omega)
  have p1 := pl_77 s N h1 (by omega) (by omega)
  have h := gfirstPlaces_any (num s) N C b base0 g0 c0 w (sq_num s h1) (by omega) hN (by rw [hL]; exact hnb) hC (fun k h0 h7 => num_small s k h1 h2 h0 (by omega)) (by rw [gNeed_num]; exact hn) (by rw [nd_gen]; exact hm)
  rw [hL, fp_gen] at h
  exact h
end Go.Proofs.YtiloljldefodkaaDoor
