/- Fewest sums: one contract a function, the answers plain functions. No condition but the library's table where it lies. -/
import Derived.Test.YtiloljldefodkaaDoorSfF
import Derived.Test.YtiloljldefodkaaDoorSfC
import Derived.Test.YtiloljldefodkaaDoorCoZ
import Derived.Test.YtiloljldefodkaaDoorSuAA
namespace Go.Proofs.YtiloljldefodkaaDoor
open Go.ChangeShapes Go.WideShapes Go.ChangeAt Go.RowKit Go.Maps

noncomputable def ffL (s n : Int) : List Int := bif sfB s n then fp s (need s n) n (pl s n).toNat else []
noncomputable def grL (s n : Int) : List Int := bif sfB s n then gre s n else []
noncomputable def amL (s n : Int) : List Int := bif sfB s n then fp s s.toNat n (pl s n).toNat else []
noncomputable def alB (s n p : Int) : Bool := csB s n p && decide (csV s n p ≤ 300)
noncomputable def alL (s n p : Int) : List (List Int) := bif alB s n p then Lw s (pl s n).toNat p.toNat n else []
theorem impl_FirstFewest_any (s n : Int) (w : World) (ht : Tabd w) : Calls Tryd.prog 7 #[.int .i64 s, .int .i64 n] w (ResI (sfB s n) (ffL s n) w) := by
  rcases Bool.eq_false_or_eq_true (sfB s n) with h | h
  · obtain ⟨⟨s1, s2⟩, n0, n1⟩ := sf_t h
    rw [ffL, h, cond_true]
    obtain ⟨N, rfl⟩ := Int.eq_ofNat_of_zero_le n0
    exact impl_FirstFewest_yes s N w s1 s2 (by omega) ht
  · rw [ffL, h, cond_false]
    exact impl_FirstFewest_no s n w (sf_f h)
theorem spec_FirstFewest_any (s n : Int) (w : World) : Calls Tryd.prog 8 #[.int .i64 s, .int .i64 n] w (ResI (sfB s n) (ffL s n) w) := by
  rcases Bool.eq_false_or_eq_true (sfB s n) with h | h
  · obtain ⟨⟨s1, s2⟩, n0, n1⟩ := sf_t h
    rw [ffL, h, cond_true]
    obtain ⟨N, rfl⟩ := Int.eq_ofNat_of_zero_le n0
    exact spec_FirstFewest_yes s N w s1 s2 (by omega)
  · rw [ffL, h, cond_false]
    exact spec_FirstFewest_no s n w (sf_f h)
theorem spec_FewestParts_any (s n : Int) (w : World) : Calls Tryd.prog 10 #[.int .i64 s, .int .i64 n] w fun e w' => e = .returned (.tuple #[.int .i64 (fwV s n), .bool (sfB s n)]) ∧ Below w.heap.size w w' := by
  rcases Bool.eq_false_or_eq_true (sfB s n) with h | h
  · obtain ⟨⟨s1, s2⟩, n0, n1⟩ := sf_t h
    rw [fwV, h, cond_true]
    obtain ⟨N, rfl⟩ := Int.eq_ofNat_of_zero_le n0
    exact spec_FewestParts_yes s N w s1 s2 (by omega)
  · rw [fwV, h, cond_false]
    exact spec_FewestParts_no s n w (sf_f h)
theorem impl_GreedyParts_any (s n : Int) (w : World) : Calls Tryd.prog 11 #[.int .i64 s, .int .i64 n] w (ResI (sfB s n) (grL s n) w) := by
  rcases Bool.eq_false_or_eq_true (sfB s n) with h | h
  · obtain ⟨⟨s1, s2⟩, n0, n1⟩ := sf_t h
    rw [grL, h, cond_true]
    exact impl_GreedyParts_yes s n w s1 s2 n0 n1
  · rw [grL, h, cond_false]
    exact impl_GreedyParts_no s n w (sf_f h)
theorem spec_GreedyParts_any (s n : Int) (w : World) : Calls Tryd.prog 12 #[.int .i64 s, .int .i64 n] w (ResI (sfB s n) (grL s n) w) := by
  rcases Bool.eq_false_or_eq_true (sfB s n) with h | h
  · obtain ⟨⟨s1, s2⟩, n0, n1⟩ := sf_t h
    rw [grL, h, cond_true]
    exact spec_GreedyParts_yes s n w s1 s2 n0 n1
  · rw [grL, h, cond_false]
    exact spec_GreedyParts_no s n w (sf_f h)
theorem impl_AsManyAsSides_any (s n : Int) (w : World) (ht : Tabd w) : Calls Tryd.prog 13 #[.int .i64 s, .int .i64 n] w (ResI (sfB s n) (amL s n) w) := by
  rcases Bool.eq_false_or_eq_true (sfB s n) with h | h
  · obtain ⟨⟨s1, s2⟩, n0, n1⟩ := sf_t h
    rw [amL, h, cond_true]
    obtain ⟨N, rfl⟩ := Int.eq_ofNat_of_zero_le n0
    obtain ⟨S, rfl⟩ := Int.eq_ofNat_of_zero_le (show 0 ≤ s by omega)
    rw [Int.toNat_natCast]
    exact impl_AsManyAsSides_yes S N w (by omega) (by omega) (by omega) ht
  · rw [amL, h, cond_false]
    exact impl_AsManyAsSides_no s n w (sf_f h)
theorem spec_AsManyAsSides_any (s n : Int) (w : World) : Calls Tryd.prog 14 #[.int .i64 s, .int .i64 n] w (ResI (sfB s n) (amL s n) w) := by
  rcases Bool.eq_false_or_eq_true (sfB s n) with h | h
  · obtain ⟨⟨s1, s2⟩, n0, n1⟩ := sf_t h
    rw [amL, h, cond_true]
    obtain ⟨N, rfl⟩ := Int.eq_ofNat_of_zero_le n0
    obtain ⟨S, rfl⟩ := Int.eq_ofNat_of_zero_le (show 0 ≤ s by omega)
    rw [Int.toNat_natCast]
    exact spec_AsManyAsSides_yes S N w (by omega) (by omega) (by omega)
  · rw [amL, h, cond_false]
    exact spec_AsManyAsSides_no s n w (sf_f h)
theorem spec_CountSums_any (s n p : Int) (w : World) : Calls Tryd.prog 24 #[.int .i64 s, .int .i64 n, .int .i64 p] w fun e w' => e = .returned (.tuple #[.int .i64 (csV s n p), .bool (csB s n p)]) ∧ Below w.heap.size w w' := by
  rcases Bool.eq_false_or_eq_true (csB s n p) with h | h
  · rw [csV, h, cond_true]
    simp only [csB, Bool.and_eq_true, decide_eq_true_eq] at h
    obtain ⟨⟨s1, s2⟩, n0, n1⟩ := sf_t h.1
    obtain ⟨N, rfl⟩ := Int.eq_ofNat_of_zero_le n0
    obtain ⟨M, rfl⟩ := Int.eq_ofNat_of_zero_le h.2.1
    exact spec_CountSums_yes s N M w s1 s2 (by omega) (by omega)
  · rw [csV, h, cond_false]
    simp only [csB, Bool.and_eq_false_iff, decide_eq_false_iff_not] at h
    refine spec_CountSums_no s n p w ?_
    rcases h with h | h
    · exact .inl (sf_f h)
    · exact .inr (by omega)
theorem cs_t {s n p : Int} (h : csB s n p = true) : ((3 ≤ s ∧ s ≤ 24) ∧ 0 ≤ n ∧ n ≤ 3000) ∧ 0 ≤ p ∧ p ≤ 24 := by
  simp only [csB, Bool.and_eq_true, decide_eq_true_eq] at h
  exact ⟨sf_t h.1, h.2⟩
theorem cs_f {s n p : Int} (h : csB s n p = false) : ((s < 3 ∨ 24 < s) ∨ (n < 0 ∨ 3000 < n)) ∨ (p < 0 ∨ 24 < p) := by
  simp only [csB, Bool.and_eq_false_iff, decide_eq_false_iff_not] at h
  rcases h with h | h
  · exact .inl (sf_f h)
  · exact .inr (by omega)
theorem al_t {s n p : Int} (h : alB s n p = true) : csB s n p = true ∧ csV s n p ≤ 300 := by
  simp only [alB, Bool.and_eq_true, decide_eq_true_eq] at h
  exact h
theorem al_f {s n p : Int} (h : alB s n p = false) : csB s n p = false ∨ (csB s n p = true ∧ 300 < csV s n p) := by
  simp only [alB, Bool.and_eq_false_iff, decide_eq_false_iff_not] at h
  rcases Bool.eq_false_or_eq_true (csB s n p) with h1 | h1
  · rcases h with h | h
    · rw [h1] at h; cases h
    · exact .inr ⟨h1, by omega⟩
  · exact .inl h1
theorem impl_AllSums_any (s n p : Int) (w : World) : Calls Tryd.prog 22 #[.int .i64 s, .int .i64 n, .int .i64 p] w (ResSS (alB s n p) (alL s n p) w) := by
  rcases Bool.eq_false_or_eq_true (alB s n p) with h | h
  · obtain ⟨h1, h2⟩ := al_t h
    obtain ⟨⟨⟨s1, s2⟩, n0, n1⟩, p0, p1⟩ := cs_t h1
    rw [csV, h1, cond_true] at h2
    rw [alL, h, cond_true]
    obtain ⟨N, rfl⟩ := Int.eq_ofNat_of_zero_le n0
    obtain ⟨M, rfl⟩ := Int.eq_ofNat_of_zero_le p0
    rw [Int.toNat_natCast] at h2 ⊢
    exact impl_AllSums_yes s N M w s1 s2 (by omega) (by omega) (by omega)
  · rw [alL, h, cond_false]
    rcases al_f h with h1 | ⟨h1, h2⟩
    · exact impl_AllSums_no s n p w (cs_f h1)
    · obtain ⟨⟨⟨s1, s2⟩, n0, n1⟩, p0, p1⟩ := cs_t h1
      rw [csV, h1, cond_true] at h2
      obtain ⟨N, rfl⟩ := Int.eq_ofNat_of_zero_le n0
      obtain ⟨M, rfl⟩ := Int.eq_ofNat_of_zero_le p0
      rw [Int.toNat_natCast] at h2
      exact impl_AllSums_much s N M w s1 s2 (by omega) (by omega) (by omega)
theorem spec_AllSums_any (s n p : Int) (w : World) : Calls Tryd.prog 23 #[.int .i64 s, .int .i64 n, .int .i64 p] w (ResSS (alB s n p) (alL s n p) w) := by
  rcases Bool.eq_false_or_eq_true (alB s n p) with h | h
  · obtain ⟨h1, h2⟩ := al_t h
    obtain ⟨⟨⟨s1, s2⟩, n0, n1⟩, p0, p1⟩ := cs_t h1
    rw [csV, h1, cond_true] at h2
    rw [alL, h, cond_true]
    obtain ⟨N, rfl⟩ := Int.eq_ofNat_of_zero_le n0
    obtain ⟨M, rfl⟩ := Int.eq_ofNat_of_zero_le p0
    rw [Int.toNat_natCast] at h2 ⊢
    exact spec_AllSums_yes s N M w s1 s2 (by omega) (by omega) (by omega)
  · rw [alL, h, cond_false]
    rcases al_f h with h1 | ⟨h1, h2⟩
    · exact spec_AllSums_no s n p w (cs_f h1)
    · obtain ⟨⟨⟨s1, s2⟩, n0, n1⟩, p0, p1⟩ := cs_t h1
      rw [csV, h1, cond_true] at h2
      obtain ⟨N, rfl⟩ := Int.eq_ofNat_of_zero_le n0
      obtain ⟨M, rfl⟩ := Int.eq_ofNat_of_zero_le p0
      rw [Int.toNat_natCast] at h2
      exact spec_AllSums_much s N M w s1 s2 (by omega) (by omega) (by omega)
/-- AreParts: whether it answers, and what. -/
def apB (s : Int) (n : Nat) : Bool := decide ((3 ≤ s ∧ s ≤ 24) ∧ n ≤ 100)
open Classical in
noncomputable def apV (s : Int) (xs : List Int) : Bool := apB s xs.length && decide (Parts xs xs.length)
open Classical in
theorem impl_AreParts_any (s : Int) (A : Option Addr) (n c : Nat) (xs : List Int) (hi : Nat) (w : World) (hn : xs.length = n) (hm : n ≤ 1048576) (ha : Rd w hi A (i64s xs)) :
    Calls Tryd.prog 16 #[.int .i64 s, .slice A n c] w fun e w' => e = .returned (.tuple #[.bool (apV s xs), .bool (apB s n)]) ∧ Below w.heap.size w w' := by
  subst hn
  rcases Bool.eq_false_or_eq_true (apB s xs.length) with h | h
  · have h' := h
    simp only [apB, decide_eq_true_eq] at h'
    rw [apV, h, Bool.true_and]
    exact impl_AreParts_yes s A _ c xs _ hi w h'.1.1 h'.1.2 rfl h'.2 (@decide_eq_true_iff _ _) ha
  · have h' := h
    simp only [apB, decide_eq_false_iff_not] at h'
    rw [apV, h, Bool.false_and]
    exact impl_AreParts_no s A _ c w (by omega) hm
open Classical in
theorem spec_AreParts_any (s : Int) (A : Option Addr) (n c : Nat) (xs : List Int) (hi : Nat) (w : World) (hn : xs.length = n) (hm : n ≤ 1048576) (ha : Rd w hi A (i64s xs)) :
    Calls Tryd.prog 28 #[.int .i64 s, .slice A n c] w fun e w' => e = .returned (.tuple #[.bool (apV s xs), .bool (apB s n)]) ∧ Below w.heap.size w w' := by
  subst hn
  rcases Bool.eq_false_or_eq_true (apB s xs.length) with h | h
  · have h' := h
    simp only [apB, decide_eq_true_eq] at h'
    rw [apV, h, Bool.true_and]
    exact spec_AreParts_yes s A _ c xs _ hi w h'.1.1 h'.1.2 rfl h'.2 (@decide_eq_true_iff _ _) ha
  · have h' := h
    simp only [apB, decide_eq_false_iff_not] at h'
    rw [apV, h, Bool.false_and]
    exact spec_AreParts_no s A _ c w (by omega) hm
/-! ### what the law asks -/
structure Ffq (s n : Int) (D : Nat) : Prop where
  s1 : 3 ≤ s
  s2 : s ≤ 24
  n0 : 0 ≤ n
  n1 : n ≤ 3000
  few : fwV s n = (D : Int)
  D1 : (D : Int) ≤ s
  f : Pts s 77 D n (ffL s n)
  ap : apV s (ffL s n) = true ∧ apB s D = true
  gl : D ≤ (grL s n).length
  ge : ∀ k, k < (grL s n).length → 1 ≤ (grL s n).getD k 0 ∧ (grL s n).getD k 0 ≤ 100000
  gf : ∀ k, k + 1 < (grL s n).length → (grL s n).getD (k + 1) 0 ≤ (grL s n).getD k 0
  gs : psumN s (grL s n) (grL s n).length = n
  ml : (amL s n).length = s.toNat
  me : ∀ k, k < s.toNat → 0 ≤ (amL s n).getD k 0 ∧ (amL s n).getD k 0 ≤ 100000
  mf : ∀ k, k + 1 < s.toNat → (amL s n).getD (k + 1) 0 ≤ (amL s n).getD k 0
  ms : psumN s (amL s n) s.toNat = n
  less : ∀ p : Nat, p < D → csB s n (p : Int) = true ∧ csV s n (p : Int) = 0
  some_ : csB s n (D : Int) = true ∧ ¬ csV s n (D : Int) < 1
open Classical in
theorem ffq_of {s n : Int} (h : sfB s n = true) : Ffq s n (need s n) := by
  obtain ⟨⟨s1, s2⟩, n0, n1⟩ := sf_t h
  have hD := need_sides s n s1 s2 n0 n1
  have p0 := pl_nn s n s1 n0
  have p1 := pl_77 s n s1 n0 n1
  have ef : ffL s n = fp s (need s n) n (pl s n).toNat := by rw [ffL, h, cond_true]
  have eg : grL s n = greedy s n.toNat n := by rw [grL, h, cond_true, gre]
  have em : amL s n = fp s s.toNat n (pl s n).toNat := by rw [amL, h, cond_true]
  have hp := first_pts s n s1 n0
  rw [← ef] at hp
  have hp77 : Pts s 77 (need s n) n (ffL s n) := ⟨hp.len, fun k hk => by have := hp.el k hk; omega, hp.fall, hp.sum⟩
  have hno : 1 ≤ s.toNat → None s n (s.toNat - 1) (pl s n).toNat := fun _ => none_pl s n _ _ s1 n0 (by omega)
  obtain ⟨m1, m2, m3⟩ := fp_fact s s1 s.toNat n (pl s n).toNat n0 (by omega) hno
  obtain ⟨g1, g2, g3, g4⟩ := gre_fact s s1 n.toNat n n0 (by omega)
  have hcs : ∀ p : Nat, p ≤ need s n → csB s n (p : Int) = true ∧ csV s n (p : Int) = (W s (pl s n).toNat p n : Int) := fun p hp => by
    have hc : csB s n (p : Int) = true := by
      simp only [csB, h, Bool.true_and, decide_eq_true_eq]
      omega
    exact ⟨hc, by rw [csV, hc, cond_true, Int.toNat_natCast]⟩
  obtain ⟨r1, r2⟩ := need_is s n n0
  refine ⟨s1, s2, n0, n1, by rw [fwV, h, cond_true], hD, hp77, ?_, by rw [eg]; exact g4, ?_, by rw [eg]; exact g2, by rw [eg]; exact g3, by rw [em]; exact fp_len _ _ _ _, ?_, by rw [em]; exact m2, by rw [em]; exact m3, fun p hp => ?_, ?_⟩
  · have hb : apB s (need s n) = true := by simp only [apB, decide_eq_true_eq]; omega
    refine ⟨?_, hb⟩
    have hb2 : apB s (ffL s n).length = true := by rw [hp77.len]; exact hb
    rw [apV, hb2, Bool.true_and]
    refine (@decide_eq_true_iff _ _).2 ?_
    rw [hp77.len]
    intro j hj
    have h1 := hp77.el j hj
    refine ⟨h1.1, ?_⟩
    unfold bef
    split
    · omega
    · have := hp77.fall (j - 1) (by omega)
      rwa [Nat.sub_add_cancel (by omega)] at this
  · rw [eg]
    intro k hk
    have := g1 k hk
    omega
  · rw [em]
    intro k hk
    have := m1 k hk
    omega
  · obtain ⟨h1, h2⟩ := hcs p (by omega)
    refine ⟨h1, ?_⟩
    rw [h2]
    have hz : ¬ 0 < W s (pl s n).toNat p n := fun hq => r2 p hp ((rep_pl s s1 p n n0 (pl s n).toNat (by omega)).2 hq)
    omega
  · obtain ⟨h1, h2⟩ := hcs (need s n) (Nat.le_refl _)
    refine ⟨h1, ?_⟩
    rw [h2]
    have := (rep_pl s s1 (need s n) n n0 (pl s n).toNat (by omega)).1 r1
    omega
/-- Three triangles are as many as there are sides. -/
theorem tt_am {n : Int} (h : sfB 3 n = true) : ttB n = true ∧ ttL n = amL 3 n := by
  obtain ⟨_, n0, n1⟩ := sf_t h
  have hb : ttB n = true := by simp only [ttB, decide_eq_true_eq]; omega
  exact ⟨hb, by rw [ttL, amL, hb, h, cond_true, cond_true]; rfl⟩
structure Alf (s m p : Int) (P : Nat) : Prop where
  s1 : 3 ≤ s
  s2 : s ≤ 24
  m0 : 0 ≤ m
  m1 : m ≤ 3000
  pe : p = (P : Int)
  P1 : P ≤ 24
  len : ((alL s m p).length : Int) = csV s m p
  rows : ∀ i, i < (alL s m p).length → Pts s 77 P m (rowsOf (alL s m p) i)
  ahd : ∀ i, i + 1 < (alL s m p).length → Ahd P (rowsOf (alL s m p) i) (rowsOf (alL s m p) (i + 1))
theorem alf_of {s m p : Int} (h : alB s m p = true) : ∃ P, Alf s m p P := by
  obtain ⟨h1, h2⟩ := al_t h
  obtain ⟨⟨⟨s1, s2⟩, m0, m1⟩, p0, p1⟩ := cs_t h1
  obtain ⟨P, rfl⟩ := Int.eq_ofNat_of_zero_le p0
  have p77 := pl_77 s m s1 m0 m1
  have pn := pl_nn s m s1 m0
  have e : alL s m (P : Int) = Lw s (pl s m).toNat P m := by rw [alL, h, cond_true, Int.toNat_natCast]
  refine ⟨P, s1, s2, m0, m1, rfl, by omega, by rw [e, Lw_len, csV, h1, cond_true, Int.toNat_natCast], ?_, ?_⟩
  · rw [e]
    intro i hi
    have hp := Lw_pts s _ _ _ _ (rows_mem hi)
    exact ⟨hp.len, fun k hk => by have := hp.el k hk; omega, hp.fall, hp.sum⟩
  · rw [e]
    intro i hi
    exact rows_pw (Lw_ahd s _ P m) hi
theorem al_len (s m p : Int) : (alL s m p).length ≤ 300 := by
  rcases Bool.eq_false_or_eq_true (alB s m p) with h | h
  · obtain ⟨P, q⟩ := alf_of h
    have := q.len
    have := (al_t h).2
    omega
  · rw [alL, h, cond_false]; simp
theorem al_pre (s m p : Int) : pre (rowsOf (alL s m p)) (alL s m p).length ≤ 1000000000 := by
  rcases Bool.eq_false_or_eq_true (alB s m p) with h | h
  · obtain ⟨P, q⟩ := alf_of h
    have h5 := pre_le (rowsOf (alL s m p)) (alL s m p).length 24 (fun i hi => by rw [(q.rows i hi).len]; exact q.P1)
    have := al_len s m p
    omega
  · rw [alL, h, cond_false]; simp [pre]
theorem ff_len (s n : Int) : (ffL s n).length ≤ 24 := by
  rcases Bool.eq_false_or_eq_true (sfB s n) with h | h
  · have q := ffq_of h
    have := q.f.len
    have := q.D1
    have := q.s2
    omega
  · rw [ffL, h, cond_false]; simp
theorem am_len (s n : Int) : (amL s n).length ≤ 24 := by
  rcases Bool.eq_false_or_eq_true (sfB s n) with h | h
  · have q := ffq_of h
    have := q.ml
    have := q.s2
    omega
  · rw [amL, h, cond_false]; simp
theorem gr_len (s n : Int) : (grL s n).length ≤ 3000 := by
  rcases Bool.eq_false_or_eq_true (sfB s n) with h | h
  · obtain ⟨⟨s1, s2⟩, n0, n1⟩ := sf_t h
    rw [grL, h, cond_true]
    exact gre_small s n s1 n0 n1
  · rw [grL, h, cond_false]; simp
end Go.Proofs.YtiloljldefodkaaDoor
