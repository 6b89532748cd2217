/- Tetrahedra: one contract a function, and what holds of the parts of a number. No condition but the library's table where it lies. -/
import Derived.Test.YtejjgpmdnnogbaaDoorSoI
import Derived.Test.YtejjgpmdnnogbaaDoorSoB
import Derived.Test.YtejjgpmdnnogbaaDoorAnW
namespace Go.Proofs.YtejjgpmdnnogbaaDoor
open Go.ChangeShapes Go.WideShapes Go.ChangeAt Go.RowKit Go.Maps

theorem gtop_is (s : Int → Int) (c : Nat) (m : Int) (K : Nat) (h : 0 < gW s K (c + 1) m) : 1 ≤ gtop s c m K ∧ gtop s c m K ≤ K ∧ 0 < gW s (gtop s c m K) c (m - s (gtop s c m K : Int)) := by
  induction K with
  | zero =>
    rw [gW_00, if_neg (by omega)] at h
    omega
  | succ K ih =>
    by_cases e : 0 < gW s (K + 1) c (m - s ((K : Int) + 1))
    · rw [(gtop_hit s c m K e).1]
      refine ⟨by omega, Nat.le_refl _, ?_⟩
      have e2 : ((K + 1 : Nat) : Int) = (K : Int) + 1 := by omega
      rw [e2]
      exact e
    · obtain ⟨e1, e2⟩ := gtop_miss s c m K e
      rw [e1]
      rw [e2] at h
      obtain ⟨h1, h2, h3⟩ := ih h
      exact ⟨h1, by omega, h3⟩
/-- The sum of the first k places' numbers. -/
def psum (s : Int → Int) (xs : List Int) : Nat → Int
  | 0 => 0
  | k + 1 => psum s xs k + s (xs.getD k 0)
theorem psum_cons (s : Int → Int) (x : Int) (xs : List Int) (k : Nat) : psum s (x :: xs) (k + 1) = s x + psum s xs k := by
  induction k with
  | zero => simp [psum]
  | succ k ih =>
    rw [psum, ih, psum, List.getD_cons_succ]
    omega
/-- The list of parts falls, each part is one of 1 .. K, and they make m. -/
theorem gfl_fact (s : Int → Int) (c : Nat) : ∀ (m : Int) (K : Nat), 0 < gW s K c m →
    (∀ k, k < c → 1 ≤ (gfl s c m K).getD k 0 ∧ (gfl s c m K).getD k 0 ≤ (K : Int)) ∧ (∀ k, k + 1 < c → (gfl s c m K).getD (k + 1) 0 ≤ (gfl s c m K).getD k 0) ∧ psum s (gfl s c m K) c = m := by
  induction c with
  | zero =>
    intro m K h
    rw [gW_k0] at h
    refine ⟨fun k hk => by omega, fun k hk => by omega, ?_⟩
    split at h
    · rename_i e
      rw [e]
      rfl
    · omega
  | succ c ih =>
    intro m K h
    obtain ⟨t1, t2, t3⟩ := gtop_is s c m K h
    obtain ⟨i1, i2, i3⟩ := ih _ _ t3
    rw [gfl]
    refine ⟨fun k hk => ?_, fun k hk => ?_, ?_⟩
    · cases k with
      | zero => rw [List.getD_cons_zero]; omega
      | succ k => rw [List.getD_cons_succ]; have := i1 k (by omega); omega
    · cases k with
      | zero => rw [List.getD_cons_succ, List.getD_cons_zero]; have := i1 0 (by omega); omega
      | succ k => rw [List.getD_cons_succ, List.getD_cons_succ]; exact i2 k (by omega)
    · rw [psum_cons, i3]
      omega
def ftB (n : Int) : Bool := decide (0 ≤ n ∧ n ≤ 1500)
noncomputable def ftL (n : Int) : List Int := bif ftB n then tl n else []
noncomputable def fewV (n : Int) : Int := bif ftB n then (gNeed (pyr 3) n : Int) else 0
def ctB (n p : Int) : Bool := decide ((0 ≤ n ∧ n ≤ 1500) ∧ 0 ≤ p ∧ p ≤ 5)
noncomputable def ctV (n p : Int) : Int := bif ctB n p then (gW (pyr 3) 30 p.toNat n : Int) else 0
theorem ft_t {n : Int} (h : ftB n = true) : 0 ≤ n ∧ n ≤ 1500 := by simpa [ftB] using h
theorem ft_f {n : Int} (h : ftB n = false) : n < 0 ∨ 1500 < n := by simp [ftB] at h; omega
/-- What the law asks of a number's parts. -/
structure Tef (n : Int) (D : Nat) : Prop where
  len : (ftL n).length = D
  few : fewV n = (D : Int)
  d5 : D ≤ 5
  n0 : 0 ≤ n
  n1 : n ≤ 1500
  el : ∀ k, k < D → 1 ≤ (ftL n).getD k 0 ∧ (ftL n).getD k 0 ≤ 30
  fall : ∀ k, k + 1 < D → (ftL n).getD (k + 1) 0 ≤ (ftL n).getD k 0
  sum : psum (pyr 3) (ftL n) D = n
  bds : ∀ k, k ≤ D → 0 ≤ psum (pyr 3) (ftL n) k ∧ psum (pyr 3) (ftL n) k ≤ 4960 * (k : Int)
  cnt : ∀ p : Nat, p ≤ D → ctB n (p : Int) = true ∧ decide (0 < ctV n (p : Int)) = ((p : Int) == (D : Int))
theorem tef_of {n : Int} (h : ftB n = true) : Tef n (gNeed (pyr 3) n) := by
  obtain ⟨n0, n1⟩ := ft_t h
  have hd := need_tets n n0 n1
  have hl := tet_lst n n0 n1
  obtain ⟨r1, r2⟩ := gNeed_is (pyr 3) sq3 n n0
  generalize hD : gNeed (pyr 3) n = D at *
  have hw := (gRep_pl (pyr 3) sq3 D n n0 30 (by omega)).1 r1
  obtain ⟨f1, f2, f3⟩ := gfl_fact (pyr 3) D n 30 hw
  have e : ftL n = gfl (pyr 3) D n 30 := by rw [ftL, h, cond_true, tl, hD]
  have el : ∀ k, k < D → 1 ≤ (ftL n).getD k 0 ∧ (ftL n).getD k 0 ≤ 30 := by rw [e]; exact f1
  refine ⟨by rw [e]; exact gfl_len _ _ _ _, by rw [fewV, h, cond_true, hD], hd, n0, n1, el, by rw [e]; exact f2, by rw [e]; exact f3, ?_, ?_⟩
  · intro k
    induction k with
    | zero => intro _; simp [psum]
    | succ k ih =>
      intro hk
      obtain ⟨i1, i2⟩ := ih (by omega)
      obtain ⟨a, b⟩ := el k (by omega)
      have c := pyr3_few _ (show 0 ≤ (ftL n).getD k 0 by omega) b
      rw [psum]
      omega
  · intro p hp
    have hc : ctB n (p : Int) = true := by simp [ctB]; omega
    refine ⟨hc, ?_⟩
    rw [ctV, hc, cond_true, Int.toNat_natCast, Bool.eq_iff_iff]
    simp only [decide_eq_true_eq, beq_iff_eq]
    constructor
    · intro hg
      rcases Nat.lt_or_ge p D with h1 | h1
      · exact absurd ((gRep_pl (pyr 3) sq3 p n n0 30 (by omega)).2 (by omega)) (r2 p h1)
      · omega
    · intro he
      obtain rfl : p = D := by omega
      omega
theorem ft_len (n : Int) : (ftL n).length ≤ 5 := by
  rcases Bool.eq_false_or_eq_true (ftB n) with h | h
  · have q := tef_of h
    rw [q.len]
    exact q.d5
  · rw [ftL, h, cond_false]; simp
theorem Tabd.on {w w' : World} (h : Tabd w) (hb : Below w.heap.size w w') : Tabd w' := h.below hb
theorem impl_FirstTetrahedra_any (n : Int) (w : World) (ht : Tabd w) : Calls Tryd.prog 7 #[.int .i64 n] w (ResI (ftB n) (ftL n) w) := by
  rcases Bool.eq_false_or_eq_true (ftB n) with h | h
  · obtain ⟨n0, n1⟩ := ft_t h
    rw [ftL, h, cond_true]
    obtain ⟨N, rfl⟩ := Int.eq_ofNat_of_zero_le n0
    exact impl_FirstTetrahedra_yes N w (by omega) ht
  · rw [ftL, h, cond_false]
    exact impl_FirstTetrahedra_no n w (ft_f h)
theorem spec_FirstTetrahedra_any (n : Int) (w : World) : Calls Tryd.prog 8 #[.int .i64 n] w (ResI (ftB n) (ftL n) w) := by
  rcases Bool.eq_false_or_eq_true (ftB n) with h | h
  · obtain ⟨n0, n1⟩ := ft_t h
    rw [ftL, h, cond_true]
    obtain ⟨N, rfl⟩ := Int.eq_ofNat_of_zero_le n0
    exact spec_FirstTetrahedra_yes N w (by omega)
  · rw [ftL, h, cond_false]
    exact spec_FirstTetrahedra_no n w (ft_f h)
theorem impl_FewestTetrahedra_any (n : Int) (w : World) (ht : Tabd w) : Calls Tryd.prog 9 #[.int .i64 n] w fun e w' => e = .returned (.tuple #[.int .i64 (fewV n), .bool (ftB n)]) ∧ Below w.heap.size w w' := by
  rcases Bool.eq_false_or_eq_true (ftB n) with h | h
  · obtain ⟨n0, n1⟩ := ft_t h
    rw [fewV, h, cond_true]
    obtain ⟨N, rfl⟩ := Int.eq_ofNat_of_zero_le n0
    exact impl_FewestTetrahedra_yes N w (by omega) ht
  · rw [fewV, h, cond_false]
    exact impl_FewestTetrahedra_no n w (ft_f h)
theorem spec_FewestTetrahedra_any (n : Int) (w : World) : Calls Tryd.prog 10 #[.int .i64 n] w fun e w' => e = .returned (.tuple #[.int .i64 (fewV n), .bool (ftB n)]) ∧ Below w.heap.size w w' := by
  rcases Bool.eq_false_or_eq_true (ftB n) with h | h
  · obtain ⟨n0, n1⟩ := ft_t h
    rw [fewV, h, cond_true]
    obtain ⟨N, rfl⟩ := Int.eq_ofNat_of_zero_le n0
    exact spec_FewestTetrahedra_yes N w (by omega)
  · rw [fewV, h, cond_false]
    exact spec_FewestTetrahedra_no n w (ft_f h)
theorem impl_CountTetrahedra_any (n p : Int) (w : World) : Calls Tryd.prog 13 #[.int .i64 n, .int .i64 p] w fun e w' => e = .returned (.tuple #[.int .i64 (ctV n p), .bool (ctB n p)]) ∧ Below w.heap.size w w' := by
  rcases Bool.eq_false_or_eq_true (ctB n p) with h | h
  · rw [ctV, h, cond_true]
    simp only [ctB, decide_eq_true_eq] at h
    obtain ⟨N, rfl⟩ := Int.eq_ofNat_of_zero_le h.1.1
    obtain ⟨M, rfl⟩ := Int.eq_ofNat_of_zero_le h.2.1
    exact impl_CountTetrahedra_yes N M w (by omega) (by omega)
  · rw [ctV, h, cond_false]
    simp only [ctB, decide_eq_false_iff_not] at h
    exact impl_CountTetrahedra_no n p w (by omega)
theorem spec_CountTetrahedra_any (n p : Int) (w : World) : Calls Tryd.prog 15 #[.int .i64 n, .int .i64 p] w fun e w' => e = .returned (.tuple #[.int .i64 (ctV n p), .bool (ctB n p)]) ∧ Below w.heap.size w w' := by
  rcases Bool.eq_false_or_eq_true (ctB n p) with h | h
  · rw [ctV, h, cond_true]
    simp only [ctB, decide_eq_true_eq] at h
    obtain ⟨N, rfl⟩ := Int.eq_ofNat_of_zero_le h.1.1
    obtain ⟨M, rfl⟩ := Int.eq_ofNat_of_zero_le h.2.1
    exact spec_CountTetrahedra_yes N M w (by omega) (by omega)
  · rw [ctV, h, cond_false]
    simp only [ctB, decide_eq_false_iff_not] at h
    exact spec_CountTetrahedra_no n p w (by omega)
end Go.Proofs.YtejjgpmdnnogbaaDoor
