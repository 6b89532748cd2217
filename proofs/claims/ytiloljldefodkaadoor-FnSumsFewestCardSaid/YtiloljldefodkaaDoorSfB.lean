/- Sums of shapes: one contract a function, the answers plain functions. No condition but the library's table where it lies. -/
import Derived.Test.YtiloljldefodkaaDoorSfA
import Derived.Test.YtiloljldefodkaaDoorSuO
namespace Go.Proofs.YtiloljldefodkaaDoor
open Go.ChangeShapes Go.WideShapes Go.ChangeAt Go.RowKit Go.Maps

def sfB (s n : Int) : Bool := decide ((3 ≤ s ∧ s ≤ 24) ∧ 0 ≤ n ∧ n ≤ 3000)
theorem sf_t {s n : Int} (h : sfB s n = true) : (3 ≤ s ∧ s ≤ 24) ∧ 0 ≤ n ∧ n ≤ 3000 := by simpa [sfB] using h
theorem sf_f {s n : Int} (h : sfB s n = false) : (s < 3 ∨ 24 < s) ∨ (n < 0 ∨ 3000 < n) := by simp [sfB] at h; omega
def ttB (n : Int) : Bool := decide (0 ≤ n ∧ n ≤ 3000)
theorem tt_t {n : Int} (h : ttB n = true) : 0 ≤ n ∧ n ≤ 3000 := by simpa [ttB] using h
theorem tt_f {n : Int} (h : ttB n = false) : n < 0 ∨ 3000 < n := by simp [ttB] at h; omega
noncomputable def ttL (n : Int) : List Int := bif ttB n then fp 3 3 n (pl 3 n).toNat else []
noncomputable def tcV (n : Int) : Int := bif ttB n then (Zc 3 (pl 3 n).toNat n 3 : Int) else 0
def csB (s n p : Int) : Bool := sfB s n && decide (0 ≤ p ∧ p ≤ 24)
noncomputable def csV (s n p : Int) : Int := bif csB s n p then (W s (pl s n).toNat p.toNat n : Int) else 0
noncomputable def fwV (s n : Int) : Int := bif sfB s n then (need s n : Int) else 0
noncomputable def nmL (s n : Int) : List Int := bif sfB s n then nl s (n.toNat + 1) else []
noncomputable def gnV (s n : Int) : Int := bif sfB s n then GN s (n.toNat + 1) else 0
noncomputable def zfL (s n : Int) : List Int := bif sfB s n then zl (fun m : Nat => (D s (pl s n).toNat m : Int)) (n.toNat + 1) else []
noncomputable def cdV (s n : Int) : Int := bif sfB s n then (D s (pl s n).toNat n : Int) else 0
noncomputable def fdB (s n : Int) : Bool := bif sfB s n then uok s (pl s n).toNat n else false
noncomputable def fdL (s n : Int) : List Int := bif sfB s n then ufd s (pl s n).toNat n else []
def twB (a b n : Int) : Bool := decide ((3 ≤ a ∧ a ≤ 24) ∧ (3 ≤ b ∧ b ≤ 24) ∧ 0 ≤ n ∧ n ≤ 3000)
theorem tw_t {a b n : Int} (h : twB a b n = true) : (3 ≤ a ∧ a ≤ 24) ∧ (3 ≤ b ∧ b ≤ 24) ∧ 0 ≤ n ∧ n ≤ 3000 := by simpa [twB] using h
theorem tw_f {a b n : Int} (h : twB a b n = false) : (a < 3 ∨ 24 < a) ∨ ((b < 3 ∨ 24 < b) ∨ (n < 0 ∨ 3000 < n)) := by simp [twB] at h; omega
noncomputable def twP (a b n : Int) : List (Int × Int) := bif twB a b n then qs a b n.toNat (pl a n).toNat ((pl a n).toNat + 1) else []

theorem impl_ThreeTriangles_any (n : Int) (w : World) (ht : Tabd w) : Calls Tryd.prog 20 #[.int .i64 n] w (ResI (ttB n) (ttL n) w) := by
  rcases Bool.eq_false_or_eq_true (ttB n) with h | h
  · obtain ⟨n0, n1⟩ := tt_t h
    rw [ttL, h, cond_true]
    obtain ⟨N, rfl⟩ := Int.eq_ofNat_of_zero_le n0
    exact impl_ThreeTriangles_of N _ _ w (impl_AsManyAsSides_yes 3 N w (by omega) (by omega) (by omega) ht)
  · rw [ttL, h, cond_false]
    exact impl_ThreeTriangles_of n _ _ w (impl_AsManyAsSides_no 3 n w (Or.inr (tt_f h)))
theorem impl_CountSums_any (s n p : Int) (w : World) : Calls Tryd.prog 19 #[.int .i64 s, .int .i64 n, .int .i64 p] w fun e w' => e = .returned (.tuple #[.int .i64 (csV s n p), .bool (csB s n p)]) ∧ Below w.heap.size w w' := by
  rcases Bool.eq_false_or_eq_true (csB s n p) with h | h
  · rw [csV, h, cond_true]
    simp only [csB, Bool.and_eq_true, decide_eq_true_eq] at h
    obtain ⟨⟨s1, s2⟩, n0, n1⟩ := sf_t h.1
    obtain ⟨N, rfl⟩ := Int.eq_ofNat_of_zero_le n0
    obtain ⟨M, rfl⟩ := Int.eq_ofNat_of_zero_le h.2.1
    exact impl_CountSums_yes s N M w s1 s2 (by omega) (by omega)
  · rw [csV, h, cond_false]
    simp only [csB, Bool.and_eq_false_iff, decide_eq_false_iff_not] at h
    refine impl_CountSums_no s n p w ?_
    rcases h with h | h
    · exact .inl (sf_f h)
    · exact .inr (by omega)
theorem impl_FewestParts_any (s n : Int) (w : World) (ht : Tabd w) : Calls Tryd.prog 9 #[.int .i64 s, .int .i64 n] w fun e w' => e = .returned (.tuple #[.int .i64 (fwV s n), .bool (sfB s n)]) ∧ Below w.heap.size w w' := by
  rcases Bool.eq_false_or_eq_true (sfB s n) with h | h
  · obtain ⟨⟨s1, s2⟩, n0, n1⟩ := sf_t h
    rw [fwV, h, cond_true]
    obtain ⟨N, rfl⟩ := Int.eq_ofNat_of_zero_le n0
    exact impl_FewestParts_yes s N w s1 s2 (by omega) ht
  · rw [fwV, h, cond_false]
    exact impl_FewestParts_no s n w (sf_f h)
/-! ### what the law asks -/
structure Ttf (n : Int) : Prop where
  n0 : 0 ≤ n
  n1 : n ≤ 3000
  len : (ttL n).length = 3
  el : ∀ k, k < 3 → 0 ≤ (ttL n).getD k 0 ∧ (ttL n).getD k 0 ≤ 77
  fall : ∀ k, k + 1 < 3 → (ttL n).getD (k + 1) 0 ≤ (ttL n).getD k 0
  sum : psumN 3 (ttL n) 3 = n
  pos : ¬ tcV n < 1
  cs : ∀ p : Nat, p ≤ 3 → csB 3 n (p : Int) = true ∧ csV 3 n (p : Int) = (W 3 (pl 3 n).toNat p n : Int)
  zs : zsum 3 (pl 3 n).toNat n 4 = tcV n
  zb : ∀ p : Nat, p ≤ 3 → 0 ≤ (W 3 (pl 3 n).toNat p n : Int) ∧ (W 3 (pl 3 n).toNat p n : Int) ≤ 1000000000000000000
theorem ttf_of {n : Int} (h : ttB n = true) : Ttf n := by
  obtain ⟨n0, n1⟩ := tt_t h
  have hns := need_sides 3 n (by omega) (by omega) n0 n1
  have p0 := pl_nn 3 n (by omega) n0
  have p1 := pl_77 3 n (by omega) n0 n1
  have hno : None 3 n 2 (pl 3 n).toNat := none_pl 3 n 2 _ (by omega) n0 (by omega)
  obtain ⟨f1, f2, f3⟩ := fp_fact 3 (by omega) 3 n (pl 3 n).toNat n0 (by omega) (fun _ => hno)
  have e : ttL n = fp 3 3 n (pl 3 n).toNat := by rw [ttL, h, cond_true]
  have et : tcV n = (Zc 3 (pl 3 n).toNat n 3 : Int) := by rw [tcV, h, cond_true]
  have hz : 0 < Zc 3 (pl 3 n).toNat n 3 := (Zc_pos 3 _ n 3).2 (none_can (by omega) n0 (by omega) (fun _ => hno))
  refine ⟨n0, n1, by rw [e]; exact fp_len _ _ _ _, fun k hk => ?_, by rw [e]; exact f2, by rw [e]; exact f3, by rw [et]; omega, fun p hp => ?_, by rw [et]; exact zsum_four 3 _ n, fun p hp => ⟨by omega, W_few 3 (by omega) _ p n (by omega) hp n1⟩⟩
  · rw [e]
    have := f1 k hk
    omega
  · have hc : csB 3 n (p : Int) = true := by
      simp only [csB, sfB, Bool.and_eq_true, decide_eq_true_eq]
      omega
    exact ⟨hc, by rw [csV, hc, cond_true, Int.toNat_natCast]⟩
theorem nm_of {s n : Int} (h : sfB s n = true) : Nmf s n (nmL s n) (gnV s n) := by
  obtain ⟨⟨s1, s2⟩, n0, n1⟩ := sf_t h
  rw [nmL, gnV, h, cond_true, cond_true]
  obtain ⟨N, rfl⟩ := Int.eq_ofNat_of_zero_le n0
  rw [Int.toNat_natCast]
  exact nmf_of s N s1 s2 (by omega)
theorem fw_of {s n : Int} (h : sfB s n = true) {x : Int} (h0 : 0 ≤ x) (h1 : x ≤ n) (hx : (need s x : Int) = s) : sfB s x = true ∧ fwV s x = s := by
  obtain ⟨⟨s1, s2⟩, n0, n1⟩ := sf_t h
  have hb : sfB s x = true := by simp only [sfB, decide_eq_true_eq]; omega
  exact ⟨hb, by rw [fwV, hb, cond_true]; exact hx⟩
theorem zf_of {s n : Int} (h : sfB s n = true) : decide (n ∈ zfL s n) = (cdV s n == 0) ∧ decide (0 ∈ zfL s n) = false ∧ fdB s n = decide (0 < cdV s n) := by
  obtain ⟨⟨s1, s2⟩, n0, n1⟩ := sf_t h
  rw [zfL, cdV, fdB, h, cond_true, cond_true, cond_true]
  obtain ⟨N, rfl⟩ := Int.eq_ofNat_of_zero_le n0
  rw [Int.toNat_natCast]
  refine ⟨?_, ?_, ?_⟩
  · rw [Bool.eq_iff_iff]
    simp only [decide_eq_true_eq, beq_iff_eq]
    rw [mem_zl]
    exact ⟨fun h => h.2, fun h => ⟨by omega, h⟩⟩
  · rw [decide_eq_false_iff_not]
    have := mem_zl (fun m : Nat => (D s (pl s N).toNat m : Int)) (N + 1) 0
    intro hm
    have h2 := (this.1 hm).2
    have h3 := D_k0 s (pl s N).toNat
    simp only [show (((0 : Nat) : Int)) = 0 from rfl] at h2
    omega
  · rw [uok, Bool.eq_iff_iff]
    simp only [decide_eq_true_eq]
    omega
structure Fdf (s n : Int) : Prop where
  s1 : 3 ≤ s
  s2 : s ≤ 24
  n0 : 0 ≤ n
  n1 : n ≤ 3000
  el : ∀ j, j < (fdL s n).length → 1 ≤ (fdL s n).getD j 0 ∧ (fdL s n).getD j 0 ≤ 77
  fall : ∀ j, j + 1 < (fdL s n).length → (fdL s n).getD (j + 1) 0 < (fdL s n).getD j 0
  sum : psumN s (fdL s n) (fdL s n).length = n
theorem fdf_of {s n : Int} (h : fdB s n = true) : Fdf s n := by
  rcases Bool.eq_false_or_eq_true (sfB s n) with hb | hb
  · obtain ⟨⟨s1, s2⟩, n0, n1⟩ := sf_t hb
    rw [fdB, hb, cond_true, uok, decide_eq_true_eq] at h
    have e : fdL s n = fd s (pl s n).toNat n := by rw [fdL, hb, cond_true, ufd, if_pos h]
    obtain ⟨f1, f2, f3⟩ := fd_fact s s1 _ n h
    have p1 := pl_77 s n s1 n0 n1
    refine ⟨s1, s2, n0, n1, ?_, by rw [e]; exact f2, by rw [e]; exact f3⟩
    rw [e]
    intro j hj
    have := f1 j hj
    omega
  · rw [fdB, hb, cond_false] at h
    cases h
theorem tw_none {a b n : Int} (h : twB a b n = false) : twP a b n = [] := by rw [twP, h, cond_false]
structure Twf (a b n : Int) : Prop where
  j0 : 0 ≤ hp1 (twP a b n)
  j1 : hp1 (twP a b n) ≤ 100000
  k0 : 0 ≤ hp2 (twP a b n)
  k1 : hp2 (twP a b n) ≤ 100000
  n0 : 0 ≤ num a (hp1 (twP a b n))
  n1 : 0 ≤ num b (hp2 (twP a b n))
  n2 : n ≤ 3000
  sum : num a (hp1 (twP a b n)) + num b (hp2 (twP a b n)) = n
theorem twf_of {a b n : Int} (h : twB a b n = true) (hl : 0 < ((twP a b n).length : Int)) : Twf a b n := by
  obtain ⟨⟨a1, a2⟩, ⟨b1, b2⟩, n0, n1⟩ := tw_t h
  have e : twP a b n = qs a b n.toNat (pl a n).toNat ((pl a n).toNat + 1) := by rw [twP, h, cond_true]
  have p0 := pl_nn a n a1 n0
  have p1 := pl_77 a n a1 n0 n1
  obtain ⟨N, rfl⟩ := Int.eq_ofNat_of_zero_le n0
  rw [Int.toNat_natCast] at e
  have hm : (hp1 (twP a b N), hp2 (twP a b N)) ∈ twP a b N := by
    cases hP : twP a b N with
    | nil => rw [hP] at hl; simp at hl
    | cons p P => exact List.mem_cons_self
  rw [e, mem_qs a b N _ a1 b1 (by omega) (by omega), ← e] at hm
  obtain ⟨h1, h2, h3⟩ := hm
  have q1 := num_nn a (hp1 (twP a b N)) a1
  have q2 := num_nn b (hp2 (twP a b N)) b1
  have r1 := (fits_iff a N (hp1 (twP a b N)) a1 n0 h1).1 (by omega)
  have r2 := (fits_iff b N (hp2 (twP a b N)) b1 n0 h2).1 (by omega)
  have p2 := pl_77 b N b1 n0 n1
  exact ⟨h1, by omega, h2, by omega, q1, q2, n1, h3⟩
theorem tw_turn (a b n : Int) : twB b a n = twB a b n ∧ (twP b a n).length = (twP a b n).length := by
  have hs : twB b a n = twB a b n := by
    rw [twB, twB, Bool.eq_iff_iff]
    simp only [decide_eq_true_eq]
    constructor <;> (intro h; omega)
  refine ⟨hs, ?_⟩
  rcases Bool.eq_false_or_eq_true (twB a b n) with h | h
  · obtain ⟨⟨a1, a2⟩, ⟨b1, b2⟩, n0, n1⟩ := tw_t h
    rw [twP, twP, hs, h, cond_true, cond_true]
    have p0 := pl_nn a n a1 n0
    have p1 := pl_77 a n a1 n0 n1
    have p2 := pl_nn b n b1 n0
    have p3 := pl_77 b n b1 n0 n1
    obtain ⟨N, rfl⟩ := Int.eq_ofNat_of_zero_le n0
    rw [Int.toNat_natCast]
    exact qs_turn a b N _ _ a1 b1 (by omega) (by omega) (by omega) (by omega)
  · rw [tw_none h, tw_none (hs.trans h)]
theorem nm_len (s n : Int) : (nmL s n).length ≤ 3001 := by
  rcases Bool.eq_false_or_eq_true (sfB s n) with h | h
  · obtain ⟨⟨s1, s2⟩, n0, n1⟩ := sf_t h
    rw [nmL, h, cond_true]
    have := nl_len s (n.toNat + 1)
    omega
  · rw [nmL, h, cond_false]; simp
theorem zf_len (s n : Int) : (zfL s n).length ≤ 3001 := by
  rcases Bool.eq_false_or_eq_true (sfB s n) with h | h
  · obtain ⟨⟨s1, s2⟩, n0, n1⟩ := sf_t h
    rw [zfL, h, cond_true]
    have := zl_len (fun m : Nat => (D s (pl s n).toNat m : Int)) (n.toNat + 1)
    omega
  · rw [zfL, h, cond_false]; simp
theorem fd_len2 (s n : Int) : (fdL s n).length ≤ 3001 := by
  rcases Bool.eq_false_or_eq_true (sfB s n) with h | h
  · obtain ⟨⟨s1, s2⟩, n0, n1⟩ := sf_t h
    have p1 := pl_77 s n s1 n0 n1
    rw [fdL, h, cond_true, ufd]
    split
    · have := fd_len s (pl s n).toNat n
      omega
    · simp
  · rw [fdL, h, cond_false]; simp
theorem tt_len (n : Int) : (ttL n).length ≤ 3 := by
  rcases Bool.eq_false_or_eq_true (ttB n) with h | h
  · have := (ttf_of h).len; omega
  · rw [ttL, h, cond_false]; simp
theorem Tabd.on {w w' : World} (h : Tabd w) (hb : Below w.heap.size w w') : Tabd w' := h.below hb
end Go.Proofs.YtiloljldefodkaaDoor
