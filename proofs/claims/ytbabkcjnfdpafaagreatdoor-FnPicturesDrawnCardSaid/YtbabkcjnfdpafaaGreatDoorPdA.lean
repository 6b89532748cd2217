/- Chapter 7: layers, borders and pieces of a picture, counted: how they hang together. No program in sight. -/
import Derived.Test.YtbabkcjnfdpafaaGreatDoorPtA
namespace Go.Proofs.YtbabkcjnfdpafaaGreatDoor

theorem cnt_pos9 {f : Nat → Bool} {n : Nat} (h : 0 < cnt f n) : ∃ i, i < n ∧ f i = true := by
  induction n with
  | zero => simp [cnt] at h
  | succ n ih =>
    rw [cnt_succ] at h
    cases hf : f n with
    | true => exact ⟨n, by omega, hf⟩
    | false =>
      rw [hf] at h
      obtain ⟨i, hi, e⟩ := ih (by simpa using h)
      exact ⟨i, by omega, e⟩
theorem cnt_some {f : Nat → Bool} {n i : Nat} (hi : i < n) (h : f i = true) : 0 < cnt f n := by
  induction n with
  | zero => omega
  | succ n ih =>
    rw [cnt_succ]
    rcases Nat.lt_or_ge i n with hlt | hge
    · have := ih hlt; omega
    · obtain rfl : i = n := by omega
      rw [h]
      simp
/-- The least dot is a dot of the border. -/
theorem brd_some9 {W H : Nat} {d : Nat → Bool} (h : 0 < cnt d (W * H)) : 0 < cnt (brd W H d) (W * H) := by
  obtain ⟨i, hi, hd⟩ := cnt_pos9 h
  have key : ∀ i, i < W * H → d i = true → ∃ j, j < W * H ∧ brd W H d j = true := by
    intro i
    induction i using Nat.strongRecOn with
    | _ i ih =>
      intro hi hd
      by_cases hw : W ≤ i
      · cases hp : d (i - W) with
        | true =>
          rcases Nat.eq_zero_or_pos W with hW | hW
          · rw [hW] at hi; simp at hi
          · exact ih (i - W) (by omega) (by omega) hp
        | false =>
          refine ⟨i, hi, ?_⟩
          unfold brd
          rw [hd, Bool.true_and, Bool.or_eq_true]
          right
          rw [List.any_eq_true]
          exact ⟨i - W, (nbs_mem W H i (i - W)).2 (.inr (.inr (.inl ⟨hw, rfl⟩))), by rw [hp]; rfl⟩
      · refine ⟨i, hi, ?_⟩
        unfold brd
        rw [hd, Bool.true_and, Bool.or_eq_true]
        left
        rw [decide_eq_true_eq]
        unfold nbs
        rw [List.length_append, List.length_append, List.length_append]
        rw [if_neg hw]
        split <;> split <;> split <;> simp
  obtain ⟨j, hj, hb⟩ := key i hi hd
  exact cnt_some hj hb
/-! ### layers -/
theorem brd_congr {W H : Nat} {d e : Nat → Bool} (h : ∀ i, i < W * H → d i = e i) (i : Nat) (hi : i < W * H) : brd W H d i = brd W H e i := by
  unfold brd
  rw [h i hi]
  congr 2
  rw [Bool.eq_iff_iff, List.any_eq_true, List.any_eq_true]
  constructor
  · rintro ⟨j, hj, hd⟩; exact ⟨j, hj, by rw [← h j (nbs_lt hi hj)]; exact hd⟩
  · rintro ⟨j, hj, hd⟩; exact ⟨j, hj, by rw [h j (nbs_lt hi hj)]; exact hd⟩
theorem tkn_congr {W H : Nat} {d e : Nat → Bool} (h : ∀ i, i < W * H → d i = e i) (i : Nat) (hi : i < W * H) : tkn W H d i = tkn W H e i := by
  unfold tkn
  rw [h i hi, brd_congr h i hi]
theorem lys_congr {W H : Nat} (n : Nat) : ∀ {d e : Nat → Bool}, (∀ i, i < W * H → d i = e i) → lys W H n d = lys W H n e := by
  induction n with
  | zero => intros; rfl
  | succ n ih =>
    intro d e h
    rw [lys, lys, cnt_congr (brd_congr h), ih (tkn_congr h)]
theorem lys_fuel {W H : Nat} (n : Nat) : ∀ (m : Nat) {d : Nat → Bool}, cnt d (W * H) < n → cnt d (W * H) < m → lys W H n d = lys W H m d := by
  induction n with
  | zero => intros; omega
  | succ n ih =>
    intro m d h1 h2
    obtain ⟨m, rfl⟩ : ∃ m', m = m' + 1 := ⟨m - 1, by omega⟩
    rw [lys, lys]
    have e := cnt_tkn W H d (W * H)
    by_cases hc : cnt (brd W H d) (W * H) = 0
    · rw [if_pos hc, if_pos hc]
    · rw [if_neg hc, if_neg hc, ih m (by omega) (by omega)]
theorem lys_sum {W H : Nat} (n : Nat) : ∀ {d : Nat → Bool}, cnt d (W * H) < n → (lys W H n d).sum = (cnt d (W * H) : Int) := by
  induction n with
  | zero => intros; omega
  | succ n ih =>
    intro d h
    rw [lys]
    have e := cnt_tkn W H d (W * H)
    by_cases hc : cnt (brd W H d) (W * H) = 0
    · rw [if_pos hc]
      rcases Nat.eq_zero_or_pos (cnt d (W * H)) with h0 | h0
      · rw [h0]; rfl
      · have := brd_some9 h0; omega
    · rw [if_neg hc, List.sum_cons, ih (by omega)]
      omega
theorem lys_few {W H : Nat} (n : Nat) : ∀ {d : Nat → Bool}, (lys W H n d).length ≤ cnt d (W * H) := by
  induction n with
  | zero => intros; simp [lys]
  | succ n ih =>
    intro d
    rw [lys]
    have e := cnt_tkn W H d (W * H)
    by_cases hc : cnt (brd W H d) (W * H) = 0
    · rw [if_pos hc]; simp
    · rw [if_neg hc, List.length_cons]
      have := @ih (tkn W H d)
      omega
theorem lys_pos {W H : Nat} (n : Nat) : ∀ {d : Nat → Bool}, ∀ x ∈ lys W H n d, 1 ≤ x ∧ x ≤ (W * H : Nat) := by
  induction n with
  | zero => intro d x hx; simp [lys] at hx
  | succ n ih =>
    intro d x hx
    rw [lys] at hx
    by_cases hc : cnt (brd W H d) (W * H) = 0
    · rw [if_pos hc] at hx; simp at hx
    · rw [if_neg hc] at hx
      have := cnt_le (brd W H d) (W * H)
      rcases List.mem_cons.1 hx with rfl | hx
      · omega
      · exact ih x hx
def boL (l : List UInt8) : List UInt8 := bif isPic l then gText (pW l) (pH l) (brd (pW l) (pH l) (pD l)) else []
def taL (l : List UInt8) : List UInt8 := bif isPic l then gText (pW l) (pH l) (tkn (pW l) (pH l) (pD l)) else []
def lyL (l : List UInt8) : List Int := bif isPic l then lys (pW l) (pH l) (pW l * pH l + 1) (pD l) else []
noncomputable def peL (l : List UInt8) : List (List UInt8) := bif isPic l then pcs (pW l) (pH l) (pD l) (pW l * pH l) else []
/-- A picture's border, what is left, its layers. -/
structure LyE (l : List UInt8) : Prop where
  bo : isPic (boL l) = true
  ta : isPic (taL l) = true
  sum : cntB (boL l) + cntB (taL l) = cntB l
  total : (lyL l).sum = (cntB l : Int)
  few : (lyL l).length ≤ 600
  none : cntB l = 0 → lyL l = []
  some : 0 < cntB l → lyL l = (cntB (boL l) : Int) :: lyL (taL l) ∧ 1 ≤ cntB (boL l)
theorem lyE_of {l : List UInt8} (h : isPic l = true) : LyE l := by
  have b := pic_b h
  have eb : boL l = gText (pW l) (pH l) (brd (pW l) (pH l) (pD l)) := by rw [boL, h, cond_true]
  have et : taL l = gText (pW l) (pH l) (tkn (pW l) (pH l) (pD l)) := by rw [taL, h, cond_true]
  have hb : isPic (boL l) = true := by rw [eb]; exact gText_pic _ _ _ b.w0 b.w1 b.h0 b.h1
  have ht : isPic (taL l) = true := by rw [et]; exact gText_pic _ _ _ b.w0 b.w1 b.h0 b.h1
  have cb : cntB (boL l) = cnt (brd (pW l) (pH l) (pD l)) (pW l * pH l) := by rw [eb, cnt_text _ _ _ b.w0]
  have ct : cntB (taL l) = cnt (tkn (pW l) (pH l) (pD l)) (pW l * pH l) := by rw [et, cnt_text _ _ _ b.w0]
  have cl := cnt_pic h
  have hs := cnt_tkn (pW l) (pH l) (pD l) (pW l * pH l)
  have el : lyL l = lys (pW l) (pH l) (pW l * pH l + 1) (pD l) := by rw [lyL, h, cond_true]
  have hle := cnt_le (pD l) (pW l * pH l)
  have h600 := (pic_few h).2.2.2.2.2
  have e2 : lyL (taL l) = lys (pW l) (pH l) (pW l * pH l + 1) (tkn (pW l) (pH l) (pD l)) := by
    rw [lyL, ht, cond_true]
    have w : pW (taL l) = pW l := by rw [et, gText_W _ _ _ b.h0]
    have g : pH (taL l) = pH l := by rw [et, gText_H _ _ _ b.h0]
    rw [w, g]
    exact lys_congr _ fun i hi => by rw [et, gText_D _ _ _ b.h0 i hi]
  refine ⟨hb, ht, by rw [cb, ct, cl]; omega, by rw [el, lys_sum _ (by omega), cl], ?_, ?_, ?_⟩
  · have := @lys_few (pW l) (pH l) (pW l * pH l + 1) (pD l)
    rw [el]
    omega
  · intro h0
    have : (lyL l).length ≤ 0 := by rw [el, ← h0, cl]; exact lys_few _
    exact List.length_eq_zero_iff.1 (by omega)
  · intro h0
    have hp := brd_some9 (by rw [← cl]; exact h0)
    refine ⟨?_, by rw [cb]; exact hp⟩
    rw [e2, el, lys, if_neg (by omega), cb]
    congr 1
    exact lys_fuel _ _ (by omega) (by omega)

/-! ### pieces -/
theorem pce_mono {W H : Nat} {d : Nat → Bool} {a i : Nat} (h : pce W H d a i = true) : d i = true := by
  simp only [pce, decide_eq_true_eq] at h
  exact conn_dot h
/-- Within a piece the same places hang together. -/
theorem conn_pce {W H : Nat} {d : Nat → Bool} {a i : Nat} : Conn W H (pce W H d a) a i ↔ Conn W H d a i := by
  constructor
  · intro h
    have := conn_dot h
    simpa only [pce, decide_eq_true_eq] using this
  · intro h
    induction h with
    | here hd => exact .here (by simp only [pce, decide_eq_true_eq]; exact .here hd)
    | step hc hj hd ih => exact .step ih hj (by simp only [pce, decide_eq_true_eq]; exact .step hc hj hd)
theorem fst_pce {W H : Nat} {d : Nat → Bool} {a : Nat} (ha : a < W * H) (hf : fstP W H d a) (b : Nat) (_hb : b < W * H) : fstP W H (pce W H d a) b ↔ b = a := by
  constructor
  · rintro ⟨h1, h2⟩
    have hc : Conn W H d a b := by simpa only [pce, decide_eq_true_eq] using h1
    rcases Nat.lt_trichotomy b a with h | h | h
    · exact absurd (conn_symm ha hc) (hf.2 b h)
    · exact h
    · exact absurd (conn_pce.2 hc) (h2 a h)
  · rintro rfl
    refine ⟨by simp only [pce, decide_eq_true_eq]; exact .here hf.1, fun c hc hcc => ?_⟩
    have h1 : Conn W H d b c := by
      have := conn_start hcc
      simpa only [pce, decide_eq_true_eq] using this
    exact hf.2 c hc (conn_symm ha h1)
theorem pcs_one {W H : Nat} {d : Nat → Bool} {a : Nat} (ha : a < W * H) (hf : fstP W H d a) (n : Nat) (hn : n ≤ W * H) : (pcs W H (pce W H d a) n).length = if a < n then 1 else 0 := by
  induction n with
  | zero => simp [pcs]
  | succ n ih =>
    rw [pcs, List.length_append, ih (by omega)]
    by_cases he : n = a
    · rw [if_pos ((fst_pce ha hf n (by omega)).2 he), if_neg (by omega), if_pos (by omega)]
      rfl
    · rw [if_neg (fun h => he ((fst_pce ha hf n (by omega)).1 h))]
      by_cases hl : a < n
      · rw [if_pos hl, if_pos (by omega)]; rfl
      · rw [if_neg hl, if_neg (by omega)]; rfl
theorem conn_congr {W H : Nat} {d e : Nat → Bool} (h : ∀ i, i < W * H → d i = e i) {a i : Nat} (ha : a < W * H) (hc : Conn W H d a i) : Conn W H e a i := by
  induction hc with
  | here hd => exact .here (by rw [← h a ha]; exact hd)
  | step hc hj hd ih => exact .step ih hj (by rw [← h _ (nbs_lt (conn_lt ha hc) hj)]; exact hd)
theorem fst_congr {W H : Nat} {d e : Nat → Bool} (h : ∀ i, i < W * H → d i = e i) {a : Nat} (ha : a < W * H) (hf : fstP W H d a) : fstP W H e a :=
  ⟨by rw [← h a ha]; exact hf.1, fun b hb hc => hf.2 b hb (conn_congr (fun i hi => (h i hi).symm) (by omega) hc)⟩
theorem pcs_congr {W H : Nat} {d e : Nat → Bool} (h : ∀ i, i < W * H → d i = e i) (n : Nat) (hn : n ≤ W * H) : pcs W H d n = pcs W H e n := by
  have h' : ∀ i, i < W * H → e i = d i := fun i hi => (h i hi).symm
  induction n with
  | zero => rfl
  | succ n ih =>
    rw [pcs, pcs, ih (by omega)]
    have hp : pce W H d n = pce W H e n := by
      funext i
      simp only [pce]
      rw [decide_eq_decide]
      exact ⟨conn_congr h (by omega), conn_congr h' (by omega)⟩
    by_cases hf : fstP W H d n
    · rw [if_pos hf, if_pos (fst_congr h (by omega) hf), hp]
    · rw [if_neg hf, if_neg (fun k => hf (fst_congr h' (by omega) k))]
/-- What a piece is. -/
structure PcE (l x : List UInt8) : Prop where
  ok : isPic x = true
  dots : 1 ≤ cntB x
  one : (peL x).length = 1
  len : x.length = l.length
  sub : ∀ i : Nat, i < x.length → x[i]? = some (111 : UInt8) → l[i]? = some (111 : UInt8)
theorem txP_sub {W : Nat} {d e : Nat → Bool} (k : Nat) (h : ∀ i, i < k → e i = true → d i = true) : (txP W e k).length = (txP W d k).length ∧ ∀ i : Nat, (txP W e k)[i]? = some (111 : UInt8) → (txP W d k)[i]? = some (111 : UInt8) := by
  induction k with
  | zero => exact ⟨rfl, fun i h => h⟩
  | succ k ih =>
    obtain ⟨l1, l2⟩ := ih (fun i hi => h i (by omega))
    rw [txP, txP]
    generalize (if k % W = 0 ∧ 0 < k / W then [(47 : UInt8)] else []) = S
    have hl : (txP W e k ++ S).length = (txP W d k ++ S).length := by rw [List.length_append, List.length_append, l1]
    refine ⟨by simp only [List.length_append, List.length_singleton] at hl ⊢; omega, fun i hi => ?_⟩
    by_cases h1 : i < (txP W e k ++ S).length
    · rw [List.getElem?_append_left h1] at hi
      rw [List.getElem?_append_left (by omega)]
      by_cases h2 : i < (txP W e k).length
      · rw [List.getElem?_append_left h2] at hi
        rw [List.getElem?_append_left (by omega)]
        exact l2 i hi
      · rw [List.getElem?_append_right (by omega)] at hi
        rw [List.getElem?_append_right (by omega), ← l1]
        exact hi
    · rw [List.getElem?_append_right (by omega)] at hi
      rw [List.getElem?_append_right (by omega), ← hl]
      generalize i - (txP W e k ++ S).length = j at hi ⊢
      cases j with
      | succ j => simp at hi
      | zero =>
        simp only [List.getElem?_cons_zero, Option.some.injEq] at hi ⊢
        have he : e k = true := by
          cases hk : e k with
          | true => rfl
          | false => rw [hk] at hi; revert hi; decide
        rw [h k (by omega) he]
        rfl
theorem pcs_mem {W H : Nat} {d : Nat → Bool} {x : List UInt8} (n : Nat) (h : x ∈ pcs W H d n) : ∃ a, a < n ∧ fstP W H d a ∧ x = gText W H (pce W H d a) := by
  induction n with
  | zero => simp [pcs] at h
  | succ n ih =>
    rw [pcs, List.mem_append] at h
    rcases h with h | h
    · obtain ⟨a, ha, hf, e⟩ := ih h
      exact ⟨a, by omega, hf, e⟩
    · by_cases hf : fstP W H d n
      · rw [if_pos hf, List.mem_singleton] at h
        exact ⟨n, by omega, hf, h⟩
      · rw [if_neg hf] at h
        simp at h
theorem pcE_of {l x : List UInt8} (h : isPic l = true) (hx : x ∈ peL l) : PcE l x := by
  have b := pic_b h
  rw [peL, h, cond_true] at hx
  obtain ⟨a, ha, hf, rfl⟩ := pcs_mem _ hx
  have hok : isPic (gText (pW l) (pH l) (pce (pW l) (pH l) (pD l) a)) = true := gText_pic _ _ _ b.w0 b.w1 b.h0 b.h1
  have ll : l.length = (gText (pW l) (pH l) (pD l)).length := by rw [pic_text h]
  have e1 := gText_len (pW l) (pH l) (pce (pW l) (pH l) (pD l) a) b.h0
  have e2 := gText_len (pW l) (pH l) (pD l) b.h0
  refine ⟨hok, ?_, ?_, by omega, ?_⟩
  · rw [cnt_text _ _ _ b.w0]
    exact cnt_some ha (by simp only [pce, decide_eq_true_eq]; exact .here hf.1)
  · rw [peL, hok, cond_true, gText_W _ _ _ b.h0, gText_H _ _ _ b.h0, pcs_congr (e := pce (pW l) (pH l) (pD l) a) (fun i hi => gText_D _ _ _ b.h0 i hi) _ (Nat.le_refl _), pcs_one ha hf _ (Nat.le_refl _), if_pos ha]
  · intro i _ hi
    have hs := (txP_sub (W := pW l) (d := pD l) (e := pce (pW l) (pH l) (pD l) a) (pW l * pH l) (fun i _ hp => pce_mono hp)).2 i
    rw [txP_all _ _ _ b.w0, txP_all _ _ _ b.w0, pic_text h] at hs
    exact hs hi
theorem cnt_split {f g : Nat → Bool} {n : Nat} (h : ∀ i, i < n → g i = true → f i = true) : cnt (fun i => f i && !g i) n + cnt g n = cnt f n := by
  induction n with
  | zero => rfl
  | succ n ih =>
    rw [cnt_succ, cnt_succ, cnt_succ, ← ih (fun i hi => h i (by omega))]
    have := h n (by omega)
    cases h1 : f n <;> cases h2 : g n <;> simp_all <;> omega
theorem pcs_sum {W H : Nat} {d : Nat → Bool} (w0 : 1 ≤ W) (n : Nat) (hn : n ≤ W * H) : ((pcs W H d n).map cntB).sum + cnt (rem W H d n) (W * H) = cnt d (W * H) := by
  induction n with
  | zero =>
    rw [cnt_congr (f := rem W H d 0) (g := d) (fun i _ => (rem_zero W H d i).symm)]
    simp [pcs]
  | succ n ih =>
    rw [← ih (by omega), pcs]
    by_cases hf : fstP W H d n
    · rw [if_pos hf, List.map_append, List.sum_append]
      have e : ([gText W H (pce W H d n)].map cntB).sum = cnt (pce W H d n) (W * H) := by simp [cnt_text _ _ _ w0]
      rw [e, cnt_congr (f := rem W H d (n + 1)) (g := fun i => rem W H d n i && !pce W H d n i) (fun i _ => rem_yes hf)]
      have := cnt_split (f := rem W H d n) (g := pce W H d n) (n := W * H) (fun i _ hp => rem_of_conn (by omega) hf (by simpa only [pce, decide_eq_true_eq] using hp))
      omega
    · rw [if_neg hf, List.append_nil, cnt_congr (f := rem W H d (n + 1)) (g := rem W H d n) (fun i _ => (rem_no hf).symm)]
theorem pe_sum {l : List UInt8} (h : isPic l = true) : ((peL l).map cntB).sum = cntB l := by
  have b := pic_b h
  have e := pcs_sum (d := pD l) b.w0 (pW l * pH l) (Nat.le_refl _)
  have z : cnt (rem (pW l) (pH l) (pD l) (pW l * pH l)) (pW l * pH l) = 0 := by
    rcases Nat.eq_zero_or_pos (cnt (rem (pW l) (pH l) (pD l) (pW l * pH l)) (pW l * pH l)) with h0 | h0
    · exact h0
    · obtain ⟨i, hi, hr⟩ := cnt_pos9 h0
      obtain ⟨h1, h2⟩ := rem_iff.1 hr
      exact absurd (.here h1) (h2 i hi)
  rw [peL, h, cond_true, cnt_pic h]
  omega
theorem pe_few {l : List UInt8} (h : isPic l = true) : (peL l).length ≤ 576 := by
  have b := pic_b h
  rw [peL, h, cond_true]
  have := pcs_len (pW l) (pH l) (pD l) (pW l * pH l)
  have := Nat.mul_le_mul b.w1 b.h1
  omega

/-! ### shapes -/
theorem tri_cnt : ∀ k, k ≤ 24 → 2 * cnt (shD 116 k) (k * k) = k * (k + 1) := by decide +kernel
theorem squ_cnt : ∀ k, k ≤ 24 → cnt (shD 115 k) (k * k) = k * k := by decide +kernel
theorem gno_cnt : ∀ k, k ≤ 24 → cnt (shD 103 k) (k * k) = 2 * k - 1 := by decide +kernel
theorem dia_cnt : ∀ k, k ≤ 12 → 1 ≤ k → cnt (shD 100 (2 * k - 1)) ((2 * k - 1) * (2 * k - 1)) = 2 * k * (k - 1) + 1 := by decide +kernel
theorem hex_cnt : ∀ k, k ≤ 12 → 1 ≤ k → cnt (shD 104 (2 * k - 1)) ((2 * k - 1) * (2 * k - 1)) = 3 * k * (k - 1) + 1 := by decide +kernel
end Go.Proofs.YtbabkcjnfdpafaaGreatDoor
