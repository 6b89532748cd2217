/- Plain facts of chapter 7, 2: parts of joined texts; pictures as grids of dots. No program in sight. -/
import Derived.Test.YtljleceepghfjaaDoorMa
namespace Go.Proofs.YtljleceepghfjaaDoor

theorem joinP_ext (b : UInt8) (p : List (List UInt8)) (x : List UInt8) (c : UInt8) : joinP b (p ++ [x ++ [c]]) = joinP b (p ++ [x]) ++ [c] := by
  cases p with
  | nil => simp [joinP]
  | cons r rs => simp [joinP]
theorem upP_join (l : List UInt8) (b : UInt8) (k : Nat) (hk : k ≤ l.length) : joinP b ((upP l b k).1 ++ [(l.take k).drop (upP l b k).2]) = l.take k := by
  induction k with
  | zero => simp [upP, joinP]
  | succ k ih =>
    have h := ih (by omega)
    have hl := upP_le l b k
    have ht : l.take (k + 1) = l.take k ++ [l[k]] := List.take_succ_eq_append_getElem (by omega)
    rw [upP]
    split
    · rename_i hb
      have hb2 : l[k] = b := by
        rw [List.getElem?_eq_getElem (by omega)] at hb
        exact Option.some.inj hb
      have e : (l.take (k + 1)).drop (k + 1) = [] := by simp
      simp only [e]
      rw [joinP_snoc _ _ _ (by simp), h, ht, hb2]
    · rw [ht, List.drop_append_of_le_length (by rw [List.length_take]; omega), joinP_ext, h]
theorem join_parts (l : List UInt8) (b : UInt8) : joinP b (parts l b) = l := by
  have h := upP_join l b l.length (Nat.le_refl _)
  rw [List.take_length] at h
  exact h
theorem upP_app (l m : List UInt8) (b : UInt8) (k : Nat) (hk : k ≤ l.length) : upP (l ++ m) b k = upP l b k := by
  induction k with
  | zero => rfl
  | succ k ih =>
    rw [upP, upP, ih (by omega), List.getElem?_append_left (by omega), List.take_append_of_le_length (by omega)]
theorem upP_free (l m : List UInt8) (b : UInt8) (hm : ∀ c ∈ m, c ≠ b) (j : Nat) (hj : j ≤ m.length) : upP (l ++ m) b (l.length + j) = upP (l ++ m) b l.length := by
  induction j with
  | zero => rfl
  | succ j ih =>
    rw [show l.length + (j + 1) = (l.length + j) + 1 by omega, upP, if_neg, ih (by omega)]
    rw [List.getElem?_append_right (by omega), show l.length + j - l.length = j by omega, List.getElem?_eq_getElem (by omega)]
    intro e
    exact hm _ (List.getElem_mem _) (Option.some.inj e)
theorem parts_free (l : List UInt8) (b : UInt8) (h : ∀ c ∈ l, c ≠ b) : parts l b = [l] := by
  have e := upP_free [] l b h l.length (Nat.le_refl _)
  simp only [List.nil_append, List.length_nil, Nat.zero_add, upP] at e
  unfold parts
  rw [e]
  rfl
theorem parts_snoc (l x : List UInt8) (b : UInt8) (h : ∀ c ∈ x, c ≠ b) : parts (l ++ b :: x) b = parts l b ++ [x] := by
  have e0 : l ++ b :: x = (l ++ [b]) ++ x := by simp
  have e1 := upP_free (l ++ [b]) x b h x.length (Nat.le_refl _)
  have e2 : upP ((l ++ [b]) ++ x) b (l.length + 1) = (parts l b, l.length + 1) := by
    rw [upP_app _ _ _ _ (by simp), upP, if_pos (by simp), upP_app _ _ _ _ (Nat.le_refl _)]
    simp [parts]
  unfold parts
  rw [e0, show ((l ++ [b]) ++ x).length = (l ++ [b]).length + x.length by simp; omega, e1, show (l ++ [b]).length = l.length + 1 by simp, e2]
  simp [parts]
theorem parts_foldl (b : UInt8) (rs : List (List UInt8)) : ∀ (acc : List UInt8) (P : List (List UInt8)), parts acc b = P → (∀ x ∈ rs, ∀ c ∈ x, c ≠ b) → parts (rs.foldl (fun acc x => acc ++ (b :: x)) acc) b = P ++ rs := by
  induction rs with
  | nil => intro acc P h _; simpa using h
  | cons x rs ih =>
    intro acc P h hf
    rw [List.foldl_cons, ih (acc ++ (b :: x)) (P ++ [x]) (by rw [parts_snoc _ _ _ (hf x (by simp)), h]) (fun y hy => hf y (by simp [hy]))]
    simp
theorem parts_join (b : UInt8) (rs : List (List UInt8)) (hne : rs ≠ []) (hf : ∀ x ∈ rs, ∀ c ∈ x, c ≠ b) : parts (joinP b rs) b = rs := by
  cases rs with
  | nil => exact absurd rfl hne
  | cons r rs =>
    have h := parts_foldl b rs r [r] (parts_free r b (hf r (by simp))) (fun x hx => hf x (by simp [hx]))
    simpa [joinP] using h
theorem upP_part_free (l : List UInt8) (b : UInt8) (k : Nat) (hk : k ≤ l.length) : (∀ x ∈ (upP l b k).1, ∀ c ∈ x, c ≠ b) ∧ (∀ c ∈ (l.take k).drop (upP l b k).2, c ≠ b) := by
  induction k with
  | zero => simp [upP]
  | succ k ih =>
    obtain ⟨h1, h2⟩ := ih (by omega)
    have hl := upP_le l b k
    have ht : l.take (k + 1) = l.take k ++ [l[k]] := List.take_succ_eq_append_getElem (by omega)
    rw [upP]
    split
    · refine ⟨fun x hx => ?_, by simp⟩
      rw [List.mem_append] at hx
      rcases hx with hx | hx
      · exact h1 x hx
      · rw [List.mem_singleton] at hx
        subst hx
        exact h2
    · rename_i hb
      refine ⟨h1, fun c hc => ?_⟩
      rw [ht, List.drop_append_of_le_length (by rw [List.length_take]; omega), List.mem_append] at hc
      rcases hc with hc | hc
      · exact h2 c hc
      · rw [List.mem_singleton] at hc
        rw [hc]
        rintro rfl
        exact hb (List.getElem?_eq_getElem (by omega))
theorem part_free (l : List UInt8) (b : UInt8) : ∀ x ∈ parts l b, ∀ c ∈ x, c ≠ b := by
  obtain ⟨h1, h2⟩ := upP_part_free l b l.length (Nat.le_refl _)
  rw [List.take_length] at h2
  intro x hx
  rw [parts, List.mem_append] at hx
  rcases hx with hx | hx
  · exact h1 x hx
  · rw [List.mem_singleton] at hx
    subst hx
    exact h2

/-! ### pictures -/
/-- A sign. -/
def sgn (d : Bool) : UInt8 := if d then 111 else 46
def isSgn (c : UInt8) : Bool := c == 111 || c == 46
/-- Whether rows are those of a picture. -/
def rowsOk (rs : List (List UInt8)) : Bool := decide (rs.length ≤ 24) && decide (1 ≤ (rs.headD []).length) && decide ((rs.headD []).length ≤ 24) && rs.all (fun r => decide (r.length = (rs.headD []).length) && r.all isSgn)
def isPic (l : List UInt8) : Bool := rowsOk (parts l 47)
/-- The rows of a grid, its text. -/
def gRow (W : Nat) (d : Nat → Bool) (y : Nat) : List UInt8 := (List.range W).map fun x => sgn (d (y * W + x))
def gRows (W H : Nat) (d : Nat → Bool) : List (List UInt8) := (List.range H).map (gRow W d)
def gText (W H : Nat) (d : Nat → Bool) : List UInt8 := joinP 47 (gRows W H d)
/-- The grid of a text. -/
def pW (l : List UInt8) : Nat := ((parts l 47).headD []).length
def pH (l : List UInt8) : Nat := (parts l 47).length
def pD (l : List UInt8) (i : Nat) : Bool := ((parts l 47).getD (i / pW l) []).getD (i % pW l) 0 == 111
theorem gRow_len (W : Nat) (d : Nat → Bool) (y : Nat) : (gRow W d y).length = W := by simp [gRow]
theorem gRows_len (W H : Nat) (d : Nat → Bool) : (gRows W H d).length = H := by simp [gRows]
theorem sgn_ok (d : Bool) : isSgn (sgn d) = true := by cases d <;> decide
theorem sgn_ne (d : Bool) : sgn d ≠ 47 := by cases d <;> decide
theorem sgn_eq (d : Bool) : (sgn d == 111) = d := by cases d <;> decide
theorem gRow_free (W : Nat) (d : Nat → Bool) (y : Nat) : ∀ c ∈ gRow W d y, c ≠ 47 := by
  intro c hc
  obtain ⟨x, _, rfl⟩ := List.mem_map.1 hc
  exact sgn_ne _
theorem gText_parts (W H : Nat) (d : Nat → Bool) (h : 1 ≤ H) : parts (gText W H d) 47 = gRows W H d := by
  refine parts_join 47 _ (fun e => ?_) (fun x hx => ?_)
  · have := gRows_len W H d
    rw [e] at this
    simp at this
    omega
  · obtain ⟨y, _, rfl⟩ := List.mem_map.1 hx
    exact gRow_free W d y
theorem gRows_head (W H : Nat) (d : Nat → Bool) (h : 1 ≤ H) : (gRows W H d).headD [] = gRow W d 0 := by
  obtain ⟨n, rfl⟩ : ∃ n, H = n + 1 := ⟨H - 1, by omega⟩
  simp [gRows, List.range_succ_eq_map]
theorem gText_pic (W H : Nat) (d : Nat → Bool) (w0 : 1 ≤ W) (w1 : W ≤ 24) (h0 : 1 ≤ H) (h1 : H ≤ 24) : isPic (gText W H d) = true := by
  unfold isPic rowsOk
  rw [gText_parts W H d h0, gRows_head W H d h0, gRows_len, gRow_len]
  simp only [Bool.and_eq_true, decide_eq_true_eq, List.all_eq_true]
  refine ⟨⟨⟨h1, w0⟩, w1⟩, fun r hr => ?_⟩
  obtain ⟨y, _, rfl⟩ := List.mem_map.1 hr
  refine ⟨gRow_len _ _ _, fun c hc => ?_⟩
  obtain ⟨x, _, rfl⟩ := List.mem_map.1 hc
  exact sgn_ok _
theorem gText_W (W H : Nat) (d : Nat → Bool) (h : 1 ≤ H) : pW (gText W H d) = W := by rw [pW, gText_parts W H d h, gRows_head W H d h, gRow_len]
theorem gText_H (W H : Nat) (d : Nat → Bool) (h : 1 ≤ H) : pH (gText W H d) = H := by rw [pH, gText_parts W H d h, gRows_len]
theorem gText_D (W H : Nat) (d : Nat → Bool) (h : 1 ≤ H) (i : Nat) (hi : i < W * H) : pD (gText W H d) i = d i := by
  have hw : 0 < W := by
    rcases Nat.eq_zero_or_pos W with e | e
    · rw [e] at hi; simp at hi
    · exact e
  have hy : i / W < H := Nat.div_lt_of_lt_mul hi
  have hx : i % W < W := Nat.mod_lt _ hw
  unfold pD
  rw [gText_W W H d h, gText_parts W H d h]
  have e1 : (gRows W H d).getD (i / W) [] = gRow W d (i / W) := by simp [gRows, List.getD, hy]
  rw [e1]
  have e2 : (gRow W d (i / W)).getD (i % W) 0 = sgn (d (i / W * W + i % W)) := by simp [gRow, List.getD, hx]
  rw [e2, sgn_eq]
  congr 1
  rw [Nat.mul_comm]
  exact Nat.div_add_mod i W
theorem sgn_of {c : UInt8} (h : isSgn c = true) : sgn (c == 111) = c := by
  unfold isSgn at h
  unfold sgn
  by_cases e : c = 111
  · rw [e]; rfl
  · have e1 : (c == 111) = false := by simpa using e
    rw [e1] at h ⊢
    simp at h
    rw [h]
    rfl
/-- What is known of a picture's rows. -/
structure PicB (l : List UInt8) : Prop where
  h0 : 1 ≤ pH l
  h1 : pH l ≤ 24
  w0 : 1 ≤ pW l
  w1 : pW l ≤ 24
  len : ∀ y, y < pH l → ((parts l 47).getD y []).length = pW l
  sg : ∀ y x, y < pH l → x < pW l → isSgn (((parts l 47).getD y []).getD x 0) = true
theorem pic_b {l : List UInt8} (h : isPic l = true) : PicB l := by
  unfold isPic rowsOk at h
  simp only [Bool.and_eq_true, decide_eq_true_eq, List.all_eq_true] at h
  obtain ⟨⟨⟨h1, w0⟩, w1⟩, hr⟩ := h
  have e := fun y (hy : y < (parts l 47).length) => show (parts l 47).getD y [] = (parts l 47)[y] by simp [List.getD, hy]
  refine ⟨(parts_len l 47).1, h1, w0, w1, fun y hy => ?_, fun y x hy hx => ?_⟩
  · have hy2 : y < (parts l 47).length := hy
    rw [e y hy2]
    exact (hr _ (List.getElem_mem _)).1
  · have hy2 : y < (parts l 47).length := hy
    rw [e y hy2]
    have hx2 : x < ((parts l 47)[y]).length := by
      rw [(hr _ (List.getElem_mem hy2)).1]
      exact hx
    have e2 : ((parts l 47)[y]).getD x 0 = ((parts l 47)[y])[x] := by simp [List.getD, hx2]
    rw [e2]
    exact (hr _ (List.getElem_mem _)).2 _ (List.getElem_mem _)
theorem pic_rows {l : List UInt8} (h : isPic l = true) : gRows (pW l) (pH l) (pD l) = parts l 47 := by
  have hb := pic_b h
  refine List.ext_getElem (by rw [gRows_len]; rfl) fun y h1 h2 => ?_
  have hy : y < pH l := h2
  have e : (parts l 47).getD y [] = (parts l 47)[y]'h2 := by simp [List.getD, h2]
  have hl := hb.len y hy
  rw [e] at hl
  simp only [gRows, List.getElem_map, List.getElem_range]
  refine List.ext_getElem (by rw [gRow_len, hl]) fun x h3 h4 => ?_
  have hx : x < pW l := by rw [gRow_len] at h3; exact h3
  have hs := hb.sg y x hy hx
  have e2 : ((parts l 47).getD y []).getD x 0 = ((parts l 47)[y]'h2)[x]'h4 := by rw [e]; simp [List.getD, h4]
  simp only [gRow, List.getElem_map, List.getElem_range]
  have d1 : (y * pW l + x) / pW l = y := by
    rw [Nat.mul_comm, Nat.mul_add_div (by omega), Nat.div_eq_of_lt hx, Nat.add_zero]
  have d2 : (y * pW l + x) % pW l = x := by
    rw [Nat.mul_comm, Nat.mul_add_mod, Nat.mod_eq_of_lt hx]
  unfold pD
  rw [d1, d2, ← e2]
  exact sgn_of hs
theorem pic_text {l : List UInt8} (h : isPic l = true) : gText (pW l) (pH l) (pD l) = l := by
  unfold gText
  rw [pic_rows h, join_parts]
/-- Grids that agree where there are places have one text. -/
theorem gText_congr {W H : Nat} {d e : Nat → Bool} (h : ∀ i, i < W * H → d i = e i) : gText W H d = gText W H e := by
  unfold gText gRows
  congr 1
  refine List.map_congr_left fun y hy => ?_
  refine List.map_congr_left fun x hx => ?_
  rw [List.mem_range] at hy hx
  rw [h]
  have : (y + 1) * W ≤ H * W := Nat.mul_le_mul_right _ (by omega)
  rw [Nat.mul_comm H W] at this
  rw [Nat.succ_mul] at this
  omega
end Go.Proofs.YtljleceepghfjaaDoor
