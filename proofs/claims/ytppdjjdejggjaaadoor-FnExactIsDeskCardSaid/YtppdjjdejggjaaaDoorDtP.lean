/- Plain facts of chapter 7, 3: lengths of pictures; grids turned, mirrored, joined; dots counted. No program in sight. -/
import Derived.Test.YtppdjjdejggjaaaDoorDtN
namespace Go.Proofs.YtppdjjdejggjaaaDoor

theorem join_len (b : UInt8) (W : Nat) (rs : List (List UInt8)) : ∀ (acc : List UInt8), (∀ r ∈ rs, r.length = W) → (rs.foldl (fun acc x => acc ++ (b :: x)) acc).length = acc.length + rs.length * (W + 1) := by
  induction rs with
  | nil => intro acc _; simp
  | cons r rs ih =>
    intro acc h
    rw [List.foldl_cons, ih _ (fun x hx => h x (by simp [hx]))]
    have := h r (by simp)
    simp [this, Nat.succ_mul]
    omega
theorem pic_len {l : List UInt8} (h : isPic l = true) : l.length + 1 = pH l * (pW l + 1) := by
  have hb := pic_b h
  have e := pic_text h
  have hl : (gText (pW l) (pH l) (pD l)).length + 1 = pH l * (pW l + 1) := by
    have hr : ∀ r ∈ gRows (pW l) (pH l) (pD l), r.length = pW l := by
      intro r hr
      obtain ⟨y, _, rfl⟩ := List.mem_map.1 hr
      exact gRow_len _ _ _
    have hn := gRows_len (pW l) (pH l) (pD l)
    unfold gText
    cases hg : gRows (pW l) (pH l) (pD l) with
    | nil => rw [hg] at hn; simp at hn; have := hb.h0; omega
    | cons r rs =>
      rw [hg] at hn hr
      simp only [joinP]
      rw [join_len 47 (pW l) rs r (fun x hx => hr x (by simp [hx])), hr r (by simp)]
      simp at hn
      rw [← hn, Nat.succ_mul]
      omega
  rw [e] at hl
  exact hl
theorem pic_600 {l : List UInt8} (h : isPic l = true) : l.length ≤ 600 := by
  have e := pic_len h
  have hb := pic_b h
  have := Nat.mul_le_mul hb.h1 (Nat.add_le_add_right hb.w1 1)
  omega
/-- The grid turned by a quarter clockwise, mirrored, with other dots. -/
def tD (W H : Nat) (d : Nat → Bool) (i : Nat) : Bool := d ((H - 1 - i % H) * W + i / H)
def mD (W : Nat) (d : Nat → Bool) (i : Nat) : Bool := d (i / W * W + (W - 1 - i % W))
def oD (d : Nat → Bool) (i : Nat) : Bool := !d i
/-- One grid beside another one, one below another one. -/
def bD (W V : Nat) (d e : Nat → Bool) (i : Nat) : Bool := if i % (W + V) < W then d (i / (W + V) * W + i % (W + V)) else e (i / (W + V) * V + (i % (W + V) - W))
def uD (W H : Nat) (d e : Nat → Bool) (i : Nat) : Bool := if i < W * H then d i else e (i - W * H)
/-- How many dots. -/
def cntB (l : List UInt8) : Nat := l.countP (· == 111)
theorem cntB_succ (l : List UInt8) (k : Nat) (h : k < l.length) : cntB (l.take (k + 1)) = cntB (l.take k) + (if l[k] == 111 then 1 else 0) := by
  rw [List.take_succ_eq_append_getElem h, cntB, cntB, List.countP_append]
  simp [List.countP_cons]
theorem cntB_le (l : List UInt8) : cntB l ≤ l.length := List.countP_le_length
/-- Rows put beside each other, below each other. -/
theorem rows_beside (W V H : Nat) (d e : Nat → Bool) : List.zipWith (· ++ ·) (gRows W H d) (gRows V H e) = gRows (W + V) H (bD W V d e) := by
  refine List.ext_getElem (by simp [gRows]) fun y h1 h2 => ?_
  simp only [List.getElem_zipWith, gRows, List.getElem_map, List.getElem_range]
  refine List.ext_getElem (by simp [gRow]) fun x h3 h4 => ?_
  have hx : x < W + V := by simpa [gRow] using h4
  have d1 : (y * (W + V) + x) / (W + V) = y := by rw [Nat.mul_comm, Nat.mul_add_div (by omega), Nat.div_eq_of_lt hx, Nat.add_zero]
  have d3 : x % (W + V) = x := Nat.mod_eq_of_lt hx
  by_cases c : x < W
  · rw [List.getElem_append_left (by rw [gRow_len]; exact c)]
    simp [gRow, bD, d1, d3, c]
  · rw [List.getElem_append_right (by rw [gRow_len]; omega)]
    simp [gRow, bD, d1, d3, c]
theorem rows_below (W H G : Nat) (d e : Nat → Bool) : gRows W H d ++ gRows W G e = gRows W (H + G) (uD W H d e) := by
  refine List.ext_getElem (by simp [gRows]) fun y h1 h2 => ?_
  have hy : y < H + G := by simpa [gRows] using h2
  by_cases c : y < H
  · rw [List.getElem_append_left (by rw [gRows_len]; exact c)]
    simp only [gRows, List.getElem_map, List.getElem_range]
    refine List.ext_getElem (by simp [gRow]) fun x h3 h4 => ?_
    have hx : x < W := by simpa [gRow] using h4
    have hlt : y * W + x < W * H := by
      have : (y + 1) * W ≤ H * W := Nat.mul_le_mul_right _ (by omega)
      rw [Nat.mul_comm H W, Nat.succ_mul] at this
      omega
    simp [gRow, uD, hlt]
  · rw [List.getElem_append_right (by rw [gRows_len]; omega)]
    simp only [gRows, List.getElem_map, List.getElem_range, List.length_map, List.length_range]
    refine List.ext_getElem (by simp [gRow]) fun x h3 h4 => ?_
    have hx : x < W := by simpa [gRow] using h4
    have hge : ¬ y * W + x < W * H := by
      have : H * W ≤ y * W := Nat.mul_le_mul_right _ (by omega)
      rw [Nat.mul_comm H W] at this
      omega
    have e1 : (y - H) * W = y * W - W * H := by rw [Nat.sub_mul, Nat.mul_comm H W]
    have e2 : W * H ≤ y * W := by
      have : H * W ≤ y * W := Nat.mul_le_mul_right _ (by omega)
      rw [Nat.mul_comm H W] at this
      exact this
    have e3 : y * W + x - W * H = (y - H) * W + x := by omega
    simp [gRow, uD, hge, e3]
end Go.Proofs.YtppdjjdejggjaaaDoor
