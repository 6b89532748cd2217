/- Plain facts of chapter 7, 4: rows turned and mirrored; borders and layers. No program in sight. -/
import Derived.Test.YtppdjjdejggjaaaDoorDtP
namespace Go.Proofs.YtppdjjdejggjaaaDoor

theorem rows_turn (W H : Nat) (d : Nat → Bool) : ((List.range W).map fun x => (List.range H).map fun j => sgn (d ((H - 1 - j) * W + x))) = gRows H W (tD W H d) := by
  unfold gRows
  refine List.map_congr_left fun x _ => ?_
  unfold gRow
  refine List.map_congr_left fun j hj => ?_
  rw [List.mem_range] at hj
  have d1 : (x * H + j) / H = x := by rw [Nat.mul_comm, Nat.mul_add_div (by omega), Nat.div_eq_of_lt hj, Nat.add_zero]
  have d2 : (x * H + j) % H = j := by rw [Nat.mul_comm, Nat.mul_add_mod, Nat.mod_eq_of_lt hj]
  rw [tD, d1, d2]
theorem rows_mirror (W H : Nat) (d : Nat → Bool) : (gRows W H d).map List.reverse = gRows W H (mD W d) := by
  unfold gRows
  rw [List.map_map]
  refine List.map_congr_left fun y _ => ?_
  refine List.ext_getElem (by simp [gRow]) fun x h1 h2 => ?_
  have hx : x < W := by simpa [gRow] using h2
  have d1 : (y * W + x) / W = y := by rw [Nat.mul_comm, Nat.mul_add_div (by omega), Nat.div_eq_of_lt hx, Nat.add_zero]
  have d3 : x % W = x := Nat.mod_eq_of_lt hx
  simp [gRow, mD, d1, d3]
/-- The places beside one, in the specification's order. -/
def nbs (W H i : Nat) : List Nat :=
  (if 0 < i % W then [i - 1] else []) ++ (if i % W < W - 1 then [i + 1] else []) ++ (if W ≤ i then [i - W] else []) ++ (if i < W * (H - 1) then [i + W] else [])
theorem nbs_lt {W H i j : Nat} (hi : i < W * H) (hj : j ∈ nbs W H i) : j < W * H := by
  have hw : 0 < W := by
    rcases Nat.eq_zero_or_pos W with e | e
    · rw [e] at hi; simp at hi
    · exact e
  have hh : 0 < H := by
    rcases Nat.eq_zero_or_pos H with e | e
    · rw [e] at hi; simp at hi
    · exact e
  have em := Nat.div_add_mod i W
  have hd : i / W < H := Nat.div_lt_of_lt_mul hi
  have hle : W * (i / W + 1) ≤ W * H := Nat.mul_le_mul_left W hd
  rw [Nat.mul_add, Nat.mul_one] at hle
  have hm := Nat.mod_lt i hw
  have hh1 : W * (H - 1) + W = W * H := by
    obtain ⟨n, rfl⟩ : ∃ n, H = n + 1 := ⟨H - 1, by omega⟩
    rw [Nat.add_sub_cancel, Nat.mul_add, Nat.mul_one]
  unfold nbs at hj
  simp only [List.mem_append] at hj
  rcases hj with ((hj | hj) | hj) | hj
  · split at hj
    · simp at hj; omega
    · simp at hj
  · split at hj
    · simp at hj; omega
    · simp at hj
  · split at hj
    · simp at hj; omega
    · simp at hj
  · split at hj
    · simp at hj; omega
    · simp at hj
/-- Whether a place is a dot of the border; the dots that stay. -/
def brd (W H : Nat) (d : Nat → Bool) (i : Nat) : Bool := d i && (decide ((nbs W H i).length < 4) || (nbs W H i).any fun j => !d j)
def tkn (W H : Nat) (d : Nat → Bool) (i : Nat) : Bool := d i && !brd W H d i
/-- How many of the first n. -/
def cnt (f : Nat → Bool) (n : Nat) : Nat := (List.range n).countP f
theorem cnt_succ (f : Nat → Bool) (n : Nat) : cnt f (n + 1) = cnt f n + (if f n then 1 else 0) := by
  simp [cnt, List.range_succ, List.countP_append, List.countP_cons]
theorem cnt_le (f : Nat → Bool) (n : Nat) : cnt f n ≤ n := by
  have := List.countP_le_length (p := f) (l := List.range n)
  simpa [cnt] using this
/-- What layers there are, in at most so many rounds. -/
def lys (W H : Nat) : Nat → (Nat → Bool) → List Int
  | 0, _ => []
  | n + 1, d => if cnt (brd W H d) (W * H) = 0 then [] else (cnt (brd W H d) (W * H) : Int) :: lys W H n (tkn W H d)
theorem cnt_tkn (W H : Nat) (d : Nat → Bool) (n : Nat) : cnt (tkn W H d) n + cnt (brd W H d) n = cnt d n := by
  induction n with
  | zero => rfl
  | succ n ih =>
    rw [cnt_succ, cnt_succ, cnt_succ, ← ih]
    have hb : brd W H d n = true → d n = true := by
      unfold brd
      cases d n <;> simp
    have e : tkn W H d n = (d n && !brd W H d n) := rfl
    rw [e]
    cases h1 : d n <;> cases h2 : brd W H d n <;> simp_all <;> omega
end Go.Proofs.YtppdjjdejggjaaaDoor
