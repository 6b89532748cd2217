/- Plain facts of chapter 7, 5: pieces: places that hang together. No program in sight. -/
import Derived.Test.YtppdjjdejggjaaaDoorDtQ
namespace Go.Proofs.YtppdjjdejggjaaaDoor

/-- From a dot to the dots beside it, and on. -/
inductive Conn (W H : Nat) (d : Nat → Bool) (a : Nat) : Nat → Prop
  | here : d a = true → Conn W H d a a
  | step {i j : Nat} : Conn W H d a i → j ∈ nbs W H i → d j = true → Conn W H d a j
theorem nbs_mem (W H i j : Nat) : j ∈ nbs W H i ↔ (0 < i % W ∧ j = i - 1) ∨ (i % W < W - 1 ∧ j = i + 1) ∨ (W ≤ i ∧ j = i - W) ∨ (i < W * (H - 1) ∧ j = i + W) := by
  unfold nbs
  simp only [List.mem_append]
  constructor
  · rintro (((h | h) | h) | h)
    · split at h
      · simp at h; exact .inl ⟨by assumption, h⟩
      · simp at h
    · split at h
      · simp at h; exact .inr (.inl ⟨by assumption, h⟩)
      · simp at h
    · split at h
      · simp at h; exact .inr (.inr (.inl ⟨by assumption, h⟩))
      · simp at h
    · split at h
      · simp at h; exact .inr (.inr (.inr ⟨by assumption, h⟩))
      · simp at h
  · rintro (⟨h, rfl⟩ | ⟨h, rfl⟩ | ⟨h, rfl⟩ | ⟨h, rfl⟩)
    · simp [h]
    · simp [h]
    · simp [h]
    · simp [h]
theorem nbs_symm {W H i j : Nat} (hi : i < W * H) (h : j ∈ nbs W H i) : i ∈ nbs W H j := by
  have hw : 0 < W := by
    rcases Nat.eq_zero_or_pos W with e | e
    · rw [e] at hi; simp at hi
    · exact e
  have hh : 0 < H := by
    rcases Nat.eq_zero_or_pos H with e | e
    · rw [e] at hi; simp at hi
    · exact e
  have hh1 : W * (H - 1) + W = W * H := by
    obtain ⟨n, rfl⟩ : ∃ n, H = n + 1 := ⟨H - 1, by omega⟩
    rw [Nat.add_sub_cancel, Nat.mul_add, Nat.mul_one]
  have em := Nat.div_add_mod i W
  have hm := Nat.mod_lt i hw
  rw [nbs_mem] at h ⊢
  rcases h with ⟨h, rfl⟩ | ⟨h, rfl⟩ | ⟨h, rfl⟩ | ⟨h, rfl⟩
  · right; left
    have e : (i - 1) % W = i % W - 1 := by
      have : i - 1 = W * (i / W) + (i % W - 1) := by omega
      rw [this, Nat.mul_add_mod, Nat.mod_eq_of_lt (by omega)]
    rw [e]
    omega
  · left
    have e : (i + 1) % W = i % W + 1 := by
      have : i + 1 = W * (i / W) + (i % W + 1) := by omega
      rw [this, Nat.mul_add_mod, Nat.mod_eq_of_lt (by omega)]
    rw [e]
    omega
  · right; right; right
    omega
  · right; right; left
    omega
section
variable {W H : Nat} {d : Nat → Bool} {a i j : Nat}
theorem conn_dot (h : Conn W H d a i) : d i = true := by
  cases h with
  | here h => exact h
  | step _ _ h => exact h
theorem conn_start (h : Conn W H d a i) : d a = true := by
  induction h with
  | here h => exact h
  | step _ _ _ ih => exact ih
theorem conn_lt (ha : a < W * H) (h : Conn W H d a i) : i < W * H := by
  induction h with
  | here _ => exact ha
  | step _ hj _ ih => exact nbs_lt ih hj
theorem conn_trans (h : Conn W H d a i) (k : Conn W H d i j) : Conn W H d a j := by
  induction k with
  | here _ => exact h
  | step _ hj hd ih => exact .step ih hj hd
theorem conn_symm (ha : a < W * H) (h : Conn W H d a i) : Conn W H d i a := by
  induction h with
  | here h => exact .here h
  | step hc hj hd ih => exact conn_trans (.step (.here hd) (nbs_symm (conn_lt ha hc) hj) (conn_dot hc)) ih
end
/-- The first place of its piece. -/
def fstP (W H : Nat) (d : Nat → Bool) (a : Nat) : Prop := d a = true ∧ ∀ b, b < a → ¬ Conn W H d b a
open Classical in
/-- The piece of a place; what the pieces of the places before leave; the pieces of the first n places. -/
noncomputable def pce (W H : Nat) (d : Nat → Bool) (a : Nat) (i : Nat) : Bool := decide (Conn W H d a i)
open Classical in
noncomputable def rem (W H : Nat) (d : Nat → Bool) (a : Nat) (i : Nat) : Bool := d i && decide (∀ b, b < a → ¬ Conn W H d b i)
open Classical in
noncomputable def pcs (W H : Nat) (d : Nat → Bool) : Nat → List (List UInt8)
  | 0 => []
  | a + 1 => pcs W H d a ++ (if fstP W H d a then [gText W H (pce W H d a)] else [])
section
variable {W H : Nat} {d : Nat → Bool} {a i j : Nat}
theorem rem_zero (W H : Nat) (d : Nat → Bool) (i : Nat) : d i = rem W H d 0 i := by simp [rem]
theorem rem_iff : rem W H d a i = true ↔ d i = true ∧ ∀ b, b < a → ¬ Conn W H d b i := by simp [rem]
theorem rem_fst : rem W H d a a = true ↔ fstP W H d a := by rw [rem_iff]; rfl
theorem rem_no (h : ¬ fstP W H d a) : rem W H d a i = rem W H d (a + 1) i := by
  rw [Bool.eq_iff_iff, rem_iff, rem_iff]
  constructor
  · rintro ⟨h1, h2⟩
    refine ⟨h1, fun b hb hc => ?_⟩
    rcases Nat.lt_or_ge b a with hb2 | hb2
    · exact h2 b hb2 hc
    · obtain rfl : b = a := by omega
      apply h
      refine ⟨conn_start hc, fun c hca hcc => h2 c hca (conn_trans hcc hc)⟩
  · rintro ⟨h1, h2⟩
    exact ⟨h1, fun b hb => h2 b (by omega)⟩
theorem rem_yes (h : fstP W H d a) : rem W H d (a + 1) i = (rem W H d a i && !pce W H d a i) := by
  rw [Bool.eq_iff_iff, rem_iff, Bool.and_eq_true, rem_iff]
  constructor
  · rintro ⟨h1, h2⟩
    exact ⟨⟨h1, fun b hb => h2 b (by omega)⟩, by simp [pce, h2 a (by omega)]⟩
  · rintro ⟨⟨h1, h2⟩, h3⟩
    refine ⟨h1, fun b hb hc => ?_⟩
    rcases Nat.lt_or_ge b a with hb2 | hb2
    · exact h2 b hb2 hc
    · obtain rfl : b = a := by omega
      simp [pce, hc] at h3
/-- What hangs together with a first place is left. -/
theorem rem_of_conn (ha : a < W * H) (h : fstP W H d a) (hc : Conn W H d a i) : rem W H d a i = true := by
  rw [rem_iff]
  exact ⟨conn_dot hc, fun b hb hb2 => h.2 b hb (conn_trans hb2 (conn_symm ha hc))⟩
/-- A list that a place begins, in which all hang together with it, and that is closed, is its piece. -/
theorem conn_list (Q : List Nat) (ha : a ∈ Q) (h1 : ∀ i, i ∈ Q → Conn W H d a i) (h2 : ∀ i, i ∈ Q → ∀ j, j ∈ nbs W H i → d j = true → j ∈ Q) : ∀ i, pce W H d a i = decide (i ∈ Q) := by
  intro i
  unfold pce
  rw [decide_eq_decide]
  constructor
  · intro hc
    induction hc with
    | here _ => exact ha
    | step _ hj hd ih => exact h2 _ ih _ hj hd
  · exact h1 i
theorem pcs_len (W H : Nat) (d : Nat → Bool) (a : Nat) : (pcs W H d a).length ≤ a := by
  induction a with
  | zero => simp [pcs]
  | succ a ih =>
    rw [pcs, List.length_append]
    split <;> simp <;> omega
end
end Go.Proofs.YtppdjjdejggjaaaDoor
