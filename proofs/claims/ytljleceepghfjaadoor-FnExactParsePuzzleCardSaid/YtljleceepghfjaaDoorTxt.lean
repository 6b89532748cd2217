/- Plain arithmetic of texts: a number's digits read back, the place of a colon. No program in sight. -/
import Derived.WalkKit
import Derived.Lib.ItoaMem
import Derived.Lib.AtoiAllCases
import Derived.Lib.IndexLaws
import Derived.Test.YtljleceepghfjaaDoorMa
namespace Go.Proofs.YtljleceepghfjaaDoor
open Go.Lib

theorem dgv (u : Nat) (h : u < 10) : (UInt8.ofNat (48 + u)).toNat = 48 + u := by
  rw [UInt8.toNat_ofNat']
  omega

theorem dec_ind {Q : Nat → List UInt8 → Prop} (h0 : ∀ u, u < 10 → Q u [UInt8.ofNat (48 + u)]) (h1 : ∀ u, ¬ u < 10 → Q (u / 10) (decDigits (u / 10)) → Q u (decDigits (u / 10) ++ [UInt8.ofNat (48 + u % 10)])) (u : Nat) : Q u (decDigits u) := by
  induction u using Nat.strongRecOn with
  | _ u ih =>
    by_cases h : u < 10
    · rw [decDigits, dif_pos h]; exact h0 u h
    · rw [decDigits, dif_neg h]; exact h1 u h (ih (u / 10) (by omega))

/-- Every byte of a numeral is a digit. -/
theorem dec_digits (u : Nat) : ∀ c ∈ decDigits u, 48 ≤ c.toNat ∧ c.toNat ≤ 57 := by
  refine dec_ind (Q := fun _ l => ∀ c ∈ l, 48 ≤ c.toNat ∧ c.toNat ≤ 57) ?_ ?_ u
  · intro u h c hc
    simp only [List.mem_singleton] at hc
    subst hc
    rw [dgv u h]
    omega
  · intro u h ih c hc
    rw [List.mem_append] at hc
    rcases hc with hc | hc
    · exact ih c hc
    · simp only [List.mem_singleton] at hc
      subst hc
      rw [dgv (u % 10) (by omega)]
      omega
theorem dec_ne (u : Nat) : decDigits u ≠ [] := by
  refine dec_ind (Q := fun _ l => l ≠ []) ?_ ?_ u
  · intro u h; simp
  · intro u h ih; simp

/-! ### strconv.Atoi gives the number back -/
theorem pu_app (l r : List UInt8) (a b : Nat) (h : parseUint10 a l = .ok b) : parseUint10 a (l ++ r) = parseUint10 b r := by
  induction l generalizing a with
  | nil =>
    simp only [parseUint10] at h
    injection h with h
    rw [h]
    rfl
  | cons c l ih =>
    simp only [parseUint10, List.cons_append] at h ⊢
    split at h
    · rename_i hc
      rw [if_pos hc]
      split at h
      · cases h
      · rename_i h1
        rw [if_neg h1]
        split at h
        · cases h
        · rename_i h2
          rw [if_neg h2]
          exact ih _ h
    · cases h
theorem pu_dec (u : Nat) : u ≤ 1000000000 → parseUint10 0 (decDigits u) = .ok u := by
  refine dec_ind (Q := fun u l => u ≤ 1000000000 → parseUint10 0 l = .ok u) ?_ ?_ u
  · intro u h _
    simp only [parseUint10]
    rw [dgv u h, if_pos (by omega), if_neg (by omega), if_neg (by omega)]
    congr 1
    omega
  · intro u h ih hb
    rw [pu_app _ _ _ _ (ih (by omega))]
    simp only [parseUint10]
    rw [dgv (u % 10) (by omega), if_pos (by omega), if_neg (by omega), if_neg (by omega)]
    congr 1
    omega
theorem atoi_dec (u : Nat) (h : u ≤ 1000000000) : atoiAll (decDigits u) = .ok (u : Int) := by
  have h1 := pu_dec u h
  have h2 := dec_digits u
  have h3 := dec_ne u
  cases hl : decDigits u with
  | nil => exact absurd hl h3
  | cons c r =>
    rw [hl] at h1 h2
    have hc := h2 c (by simp)
    rw [atoiAll_plain c r (by omega) (by omega)]
    unfold parseMag
    rw [if_neg (by simp), h1]
    simp only [signless]
    rw [if_neg (by omega)]

/-! ### the first colon -/
theorem idx_app (x y : List UInt8) (h : ∀ c ∈ x, c ≠ 58) : indexByte (x ++ 58 :: y) 58 = (x.length : Int) := by
  induction x with
  | nil => simp [indexByte]
  | cons b x ih =>
    have hb : (b == 58) = false := by simpa using h b (by simp)
    have hi := ih fun c hc => h c (by simp [hc])
    simp only [List.cons_append, indexByte, hb, hi]
    have : ((x.length : Int) == -1) = false := by simp
    simp [this]
theorem idx_lt : ∀ (l : List UInt8) (c : UInt8), indexByte l c < (l.length : Int) ∨ (indexByte l c = -1)
  | [], c => Or.inr rfl
  | b :: l, c => by
    have ih := idx_lt l c
    simp only [indexByte]
    split
    · exact Or.inl (by simp)
    · split
      · exact Or.inr rfl
      · rename_i h
        have : indexByte l c ≠ -1 := by simpa using h
        left
        rcases ih with ih | ih
        · simp only [List.length_cons]; omega
        · exact absurd ih this

/-! ### the specification's reading -/
/-- The sides so far and the number so far, behind one byte more. -/
def pstep (st : Int × Int) (c : UInt8) : Int × Int :=
  if c.toNat = 58 then (st.2, 0) else if 48 ≤ c.toNat ∧ c.toNat ≤ 57 then (st.1, 10 * st.2 + ((c.toNat : Int) - 48)) else st
def pfold (l : List UInt8) : Int × Int := l.foldl pstep (0, 0)
theorem pfold_snoc (l : List UInt8) (c : UInt8) : pfold (l ++ [c]) = pstep (pfold l) c := by simp [pfold]
theorem pstep_bd (st : Int × Int) (c : UInt8) (p : Int) (hp : 0 < p) (h : 0 ≤ st.1 ∧ st.1 < p ∧ 0 ≤ st.2 ∧ st.2 < p) : 0 ≤ (pstep st c).1 ∧ (pstep st c).1 < 10 * p ∧ 0 ≤ (pstep st c).2 ∧ (pstep st c).2 < 10 * p := by
  unfold pstep
  split
  · simp only
    omega
  · split
    · simp only
      omega
    · omega
theorem pfold_bd' : ∀ (l : List UInt8) (st : Int × Int) (p : Int), 0 < p → (0 ≤ st.1 ∧ st.1 < p ∧ 0 ≤ st.2 ∧ st.2 < p) →
    0 ≤ (l.foldl pstep st).1 ∧ (l.foldl pstep st).1 < 10 ^ l.length * p ∧ 0 ≤ (l.foldl pstep st).2 ∧ (l.foldl pstep st).2 < 10 ^ l.length * p
  | [], st, p, hp, h => by simpa using h
  | c :: l, st, p, hp, h => by
    have := pfold_bd' l (pstep st c) (10 * p) (by omega) (pstep_bd st c p hp h)
    have e : (10 : Int) ^ (c :: l).length * p = 10 ^ l.length * (10 * p) := by rw [List.length_cons, Int.pow_succ, Int.mul_assoc]
    rw [e]
    simpa using this
theorem pfold_bd (l : List UInt8) : 0 ≤ (pfold l).1 ∧ (pfold l).1 < 10 ^ l.length ∧ 0 ≤ (pfold l).2 ∧ (pfold l).2 < 10 ^ l.length := by
  have := pfold_bd' l (0, 0) 1 (by omega) (by simp)
  simpa [pfold] using this
theorem pfold_dec (u : Nat) (a : Int) : (decDigits u).foldl pstep (a, 0) = (a, (u : Int)) := by
  refine dec_ind (Q := fun u l => l.foldl pstep (a, 0) = (a, (u : Int))) ?_ ?_ u
  · intro u h
    simp only [List.foldl_cons, List.foldl_nil, pstep]
    rw [dgv u h, if_neg (by omega), if_pos (by omega)]
    congr 1
    omega
  · intro u h ih
    rw [List.foldl_append, ih]
    simp only [List.foldl_cons, List.foldl_nil, pstep]
    rw [dgv (u % 10) (by omega), if_neg (by omega), if_pos (by omega)]
    congr 1
    omega
theorem pfold_txt (a b : Nat) : pfold (decDigits a ++ (58 :: decDigits b)) = ((a : Int), (b : Int)) := by
  unfold pfold
  rw [List.foldl_append, pfold_dec]
  have e : pstep ((0 : Int), (a : Int)) 58 = ((a : Int), 0) := by simp [pstep]
  rw [List.foldl_cons, e, pfold_dec]
end Go.Proofs.YtljleceepghfjaaDoor
