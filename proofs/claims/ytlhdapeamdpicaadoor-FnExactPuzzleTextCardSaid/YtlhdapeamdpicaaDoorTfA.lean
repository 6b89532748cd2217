/- Plain facts of chapter 9: clues, what fits them, and puzzles. No program in sight. -/
import Derived.Test.YtlhdapeamdpicaaDoorRuM
import Derived.Test.YtlhdapeamdpicaaDoorNum
namespace Go.Proofs.YtlhdapeamdpicaaDoor

/-- A clue: its kind, A and B. -/
structure Clu where
  k : Int
  a : Int
  b : Int
/-- It is a clue. -/
def okc9 (c : Clu) : Bool :=
  if c.k = 0 ∨ c.k = 1 ∨ c.k = 5 then decide ((3 ≤ c.a ∧ c.a ≤ 24) ∧ c.b = 0)
  else if c.k = 2 then decide ((2 ≤ c.a ∧ c.a ≤ 100) ∧ (0 ≤ c.b ∧ c.b ≤ c.a - 1))
  else if c.k = 3 then decide ((0 ≤ c.a ∧ c.a ≤ 100) ∧ c.b = 0)
  else if c.k = 4 then decide ((0 ≤ c.a ∧ c.a ≤ 100) ∧ (3 ≤ c.b ∧ c.b ≤ 24))
  else false
/-- A number is polygonal. -/
noncomputable def shp9 (s n : Int) : Bool := decide (0 ≤ n) && (num s (pl s n) == n)
/-- The sum of the decimal digits, as the loop reckons it. -/
def dgs9 : Nat → Nat → Nat
  | 0, _ => 0
  | f + 1, n => if n = 0 then 0 else n % 10 + dgs9 f (n / 10)
theorem dgs9_zero (f : Nat) : dgs9 f 0 = 0 := by cases f <;> simp [dgs9]
theorem dgs9_more : ∀ (f g n : Nat), n ≤ f → f ≤ g → dgs9 f n = dgs9 g n
  | 0, g, n, h, _ => by
    obtain rfl : n = 0 := by omega
    rw [dgs9_zero, dgs9_zero]
  | f + 1, 0, n, _, h => by omega
  | f + 1, g + 1, n, h, hg => by
    rw [dgs9, dgs9]
    by_cases h0 : n = 0
    · rw [if_pos h0, if_pos h0]
    · rw [if_neg h0, if_neg h0, dgs9_more f g (n / 10) (by omega) (by omega)]
def dig9 (n : Nat) : Nat := dgs9 n n
theorem dig9_step (n : Nat) (h : 0 < n) : dig9 n = n % 10 + dig9 (n / 10) := by
  obtain ⟨m, rfl⟩ : ∃ m, n = m + 1 := ⟨n - 1, by omega⟩
  unfold dig9
  rw [dgs9, if_neg (by omega), dgs9_more ((m + 1) / 10) m ((m + 1) / 10) (Nat.le_refl _) (by omega)]
theorem dig9_zero : dig9 0 = 0 := rfl
theorem dig9_le : ∀ n, dig9 n ≤ n := fun n => by
  induction n using Nat.strongRecOn with
  | ind n ih =>
    by_cases h : n = 0
    · subst h; exact Nat.le_refl _
    · rw [dig9_step n (by omega)]
      have := ih (n / 10) (by omega)
      omega
/-- Two polygonal numbers of places of at least 1 are it together, the first one of a place up to k. -/
noncomputable def two9 (s n : Int) : Nat → Bool
  | 0 => false
  | k + 1 => two9 s n k || (decide (num s ((k : Int) + 1) < n) && shp9 s (n - num s ((k : Int) + 1)))
noncomputable def sum9 (s : Int) (n : Nat) : Bool := two9 s n n
theorem num_place (s : Int) (hs : 3 ≤ s) : ∀ k : Nat, (k : Int) ≤ num s k
  | 0 => by rw [show ((0 : Nat) : Int) = 0 from rfl, num_zero]; omega
  | k + 1 => by
    have h := num_place s hs k
    have h2 := num_succ s (k : Int)
    have h3 : 0 ≤ (s - 2) * (k : Int) := Int.mul_nonneg (by omega) (by omega)
    rw [show (((k + 1 : Nat)) : Int) = (k : Int) + 1 by omega]
    omega
/-- Behind a place whose number is not less none is found. -/
theorem two9_end (s : Int) (hs : 3 ≤ s) (n : Int) (k : Nat) (h : n ≤ num s ((k : Int) + 1)) : ∀ m, k ≤ m → two9 s n m = two9 s n k := fun m hm => by
  induction m with
  | zero => obtain rfl : k = 0 := by omega
            rfl
  | succ m ih =>
    rcases Nat.lt_or_ge m k with h1 | h1
    · obtain rfl : k = m + 1 := by omega
      rfl
    · have h2 := num_mono_le s hs (a := (k : Int) + 1) (b := (m : Int) + 1) (by omega) (by omega)
      rw [two9, ih h1, decide_eq_false (by omega), Bool.false_and, Bool.or_false]
theorem two9_found (s n : Int) (k : Nat) (h : two9 s n k = true) : ∀ m, k ≤ m → two9 s n m = true := fun m hm => by
  induction m with
  | zero => obtain rfl : k = 0 := by omega
            exact h
  | succ m ih =>
    rcases Nat.lt_or_ge m k with h1 | h1
    · obtain rfl : k = m + 1 := by omega
      exact h
    · rw [two9, ih h1, Bool.true_or]
/-- A number fits a clue. -/
noncomputable def fit9 (c : Clu) (n : Nat) : Bool :=
  if c.k = 0 then shp9 c.a n
  else if c.k = 1 then !shp9 c.a n
  else if c.k = 2 then decide ((n : Int) % c.a = c.b)
  else if c.k = 3 then decide ((dig9 n : Int) = c.a)
  else if c.k = 4 then shp9 c.b ((n : Int) - c.a)
  else sum9 c.a n
/-- A puzzle is one. -/
def okp9 (most : Int) (cs : List Clu) : Bool := decide (1 ≤ most ∧ most ≤ 500) && decide (cs.length ≤ 6) && cs.all okc9
/-- The numbers that fit all clues. -/
noncomputable def sol9 (cs : List Clu) (n : Nat) : List Int := sel (fun m => if cs.all (fun c => fit9 c m.toNat) = true then some m else none) n
/-- The cells of clues. -/
def flat9 : List Clu → List Int
  | [] => []
  | c :: l => c.k :: c.a :: c.b :: flat9 l
theorem flat9_len : ∀ cs : List Clu, (flat9 cs).length = cs.length * 3
  | [] => rfl
  | c :: l => by rw [flat9, List.length_cons, List.length_cons, List.length_cons, flat9_len l, List.length_cons]; omega
theorem flat9_app : ∀ a b : List Clu, flat9 (a ++ b) = flat9 a ++ flat9 b
  | [], b => rfl
  | c :: l, b => by rw [List.cons_append, flat9, flat9_app l b]; rfl
instance : Inhabited Clu := ⟨⟨0, 0, 0⟩⟩
def clu0 : Clu := ⟨0, 0, 0⟩
theorem flat9_at : ∀ (cs : List Clu) (k : Nat), k < cs.length → (flat9 cs)[k * 3]? = some (cs.getD k clu0).k ∧ (flat9 cs)[k * 3 + 1]? = some (cs.getD k clu0).a ∧ (flat9 cs)[k * 3 + 2]? = some (cs.getD k clu0).b
  | [], k, h => by simp at h
  | c :: l, 0, _ => ⟨rfl, rfl, rfl⟩
  | c :: l, k + 1, h => by
    have := flat9_at l k (by simpa using h)
    rw [show (k + 1) * 3 = k * 3 + 3 by omega, List.getD_cons_succ]
    exact this
/-- Out of three times as many numbers come clues. -/
def clues9 : Nat → List Int → List Clu
  | 0, _ => []
  | n + 1, Z => ⟨Z.getD 0 0, Z.getD 1 0, Z.getD 2 0⟩ :: clues9 n (Z.drop 3)
theorem clues9_len : ∀ (n : Nat) (Z : List Int), (clues9 n Z).length = n
  | 0, _ => rfl
  | n + 1, Z => by rw [clues9, List.length_cons, clues9_len n]
theorem clues9_flat : ∀ (n : Nat) (Z : List Int), Z.length = n * 3 → flat9 (clues9 n Z) = Z
  | 0, Z, h => by
    rw [clues9, flat9]
    exact (List.eq_nil_of_length_eq_zero (by omega)).symm
  | n + 1, Z, h => by
    match Z, h with
    | a :: b :: c :: l, h =>
      rw [clues9, flat9]
      show a :: b :: c :: flat9 (clues9 n l) = _
      rw [clues9_flat n l (by simp at h; omega)]
    | [], h => simp at h
    | [_], h => simp at h; omega
    | [_, _], h => simp at h; omega
end Go.Proofs.YtlhdapeamdpicaaDoor
