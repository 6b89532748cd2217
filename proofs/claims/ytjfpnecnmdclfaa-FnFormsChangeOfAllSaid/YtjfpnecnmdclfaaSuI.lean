/- Sums of different places: the first one; the specification's search. -/
import Derived.Test.YtjfpnecnmdclfaaSuF
namespace Go.Proofs.Ytjfpnecnmdclfaa
open Go.ChangeShapes Go.WideShapes Go.ChangeAt Go.RowKit

/-- The first list of different places up to k, if there is one. -/
def fd (s : Int) : Nat → Int → List Int
  | 0, _ => []
  | k + 1, m => if 0 < D s k (m - num s ((k : Int) + 1)) then ((k : Int) + 1) :: fd s k (m - num s ((k : Int) + 1)) else fd s k m
theorem fd_miss (s : Int) (k : Nat) (m : Int) (h : ¬ 0 < D s k (m - num s ((k : Int) + 1))) : fd s (k + 1) m = fd s k m ∧ D s (k + 1) m = D s k m := by
  refine ⟨by rw [fd, if_neg h], by rw [D]; omega⟩
theorem fd_hit (s : Int) (k : Nat) (m : Int) (h : 0 < D s k (m - num s ((k : Int) + 1))) : fd s (k + 1) m = ((k : Int) + 1) :: fd s k (m - num s ((k : Int) + 1)) ∧ 0 < D s (k + 1) m := by
  refine ⟨by rw [fd, if_pos h], by rw [D]; omega⟩
theorem fd_zero (s : Int) (hs : 3 ≤ s) (k : Nat) : fd s k 0 = [] := by
  induction k with
  | zero => rfl
  | succ k ih =>
    have h1 := num_pos s ((k : Int) + 1) hs (by omega)
    rw [(fd_miss s k 0 (by rw [D_neg s hs k (0 - num s ((k : Int) + 1)) (by omega)]; omega)).1, ih]
theorem D_k0 (s : Int) (k : Nat) : 0 < D s k 0 := by
  induction k with
  | zero => simp [D]
  | succ k ih => rw [D]; omega
theorem fd_len (s : Int) (k : Nat) : ∀ m : Int, (fd s k m).length ≤ k := by
  induction k with
  | zero => intro m; simp [fd]
  | succ k ih =>
    intro m
    rw [fd]
    split
    · simp only [List.length_cons]; have := ih (m - num s ((k : Int) + 1)); omega
    · have := ih m; omega
theorem fd_down (s : Int) (hs : 3 ≤ s) (m : Int) (j d : Nat) (h : m < num s ((j : Int) + 1)) : fd s (j + d) m = fd s j m ∧ D s (j + d) m = D s j m := by
  induction d with
  | zero => exact ⟨rfl, rfl⟩
  | succ d ih =>
    have h1 := num_mono_le s hs (a := (j : Int) + 1) (b := ((j + d : Nat) : Int) + 1) (by omega) (by omega)
    have h2 := fd_miss s (j + d) m (by rw [D_neg s hs (j + d) (m - num s (((j + d : Nat) : Int) + 1)) (by omega)]; omega)
    rw [← Nat.add_assoc, h2.1, h2.2]
    exact ih

/-- The sum of the numbers of the places 1, .., k. -/
def numSum (s : Int) : Nat → Int
  | 0 => 0
  | k + 1 => numSum s k + num s ((k : Int) + 1)
theorem num_small (s k : Int) (h1 : 3 ≤ s) (h2 : s ≤ 24) (h3 : 0 ≤ k) (h4 : k ≤ 100) : num s k ≤ 1000000 := by
  have h5 := num_mono_le s h1 h3 h4
  have h6 := num_twice s 100
  omega
theorem numSum_bds (s : Int) (h1 : 3 ≤ s) (h2 : s ≤ 24) (k : Nat) (hk : k ≤ 100) : 0 ≤ numSum s k ∧ numSum s k ≤ 1000000 * k := by
  induction k with
  | zero => simp [numSum]
  | succ k ih =>
    have h3 := ih (by omega)
    have h4 := num_small s ((k : Int) + 1) h1 h2 (by omega) (by omega)
    have h5 := num_nn s ((k : Int) + 1) h1
    rw [numSum]
    omega
theorem D_sum (s : Int) (hs : 3 ≤ s) (k : Nat) : ∀ m : Int, 0 < D s k m → m ≤ numSum s k := by
  induction k with
  | zero =>
    intro m h
    rw [D] at h
    by_cases e : m = 0
    · subst e; simp [numSum]
    · rw [if_neg e] at h; omega
  | succ k ih =>
    intro m h
    have h1 := num_nn s ((k : Int) + 1) hs
    rw [D] at h
    rw [numSum]
    by_cases e : 0 < D s k m
    · have := ih m e; omega
    · have := ih (m - num s ((k : Int) + 1)) (by omega); omega

theorem l1Least_any (a b : Int) (w : World) :
    Calls Try.prog 65 #[.int .i64 a, .int .i64 b] w fun e w' => e = .returned (.int .i64 (min a b)) ∧ w = w' := by
  by_cases h : a < b
  · have e : min a b = a := by omega
    have H := Lib.hid e
    clear e
    go_enter Try.func65, Try.ntmps65
    go_wp2
    go_ret
    exact ⟨by rw [H.out]; rfl, rfl⟩
  · have e : min a b = b := by omega
    have H := Lib.hid e
    clear e
    go_enter Try.func65, Try.ntmps65
    go_wp2
    go_ret
    exact ⟨by rw [H.out]; rfl, rfl⟩
/-- 'append(v, src...)', v the call's own, src whatever slice of one-cell elements that reads as the cells news. -/
theorem wpList_append_src {P : Program} {w : World} {ops : Array Oper} {rest : List Oper} {o : Oper} {a : Act} {Q : Exit → Act → World → Prop} (hgd : o.guard = none) (s x : Operand) (t : TypeId)
    (ho : o.op = .call { callee := .builtin .append, args := #[s, x], argTypes := #[t, t] })
    (base : Nat) (e : TypeId) (i : TypeInfo) (z : Value) (bytes : Nat) (ht : P.underlying t = some (.slice e)) (hi : P.info? e = some i) (hz : i.zero = some z)
    (hsize : i.size = 1) (hby : i.bytes = bytes) (hzs : z.cells.size = 1)
    (v : Value) (n : Nat) (xs : List Value) (hs : a.eval s = v) (hown : w.ownsRow base e 1 v n xs)
    (A : Option Addr) (m c : Nat) (news : List Value) (hx : a.eval x = .slice A m c) (hl : news.length = m) (hi' : Nat) (hsrc : Rd w hi' A news) (h1 : ∀ u ∈ news, u.oneCell' = true)
    (h63 : n + m ≤ maxLen) (hbytes : (n + m) * bytes ≤ 140737488355328) (hbase : base ≤ w.heap.size)
    (h : ∀ v' w', w'.ownsRow base e 1 v' (n + m) (xs ++ news) → w.grownBy w' v.ownBlock → wpList P ops Q rest (a.put o.dst v') w') : wpList P ops Q (o :: rest) a w := by
  cases A with
  | none =>
    have hm : m = 0 := by
      rcases Nat.eq_zero_or_pos m with h0 | h0
      · exact h0
      · obtain ⟨ad, e, _⟩ := hsrc (by omega)
        cases e
    subst hm
    obtain rfl : news = [] := List.length_eq_zero_iff.1 hl
    exact wpList_append_own_zero hgd s x t ho base e i 1 c ht hi v n xs hs hown hx (h v w (by simpa using hown) ⟨rfl, rfl, rfl, Nat.le_refl _, fun _ _ _ => rfl⟩)
  | some ad =>
    refine wpList_append_own w hgd s x t ho base e i z 1 bytes ht hi hz hsize hby hzs (by omega) v n xs hs hown ad m c news hx (by omega) ?_ h1 h63 hbytes hbase (fun v' w' h2 h3 _ => h v' w' h2 h3)
    intro j u hj
    obtain ⟨ad', e, _, h5⟩ := hsrc (by have := (List.getElem?_eq_some_iff.1 hj).1; omega)
    injection e with e
    subst e
    exact h5 j u hj
theorem i64s_one (xs : List Int) : ∀ u ∈ i64s xs, u.oneCell' = true := by
  intro u hu
  simp at hu
  obtain ⟨x, _, rfl⟩ := hu
  rfl

def uok (s : Int) (k : Nat) (m : Int) : Bool := decide (0 < D s k m)
def ufd (s : Int) (k : Nat) (m : Int) : List Int := if 0 < D s k m then fd s k m else []
theorem u_yes {s : Int} {k : Nat} {m : Int} (h : 0 < D s k m) : uok s k m = true ∧ ufd s k m = fd s k m := ⟨by simp [uok, h], by rw [ufd, if_pos h]⟩
theorem u_no {s : Int} {k : Nat} {m : Int} (h : ¬ 0 < D s k m) : uok s k m = false ∧ ufd s k m = [] := ⟨by simp [uok, h], by rw [ufd, if_neg h]⟩

end Go.Proofs.Ytjfpnecnmdclfaa
