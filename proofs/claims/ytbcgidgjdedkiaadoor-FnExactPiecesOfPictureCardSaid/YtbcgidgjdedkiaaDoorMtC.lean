/- The texts XRuN XOwn XOwS XRuA XDuA XDuB XDuC joined. -/
import Derived.Test.YtbcgidgjdedkiaaDoorMtB
import Derived.Test.YtbcgidgjdedkiaaDoorChecked
import Derived.WalkKit
import Derived.WalkSpells
import Derived.Lib.Hide
import Derived.Deep.QuietTactic
import Derived.BigQuiet
import Derived.Deep.RegionHeld3
import Derived.Deep.AppendLies
import Derived.BigRegion
import Derived.Laws.EntriesVeiled
/- Plain arithmetic of chapter 5, 2: odd divisors counted, signed runs in order, differences of squares, one sorted list. No program in sight. -/
namespace Go.Proofs.YtbcgidgjdedkiaaDoor

/-- A list in the order of a key, none equal, is the only one of its permutations in that order. -/
theorem sort_uniq {α : Type} (key : α → Int) {l s : List α} (hp : l.Perm s) (hs : s.Pairwise fun x y => key x < key y) (hl : l.Pairwise fun x y => ¬ key y < key x) : l = s := by
  have hinj : ∀ a ∈ s, ∀ b ∈ s, key a = key b → a = b := by
    intro a ha b hb he
    clear hp hl
    induction s with
    | nil => simp at ha
    | cons x s ih =>
      rw [List.pairwise_cons] at hs
      simp only [List.mem_cons] at ha hb
      rcases ha with rfl | ha
      · rcases hb with rfl | hb
        · rfl
        · have := hs.1 b hb; omega
      · rcases hb with rfl | hb
        · have := hs.1 a ha; omega
        · exact ih hs.2 ha hb
  refine List.Perm.eq_of_pairwise (le := fun x y => key x ≤ key y) (fun a b ha hb h1 h2 => hinj a (hp.subset ha) b hb (by omega)) (hl.imp fun h => by omega) (hs.imp fun h => by omega) hp

/-! ### odd divisors -/
/-- How many of 1, 3, .., 2 k - 1 divide n. -/
def oddC (n : Int) (k : Nat) : Nat := ((List.range k).filter fun (j : Nat) => decide (n % (2 * (j : Int) + 1) = 0)).length
theorem oddC_yes (n : Int) (k : Nat) (h : n % (2 * (k : Int) + 1) = 0) : oddC n (k + 1) = oddC n k + 1 := by simp [oddC, List.range_succ, List.filter_append, h]
theorem oddC_no (n : Int) (k : Nat) (h : ¬ n % (2 * (k : Int) + 1) = 0) : oddC n (k + 1) = oddC n k := by simp [oddC, List.range_succ, List.filter_append, h]
theorem oddC_le (n : Int) (k : Nat) : oddC n k ≤ k := by
  refine Nat.le_trans (List.length_filter_le _ _) ?_
  simp
/-- The odd factor of a run's pair. -/
def oddOf (r : Int × Int) : Int := if r.2 % 2 = 1 then r.2 else 2 * r.1 - 1 + r.2
theorem odd_half (a b n : Int) (h : a * b = 2 * n) (_ : a % 2 = 1) (hb : b % 2 = 0) : a * (b / 2) = n := by
  have e : b = 2 * (b / 2) := by omega
  have e2 : a * b = 2 * (a * (b / 2)) := by
    rw [show a * b = a * (2 * (b / 2)) by rw [← e]]
    grind
  omega
theorem mod_of_mul {a c n : Int} (h : a * c = n) : n % a = 0 := by rw [← h]; exact mul_mod0 a c
theorem odd_count (n : Int) (k : Nat) (hn : 1 ≤ n) (hk : n < 2 * (k : Int) + 1) : oddC n k = (runsL n).length := by
  have hp : (((List.range k).filter fun (j : Nat) => decide (n % (2 * (j : Int) + 1) = 0)).map fun (j : Nat) => 2 * (j : Int) + 1).Perm ((runsL n).map oddOf) := by
    rw [List.perm_ext_iff_of_nodup]
    · intro d
      simp only [List.mem_map, List.mem_filter, List.mem_range, decide_eq_true_eq]
      constructor
      · rintro ⟨j, ⟨hj, hm⟩, rfl⟩
        obtain ⟨d, hd⟩ : ∃ d : Int, d = 2 * (j : Int) + 1 := ⟨_, rfl⟩
        rw [← hd] at hm ⊢
        have e := div_spec n d (by omega) hm
        have p := div_pos' n d hn (by omega) hm
        generalize n / d = c at e p
        have e2 : d * (2 * c) = 2 * n := by rw [← e]; grind
        rcases Int.lt_or_le d (2 * c) with h | h
        · refine ⟨((2 * c - d + 1) / 2, d), (mem_runsL n hn _).2 ⟨d, 2 * c, by omega, h, e2, by omega, rfl⟩, ?_⟩
          rw [oddOf, if_pos (by simp; omega)]
        · refine ⟨((d - 2 * c + 1) / 2, 2 * c), (mem_runsL n hn _).2 ⟨2 * c, d, by omega, by omega, by rw [Int.mul_comm]; exact e2, by omega, rfl⟩, ?_⟩
          rw [oddOf, if_neg (by simp)]
          simp only
          omega
      · rintro ⟨r, hr, rfl⟩
        obtain ⟨a, b, h1, h2, h3, h4, rfl⟩ := (mem_runsL n hn r).1 hr
        unfold oddOf
        by_cases ha : a % 2 = 1
        · have hb : b % 2 = 0 := by omega
          have e := odd_half a b n h3 ha hb
          have hle : a ≤ n := by
            rw [← e]
            have := Int.mul_le_mul_of_nonneg_left (show 1 ≤ b / 2 by omega) (show 0 ≤ a by omega)
            omega
          simp only [ha, if_true]
          refine ⟨(a / 2).toNat, ⟨by omega, ?_⟩, by omega⟩
          rw [show 2 * (((a / 2).toNat : Nat) : Int) + 1 = a by omega]
          exact mod_of_mul e
        · have hb : b % 2 = 1 := by omega
          have e := odd_half b a n (by rw [Int.mul_comm]; exact h3) hb (by omega)
          have hle : b ≤ n := by
            rw [← e]
            have := Int.mul_le_mul_of_nonneg_left (show 1 ≤ a / 2 by omega) (show 0 ≤ b by omega)
            omega
          simp only [ha, if_false]
          refine ⟨(b / 2).toNat, ⟨by omega, ?_⟩, by omega⟩
          rw [show 2 * (((b / 2).toNat : Nat) : Int) + 1 = b by omega]
          exact mod_of_mul e
    · rw [List.nodup_iff_pairwise_ne, List.pairwise_map]
      refine List.Pairwise.imp ?_ ((List.nodup_iff_pairwise_ne.1 List.nodup_range).filter _)
      intro a b hab h
      omega
    · rw [List.nodup_iff_pairwise_ne, List.pairwise_map]
      refine List.Pairwise.imp_of_mem ?_ (runs_lt n hn)
      intro x y hx hy ⟨h1, h2, h3⟩
      obtain ⟨a, b, a1, a2, a3, a4, rfl⟩ := (mem_runsL n hn x).1 hx
      obtain ⟨c, d, c1, c2, c3, c4, rfl⟩ := (mem_runsL n hn y).1 hy
      simp only at h1 h2 h3
      unfold oddOf
      by_cases ha : a % 2 = 1 <;> by_cases hc : c % 2 = 1 <;> simp only [ha, hc, if_true, if_false] <;> omega
  have := hp.length_eq
  simpa [oddC] using this

/-! ### signed runs -/
/-- The run of the same sum that begins at 0 or below. -/
def lessR (r : Int × Int) : Int × Int := (1 - r.1, r.1 + r.2 - 1 + r.1)
/-- The signed runs as the program appends them. -/
def signedP (rs : List (Int × Int)) : List (Int × Int) := rs.flatMap fun r => [r, lessR r]
theorem signedP_app (rs : List (Int × Int)) (r : Int × Int) : signedP (rs ++ [r]) = signedP rs ++ [r, lessR r] := by simp [signedP]
theorem signedP_len (rs : List (Int × Int)) : (signedP rs).length = 2 * rs.length := by
  induction rs with
  | nil => rfl
  | cons r rs ih => simp [signedP] at ih ⊢; omega
noncomputable def signedL (n : Int) : List (Int × Int) := sel (fS n true) (2 * n).toNat
theorem signed_lt (n : Int) : (signedL n).Pairwise fun x y => x.2 < y.2 := by
  unfold signedL
  refine sel_pairwise _ _ _ fun a b x y h1 h2 h3 hx hy => ?_
  unfold fS at hx hy
  split at hx
  · split at hy
    · injection hx with hx
      injection hy with hy
      subst hx
      subst hy
      exact h2
    · cases hy
  · cases hx
theorem signed_perm (n : Int) (hn : 1 ≤ n) : (signedP (runsL n)).Perm (signedL n) := by
  rw [List.perm_ext_iff_of_nodup]
  · intro r
    unfold signedP signedL
    rw [List.mem_flatMap, mem_sel]
    constructor
    · rintro ⟨x, hx, hr⟩
      obtain ⟨a, b, a1, a2, a3, a4, rfl⟩ := (mem_runsL n hn x).1 hx
      have ea : 2 * n % a = 0 := mod_of_mul a3
      have eb : 2 * n % b = 0 := mod_of_mul (by rw [Int.mul_comm]; exact a3)
      have da : 2 * n / a = b := by rw [← a3]; exact mul_div0 a b a1
      have db : 2 * n / b = a := by rw [← a3, Int.mul_comm]; exact mul_div0 b a (by omega)
      have hb : b ≤ 2 * n := by
        have := Int.mul_le_mul_of_nonneg_right a1 (show 0 ≤ b by omega)
        omega
      simp only [List.mem_cons, List.not_mem_nil, or_false] at hr
      rcases hr with rfl | rfl
      · refine ⟨a, a1, by omega, ?_⟩
        rw [fS, da, if_pos ⟨ea, by omega, Or.inl rfl⟩]
      · refine ⟨b, by omega, by omega, ?_⟩
        rw [fS, db, if_pos ⟨eb, by omega, Or.inl rfl⟩]
        simp only [lessR, Option.some.injEq, Prod.mk.injEq]
        omega
    · rintro ⟨l, h1, h2, h3⟩
      unfold fS at h3
      split at h3
      · rename_i hc
        obtain ⟨hm, hp, _⟩ := hc
        injection h3 with h3
        subst h3
        have e := div_spec (2 * n) l h1 hm
        have p := div_pos' (2 * n) l (by omega) h1 hm
        generalize 2 * n / l = c at *
        rcases Int.lt_or_le l c with h | h
        · refine ⟨((c - l + 1) / 2, l), (mem_runsL n hn _).2 ⟨l, c, h1, h, e, by omega, rfl⟩, by simp⟩
        · refine ⟨((l - c + 1) / 2, c), (mem_runsL n hn _).2 ⟨c, l, by omega, by omega, by rw [Int.mul_comm]; exact e, by omega, rfl⟩, ?_⟩
          simp only [lessR, List.mem_cons, Prod.mk.injEq, List.not_mem_nil, or_false]
          right
          omega
      · cases h3
  · unfold signedP
    rw [List.nodup_iff_pairwise_ne, List.pairwise_flatMap]
    refine ⟨fun x hx => ?_, ?_⟩
    · obtain ⟨a, b, a1, a2, a3, a4, rfl⟩ := (mem_runsL n hn x).1 hx
      simp [lessR]
      omega
    · refine List.Pairwise.imp_of_mem ?_ (runs_lt n hn)
      intro x y hx hy ⟨h1, h2, h3⟩ u hu v hv
      obtain ⟨a, b, a1, a2, a3, a4, rfl⟩ := (mem_runsL n hn x).1 hx
      obtain ⟨c, d, c1, c2, c3, c4, rfl⟩ := (mem_runsL n hn y).1 hy
      simp only [List.mem_cons, List.not_mem_nil, or_false, lessR] at hu hv
      simp only at h1 h2 h3
      rcases hu with rfl | rfl <;> rcases hv with rfl | rfl <;> (intro h; injection h with h5 h6; omega)
  · rw [List.nodup_iff_pairwise_ne]
    exact (signed_lt n).imp fun h e => by rw [e] at h; omega
theorem signed_len (n : Int) (h0 : 1 ≤ n) (h1 : n ≤ 1000000) : (signedL n).length ≤ 3000 := by
  rw [← (signed_perm n h0).length_eq, signedP_len]
  have := runs_len n h0 h1
  omega

/-! ### alike pairs: odd runs and differences of squares -/
def alikeB (x : Int × Int) : Bool := decide ((x.2 - x.1) % 2 = 0)
noncomputable def alikes (n : Int) : List (Int × Int) := (facs n).filter alikeB
def sqR (x : Int × Int) : List Int := [(x.1 + x.2) / 2, (x.2 - x.1) / 2]
def oddR (x : Int × Int) : Int × Int := (x.2 - x.1 + 1, x.1)
/-- What the specification looks at, a length of an odd run. -/
def fO (n l : Int) : Option (Int × Int) := if n % l = 0 ∧ ¬ (n / l - l + 1) % 2 = 0 then some (n / l - l + 1, l) else none
theorem odd_eq (n : Int) : sel (fO n) (rt n).toNat = (alikes n).map oddR := by
  have e : (alikes n).map oddR = (facs n).filterMap fun x => if alikeB x then some (oddR x) else none := by
    unfold alikes
    induction facs n with
    | nil => rfl
    | cons x l ih => cases h : alikeB x <;> simp [h, ih]
  rw [e, facs, sel_bind]
  refine sel_congr fun l h1 h2 => ?_
  unfold fO fP
  by_cases hm : n % l = 0
  · simp only [hm, if_true, Option.bind_some, alikeB, oddR, decide_eq_true_eq, true_and]
    by_cases hp : (n / l - l) % 2 = 0
    · have : ¬ (n / l - l + 1) % 2 = 0 := by omega
      simp [hp, this]
    · have : (n / l - l + 1) % 2 = 0 := by omega
      simp [hp, this]
  · simp [hm]
theorem alikes_len (n : Int) (h0 : 1 ≤ n) (h1 : n ≤ 1000000) : (alikes n).length ≤ 1500 := Nat.le_trans (List.length_filter_le _ _) (facs_len n h0 (by omega))
theorem mem_alikes (n : Int) (hn : 1 ≤ n) (x : Int × Int) : x ∈ alikes n ↔ 1 ≤ x.1 ∧ x.1 ≤ x.2 ∧ x.1 * x.2 = n ∧ (x.2 - x.1) % 2 = 0 := by
  unfold alikes
  rw [List.mem_filter, mem_facs n hn]
  simp [alikeB, and_assoc]
/-- Closer factors, a lesser sum. -/
theorem alikes_lt (n : Int) (hn : 1 ≤ n) : (alikes n).Pairwise fun x y => x.1 < y.1 ∧ y.1 + y.2 < x.1 + x.2 := by
  unfold alikes
  refine List.Pairwise.imp_of_mem ?_ ((facs_lt n hn).filter _)
  intro x y hx hy ⟨h1, h2⟩
  obtain ⟨a1, a2, a3⟩ := (mem_facs n hn x).1 (List.mem_filter.1 hx).1
  obtain ⟨b1, b2, b3⟩ := (mem_facs n hn y).1 (List.mem_filter.1 hy).1
  refine ⟨h1, ?_⟩
  rcases Int.lt_or_le (y.1 + y.2) (x.1 + x.2) with h | h
  · exact h
  · have m1 := Int.mul_pos (a := y.1 - x.1) (b := x.2 - y.1) (by omega) (by omega)
    have m2 := Int.mul_nonneg (a := y.1) (b := y.1 + y.2 - (x.1 + x.2)) (by omega) (by omega)
    have e1 : (y.1 - x.1) * (x.2 - y.1) = y.1 * (x.1 + x.2) - y.1 * y.1 - x.1 * x.2 := by grind
    have e2 : y.1 * (y.1 + y.2 - (x.1 + x.2)) = y.1 * y.1 + y.1 * y.2 - y.1 * (x.1 + x.2) := by grind
    omega
/-- The first numbers of the lists of squares fall. -/
theorem sq_falls (n : Int) (hn : 1 ≤ n) : (alikes n).Pairwise fun x y => (y.1 + y.2) / 2 < (x.1 + x.2) / 2 := by
  refine List.Pairwise.imp_of_mem ?_ (alikes_lt n hn)
  intro x y hx hy ⟨_, h2⟩
  have h3 := ((mem_alikes n hn x).1 hx).2.2.2
  have h4 := ((mem_alikes n hn y).1 hy).2.2.2
  omega
/-- What the specification looks at, a difference of two numbers. -/
def fQ (n d : Int) : Option (List Int) := if n % d = 0 ∧ (n / d - d) % 2 = 0 then some [(n / d + d) / 2, (n / d - d) / 2] else none
theorem sq_eq (n : Int) : sel (fQ n) (rt n).toNat = (alikes n).map sqR := by
  have e : (alikes n).map sqR = (facs n).filterMap fun x => if alikeB x then some (sqR x) else none := by
    unfold alikes
    induction facs n with
    | nil => rfl
    | cons x l ih => cases h : alikeB x <;> simp [h, ih]
  rw [e, facs, sel_bind]
  refine sel_congr fun l h1 h2 => ?_
  unfold fQ fP
  by_cases hm : n % l = 0
  · simp only [hm, if_true, Option.bind_some, alikeB, sqR, decide_eq_true_eq, true_and]
    by_cases hp : (n / l - l) % 2 = 0
    · have : n / l + l = l + n / l := by omega
      simp [hp, this]
    · simp [hp]
  · simp [hm]
/-- What is picked of r, r - 1, .., d + 1. -/
def selDown {α : Type} (f : Int → Option α) (r d : Nat) : List α := ((upTo r).drop d).reverse.filterMap f
theorem selDown_top {α : Type} (f : Int → Option α) (r : Nat) : selDown f r r = [] := by
  unfold selDown
  rw [List.drop_eq_nil_of_le (by simp [upTo])]
  rfl
theorem selDown_end {α : Type} (f : Int → Option α) (r : Nat) : selDown f r 0 = (sel f r).reverse := by simp [selDown, sel, List.filterMap_reverse]
theorem upTo_drop (r d : Nat) (h : d < r) : (upTo r).drop d = ((d : Int) + 1) :: (upTo r).drop (d + 1) := by
  rw [List.drop_eq_getElem_cons (by simp [upTo]; exact h)]
  simp [upTo]
theorem selDown_some {α : Type} (f : Int → Option α) (r d : Nat) (h : d < r) {x : α} (hx : f ((d : Int) + 1) = some x) : selDown f r d = selDown f r (d + 1) ++ [x] := by
  unfold selDown
  rw [upTo_drop r d h]
  simp [List.filterMap_append, hx]
theorem selDown_none {α : Type} (f : Int → Option α) (r d : Nat) (h : d < r) (hx : f ((d : Int) + 1) = none) : selDown f r d = selDown f r (d + 1) := by
  unfold selDown
  rw [upTo_drop r d h]
  simp [List.filterMap_append, hx]
theorem selDown_len {α : Type} (f : Int → Option α) (r d : Nat) : (selDown f r d).length ≤ r := by
  unfold selDown
  refine Nat.le_trans (List.length_filterMap_le _ _) ?_
  simp [upTo]
theorem rt_small (n : Int) (h0 : 1 ≤ n) (h1 : n ≤ 2000000) : 1 ≤ rt n ∧ rt n ≤ 1415 := by
  constructor
  · exact (rfits_iff n 1 (by omega) (by omega)).1 (by omega)
  · rcases Int.lt_or_le 1415 (rt n) with h | h
    · have := (rfits_iff n 1416 (by omega) (by omega)).2 (by omega)
      omega
    · exact h
/-- The last pair of factors. -/
theorem facs_last (n a : Int) (hn : 1 ≤ n) (h1 : 1 ≤ a) (h2 : a ≤ rt n) (hm : n % a = 0) (h : ∀ l, a < l → l ≤ rt n → ¬ n % l = 0) : facs n = sel (fP n) (a - 1).toNat ++ [(a, n / a)] := by
  have r := rt_nn n (by omega)
  unfold facs
  rw [sel_cut (fP n) (k := (a - 1).toNat + 1) (by omega)]
  · exact sel_some _ _ (by rw [show (((a - 1).toNat : Nat) : Int) + 1 = a by omega]; simp [fP, hm])
  · intro l h3 h4
    have := h l (by omega) (by omega)
    simp [fP, this]
theorem runs_ne (n : Int) (hn : 1 ≤ n) : runsL n ≠ [] := fun h => by
  have := (mem_runsL n hn ((2 * n - 1 + 1) / 2, 1)).2 ⟨1, 2 * n, by omega, by omega, by omega, by omega, rfl⟩
  rw [h] at this
  cases this
/-! ### triangles -/
def triR (r : Int × Int) : List Int := [r.1 + r.2 - 1, r.1 - 1]
theorem tri_falls (n : Int) (hn : 1 ≤ n) : (runsL n).Pairwise fun x y => y.1 + y.2 - 1 < x.1 + x.2 - 1 := (runs_lt n hn).imp fun h => by omega
end Go.Proofs.YtbcgidgjdedkiaaDoor
/- A slice whose cells are known; what the laws' helpers do with slices of numbers: compare, mark, look again. -/
namespace Go.Proofs.YtbcgidgjdedkiaaDoor
open Go.RowKit

/-- A slice at the address A has the cells cs, in a block from lo up to below hi, none of them frozen. -/
def Own (w : World) (lo hi : Nat) (A : Option Addr) (cs : List Value) : Prop :=
  0 < cs.length → ∃ g o, A = some ⟨g, o, none⟩ ∧ lo ≤ g ∧ g < hi ∧ ∀ j u, cs[j]? = some u → w.cell? ⟨g, o + j, none⟩ = some u ∧ w.frozen? ⟨g, o + j, none⟩ = false

section
variable {w w' : World} {lo hi : Nat} {A : Option Addr} {cs : List Value}
theorem Own.none_ : Own w lo hi none [] := fun h => absurd h (by simp)
theorem Own.nil_ : Own w lo hi A [] := fun h => absurd h (by simp)
theorem Own.below {B : Nat} (h : Own w lo hi A cs) (hb : Below B w w') (hB : hi ≤ B) : Own w' lo hi A cs := fun hn => by
  obtain ⟨g, o, e, h1, h2, hc⟩ := h hn
  refine ⟨g, o, e, h1, h2, fun j u hu => ?_⟩
  rw [hb.cell (p := ⟨g, o + j, none⟩) (Nat.lt_of_lt_of_le h2 hB), hb.frozen (p := ⟨g, o + j, none⟩) (Nat.lt_of_lt_of_le h2 hB)]
  exact hc j u hu
theorem Own.drewN (h : Own w lo hi A cs) (k : Nat) : Own (w.drewN k) lo hi A cs := h
theorem Own.wide (h : Own w lo hi A cs) {lo' hi' : Nat} (h1 : lo' ≤ lo) (h2 : hi ≤ hi') : Own w lo' hi' A cs := fun hn => by
  obtain ⟨g, o, e, h3, h4, hc⟩ := h hn
  exact ⟨g, o, e, by omega, by omega, hc⟩
theorem Own.at_ (h : Own w lo hi A cs) {k : Nat} (hk : k < cs.length) : ∃ g o, A = some ⟨g, o, none⟩ ∧ lo ≤ g ∧ g < hi ∧ w.cell? ⟨g, o + k, none⟩ = some cs[k] ∧ w.frozen? ⟨g, o + k, none⟩ = false := by
  obtain ⟨g, o, e, h1, h2, hc⟩ := h (by omega)
  obtain ⟨h3, h4⟩ := hc k _ (List.getElem?_eq_getElem hk)
  exact ⟨g, o, e, h1, h2, h3, h4⟩
/-- out of the library's word for a row of the call's own -/
theorem own_of_row {base : Nat} {e : TypeId} {size n c : Nat} (h : w.ownsRow base e size (.slice A n c) n cs) : Own w base w.heap.size A cs := fun hn => by
  obtain ⟨hl, h2⟩ := h
  rcases h2 with ⟨hv, h0⟩ | ⟨g, cap, cur, hv, hg, hh, hnc, hcm, hcs, ht⟩
  · subst h0
    simp at hl
    subst hl
    simp at hn
  · injection hv with hA _ _
    subst hA
    have hown : w.ownsRow base e size (.slice (some ⟨g, 0, none⟩) n cap) n cs := ⟨hl, .inr ⟨g, cap, cur, rfl, hg, hh, hnc, hcm, hcs, ht⟩⟩
    have hlt : g < w.heap.size := by
      rcases Nat.lt_or_ge g w.heap.size with h | h
      · exact h
      · rw [Array.getElem?_eq_none h] at hh; cases hh
    refine ⟨g, 0, rfl, hg, hlt, fun j u hu => ?_⟩
    have hj : j < n * size := by
      rw [← hl]
      exact (List.getElem?_eq_some_iff.1 hu).1
    rw [Nat.zero_add]
    exact ⟨(hown.cellAt j hj).trans hu, hown.frozenAt j⟩
theorem row_form {base : Nat} {e : TypeId} {size n : Nat} {v : Value} (h : w.ownsRow base e size v n cs) : ∃ A c, v = .slice A n c := by
  rcases h.2 with ⟨rfl, rfl⟩ | ⟨g, cap, cur, rfl, _⟩
  · exact ⟨_, _, rfl⟩
  · exact ⟨_, _, rfl⟩
end

theorem row_below {w w' : World} {base B : Nat} {e : TypeId} {size n : Nat} {v : Value} {cs : List Value} (h : w.ownsRow base e size v n cs) (hb : Below B w w') (hB : w.heap.size ≤ B) : w'.ownsRow base e size v n cs :=
  h.kept (row := none) ⟨hb.os, hb.tape, hb.output, hb.size, fun i hi _ => hb.block i (by omega)⟩ (by cases hv : v.ownBlock <;> simp)

/-- Numbers as cells. -/
abbrev i64s (xs : List Int) : List Value := xs.map (Value.int .i64)

/-- What a function with a slice of numbers and a bool hands back: the numbers xs, in memory of its own. -/
def ResI (ok : Bool) (xs : List Int) (w : World) (e : Ending) (w' : World) : Prop :=
  ∃ A c, e = .returned (.tuple #[.slice A xs.length c, .bool ok]) ∧ Own w' w.heap.size w'.heap.size A (i64s xs) ∧ Below w.heap.size w w'
theorem resI_nil {ok : Bool} {w w' : World} (hb : Below w.heap.size w w') : ResI ok [] w (.returned (.tuple #[.slice none 0 0, .bool ok])) w' := ⟨none, 0, rfl, Own.none_, hb⟩
theorem below_drewN {B : Nat} {a w : World} (h : Below B a w) (n : Nat) : Below B a (w.drewN n) := ⟨h.os, h.tape, h.output, h.size, h.block⟩

set_option maxHeartbeats 400000 in
theorem eqIntS_same (A B : Option Addr) (n c d l1 h1 l2 h2 : Nat) (xs : List Int) (w : World) (hn : xs.length = n) (hm : n ≤ 1000000000)
    (ha : Own w l1 h1 A (i64s xs)) (hb : Own w l2 h2 B (i64s xs)) :
    Calls Tryd.prog 42 #[.slice A n c, .slice B n d] w fun e w' => e = .returned (.bool true) ∧ ∃ q, w' = w.drewN q := by
  have HA := Lib.hid ha
  have HB := Lib.hid hb
  have HN := Lib.hid hn
  clear ha hb hn
  go_enter Tryd.func42, Tryd.ntmps42
  go_wp2
  go_loopw [5] (fun i wr => ∃ k q : Nat, k ≤ n ∧ i = .int .i64 k ∧ wr = w.drewN q) (fun i _ => n - (intOf i).toNat)
  case atStart => exact ⟨0, 0, Nat.zero_le _, rfl, rfl⟩
  case round =>
    obtain ⟨k, q, hk, rfl, rfl⟩ := hrel
    by_cases hlt : k < n
    · obtain ⟨g, o, rfl, _, _, hca, _⟩ := HA.out.at_ (k := k) (by simp [HN.out]; omega)
      obtain ⟨g', o', rfl, _, _, hcb, _⟩ := HB.out.at_ (k := k) (by simp [HN.out]; omega)
      have hcx : w.cell? ⟨g, o + k, none⟩ = some (.int .i64 (xs[k]'(by rw [HN.out]; exact hlt))) := by simpa using hca
      have hcy : w.cell? ⟨g', o' + k, none⟩ = some (.int .i64 (xs[k]'(by rw [HN.out]; exact hlt))) := by simpa using hcb
      generalize xs[k]'(by rw [HN.out]; exact hlt) = z at hcx hcy
      clear hca hcb
      have hi : (k : Int) < (n : Int) := by omega
      go_wp2
      go_quiet (fail)
      go_wp2
      go_roundw
      case rel => exact ⟨k + 1, _, by omega, by go_num, rfl⟩
      case measure => simp [intOf]; omega
    · go_wp2
      go_ret
      exact ⟨rfl, q, rfl⟩

/-- The numbers m, m + 1, .., n of them. -/
def marks (m : Int) (n : Nat) : List Int := (List.range n).map fun (j : Nat) => m + (j : Int)
theorem marks_len (m : Int) (n : Nat) : (marks m n).length = n := by simp [marks]
theorem marks_get (m : Int) (n k : Nat) (h : k < n) : (marks m n)[k]? = some (m + k) := by simp [marks, h]
theorem marks_set (m : Int) (cs : List Value) (k : Nat) (h : k < cs.length) : (i64s (marks m k) ++ cs.drop k).set k (.int .i64 (m + k)) = i64s (marks m (k + 1)) ++ cs.drop (k + 1) := by
  rw [List.set_append_right _ _ (by simp [marks_len])]
  simp only [List.length_map, marks_len, Nat.sub_self]
  rw [List.drop_eq_getElem_cons h, List.set_cons_zero]
  simp [marks, List.range_succ]
theorem Own.set_ {w : World} {lo hi g o : Nat} {cs : List Value} (h : Own w lo hi (some ⟨g, o, none⟩) cs) (k : Nat) (hk : k < cs.length) (u : Value) : Own (w.setCell ⟨g, o + k, none⟩ u) lo hi (some ⟨g, o, none⟩) (cs.set k u) := fun hn => by
  obtain ⟨g', o', e, h1, h2, hc⟩ := h (by omega)
  injection e with e
  injection e with e1 e2 _
  subst e1
  subst e2
  refine ⟨g, o, rfl, h1, h2, fun j v hv => ?_⟩
  rw [World.frozen?_setCell]
  by_cases hj : j = k
  · subst hj
    rw [List.getElem?_set_self hk] at hv
    injection hv with hv
    subst hv
    obtain ⟨h3, h4⟩ := hc j _ (List.getElem?_eq_getElem hk)
    exact ⟨World.cell?_setCell_same w _ _ h3, h4⟩
  · rw [List.getElem?_set_ne (fun e => hj e.symm)] at hv
    obtain ⟨h3, h4⟩ := hc j v hv
    refine ⟨(World.cell?_setCell_other w _ _ _ (fun e => ?_)).trans h3, h4⟩
    injection e with _ e _
    omega

set_option maxHeartbeats 400000 in
theorem markIntS_any (A : Option Addr) (n c lo hi : Nat) (cs : List Value) (m : Int) (w : World) (hn : cs.length = n) (hm : n ≤ 1000000000) (m0 : 0 ≤ m) (m1 : m ≤ 1000000000)
    (ha : Own w lo hi A cs) :
    Calls Tryd.prog 43 #[.slice A n c, .int .i64 m] w fun e w' => e = .returned (.int .i64 (m + n)) ∧ Own w' lo hi A (i64s (marks m n)) ∧ Below lo w w' := by
  have HA := Lib.hid ha
  have HN := Lib.hid hn
  clear ha hn
  go_enter Tryd.func43, Tryd.ntmps43
  go_wp2
  go_loopw [1, 5] (fun v i wr => ∃ k : Nat, k ≤ n ∧ i = .int .i64 k ∧ v = .int .i64 (m + k) ∧ Hid (Own wr lo hi A (i64s (marks m k) ++ cs.drop k)) ∧ Below lo w wr) (fun _ i _ => n - (intOf i).toNat)
  case atStart => exact ⟨0, Nat.zero_le _, rfl, by simp, by simpa [marks] using HA, Below.refl _ _⟩
  case round =>
    obtain ⟨k, hk, rfl, rfl, HO, hb⟩ := hrel
    by_cases hlt : k < n
    · have hlen : k < (i64s (marks m k) ++ cs.drop k).length := by simp [marks_len, HN.out]; omega
      obtain ⟨g, o, rfl, hg1, hg2, hca, hfa⟩ := HO.out.at_ hlen
      have hown := HO.out.set_ k hlen (.int .i64 (m + k))
      rw [marks_set m cs k (by rw [HN.out]; exact hlt)] at hown
      have HO2 := Lib.hid hown
      have hb2 : Below lo w (wr.setCell ⟨g, o + k, none⟩ (.int .i64 (m + k))) := hb.setCell hg1 _
      generalize (i64s (marks m k) ++ cs.drop k)[k]'hlen = z at hca
      clear hown hlen
      go_wp2
      go_roundw
      case rel => exact ⟨k + 1, by omega, by go_num, by go_num, HO2, hb2⟩
      case measure => simp [intOf]; omega
    · obtain rfl : k = n := by omega
      have hO := HO.out
      rw [List.drop_eq_nil_of_le (by rw [HN.out]; exact Nat.le_refl _), List.append_nil] at hO
      have HO3 := Lib.hid hO
      clear hO
      go_wp2
      go_ret
      exact ⟨rfl, HO3.out, hb⟩

set_option maxHeartbeats 400000 in
theorem heldIntS_any (A : Option Addr) (n c lo hi : Nat) (m : Int) (w : World) (hm : n ≤ 1000000000) (m0 : 0 ≤ m) (m1 : m ≤ 1000000000)
    (ha : Own w lo hi A (i64s (marks m n))) :
    Calls Tryd.prog 44 #[.slice A n c, .int .i64 m] w fun e w' => e = .returned (.int .i64 (m + n)) ∧ w = w' := by
  have HA := Lib.hid ha
  clear ha
  go_enter Tryd.func44, Tryd.ntmps44
  go_wp2
  go_loop [1, 5] (fun v i => ∃ k : Nat, k ≤ n ∧ i = .int .i64 k ∧ v = .int .i64 (m + k)) (fun _ i => n - (intOf i).toNat)
  case atStart => exact ⟨0, Nat.zero_le _, rfl, by simp⟩
  case round =>
    obtain ⟨k, hk, rfl, rfl⟩ := hrel
    by_cases hlt : k < n
    · obtain ⟨g, o, rfl, _, _, hca, _⟩ := HA.out.at_ (k := k) (by simp [marks_len]; exact hlt)
      have hcx : w.cell? ⟨g, o + k, none⟩ = some (.int .i64 (m + k)) := by
        rw [hca]
        simp [marks]
      clear hca
      go_wp2
      go_round
      case rel => exact ⟨k + 1, by omega, by go_num, by go_num⟩
      case measure => simp [intOf]; omega
    · obtain rfl : k = n := by omega
      go_wp2
      go_ret
      exact ⟨rfl, rfl⟩
end Go.Proofs.YtbcgidgjdedkiaaDoor
/- Slices of structs of two numbers: what the laws' helpers do with them. -/
namespace Go.Proofs.YtbcgidgjdedkiaaDoor
open Go.RowKit

/-- Pairs of numbers as cells. -/
def prs (xs : List (Int × Int)) : List Value := xs.flatMap fun x => [.int .i64 x.1, .int .i64 x.2]
theorem prs_len (xs : List (Int × Int)) : (prs xs).length = 2 * xs.length := by
  induction xs with
  | nil => rfl
  | cons x xs ih => simp [prs] at ih ⊢; omega
theorem prs_get (xs : List (Int × Int)) (k : Nat) (h : k < xs.length) : (prs xs)[2 * k]? = some (.int .i64 xs[k].1) ∧ (prs xs)[2 * k + 1]? = some (.int .i64 xs[k].2) := by
  induction xs generalizing k with
  | nil => simp at h
  | cons x xs ih =>
    cases k with
    | zero => simp [prs]
    | succ k =>
      have := ih k (by simpa using h)
      have e1 : 2 * (k + 1) = 2 * k + 1 + 1 := by omega
      have e2 : 2 * (k + 1) + 1 = 2 * k + 1 + 1 + 1 := by omega
      rw [e2, e1]
      simpa [prs] using this
theorem prs_app (xs : List (Int × Int)) (a b : Int) : prs xs ++ [.int .i64 a, .int .i64 b] = prs (xs ++ [(a, b)]) := by simp [prs]
theorem Own.pair_ {w : World} {lo hi : Nat} {A : Option Addr} {xs : List (Int × Int)} (h : Own w lo hi A (prs xs)) {k : Nat} (hk : k < xs.length) :
    ∃ g o, A = some ⟨g, o, none⟩ ∧ lo ≤ g ∧ g < hi ∧ w.cell? ⟨g, o + k * 2, none⟩ = some (.int .i64 xs[k].1) ∧ w.cell? ⟨g, o + k * 2 + 1, none⟩ = some (.int .i64 xs[k].2) := by
  obtain ⟨g, o, e, h1, h2, hc⟩ := h (by rw [prs_len]; omega)
  obtain ⟨p1, p2⟩ := prs_get xs k hk
  refine ⟨g, o, e, h1, h2, ?_, ?_⟩
  · rw [Nat.mul_comm k 2]; exact (hc _ _ p1).1
  · rw [Nat.mul_comm k 2, Nat.add_assoc]; exact (hc _ _ p2).1
theorem mark2_step {w : World} {lo hi n k : Nat} {A : Option Addr} {cs : List Value} {m : Int} (h : Own w lo hi A (i64s (marks m (2 * k)) ++ cs.drop (2 * k))) (hn : cs.length = 2 * n) (hk : k < n) :
    ∃ g o z z', A = some ⟨g, o, none⟩ ∧ lo ≤ g ∧ w.cell? ⟨g, o + k * 2, none⟩ = some z ∧ w.frozen? ⟨g, o + k * 2, none⟩ = false ∧ w.cell? ⟨g, o + k * 2 + 1, none⟩ = some z' ∧ w.frozen? ⟨g, o + k * 2 + 1, none⟩ = false ∧
      Own ((w.setCell ⟨g, o + k * 2, none⟩ (.int .i64 (m + 2 * k))).setCell ⟨g, o + k * 2 + 1, none⟩ (.int .i64 (m + 2 * k + 1))) lo hi (some ⟨g, o, none⟩) (i64s (marks m (2 * (k + 1))) ++ cs.drop (2 * (k + 1))) := by
  have hl0 : 2 * k < cs.length := by omega
  have hl1 : 2 * k + 1 < cs.length := by omega
  have hlen : 2 * k < (i64s (marks m (2 * k)) ++ cs.drop (2 * k)).length := by simp [marks_len]; omega
  have hlen1 : 2 * k + 1 < (i64s (marks m (2 * k)) ++ cs.drop (2 * k)).length := by simp [marks_len]; omega
  obtain ⟨g, o, rfl, hg1, hg2, hc⟩ := h (by omega)
  obtain ⟨c0, f0⟩ := hc _ _ (List.getElem?_eq_getElem hlen)
  obtain ⟨c1, f1⟩ := hc _ _ (List.getElem?_eq_getElem hlen1)
  have o1 := h.set_ (2 * k) hlen (.int .i64 (m + (2 * k : Nat)))
  rw [marks_set m cs (2 * k) hl0] at o1
  have o2 := o1.set_ (2 * k + 1) (by simp [marks_len]; omega) (.int .i64 (m + (2 * k + 1 : Nat)))
  rw [marks_set m cs (2 * k + 1) hl1] at o2
  have a0 : o + 2 * k = o + k * 2 := by omega
  have a1 : o + (2 * k + 1) = o + k * 2 + 1 := by omega
  have a2 : m + ((2 * k : Nat) : Int) = m + 2 * k := by omega
  have a3 : m + ((2 * k + 1 : Nat) : Int) = m + 2 * k + 1 := by omega
  have a4 : 2 * k + 1 + 1 = 2 * (k + 1) := by omega
  rw [a0, a1, a2, a3, a4] at o2
  refine ⟨g, o, _, _, rfl, hg1, by rw [← a0]; exact c0, by rw [← a0]; exact f0, by rw [← a1]; exact c1, by rw [← a1]; exact f1, o2⟩
/-- What a function with a slice of pairs and a bool hands back. -/
def ResP (ok : Bool) (xs : List (Int × Int)) (w : World) (e : Ending) (w' : World) : Prop :=
  ∃ A c, e = .returned (.tuple #[.slice A xs.length c, .bool ok]) ∧ Own w' w.heap.size w'.heap.size A (prs xs) ∧ Below w.heap.size w w'
theorem resP_nil {ok : Bool} {w w' : World} (hb : Below w.heap.size w w') : ResP ok [] w (.returned (.tuple #[.slice none 0 0, .bool ok])) w' := ⟨none, 0, rfl, Own.none_, hb⟩










end Go.Proofs.YtbcgidgjdedkiaaDoor
/- Chapter 5: bounds, a run's last number, the sums of runs. -/
namespace Go.Proofs.YtbcgidgjdedkiaaDoor
open Go.ChangeShapes Go.WideShapes Go.ChangeAt Go.RowKit

def betr (x lo hi : Int) : Bool := decide (lo ≤ x ∧ x ≤ hi)
theorem betr_yes {x lo hi : Int} (h1 : lo ≤ x) (h2 : x ≤ hi) : betr x lo hi = true := decide_eq_true ⟨h1, h2⟩
theorem betr_no {x lo hi : Int} (h : x < lo ∨ hi < x) : betr x lo hi = false := decide_eq_false (by omega)
theorem rin_any (x lo hi : Int) (w : World) : Calls Tryd.prog 75 #[.int .i64 x, .int .i64 lo, .int .i64 hi] w fun e w' => e = .returned (.bool (betr x lo hi)) ∧ w = w' := by
  by_cases h : x < lo ∨ hi < x
  · rw [betr_no h]; exact in_no _ _ _ _ h
  · rw [betr_yes (x := x) (lo := lo) (hi := hi) (by omega) (by omega)]; exact in_yes _ _ _ _ (by omega) (by omega)
theorem rwithin_any (x lo hi : Int) (w : World) : Calls Tryd.prog 95 #[.int .i64 x, .int .i64 lo, .int .i64 hi] w fun e w' => e = .returned (.bool (betr x lo hi)) ∧ w = w' := by
  by_cases h : x < lo ∨ hi < x
  · rw [betr_no h]; exact within_no _ _ _ _ h
  · rw [betr_yes (x := x) (lo := lo) (hi := hi) (by omega) (by omega)]; exact within_yes _ _ _ _ (by omega) (by omega)
theorem ret_bool {a b : Bool} (h : a = b) : Ending.returned (.bool a) = .returned (.bool b) := by rw [h]
/-! ### sums of runs -/
/-- What the walks over a run's sum ask. -/
structure SumBds (f l : Int) : Prop where
  f0 : -1000000 ≤ f
  f1 : f ≤ 1000000
  l0 : 0 ≤ l
  l1 : l ≤ 1000000
  p0 : -3000000000000 ≤ l * f
  p1 : l * f ≤ 3000000000000
  q0 : 0 ≤ l * (l - 1)
  q1 : l * (l - 1) ≤ 3000000000000
  r0 : -6000000000000 ≤ l * (f + (f + l - 1))
  r1 : l * (f + (f + l - 1)) ≤ 6000000000000
  s : (l * (f + (f + l - 1))).tdiv 2 = l * f + l * (l - 1) / 2
theorem sum_bds' (f l : Int) (f0 : -1000000 ≤ f) (f1 : f ≤ 1000000) (l0 : 0 ≤ l) (l1 : l ≤ 1000000) : SumBds f l := by
  have a1 := Int.mul_nonneg (a := l) (b := 1000000 - f) l0 (by omega)
  have a2 := Int.mul_nonneg (a := l) (b := 1000000 + f) l0 (by omega)
  have e1 : l * (1000000 - f) = 1000000 * l - l * f := by grind
  have e2 : l * (1000000 + f) = 1000000 * l + l * f := by grind
  have b1 := pr_nn l
  have b2 := Int.mul_nonneg (a := l) (b := 1000000 - l) l0 (by omega)
  have e3 : l * (1000000 - l) = 1000000 * l - l * (l - 1) - l := by grind
  have e4 : l * (f + (f + l - 1)) = 2 * (l * f) + l * (l - 1) := by grind
  have ev := even_pr l
  have e5 : (l * (f + (f + l - 1))).tdiv 2 = (l * (f + (f + l - 1))) / 2 := tdiv2 _ (by omega)
  refine ⟨f0, f1, l0, l1, by omega, by omega, by omega, by omega, by omega, by omega, ?_⟩
  rw [e5]
  omega
end Go.Proofs.YtbcgidgjdedkiaaDoor
/- Chapter 7: the program's sets of dots: the key's type; has, add. -/
namespace Go.Proofs.YtbcgidgjdedkiaaDoor
open Go.ChangeShapes Go.WideShapes Go.ChangeAt Go.RowKit Go.Maps

theorem akey : WideMaps.ArrKey Tryd.prog 58 3 2 := ⟨Tryd.underlying58, by kernel_rfl, by kernel_rfl, by kernel_rfl⟩
theorem vkey : VKey Tryd.prog 58 :=
  vkey_of akey Tryd.underlying3 ⟨Tryd.prog.types.size - 1, by kernel_rfl⟩ (Keyed.of_law akey.law)
theorem zeroU (w : World) : (zeroValue 84).run Tryd.prog w = .ok (.agg #[]) w := by kernel_rfl
/-- Block b holds the dots of the set S. -/
abbrev Ds (w : World) (b : Nat) (S : Int → Int → Bool) : Prop := Dots Tryd.prog 58 w b S
abbrev Rs (w : World) (b r : Nat) (S L : Int → Int → Bool) : Prop := Rg Tryd.prog 58 w b r S L
theorem has_any (b : Nat) (S : Int → Int → Bool) (x y : Int) (w : World) (h : Ds w b S) (hw : wf2 x y) :
    Calls Tryd.prog 63 #[.map (some b), .agg #[.int .i64 x, .int .i64 y]] w fun e w' => e = .returned (.bool (S x y)) ∧ Below w.heap.size w w' := by
  go_enter Tryd.func63, Tryd.ntmps63
  go_wp2_with (at_lookup; refine dots_has vkey _ rfl _ _ 42 84 rfl Tryd.underlying42 (zeroU _) b S rfl (h.alloc _) x y rfl hw ?_)
  go_ret
  exact ⟨rfl, ((Below.refl _ _).alloc (Nat.le_refl _) _).alloc (by simp) _⟩
theorem add_any (b : Nat) (S : Int → Int → Bool) (x y : Int) (w : World) (h : Ds w b S) (hp : 0 ≤ x ∧ x < 100 ∧ 0 ≤ y ∧ y < 100) :
    Calls Tryd.prog 93 #[.map (some b), .agg #[.int .i64 x, .int .i64 y]] w fun e w' => e = .returned (.tuple #[]) ∧ Ds w' b (aS S x y) ∧ w.grownBy w' (some b) := by
  go_enter Tryd.func93, Tryd.ntmps93
  go_wp2_with (at_mapUpdate; refine dots_add vkey _ rfl _ _ _ 42 84 rfl Tryd.underlying42 b S rfl (h.alloc _) x y rfl rfl hp ?_; intro w1 h1 g1)
  go_end0
  exact ⟨rfl, h1, (World.grownBy_alloc _ _ _).trans g1⟩
end Go.Proofs.YtbcgidgjdedkiaaDoor
/- Chapter 7: the program's sets of dots: drop, and the library's Copy of a map into another one. -/
namespace Go.Proofs.YtbcgidgjdedkiaaDoor
open Go.ChangeShapes Go.WideShapes Go.ChangeAt Go.RowKit Go.Maps

/-- The dots that stay where those of T that are no longer to come are dropped; those that are there where those are laid in. -/
def dlS (S T L : Int → Int → Bool) (x y : Int) : Bool := S x y && !(T x y && !L x y)
def ulS (S T L : Int → Int → Bool) (x y : Int) : Bool := S x y || (T x y && !L x y)
theorem pick_at {x y u v : Int} (h : ¬ (u = x ∧ v = y)) : (decide (u = x) && decide (v = y)) = false := by
  by_cases a : u = x
  · have : ¬ v = y := fun b => h ⟨a, b⟩
    simp [this]
  · simp [a]
theorem dl_start (S T : Int → Int → Bool) (u v : Int) : S u v = dlS S T T u v := by unfold dlS; cases T u v <;> simp
theorem dl_end {S T L : Int → Int → Bool} (h : ∀ x y, L x y = false) (u v : Int) : dlS S T L u v = dS S T u v := by unfold dlS dS; rw [h]; simp
theorem dl_step {S T L : Int → Int → Bool} {x y : Int} (hT : T x y = true) (u v : Int) : rS (dlS S T L) x y u v = dlS S T (rS L x y) u v := by
  unfold dlS rS
  by_cases e : u = x ∧ v = y
  · obtain ⟨rfl, rfl⟩ := e
    simp [hT]
  · rw [pick_at e]
    simp
theorem ul_start (S T : Int → Int → Bool) (u v : Int) : S u v = ulS S T T u v := by unfold ulS; cases T u v <;> simp
theorem ul_end {S T L : Int → Int → Bool} (h : ∀ x y, L x y = false) (u v : Int) : ulS S T L u v = uS S T u v := by unfold ulS uS; rw [h]; simp
theorem ul_step {S T L : Int → Int → Bool} {x y : Int} (hT : T x y = true) (u v : Int) : aS (ulS S T L) x y u v = ulS S T (rS L x y) u v := by
  unfold ulS rS aS
  by_cases e : u = x ∧ v = y
  · obtain ⟨rfl, rfl⟩ := e
    simp [hT]
  · rw [pick_at e]
    simp
theorem drop_any (b c : Nat) (S T : Int → Int → Bool) (w : World) (h : Ds w b S) (g : Ds w c T) (hne : b ≠ c) :
    Calls Tryd.prog 73 #[.map (some b), .map (some c)] w fun e w' => e = .returned (.tuple #[]) ∧ Ds w' b (dS S T) ∧ w.grownBy w' (some b) := by
  have hbl := h.lt
  have hS := h.congr (dl_start S T)
  have HS := Lib.hid hS
  clear hS h
  go_enter Tryd.func73, Tryd.ntmps73
  go_wp2_with (at_range; refine dots_range vkey _ rfl _ 42 84 rfl Tryd.underlying42 c T rfl g ?_; intro w0 hr0 hg0 hs0)
  go_frame
  have HR0 := Lib.hid hr0
  have HD0 := Lib.hid (HS.out.kept hg0 (by simp))
  have HG0 := Lib.hid (hg0.but (some b))
  clear hr0 hg0 hs0 g HS
  go_loopw [4] (fun _ wr => ∃ L, Hid (Rs wr c w.heap.size T L) ∧ Hid (Ds wr b (dlS S T L)) ∧ Hid (w.grownBy wr (some b))) (fun _ wr => wr.rangeLeft c w.heap.size)
  case atStart => exact ⟨T, HR0, HD0, HG0⟩
  case round =>
    obtain ⟨L, HR, HD, HG⟩ := hrel
    go_wp2_with (at_next; refine dots_next vkey _ rfl _ rfl c w.heap.size T L rfl HR.out ?_ ?_)
    · intro h0
      have HE := Lib.hid (HD.out.congr (dl_end h0))
      clear h0
      go_wp2
      go_end0
      exact ⟨rfl, HE.out, HG.out⟩
    · intro x y w2 hL hr2 hlt hg2 hs2 hen
      have hT := HR.out.sub hL
      have hw : wf2 x y := HR.out.dots.bd.wf hT
      have HR2 := Lib.hid hr2
      have HD2 := Lib.hid ((HD.out.kept hg2 (by simp; omega)).alloc (.cells #[.int .i64 x, .int .i64 y] 58))
      have HG2 := Lib.hid (HG.out.andThen hg2 (by intro j hj; cases hj; exact Or.inl (Nat.le_refl _)))
      have HLT := Lib.hid hlt
      have HT := Lib.hid hT
      clear hr2 hlt hL hT hg2
      go_wp2_with (at_delete; refine dots_del vkey _ rfl _ _ 42 84 rfl Tryd.underlying42 b _ rfl HD2.out x y rfl hw ?_; intro w3 hd3 hg3)
      go_frame
      have hga := World.grownBy_alloc w2 (.cells #[.int .i64 x, .int .i64 y] 58) none
      have hR3 : Rs w3 c w.heap.size T (rS L x y) := (HR2.out.alloc _).kept hg3 (by simp; omega) (by simp; omega)
      have hl3 : w3.rangeLeft c w.heap.size = w2.rangeLeft c w.heap.size := by rw [(HR2.out.alloc (.cells #[.int .i64 x, .int .i64 y] 58)).left hg3 (by simp; omega) (by simp; omega), HR2.out.left hga (by simp) (by simp)]
      have HD3 := Lib.hid (hd3.congr (dl_step HT.out))
      have HG3 := Lib.hid ((HG2.out.andThen hga (by simp)).andThen hg3 (by intro j hj; exact Or.inr (by rw [hj])))
      have HR3 := Lib.hid hR3
      have HL3 := Lib.hid hl3
      clear hd3 hR3 hl3 hga hg3
      go_roundw
      case rel => exact ⟨_, HR3, HD3, HG3⟩
      case measure => rw [HL3.out]; exact HLT.out
theorem copy_any (b c : Nat) (S T : Int → Int → Bool) (w : World) (h : Ds w b S) (g : Ds w c T) (hne : b ≠ c) :
    Calls Tryd.prog 84 #[.map (some b), .map (some c)] w fun e w' => e = .returned (.tuple #[]) ∧ Ds w' b (uS S T) ∧ w.grownBy w' (some b) := by
  have hbl := h.lt
  have hS := h.congr (ul_start S T)
  have HS := Lib.hid hS
  clear hS h
  go_enter Tryd.func84, Tryd.ntmps84
  go_wp2_with (at_range; refine dots_range vkey _ rfl _ 42 84 rfl Tryd.underlying42 c T rfl g ?_; intro w0 hr0 hg0 hs0)
  go_frame
  have HR0 := Lib.hid hr0
  have HD0 := Lib.hid (HS.out.kept hg0 (by simp))
  have HG0 := Lib.hid (hg0.but (some b))
  clear hr0 hg0 hs0 g HS
  go_loopw [4] (fun _ wr => ∃ L, Hid (Rs wr c w.heap.size T L) ∧ Hid (Ds wr b (ulS S T L)) ∧ Hid (w.grownBy wr (some b))) (fun _ wr => wr.rangeLeft c w.heap.size)
  case atStart => exact ⟨T, HR0, HD0, HG0⟩
  case round =>
    obtain ⟨L, HR, HD, HG⟩ := hrel
    go_wp2_with (at_next; refine dots_next vkey _ rfl _ rfl c w.heap.size T L rfl HR.out ?_ ?_)
    · intro h0
      have HE := Lib.hid (HD.out.congr (ul_end h0))
      clear h0
      go_wp2
      go_end0
      exact ⟨rfl, HE.out, HG.out⟩
    · intro x y w2 hL hr2 hlt hg2 hs2 hen
      have hT := HR.out.sub hL
      have hbd := HR.out.dots.bd x y hT
      have HR2 := Lib.hid hr2
      have HD2 := Lib.hid (((HD.out.kept hg2 (by simp; omega)).alloc (.cells #[.int .i64 x, .int .i64 y] 58)).alloc (.cells #[] 84))
      have HG2 := Lib.hid (HG.out.andThen hg2 (by intro j hj; cases hj; exact Or.inl (Nat.le_refl _)))
      have HLT := Lib.hid hlt
      have HT := Lib.hid hT
      clear hr2 hlt hL hT hg2
      go_wp2_with (at_mapUpdate; refine dots_add vkey _ rfl _ _ _ 42 84 rfl Tryd.underlying42 b _ rfl HD2.out x y rfl rfl (by omega) ?_; intro w3 hd3 hg3)
      go_frame
      have hga := World.grownBy_alloc w2 (.cells #[.int .i64 x, .int .i64 y] 58) none
      have hgb := World.grownBy_alloc (w2.alloc (.cells #[.int .i64 x, .int .i64 y] 58)) (.cells #[] 84) none
      have hR3 : Rs w3 c w.heap.size T (rS L x y) := ((HR2.out.alloc _).alloc _).kept hg3 (by simp; omega) (by simp; omega)
      have hl3 : w3.rangeLeft c w.heap.size = w2.rangeLeft c w.heap.size := by
        rw [((HR2.out.alloc (.cells #[.int .i64 x, .int .i64 y] 58)).alloc (.cells #[] 84)).left hg3 (by simp; omega) (by simp; omega), (HR2.out.alloc (.cells #[.int .i64 x, .int .i64 y] 58)).left hgb (by simp) (by simp), HR2.out.left hga (by simp) (by simp)]
      have HD3 := Lib.hid (hd3.congr (ul_step HT.out))
      have HG3 := Lib.hid (((HG2.out.andThen hga (by simp)).andThen hgb (by simp)).andThen hg3 (by intro j hj; exact Or.inr (by rw [hj])))
      have HR3 := Lib.hid hR3
      have HL3 := Lib.hid hl3
      clear hd3 hR3 hl3 hga hgb hg3
      go_roundw
      case rel => exact ⟨_, HR3, HD3, HG3⟩
      case measure => rw [HL3.out]; exact HLT.out
end Go.Proofs.YtbcgidgjdedkiaaDoor
/- Chapter 7: the program's vectors: led by steps; the four places beside one. -/
namespace Go.Proofs.YtbcgidgjdedkiaaDoor
open Go.ChangeShapes Go.WideShapes Go.ChangeAt Go.RowKit Go.Maps

theorem infoVec : (Tryd.prog.info? 58).map (fun i => (i.zero, i.size, i.bytes)) = some (some (.agg #[.int .i64 0, .int .i64 0]), 2, 16) := by kernel_rfl
theorem dbl3 (w : World) (o p q : Obj) : Below w.heap.size w (((w.alloc o).alloc p).alloc q) := (((Below.refl _ _).alloc (Nat.le_refl _) _).alloc (by simp) _).alloc (by simp; omega) _
/-- The four steps, the four places beside one. -/
def stp : List (Int × Int) := [(1, 0), (0, 1), (-1, 0), (0, -1)]
def bsd (x y : Int) : List (Int × Int) := stp.map fun s => (x + s.1, y + s.2)
theorem bsd_len (x y : Int) : (bsd x y).length = 4 := rfl
/-- What a place is asked that is led by a vector a number of times, all small. -/
structure Sml (x y u v : Int) : Prop where
  x0 : -1000000 ≤ x
  x1 : x ≤ 1000000
  y0 : -1000000 ≤ y
  y1 : y ≤ 1000000
  u0 : -1000000 ≤ u
  u1 : u ≤ 1000000
  v0 : -1000000 ≤ v
  v1 : v ≤ 1000000
theorem led_any (x y u v : Int) (w : World) (h : Sml x y u v) :
    Calls Tryd.prog 83 #[.agg #[.int .i64 x, .int .i64 y], .agg #[.int .i64 u, .int .i64 v], .int .i64 1] w fun e w' => e = .returned (.agg #[.int .i64 (x + u), .int .i64 (y + v)]) ∧ Below w.heap.size w w' := by
  obtain ⟨x0, x1, y0, y1, a0, a1, b0, b1⟩ := h
  have e1 : IntKind.i64.wrap u = u := IntWalk.i64_in _ (by omega)
  have e2 : IntKind.i64.wrap v = v := IntWalk.i64_in _ (by omega)
  have e3 : IntKind.i64.wrap (x + u) = x + u := IntWalk.i64_in _ (by omega)
  have e4 : IntKind.i64.wrap (y + v) = y + v := IntWalk.i64_in _ (by omega)
  clear x0 x1 y0 y1 a0 a1 b0 b1
  go_enter Tryd.func83, Tryd.ntmps83
  go_wp2
  exact bodyPost_ret (v := .agg #[.int .i64 (x + u), .int .i64 (y + v)]) (by simp [results, Tryd.results83, go_sem]) rfl ⟨rfl, dbl3 _ _ _ _⟩
theorem spiral_dt (w : World) :
    Calls Tryd.prog 98 #[] w fun e w' => (∃ R, e = .returned (.agg #[.slice (some ⟨R, 0, none⟩) 4 4, .int .i64 2, .func (.func 103) #[] #[]]) ∧ w.heap.size ≤ R ∧ R < w'.heap.size ∧ ∀ j u, (prs stp)[j]? = some u → w'.cell? ⟨R, j, none⟩ = some u) ∧ Below w.heap.size w w' := by
  go_enter Tryd.func98, Tryd.ntmps98
  go_wp2
  exact bodyPost_ret (v := .agg #[.slice (some ⟨w.heap.size + 1, 0, none⟩) 4 4, .int .i64 2, .func (.func 103) #[] #[]]) (by simp [results, Tryd.results98, go_sem]) rfl
    ⟨⟨_, rfl, by omega, by simp, fun j u hu => by rw [World.cell?_alloc_at _ _ _ _ (by simp)]; simpa [prs, stp] using hu⟩, ((Below.refl _ _).alloc (Nat.le_refl _) _).alloc (by simp) _⟩
theorem cell_old {W : World} {p : Addr} {v : Value} (h : W.cell? p = some v) (o : Obj) : (W.alloc o).cell? p = some v := by
  rw [World.cell?_alloc_old _ _ _ (Nat.ne_of_lt (World.block_lt_of_cell? _ _ h))]
  exact h
theorem grown_refl (w : World) (row : Option Nat) : w.grownBy w row := ⟨rfl, rfl, rfl, Nat.le_refl _, fun _ _ _ => rfl⟩
theorem grown_tr {a b c : World} {row : Option Nat} (h : a.grownBy b row) (k : b.grownBy c row) : a.grownBy c row := h.andThen k fun _ e => Or.inr e
/-- A place appended to the call's own row of places. -/
theorem app_vec {ops : Array Oper} {rest : List Oper} {o : Oper} {a : Act} {Q : Exit → Act → World → Prop} (base : Nat) (w : World) (hgd : o.guard = none) (s x : Operand)
    (ho : o.op = .call { callee := .builtin .append, args := #[s, x], argTypes := #[64, 64] }) (v : Value) (n : Nat) (xs : List (Int × Int)) (hs : a.eval s = v) (hG : w.ownsRow base 58 2 v n (prs xs)) (hn : xs.length = n) (hB : base ≤ w.heap.size) (p q : Int)
    (hx : a.eval x = .slice (some ⟨w.heap.size, 0, none⟩) 1 1) (hl : n ≤ 100000)
    (h : ∀ v' w', w'.ownsRow base 58 2 v' (n + 1) (prs (xs ++ [(p, q)])) → w.grownBy w' v.ownBlock → wpList Tryd.prog ops Q rest (a.put o.dst v') w') : wpList Tryd.prog ops Q (o :: rest) a (w.alloc (.cells #[.int .i64 p, .int .i64 q] 58)) := by
  obtain ⟨i0, hi0, hz0, hz1, hz2⟩ := info_parts infoVec
  refine wpList_append_own _ hgd s x 64 ho base 58 i0 (.agg #[.int .i64 0, .int .i64 0]) 2 16 Tryd.underlying64 hi0 hz0 hz1 hz2 rfl (by decide) v _ _ hs (hG.alloc _) ⟨w.heap.size, 0, none⟩ 1 1 [.int .i64 p, .int .i64 q] hx rfl ?c1 ?c2 ?c3 ?c4 ?c5 ?_
  case c1 =>
    intro j u hj
    match j, hj with
    | 0, hj => simp at hj; subst hj; simp [Addr.add]
    | 1, hj => simp at hj; subst hj; simp [Addr.add]
  case c2 => intro u hu; simp at hu; rcases hu with rfl | rfl <;> rfl
  case c3 => unfold maxLen; omega
  case c4 => omega
  case c5 => simp; omega
  · intro v' w4 hown' hgrow _
    refine h v' w4 ?_ (grown_tr (World.grownBy_alloc w _ _) hgrow)
    rw [← prs_app]
    exact hown'
set_option maxRecDepth 4000 in
set_option maxHeartbeats 1600000 in
theorem placesBeside_any (x y : Int) (w : World) (x0 : -1000 ≤ x) (x1 : x ≤ 1000) (y0 : -1000 ≤ y) (y1 : y ≤ 1000) :
    Calls Tryd.prog 92 #[.agg #[.int .i64 x, .int .i64 y]] w fun e w' => (∃ A c, e = .returned (.slice A 4 c) ∧ Own w' w.heap.size w'.heap.size A (prs (bsd x y))) ∧ Below w.heap.size w w' := by
  have HL := Lib.hid fun u v W (h : -1 ≤ u ∧ u ≤ 1 ∧ -1 ≤ v ∧ v ≤ 1) => led_any x y u v W ⟨by omega, by omega, by omega, by omega, by omega, by omega, by omega, by omega⟩
  have HT : Hid (∀ k, (h : k < 4) → (bsd x y).take (k + 1) = (bsd x y).take k ++ [(x + (stp[k]'h).1, y + (stp[k]'h).2)]) := Lib.hid fun k h => by
    rw [List.take_succ_eq_append_getElem (by rw [bsd_len]; exact h)]
    congr 2
    simp only [bsd, List.getElem_map]
    rfl
  have HF : Hid ((bsd x y).take 4 = bsd x y) := Lib.hid rfl
  have HN : Hid (∀ k, k ≤ 4 → ((bsd x y).take k).length = k) := Lib.hid fun k h => by rw [List.length_take, bsd_len]; omega
  have HS : Hid (∀ k, (h : k < 4) → -1 ≤ (stp[k]'h).1 ∧ (stp[k]'h).1 ≤ 1 ∧ -1 ≤ (stp[k]'h).2 ∧ (stp[k]'h).2 ≤ 1) := Lib.hid fun k h => by
    match k, h with
    | 0, _ => simp [stp]
    | 1, _ => simp [stp]
    | 2, _ => simp [stp]
    | 3, _ => simp [stp]
  clear x0 x1 y0 y1
  generalize bsd x y = bs at *
  have HFD : ∀ (R : Nat) (W : World), (Instr.field 105 (.agg #[.slice (some ⟨R, 0, none⟩) 4 4, .int .i64 2, .func (.func 103) #[] #[]]) 0).run Tryd.prog W = .ok (.slice (some ⟨R, 0, none⟩) 4 4) W := fun _ _ => by kernel_rfl
  go_enter Tryd.func92, Tryd.ntmps92
  go_wp2_with (go_at_call 98; refine (spiral_dt _).mono ?_; rintro e w1 ⟨⟨R, rfl, hR0, hR1, hc⟩, hb1⟩)
  have hz0 : w.heap.size < (w.alloc (.cells #[.int .i64 x, .int .i64 y] 58)).heap.size := by simp
  have hb0 : Below w.heap.size w (w.alloc (.cells #[.int .i64 x, .int .i64 y] 58)) := (Below.refl _ _).alloc (Nat.le_refl _) _
  have d0 : w1.cell? ⟨w.heap.size, 0, none⟩ = some (.int .i64 x) := (hb1.cell (p := ⟨w.heap.size, 0, none⟩) hz0).trans (by simp [go_sem])
  have d1 : w1.cell? ⟨w.heap.size, 1, none⟩ = some (.int .i64 y) := (hb1.cell (p := ⟨w.heap.size, 1, none⟩) hz0).trans (by simp [go_sem])
  have hB : Below w.heap.size w w1 := hb0.trans (hb1.mono hb0.size)
  have HC := Lib.hid hc
  have HB := Lib.hid hB
  clear hc hB hb1 hb0
  go_loopw [3, 9] (fun v i wr => ∃ k : Nat, k ≤ 4 ∧ i = .int .i64 (k : Int) ∧ Hid (wr.ownsRow w1.heap.size 58 2 v k (prs (bs.take k))) ∧ Hid (Below w1.heap.size w1 wr)) (fun _ i _ => 4 - (intOf i).toNat)
  case atStart => exact ⟨0, by omega, by simp, Lib.hid (by rw [List.take_zero]; exact World.ownsRow_nil _ _ _ _), Lib.hid (Below.refl _ _)⟩
  case round =>
    obtain ⟨k, hk, rfl, hown, hb⟩ := hrel
    have hzz : w.heap.size < w1.heap.size := by have := HB.out.size; omega
    have b0 : wr.cell? ⟨w.heap.size, 0, none⟩ = some (.int .i64 x) := (hb.out.cell (p := ⟨w.heap.size, 0, none⟩) hzz).trans d0
    have b1 : wr.cell? ⟨w.heap.size, 1, none⟩ = some (.int .i64 y) := (hb.out.cell (p := ⟨w.heap.size, 1, none⟩) hzz).trans d1
    by_cases hlt : k < 4
    · have hk4 : (k : Int) < 4 := by omega
      have b0a := fun o => cell_old b0 o
      have b1a := fun o => cell_old b1 o
      have hp := prs_get stp k hlt
      have s0 := (hb.out.cell (p := ⟨R, 2 * k, none⟩) hR1).trans (HC.out _ _ hp.1)
      have s1 := (hb.out.cell (p := ⟨R, 2 * k + 1, none⟩) hR1).trans (HC.out _ _ hp.2)
      rw [Nat.mul_comm 2 k] at s0 s1
      have hs := HS.out k hlt
      have ht := HT.out k hlt
      have hn := HN.out k hk
      generalize stp[k].1 = u at *
      generalize stp[k].2 = v at *
      have HTK := Lib.hid ht
      have HSK := Lib.hid hs
      have HNK := Lib.hid hn
      clear ht hs hn hp
      have hwz : w1.heap.size ≤ wr.heap.size := hb.out.size
      go_wp2_with (first
        | (go_at_call 83; refine (HL.out _ _ _ HSK.out).mono ?_; rintro e w2 ⟨rfl, hb2⟩; have HO2 := Lib.hid (row_below (hown.out.alloc _) hb2 (Nat.le_refl _)); have HB2 := Lib.hid (hb.out.trans (((Below.refl _ _).alloc (Nat.le_refl _) _ |>.trans (hb2.mono (by simp))).mono hwz)))
        | (at_builtin; refine app_vec w1.heap.size _ rfl _ _ rfl _ k (bs.take k) rfl HO2.out HNK.out HB2.out.size _ _ rfl (by omega) ?_; intro v' w4 ho4 hg4))
      have HO4 := Lib.hid ho4
      have HB4 := Lib.hid (HB2.out.grown hg4 HB2.out.size fun g hg => (HO2.out.lt g hg).1)
      clear ho4 hg4
      go_wp2
      go_roundw
      case rel => exact ⟨k + 1, by omega, by go_num, by rw [HTK.out]; exact HO4, HB4⟩
      case measure => simp [intOf]; omega
    · obtain rfl : k = 4 := by omega
      obtain ⟨A, c, rfl⟩ := row_form hown.out
      have HO := Lib.hid (own_of_row hown.out)
      go_wp2
      go_ret
      refine ⟨⟨A, c, rfl, ?_⟩, HB.out.trans (hb.out.mono HB.out.size)⟩
      rw [HF.out] at HO
      exact HO.out.wide HB.out.size (Nat.le_refl _)
end Go.Proofs.YtbcgidgjdedkiaaDoor
