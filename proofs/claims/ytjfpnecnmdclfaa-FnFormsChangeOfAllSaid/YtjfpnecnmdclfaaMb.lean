/- The texts XTbM XTbN XTbH XTbI XTbJ XTbO XTbS joined. -/
import Derived.Test.YtjfpnecnmdclfaaMa
import Derived.Test.YtjfpnecnmdclfaaSdH
import Derived.Deep.AppendLies
import Derived.Deep.RegionHeld3
/- Plain facts of chapter 8: ways to choose, values of forms, rows of differences. No program in sight. -/
namespace Go.Proofs.Ytjfpnecnmdclfaa

/-- The number of ways to choose k of n things. -/
def chs : Nat → Nat → Nat
  | _, 0 => 1
  | 0, _ + 1 => 0
  | n + 1, k + 1 => chs n k + chs n (k + 1)
theorem chs_zero (n : Nat) : chs n 0 = 1 := by cases n <;> rfl
theorem chs_succ (n k : Nat) : chs (n + 1) (k + 1) = chs n k + chs n (k + 1) := rfl
theorem chs_none : ∀ (n k : Nat), n < k → chs n k = 0
  | _, 0, h => by omega
  | 0, _ + 1, _ => rfl
  | n + 1, k + 1, h => by rw [chs_succ, chs_none n k (by omega), chs_none n (k + 1) (by omega)]
theorem chs_all : ∀ n : Nat, chs n n = 1
  | 0 => rfl
  | n + 1 => by rw [chs_succ, chs_all n, chs_none n (n + 1) (by omega)]
theorem chs_mul : ∀ (n k : Nat), chs n (k + 1) * (k + 1) = chs n k * (n - k)
  | 0, k => by rw [Nat.zero_sub, Nat.mul_zero]; show 0 * _ = 0; rw [Nat.zero_mul]
  | n + 1, 0 => by
    have h := chs_mul n 0
    rw [chs_succ, chs_zero, chs_zero]
    rw [chs_zero] at h
    omega
  | n + 1, k + 1 => by
    have h1 := chs_mul n (k + 1)
    have h2 := chs_mul n k
    rw [chs_succ n (k + 1), chs_succ n k, Nat.add_mul, Nat.add_mul, h1]
    rcases Nat.lt_or_ge k n with hk | hk
    · have e1 : n + 1 - (k + 1) = n - k := by omega
      obtain ⟨m, hm⟩ : ∃ m, n - k = m + 1 := ⟨n - k - 1, by omega⟩
      have e2 : n - (k + 1) = m := by omega
      rw [e1, ← h2, e2, hm]
      rw [← Nat.mul_add, ← Nat.mul_add]
      congr 1
      omega
    · rw [chs_none n (k + 1) (by omega)]
      have e : n + 1 - (k + 1) = 0 := by omega
      rw [e]
      simp
theorem chs_symm : ∀ (n k : Nat), k ≤ n → chs n (n - k) = chs n k
  | n, 0, _ => by rw [Nat.sub_zero, chs_all, chs_zero]
  | 0, k + 1, h => by omega
  | n + 1, k + 1, h => by
    rcases Nat.lt_or_ge k n with hk | hk
    · obtain ⟨m, hm⟩ : ∃ m, n + 1 - (k + 1) = m + 1 := ⟨n - k - 1, by omega⟩
      have a := chs_symm n k (by omega)
      have b := chs_symm n (k + 1) (by omega)
      rw [show n - k = m + 1 by omega] at a
      rw [show n - (k + 1) = m by omega] at b
      rw [hm, chs_succ, chs_succ, a, b, Nat.add_comm]
    · obtain rfl : k = n := by omega
      rw [show k + 1 - (k + 1) = 0 by omega, chs_zero, chs_all]
/-- The loop that reckons it: after i steps. -/
theorem chs_step (n i : Nat) : chs n i * (n - i) / (i + 1) = chs n (i + 1) := by
  rw [← chs_mul]
  exact Nat.mul_div_cancel _ (by omega)
theorem chs_le : ∀ (n k : Nat), chs n k ≤ 2 ^ n
  | _, 0 => by rw [chs_zero]; exact Nat.one_le_two_pow
  | 0, _ + 1 => Nat.zero_le _
  | n + 1, k + 1 => by
    have a := chs_le n k
    have b := chs_le n (k + 1)
    rw [chs_succ, Nat.pow_succ]
    omega

/-- One step of a row: each number and the one behind it together. -/
def stp8 : List Int → List Int
  | a :: b :: l => (a + b) :: stp8 (b :: l)
  | l => l
/-- The value of a form at n. -/
def val8 : List Int → Nat → Int
  | f, 0 => f.headD 0
  | f, n + 1 => val8 (stp8 f) n
/-- The sum of a form's numbers times the ways to choose. -/
def sum8 (f : List Int) (n i : Nat) : Int :=
  match f with
  | [] => 0
  | a :: l => a * (chs n i : Int) + sum8 l n (i + 1)
theorem sum8_none (n : Nat) : ∀ (f : List Int) (i : Nat), n < i → sum8 f n i = 0
  | [], _, _ => rfl
  | a :: l, i, h => by
    rw [sum8, chs_none n i h, sum8_none n l (i + 1) (by omega)]
    simp
theorem sum8_step (n : Nat) : ∀ (l : List Int) (a : Int) (i : Nat), sum8 (stp8 (a :: l)) n (i + 1) + a * (chs n i : Int) = sum8 (a :: l) (n + 1) (i + 1)
  | [], a, i => by
    simp only [stp8, sum8, chs_succ]
    rw [Int.natCast_add, Int.mul_add]
    omega
  | b :: l, a, i => by
    have h := sum8_step n l b (i + 1)
    simp only [stp8, sum8, chs_succ] at h ⊢
    rw [Int.natCast_add, Int.mul_add, Int.add_mul]
    omega
theorem val8_sum : ∀ (n : Nat) (f : List Int), val8 f n = sum8 f n 0
  | 0, [] => rfl
  | 0, a :: l => by
    rw [val8, sum8, sum8_none 0 l 1 (by omega), chs_zero]
    simp
  | n + 1, [] => by rw [val8]; exact val8_sum n []
  | n + 1, [a] => by
    rw [val8]
    show val8 [a] n = _
    rw [val8_sum n [a]]
    simp [sum8, chs_zero]
  | n + 1, a :: b :: l => by
    rw [val8, val8_sum n]
    have h := sum8_step n l b 0
    simp only [stp8, sum8, chs_zero] at h ⊢
    rw [Int.add_mul]
    simp only [Int.mul_one, Int.natCast_one, chs_succ, chs_zero] at h ⊢
    omega

/-- The differences of a row. -/
def dif8 : List Int → List Int
  | a :: b :: l => (b - a) :: dif8 (b :: l)
  | _ => []
theorem dif8_len : ∀ l : List Int, (dif8 l).length = l.length - 1
  | [] => rfl
  | [_] => rfl
  | a :: b :: l => by
    rw [dif8, List.length_cons, dif8_len (b :: l)]
    simp
theorem dif8_at : ∀ (l : List Int) (i : Nat), i + 1 < l.length → (dif8 l).getD i 0 = l.getD (i + 1) 0 - l.getD i 0
  | [], i, h => by simp at h
  | [_], i, h => by simp at h
  | a :: b :: l, 0, _ => rfl
  | a :: b :: l, i + 1, h => by
    have := dif8_at (b :: l) i (by simp at h ⊢; omega)
    simpa [dif8] using this
end Go.Proofs.Ytjfpnecnmdclfaa

/- Chapter 8: the laws' helpers: a list that is marked leaves all other blocks alone. -/
namespace Go.Proofs.Ytjfpnecnmdclfaa
open Go.RowKit

/-- Nothing has turned but in the blocks from lo to hi. -/
def Far (lo hi : Nat) (w w' : World) : Prop := w'.heap.size = w.heap.size ∧ ∀ b, (b < lo ∨ hi ≤ b) → w'.heap[b]? = w.heap[b]?
theorem cell_heap {w w' : World} {a : Addr} (h : w'.heap[a.block]? = w.heap[a.block]?) : w'.cell? a = w.cell? a := by
  unfold World.cell?
  rw [h]
theorem frozen_heap {w w' : World} {a : Addr} (h : w'.heap[a.block]? = w.heap[a.block]?) : w'.frozen? a = w.frozen? a := by
  unfold World.frozen?
  rw [h]
theorem Far.refl (lo hi : Nat) (w : World) : Far lo hi w w := ⟨rfl, fun _ _ => rfl⟩
theorem Far.set_ {lo hi g o : Nat} {w w' : World} (h : Far lo hi w w') (h1 : lo ≤ g) (h2 : g < hi) (v : Value) : Far lo hi w (w'.setCell ⟨g, o, none⟩ v) :=
  ⟨by rw [← h.1]; simp [World.setCell], fun b hb => (Below.heap_setCell _ _ _ _ (fun e => by simp at e; omega)).trans (h.2 b hb)⟩
theorem Own.far8 {lo hi l h : Nat} {w w' : World} {A : Option Addr} {cs : List Value} (ho : Own w l h A cs) (hf : Far lo hi w w') (hd : h ≤ lo ∨ hi ≤ l) : Own w' l h A cs := fun hn => by
  obtain ⟨g, o, e, h1, h2, hc⟩ := ho hn
  refine ⟨g, o, e, h1, h2, fun j u hu => ?_⟩
  have hb : w'.heap[g]? = w.heap[g]? := hf.2 g (by omega)
  rw [cell_heap (a := ⟨g, o + j, none⟩) hb, frozen_heap (a := ⟨g, o + j, none⟩) hb]
  exact hc j u hu
end Go.Proofs.Ytjfpnecnmdclfaa

/- Chapter 8: lists and forms tested, by the specification; rows of differences. -/
namespace Go.Proofs.Ytjfpnecnmdclfaa
open Go.RowKit

/-- A list; a form. -/
def gd8 (xs : List Int) : Bool := decide (1 ≤ xs.length ∧ xs.length ≤ 12) && allIn xs (-1000000) 1000000
def fm8 (xs : List Int) : Bool := decide (xs.length ≤ 12) && allIn xs (-1000000) 1000000 && (decide (xs.length = 0) || decide (xs.getD (xs.length - 1) 0 ≠ 0))
theorem dfGood_any (A : Option Addr) (n c lo hi : Nat) (xs : List Int) (w : World) (hn : xs.length = n) (hm : n ≤ 1048576) (ha : Own w lo hi A (i64s xs)) :
    Calls Try.prog 47 #[.slice A n c] w fun e w' => e = .returned (.bool (gd8 xs)) ∧ w = w' := by
  have HL := Lib.hid fun W (h : Own W lo hi A (i64s xs)) => l1All_any A n c xs (-1000000) 1000000 hi W hn hm h.rd
  have HA := Lib.hid ha
  have hg : gd8 xs = (decide (1 ≤ n ∧ n ≤ 12) && allIn xs (-1000000) 1000000) := by unfold gd8; rw [hn]
  rw [hg]
  clear hg hn ha
  generalize allIn xs (-1000000) 1000000 = r at *
  by_cases h : (n : Int) < 1 ∨ 12 < (n : Int)
  · rw [decide_eq_false (by omega)]
    have H := Lib.hid h
    clear h
    go_enter Try.func47, Try.ntmps47
    go_wp2_with (go_at_call 63; refine (in_no _ _ _ _ H.out).mono ?_; rintro e w' ⟨rfl, rfl⟩)
    go_ret
    exact ⟨rfl, rfl⟩
  · rw [decide_eq_true (by omega), Bool.true_and]
    have h1 : 1 ≤ (n : Int) := by omega
    have h2 : (n : Int) ≤ 12 := by omega
    clear h
    go_enter Try.func47, Try.ntmps47
    go_wp2_with (first
      | (go_at_call 63; refine (in_yes _ _ _ _ h1 h2).mono ?_; rintro e w' ⟨rfl, rfl⟩)
      | (go_at_call 70; refine (HL.out _ HA.out).mono ?_; rintro e w' ⟨rfl, rfl⟩))
    go_ret
    exact ⟨rfl, rfl⟩
end Go.Proofs.Ytjfpnecnmdclfaa

/- Chapter 8: rows of differences, by the specification. -/
namespace Go.Proofs.Ytjfpnecnmdclfaa
open Go.RowKit

theorem step_app_int {ops : Array Oper} {o : Oper} {a : Act} {K : Act → World → Prop} {X : Exit → Act → World → Prop} {E : Prop} {w : World} {z : Int} (base : Nat) (hgd : o.guard = none) (s x : Operand)
    (ho : o.op = .call { callee := .builtin .append, args := #[s, x], argTypes := #[24, 24] }) (v : Value) (n : Nat) (xs : List Int) (hs : a.eval s = v) (hn : xs.length = n) (hG : w.ownsRow base 3 1 v n (i64s xs)) (hB : base ≤ w.heap.size)
    (hx : a.eval x = .slice (some ⟨w.heap.size, 0, none⟩) 1 1) (hl : n ≤ 100000)
    (h : ∀ v' w', w'.ownsRow base 3 1 v' (n + 1) (i64s (xs ++ [z])) → w.grownBy w' v.ownBlock → K (a.put o.dst v') w') :
    if Region.wanted o (yielded ops a.tmps) = true then Oper.wp Try.prog o a (w.alloc (.cells #[.int .i64 z] 3)) K X else E := by
  obtain ⟨i0, hi0, hz0, hz1, hz2⟩ := info_parts infoInt
  refine step_append_lies _ hgd s x 24 ho base 3 i0 (.int .i64 0) 1 8 Try.underlying24 hi0 hz0 hz1 hz2 rfl (by decide) v _ _ hs (hG.alloc _) ⟨w.heap.size, 0, none⟩ 1 1 [.int .i64 z] hx rfl ?c1 ?c2 (by decide) ?c3 ?c4 ?c5 _ rfl ?_
  case c1 =>
    intro j u hj
    match j, hj with
    | 0, hj => simp at hj; subst hj; simp [Addr.add]
  case c2 => intro u hu; simp at hu; subst hu; rfl
  case c3 => unfold maxLen; omega
  case c4 => omega
  case c5 => simp; omega
  · intro g cap w4 hown' hgrow _ _
    refine h _ w4 ?_ ((World.grownBy_alloc w _ _).andThen hgrow fun _ e => Or.inr e)
    simpa using hown'
theorem cell_old8 {w : World} {a : Addr} {v : Value} (h : w.cell? a = some v) (ob : Obj) : (w.drew.alloc ob).cell? a = some v := by
  have h2 : w.drew.cell? a = some v := h
  rw [World.cell?_alloc_old _ _ _ (Nat.ne_of_lt (World.block_lt_of_cell? _ _ h2))]
  exact h2
theorem dif8_take (xs : List Int) (k : Nat) (h : k + 1 < xs.length) : (dif8 xs).take (k + 1) = (dif8 xs).take k ++ [xs.getD (k + 1) 0 - xs.getD k 0] := by
  have hk : k < (dif8 xs).length := by rw [dif8_len]; omega
  rw [List.take_succ_eq_append_getElem hk, ← dif8_at xs k h]
  simp [List.getD_eq_getElem?_getD, hk]
end Go.Proofs.Ytjfpnecnmdclfaa

/- Chapter 8: DifferencesOf, by the specification; forms tested. -/
namespace Go.Proofs.Ytjfpnecnmdclfaa
open Go.RowKit

theorem gd8_len {xs : List Int} (h : gd8 xs = true) : 1 ≤ xs.length ∧ xs.length ≤ 12 := by
  unfold gd8 at h
  rw [Bool.and_eq_true, decide_eq_true_iff] at h
  exact h.1
theorem gd8_at {xs : List Int} (h : gd8 xs = true) (j : Nat) : -1000000 ≤ xs.getD j 0 ∧ xs.getD j 0 ≤ 1000000 := by
  unfold gd8 at h
  rw [Bool.and_eq_true] at h
  by_cases hj : j < xs.length
  · have e : xs.getD j 0 = xs[j] := by simp [List.getD_eq_getElem?_getD, hj]
    have := List.all_eq_true.1 h.2 xs[j] (List.getElem_mem hj)
    rw [decide_eq_true_iff] at this
    rw [e]
    exact this
  · have e : xs.getD j 0 = 0 := by simp [List.getD_eq_getElem?_getD, Nat.le_of_not_lt hj]
    rw [e]
    omega
set_option maxRecDepth 4000 in
set_option maxHeartbeats 1600000 in
theorem dfForm_any (A : Option Addr) (n c lo hi : Nat) (xs : List Int) (w : World) (hn : xs.length = n) (hm : n ≤ 1048576) (ha : Own w lo hi A (i64s xs)) :
    Calls Try.prog 36 #[.slice A n c] w fun e w' => e = .returned (.bool (fm8 xs)) ∧ w = w' := by
  have HL := Lib.hid fun W (h : Own W lo hi A (i64s xs)) => l1All_any A n c xs (-1000000) 1000000 hi W hn hm h.rd
  have HA := Lib.hid ha
  have hg : fm8 xs = (decide (n ≤ 12) && allIn xs (-1000000) 1000000 && (decide (n = 0) || decide (xs.getD (n - 1) 0 ≠ 0))) := by unfold fm8; rw [hn]
  rw [hg]
  have hcl : 0 < n → ∃ g o, A = some ⟨g, o, none⟩ ∧ w.cell? ⟨g, o + (n - 1), none⟩ = some (.int .i64 (xs.getD (n - 1) 0)) := fun h => by
    obtain ⟨g, o, e, _, _, hcs⟩ := ha (by simp [hn]; omega)
    have hk : n - 1 < xs.length := by omega
    exact ⟨g, o, e, (hcs (n - 1) _ (by simp [List.getD_eq_getElem?_getD, hk])).1⟩
  clear hg hn
  generalize allIn xs (-1000000) 1000000 = r at *
  generalize xs.getD (n - 1) 0 = z at *
  by_cases h : 12 < n
  · have hi12 : ¬ (n : Int) ≤ 12 := by omega
    rw [decide_eq_false (by omega), Bool.false_and, Bool.false_and]
    clear ha hcl h
    go_enter Try.func36, Try.ntmps36
    go_wp2
    go_ret
    exact ⟨rfl, rfl⟩
  · have hi12 : (n : Int) ≤ 12 := by omega
    rw [decide_eq_true (by omega), Bool.true_and]
    cases r with
    | false =>
      clear ha hcl h
      go_enter Try.func36, Try.ntmps36
      go_wp2_with (go_at_call 70; refine (HL.out _ HA.out).mono ?_; rintro e w' ⟨rfl, rfl⟩)
      go_ret
      exact ⟨rfl, rfl⟩
    | true =>
      by_cases h0 : n = 0
      · subst h0
        clear ha hcl h
        go_enter Try.func36, Try.ntmps36
        go_wp2_with (go_at_call 70; refine (HL.out _ HA.out).mono ?_; rintro e w' ⟨rfl, rfl⟩)
        go_ret
        exact ⟨rfl, rfl⟩
      · obtain ⟨g, o, rfl, hc⟩ := hcl (by omega)
        rw [decide_eq_false h0, Bool.false_or, Bool.true_and]
        have h0i : ¬ (n : Int) = 0 := by omega
        obtain ⟨m, hm2⟩ : ∃ m : Nat, m = n - 1 := ⟨_, rfl⟩
        rw [← hm2] at hc
        have e1 : IntKind.i64.wrap ((n : Int) - 1) = (m : Int) := by rw [IntWalk.i64_in _ (by omega)]; omega
        have hmn : (m : Int) < (n : Int) := by omega
        have hm0 : (0 : Int) ≤ (m : Int) := by omega
        clear ha hcl h h0 hm2
        go_enter Try.func36, Try.ntmps36
        go_wp2_with (go_at_call 70; refine (HL.out _ HA.out).mono ?_; rintro e w' ⟨rfl, rfl⟩)
        go_ret
        have hz1 : ((n : Int) == 0) = false := by simp; omega
        exact ⟨by simp only [hz1, Bool.false_or]; cases hz : decide (z = 0) <;> simp_all, rfl⟩
end Go.Proofs.Ytjfpnecnmdclfaa

/- Plain facts of chapter 8: sums with ways to choose, with signs or not, by steps; rows of first numbers; trimmed rows. No program in sight. -/
namespace Go.Proofs.Ytjfpnecnmdclfaa

/-- The sign of a part: minus where signs are told and the number is odd. -/
def sg8 (b : Bool) (m : Nat) : Int := if b && m % 2 == 1 then -1 else 1
theorem sg8_two (b : Bool) (m : Nat) : sg8 b (m + 2) = sg8 b m := by
  unfold sg8
  rw [show (m + 2) % 2 = m % 2 by omega]
theorem sg8_one (b : Bool) (m : Nat) : sg8 b (m + 1) = sg8 b 1 * sg8 b m := by
  unfold sg8
  cases b with
  | false => simp
  | true =>
    rcases Nat.mod_two_eq_zero_or_one m with h | h
    · have : (m + 1) % 2 = 1 := by omega
      simp [h, this]
    · have : (m + 1) % 2 = 0 := by omega
      simp [h, this]
/-- The sum of the first j numbers, each times the ways to choose its index of n things. -/
def psum (b : Bool) (f : Nat → Int) (n : Nat) : Nat → Int
  | 0 => 0
  | j + 1 => psum b f n j + sg8 b (n + j) * ((chs n j : Int) * f j)
theorem psum_congr (b : Bool) {f g : Nat → Int} (n : Nat) : ∀ j, (∀ k, k < j → f k = g k) → psum b f n j = psum b g n j
  | 0, _ => rfl
  | j + 1, h => by rw [psum, psum, psum_congr b n j (fun k hk => h k (by omega)), h j (by omega)]
/-- Pascal's rule. -/
theorem psum_step (b : Bool) (f : Nat → Int) (n : Nat) : ∀ j, psum b f (n + 1) (j + 1) = psum b (fun k => f (k + 1)) n j + sg8 b 1 * psum b f n (j + 1)
  | 0 => by
    simp only [psum, chs_zero]
    rw [show n + 1 + 0 = (n + 0) + 1 by omega, sg8_one b (n + 0)]
    simp [Int.mul_assoc]
  | j + 1 => by
    rw [psum, psum_step b f n j]
    conv => rhs; rw [psum, psum]
    rw [chs_succ, show n + 1 + (j + 1) = (n + j) + 2 by omega, sg8_two, show n + (j + 1) = (n + j) + 1 by omega, sg8_one b (n + j)]
    have hs : sg8 b 1 * sg8 b 1 = 1 := by cases b <;> rfl
    generalize sg8 b 1 = s at *
    generalize sg8 b (n + j) = t at *
    generalize psum b (fun k => f (k + 1)) n j = p at *
    generalize psum b f n (j + 1) = q at *
    rw [Int.natCast_add, Int.add_mul, Int.mul_add, Int.mul_add]
    generalize (chs n j : Int) * f (j + 1) = u
    generalize (chs n (j + 1) : Int) * f (j + 1) = v
    have e : s * (s * t * v) = t * v := by rw [← Int.mul_assoc, ← Int.mul_assoc, hs, Int.one_mul]
    rw [e]
    omega
/-- The first number after n steps, in each of which a number becomes the next one and, with the sign, itself. -/
def its8 (b : Bool) : (Nat → Int) → Nat → Int
  | f, 0 => f 0
  | f, n + 1 => its8 b (fun k => f (k + 1) + sg8 b 1 * f k) n
theorem psum_lin (b : Bool) (f g : Nat → Int) (s : Int) (n : Nat) : ∀ j, psum b (fun k => f k + s * g k) n j = psum b f n j + s * psum b g n j
  | 0 => by simp [psum]
  | j + 1 => by
    rw [psum, psum, psum, psum_lin b f g s n j, Int.mul_add, Int.mul_add, Int.mul_add]
    have e : sg8 b (n + j) * ((chs n j : Int) * (s * g j)) = s * (sg8 b (n + j) * ((chs n j : Int) * g j)) := by
      generalize sg8 b (n + j) = t
      generalize (chs n j : Int) = u
      generalize g j = v
      rw [← Int.mul_assoc u s v, Int.mul_comm u s, Int.mul_assoc s u v, ← Int.mul_assoc t s, Int.mul_comm t s, Int.mul_assoc s t]
    rw [e]
    omega
theorem its8_sum (b : Bool) : ∀ (n : Nat) (f : Nat → Int), its8 b f n = psum b f n (n + 1)
  | 0, f => by
    simp only [its8, psum, chs_zero]
    have : sg8 b (0 + 0) = 1 := by cases b <;> rfl
    rw [this]
    simp
  | n + 1, f => by
    have e : psum b f n (n + 1 + 1) = psum b f n (n + 1) := by
      rw [psum, chs_none n (n + 1) (by omega)]
      simp
    rw [its8, its8_sum b n, psum_step, psum_lin, e]
theorem its8_congr (b : Bool) : ∀ (n : Nat) {f g : Nat → Int}, (∀ k, k ≤ n → f k = g k) → its8 b f n = its8 b g n
  | 0, f, g, h => h 0 (by omega)
  | n + 1, f, g, h => by
    rw [its8, its8]
    exact its8_congr b n fun k hk => by rw [h k (by omega), h (k + 1) (by omega)]

theorem stp8_len : ∀ l : List Int, (stp8 l).length = l.length
  | [] => rfl
  | [_] => rfl
  | a :: b :: l => by rw [stp8, List.length_cons, stp8_len (b :: l)]; rfl
theorem stp8_at : ∀ (l : List Int) (i : Nat), (stp8 l).getD i 0 = l.getD i 0 + l.getD (i + 1) 0
  | [], i => by simp [stp8]
  | [a], 0 => by simp [stp8]
  | [a], i + 1 => by simp [stp8]
  | a :: b :: l, 0 => rfl
  | a :: b :: l, i + 1 => by
    have := stp8_at (b :: l) i
    simpa [stp8] using this
theorem val8_its : ∀ (n : Nat) (l : List Int), val8 l n = its8 false (fun k => l.getD k 0) n
  | 0, l => by cases l <;> rfl
  | n + 1, l => by
    rw [val8, its8, val8_its n (stp8 l)]
    refine its8_congr false n fun k _ => ?_
    rw [stp8_at]
    have : sg8 false 1 = 1 := rfl
    rw [this]
    omega
/-- The first number after n steps of differences. -/
def dfn8 : List Int → Nat → Int
  | l, 0 => l.headD 0
  | l, n + 1 => dfn8 (dif8 l) n
theorem dfn8_its : ∀ (n : Nat) (l : List Int), n < l.length → dfn8 l n = its8 true (fun k => l.getD k 0) n
  | 0, l, _ => by cases l <;> rfl
  | n + 1, l, h => by
    rw [dfn8, its8, dfn8_its n (dif8 l) (by rw [dif8_len]; omega)]
    refine its8_congr true n fun k hk => ?_
    rw [dif8_at l k (by omega)]
    have : sg8 true 1 = -1 := rfl
    rw [this]
    omega
/-- The first numbers of so many rows, by a step. -/
def fst8 (step : List Int → List Int) : Nat → List Int → List Int
  | 0, _ => []
  | c + 1, l => l.headD 0 :: fst8 step c (step l)
theorem fst8_len (step : List Int → List Int) : ∀ (c : Nat) (l : List Int), (fst8 step c l).length = c
  | 0, _ => rfl
  | c + 1, l => by rw [fst8, List.length_cons, fst8_len step c]
theorem fst8_val : ∀ (c : Nat) (l : List Int) (i : Nat), i < c → (fst8 stp8 c l).getD i 0 = val8 l i
  | c + 1, l, 0, _ => by rw [fst8, val8]; rfl
  | c + 1, l, i + 1, h => by
    rw [fst8, val8, List.getD_cons_succ]
    exact fst8_val c _ i (by omega)
theorem fst8_dfn : ∀ (c : Nat) (l : List Int) (i : Nat), i < c → (fst8 dif8 c l).getD i 0 = dfn8 l i
  | c + 1, l, 0, _ => by rw [fst8, dfn8]; rfl
  | c + 1, l, i + 1, h => by
    rw [fst8, dfn8, List.getD_cons_succ]
    exact fst8_dfn c _ i (by omega)
/-- the row and its first numbers after i steps, by one step more at the end -/
def itr8 (step : List Int → List Int) : Nat → List Int → List Int
  | 0, l => l
  | c + 1, l => step (itr8 step c l)
theorem itr8_in (step : List Int → List Int) : ∀ (c : Nat) (l : List Int), itr8 step c (step l) = itr8 step (c + 1) l
  | 0, _ => rfl
  | c + 1, l => by rw [itr8, itr8_in step c l]; rfl
theorem fst8_snoc (step : List Int → List Int) : ∀ (c : Nat) (l : List Int), fst8 step (c + 1) l = fst8 step c l ++ [(itr8 step c l).headD 0]
  | 0, l => rfl
  | c + 1, l => by
    rw [fst8, fst8_snoc step c (step l), itr8_in]
    rfl
/-- How many numbers there are up to the last one that is not 0. -/
def tln8 (l : List Int) : Nat → Nat
  | 0 => 0
  | n + 1 => if l.getD n 0 = 0 then tln8 l n else n + 1
theorem tln8_le (l : List Int) : ∀ n, tln8 l n ≤ n
  | 0 => Nat.le_refl _
  | n + 1 => by
    rw [tln8]
    have := tln8_le l n
    split <;> omega
theorem tln8_last (l : List Int) : ∀ n, 0 < tln8 l n → l.getD (tln8 l n - 1) 0 ≠ 0
  | 0, h => by simp [tln8] at h
  | n + 1, h => by
    rw [tln8] at h ⊢
    split at h
    · rename_i h0
      rw [if_pos h0]
      exact tln8_last l n h
    · rename_i h0
      rw [if_neg h0]
      exact h0
/-- Numbers up to the last one that is not 0. -/
def trm8 (l : List Int) : List Int := l.take (tln8 l l.length)
theorem trm8_len (l : List Int) : (trm8 l).length = tln8 l l.length := by
  rw [trm8, List.length_take]
  have := tln8_le l l.length
  omega
theorem trm8_last (l : List Int) (h : 0 < (trm8 l).length) : (trm8 l).getD ((trm8 l).length - 1) 0 ≠ 0 := by
  rw [trm8_len] at h ⊢
  have h1 := tln8_last l l.length h
  have e : (trm8 l).getD (tln8 l l.length - 1) 0 = l.getD (tln8 l l.length - 1) 0 := by
    simp only [List.getD_eq_getElem?_getD, trm8]
    rw [List.getElem?_take_of_lt (by omega)]
  rw [e]
  exact h1
theorem trm8_id (l : List Int) (h : 0 < l.length → l.getD (l.length - 1) 0 ≠ 0) : trm8 l = l := by
  cases hl : l.length with
  | zero => rw [trm8, hl, tln8]; exact (List.take_of_length_le (by omega))
  | succ n =>
    have h1 := h (by omega)
    rw [hl, Nat.add_sub_cancel] at h1
    rw [trm8, hl, tln8, if_neg h1]
    exact List.take_of_length_le (by omega)
end Go.Proofs.Ytjfpnecnmdclfaa

/- Plain facts of chapter 8: how great the numbers of rows can be. No program in sight. -/
namespace Go.Proofs.Ytjfpnecnmdclfaa

/-- All numbers of a size of at most M. -/
def Bd (M : Int) (xs : List Int) : Prop := ∀ j, -M ≤ xs.getD j 0 ∧ xs.getD j 0 ≤ M
theorem Bd.mono {M N : Int} {xs : List Int} (h : Bd M xs) (hM : M ≤ N) : Bd N xs := fun j => by
  have := h j
  omega
theorem Bd.nonneg {M : Int} {xs : List Int} (h : Bd M xs) : 0 ≤ M := by
  have := h xs.length
  simp [List.getD_eq_getElem?_getD] at this
  omega
theorem Bd.stp {M : Int} {xs : List Int} (h : Bd M xs) : Bd (2 * M) (stp8 xs) := fun j => by
  rw [stp8_at]
  have a := h j
  have b := h (j + 1)
  omega
theorem Bd.dif {M : Int} {xs : List Int} (h : Bd M xs) : Bd (2 * M) (dif8 xs) := fun j => by
  by_cases hj : j + 1 < xs.length
  · rw [dif8_at xs j hj]
    have a := h j
    have b := h (j + 1)
    omega
  · have e : (dif8 xs).getD j 0 = 0 := by
      have hl := dif8_len xs
      rw [List.getD_eq_getElem?_getD, List.getElem?_eq_none (by omega)]
      rfl
    rw [e]
    have := h.nonneg
    omega
theorem Bd.head {M : Int} {xs : List Int} (h : Bd M xs) : -M ≤ xs.headD 0 ∧ xs.headD 0 ≤ M := by
  have := h 0
  cases xs <;> simpa using this
theorem Bd.fst {S : List Int → List Int} (hS : ∀ (M : Int) (xs : List Int), Bd M xs → Bd (2 * M) (S xs)) : ∀ (c : Nat) (M : Int) (xs : List Int), Bd M xs → Bd (2 ^ c * M) (fst8 S c xs)
  | 0, M, xs, h => fun j => by
    have := h.nonneg
    simp [fst8]
    omega
  | c + 1, M, xs, h => fun j => by
    have hp : (2 : Int) ^ (c + 1) * M = 2 ^ c * (2 * M) := by rw [Int.pow_succ, Int.mul_assoc]
    have h1 : (1 : Int) ≤ 2 ^ (c + 1) := by
      have : (0 : Int) < 2 ^ (c + 1) := Int.pow_pos (by omega)
      omega
    have h2 : M ≤ 2 ^ (c + 1) * M := by
      have := Int.mul_le_mul_of_nonneg_right h1 h.nonneg
      rwa [Int.one_mul] at this
    cases j with
    | zero =>
      have := h.head
      show -_ ≤ xs.headD 0 ∧ xs.headD 0 ≤ _
      omega
    | succ j =>
      rw [fst8, List.getD_cons_succ, hp]
      exact Bd.fst hS c (2 * M) (S xs) (hS M xs h) j
theorem Bd.take {M : Int} {xs : List Int} (h : Bd M xs) (k : Nat) : Bd M (xs.take k) := fun j => by
  by_cases hj : j < k
  · have e : (xs.take k).getD j 0 = xs.getD j 0 := by
      simp only [List.getD_eq_getElem?_getD]
      rw [List.getElem?_take_of_lt hj]
    rw [e]
    exact h j
  · have e : (xs.take k).getD j 0 = 0 := by
      rw [List.getD_eq_getElem?_getD, List.getElem?_eq_none (by rw [List.length_take]; omega)]
      rfl
    rw [e]
    have := h.nonneg
    omega
theorem Bd.trm {M : Int} {xs : List Int} (h : Bd M xs) : Bd M (trm8 xs) := h.take _
end Go.Proofs.Ytjfpnecnmdclfaa
