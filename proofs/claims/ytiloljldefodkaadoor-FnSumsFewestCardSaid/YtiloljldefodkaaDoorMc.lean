/- The texts XCoR XCoS XCoT XSeq XSgM XSgS XSgU XSgP XCoU XCoV joined. -/
import Derived.Test.YtiloljldefodkaaDoorMb
import Derived.Shelf.Spec.TrailingZeros
import Derived.Test.YtiloljldefodkaaDoorNum
import Derived.Maps.Own
import Derived.Maps.OwnOps
import Derived.Maps.OwnSet
import Derived.Maps.Views
/- Rows of sets of counts (32 bits each): read, written, kept, copied; slices of them. -/
namespace Go.Proofs.YtiloljldefodkaaDoor
open Go.ChangeShapes Go.WideShapes Go.ChangeAt Go.RowKit

/-- Sets as cells. -/
abbrev u32s (xs : List Int) : List Value := xs.map (Value.int .u32)
theorem infoCo : (Tryd.prog.info? 77).map (fun i => (i.zero, i.size, i.bytes)) = some (some (.int .u32 0), 1, 4) := by kernel_rfl
theorem infoCos : (Tryd.prog.info? 72).map (fun i => (i.zero, i.size, i.bytes)) = some (some (.slice none 0 0), 1, 24) := by kernel_rfl
theorem u32s_set (xs : List Int) (j : Nat) (x : Int) : (u32s xs).set j (.int .u32 x) = u32s (xs.set j x) := by
  simp [List.map_set]
/-- Block g is a row of the call's own that has the numbers f 0, .., f (n - 1). -/
def Roc (w : World) (base g n c : Nat) (f : Nat → Int) : Prop := w.ownsRow base 77 1 (.slice (some ⟨g, 0, none⟩) n c) n (u32s (tab f n))
section
variable {w w' : World} {base g n c : Nat} {f f' : Nat → Int}
theorem Roc.cell (h : Roc w base g n c f) {j : Nat} (hj : j < n) : w.cell? ⟨g, j, none⟩ = some (.int .u32 (f j)) := by
  rw [World.ownsRow.cellAt h j (by omega)]
  simp [tab_get f n j hj]
theorem Roc.frozen (h : Roc w base g n c f) (j : Nat) : w.frozen? ⟨g, j, none⟩ = false := World.ownsRow.frozenAt h j
theorem Roc.set (h : Roc w base g n c f) (j : Nat) (x : Int) : Roc (w.setCell ⟨g, j, none⟩ (.int .u32 x)) base g n c (upd f j x) := by
  have h1 := (World.ownsRow.stored h j (.int .u32 x)).1
  rw [u32s_set, tab_set] at h1
  exact h1
theorem Roc.congr (h : Roc w base g n c f) (he : ∀ m, m < n → f m = f' m) : Roc w base g n c f' := by
  unfold Roc at h ⊢
  rwa [tab_congr he] at h
theorem Roc.lt (h : Roc w base g n c f) : base ≤ g ∧ g < w.heap.size := World.ownsRow.lt h g rfl
theorem Roc.below {B : Nat} (h : Roc w base g n c f) (hb : Below B w w') (hB : w.heap.size ≤ B) : Roc w' base g n c f := row_below h hb hB
theorem Roc.drewN (h : Roc w base g n c f) (k : Nat) : Roc (w.drewN k) base g n c f := h
theorem Roc.drew (h : Roc w base g n c f) : Roc w.drew base g n c f := h
theorem Roc.own (h : Roc w base g n c f) : Own w base w.heap.size (some ⟨g, 0, none⟩) (u32s (tab f n)) := own_of_row h
theorem roc_made (h : w.ownsRow base 77 1 (.slice (some ⟨g, 0, none⟩) n c) n (madeCells (Value.int .u32 0).cells (n * 1)).toList) : Roc w base g n c (fun _ => 0) := by
  unfold Roc
  have e : (madeCells (Value.int .u32 0).cells (n * 1)).toList = u32s (tab (fun _ => 0) n) := by
    rw [Nat.mul_one]
    show (madeCells #[Value.int .u32 0] n).toList = _
    rw [toList_madeCells_one]
    apply List.ext_getElem?
    intro j
    by_cases hj : j < n
    · simp [tab_get _ n j hj, hj]
    · rw [List.getElem?_eq_none (by simp; omega), List.getElem?_eq_none (by simp [tab_len]; omega)]
  rwa [e] at h
/-- A row whose cells are at places j of the same block from o on. -/
theorem Roc.cast {n' : Nat} (h : Roc w base g n c f) (e : n = n') : Roc w base g n' c f := e ▸ h
end
theorem Roc.wide {w : World} {base g n c : Nat} {f : Nat → Int} (h : Roc w base g n c f) {b : Nat} (hb : b ≤ base) : Roc w b g n c f := by
  refine ⟨h.1, ?_⟩
  rcases h.2 with ⟨h1, h2⟩ | ⟨g', cap, cur, h1, h2, h3⟩
  · exact Or.inl ⟨h1, h2⟩
  · exact Or.inr ⟨g', cap, cur, h1, by omega, h3⟩
theorem Roc.keptBy {w w' : World} {base g n c : Nat} {f : Nat → Int} (h : Roc w base g n c f) {b2 s2 n2 : Nat} {e2 : TypeId} {v2 : Value} {ys : List Value} (h2 : w.ownsRow b2 e2 s2 v2 n2 ys) (he : 77 ≠ e2) (hg : w.grownBy w' v2.ownBlock) : Roc w' base g n c f :=
  World.ownsRow.kept h hg (owns_apart h h2 he)

/-- A slice of rows: row j has the numbers F j 0, .., F j (n - 1). -/
def Rcs (w : World) (base : Nat) (v : Value) (rs : List Value) (n : Nat) (F : Nat → Nat → Int) : Prop :=
  w.ownsRow base 72 1 v rs.length rs ∧ ∀ j u, rs[j]? = some u → ∃ g c, u = .slice (some ⟨g, 0, none⟩) n c ∧ Roc w base g n c (F j)
section
variable {w w' : World} {base n : Nat} {v : Value} {rs : List Value} {F : Nat → Nat → Int}
theorem Rcs.below {B : Nat} (h : Rcs w base v rs n F) (hb : Below B w w') (hB : w.heap.size ≤ B) : Rcs w' base v rs n F :=
  ⟨row_below h.1 hb hB, fun j u hu => by
    obtain ⟨g, c, e, hr⟩ := h.2 j u hu
    exact ⟨g, c, e, hr.below hb hB⟩⟩
theorem Rcs.get (h : Rcs w base v rs n F) {j : Nat} (hj : j < rs.length) : ∃ gv cv g c, v = .slice (some ⟨gv, 0, none⟩) rs.length cv ∧ base ≤ gv ∧ w.cell? ⟨gv, j, none⟩ = some (.slice (some ⟨g, 0, none⟩) n c) ∧ Roc w base g n c (F j) := by
  obtain ⟨g, c, e, hr⟩ := h.2 j _ (List.getElem?_eq_getElem hj)
  rcases h.1.2 with ⟨_, h2⟩ | ⟨gv, cv, cur, h2, h3, h4⟩
  · omega
  · subst h2
    refine ⟨gv, cv, g, c, rfl, h3, ?_, hr⟩
    rw [World.ownsRow.cellAt h.1 j (by omega), List.getElem?_eq_getElem hj, e]
theorem Rcs.app {w1 : World} {v' : Value} {g c : Nat} (h : Rcs w base v rs n F) (hr : Roc w base g n c (F rs.length)) (hown : w1.ownsRow base 72 1 v' (rs.length + 1) (rs ++ [.slice (some ⟨g, 0, none⟩) n c]))
    (hg : (w.alloc (.cells #[.slice (some ⟨g, 0, none⟩) n c] 72)).grownBy w1 v.ownBlock) : Rcs w1 base v' (rs ++ [.slice (some ⟨g, 0, none⟩) n c]) n F ∧ Roc w1 base g n c (F rs.length) := by
  have hv := h.1.alloc (.cells #[.slice (some ⟨g, 0, none⟩) n c] 72)
  have keep : ∀ {g' c' : Nat} {f : Nat → Int}, Roc w base g' n c' f → Roc w1 base g' n c' f := fun hr' =>
    Roc.keptBy (World.ownsRow.alloc hr' (.cells #[.slice (some ⟨g, 0, none⟩) n c] 72)) hv (by decide) hg
  refine ⟨⟨by simpa using hown, fun j u hu => ?_⟩, keep hr⟩
  rcases Nat.lt_or_ge j rs.length with hj | hj
  · rw [List.getElem?_append_left hj] at hu
    obtain ⟨g', c', e, hr'⟩ := h.2 j u hu
    exact ⟨g', c', e, keep hr'⟩
  · have e : j = rs.length := by
      have := (List.getElem?_eq_some_iff.1 hu).1
      simp at this
      omega
    subst e
    simp at hu
    exact ⟨g, c, hu.symm, keep hr⟩
end

theorem lastCo_any (w : World) (base n : Nat) (v : Value) (rs : List Value) (F : Nat → Nat → Int) (h : Rcs w base v rs n F) (h0 : 1 ≤ rs.length) (h1 : rs.length ≤ 10000) :
    Calls Tryd.prog 62 #[v] w fun e w' => (∃ g c, e = .returned (.slice (some ⟨g, 0, none⟩) n c) ∧ Roc w base g n c (F (rs.length - 1))) ∧ w = w' := by
  obtain ⟨gv, cv, g, c, rfl, _, hc, hr⟩ := h.get (j := rs.length - 1) (by omega)
  have HR := Lib.hid hr
  generalize rs.length = k at *
  have e1 : ((k : Int) - 1).toNat = k - 1 := by omega
  have e2 : (0 : Int) ≤ (k : Int) - 1 := by omega
  have e3 : (k : Int) - 1 < (k : Int) := by omega
  clear h hr
  go_enter Tryd.func62, Tryd.ntmps62
  go_wp2
  go_ret
  exact ⟨⟨_, _, rfl, HR.out⟩, rfl⟩
set_option maxHeartbeats 800000 in
theorem cloneCo_any (base g n c : Nat) (f : Nat → Int) (w : World) (hn : 1 ≤ n) (hm : n ≤ 10000) (hr : Roc w base g n c f) :
    Calls Tryd.prog 73 #[.slice (some ⟨g, 0, none⟩) n c] w fun e w' => (∃ g' c', e = .returned (.slice (some ⟨g', 0, none⟩) n c') ∧ Roc w' w.heap.size g' n c' f) ∧ Below w.heap.size w w' := by
  obtain ⟨i0, hi0, hz0, hz1, hz2⟩ := info_parts infoCo
  have hne : ∀ w : World, (binOp .eql 72 (.slice (some ⟨g, 0, none⟩) n c) (.slice none 0 0)).run Tryd.prog w = .ok (.bool false) w := fun w => by
    rw [Lib.run_eql_slice_nil w _ _ _ _ _ _ _ Tryd.underlying72]
    rfl
  have hnI : (1 : Int) ≤ (n : Int) := by omega
  have HR := Lib.hid hr
  have hlit : (w.alloc (.cells #[] 77)).ownsRow w.heap.size 77 1 (.slice (some ⟨w.heap.size, 0, none⟩) 0 0) 0 [] := World.ownsRow_lit w #[] 0 (Nat.le_refl _) (by unfold maxLen; omega) rfl
  have HL := Lib.hid hlit
  clear hr hlit
  go_enter Tryd.func73, Tryd.ntmps73
  go_wp2_with (at_builtin; refine wpList_append_own _ rfl _ _ 72 rfl w.heap.size 77 i0 (.int .u32 0) 1 4 Tryd.underlying72 hi0 hz0 hz1 hz2 rfl (by decide) _ 0 [] rfl HL.out ⟨g, 0, none⟩ n c (u32s (tab f n)) rfl (by simp [tab_len]) ?c1 ?c2 ?c3 ?c4 ?c5 ?_)
  case c1 =>
    intro j u hj
    have hl := HR.out.lt
    obtain ⟨g', o', e, _, h4, h5⟩ := HR.out.own (by have := (List.getElem?_eq_some_iff.1 hj).1; omega)
    injection e with e
    injection e with e1 e2 _
    subst e1
    subst e2
    rw [addr_none]
    have h6 := (h5 j u hj).1
    exact ((Below.refl w.heap.size w).alloc (Nat.le_refl _) _).cell (p := ⟨g, 0 + j, none⟩) h4 |>.trans h6
  case c2 => intro u hu; simp at hu; obtain ⟨x, _, rfl⟩ := hu; rfl
  case c3 => unfold maxLen; omega
  case c4 => omega
  case c5 => simp
  · intro v' w2 hown' hgrow _
    try simp only [Nat.zero_add, List.nil_append] at hown'
    obtain ⟨g', cap, rfl⟩ : ∃ g cap, v' = .slice (some ⟨g, 0, none⟩) n cap := by
      rcases hown'.2 with ⟨_, h⟩ | ⟨g, cap, cur, h, _⟩
      · omega
      · exact ⟨g, cap, h⟩
    have hb3 : Below w.heap.size w w2 := ((Below.refl w.heap.size w).alloc (Nat.le_refl _) _).grown hgrow (by simp) fun g hg => (HL.out.lt g hg).1
    have HO2 := Lib.hid hown'
    clear hown' hgrow
    go_wp2
    go_ret
    exact ⟨⟨_, _, rfl, HO2.out⟩, hb3⟩
end Go.Proofs.YtiloljldefodkaaDoor

/- Sets of counts by place: which numbers of parts a number can have, a bit each; the program's table. -/
namespace Go.Proofs.YtiloljldefodkaaDoor
open Go.ChangeShapes Go.WideShapes Go.ChangeAt Go.RowKit

/-- The bits at which f holds, below n. -/
def msk (f : Nat → Bool) : Nat → Nat
  | 0 => 0
  | n + 1 => msk f n ||| (if f n then 2 ^ n else 0)
theorem msk_bit (f : Nat → Bool) (n i : Nat) : (msk f n).testBit i = (decide (i < n) && f i) := by
  induction n with
  | zero => simp [msk]
  | succ n ih =>
    rw [msk, Nat.testBit_or, ih]
    by_cases h : f n
    · rw [if_pos h, Nat.testBit_two_pow]
      by_cases e : n = i
      · subst e; simp [h]
      · have e2 : (i < n + 1) = (i < n) := propext (by omega)
        simp [e, e2]
    · rw [if_neg h]
      by_cases e : n = i
      · subst e; simp [h]
      · have e2 : (i < n + 1) = (i < n) := propext (by omega)
        simp [e2]
theorem msk_lt (f : Nat → Bool) (n : Nat) : msk f n < 2 ^ n := by
  apply Nat.lt_pow_two_of_testBit
  intro i hi
  rw [msk_bit]
  simp
  omega
/-- Which numbers of parts below 32 a number m can have, of places up to k. -/
def T (s : Int) (k : Nat) (m : Int) : Nat := msk (fun i => decide (0 < W s k i m)) 32
theorem T_lt (s : Int) (k : Nat) (m : Int) : T s k m < 4294967296 := msk_lt _ 32
theorem T_bit (s : Int) (k : Nat) (m : Int) (i : Nat) : (T s k m).testBit i = (decide (i < 32) && decide (0 < W s k i m)) := msk_bit _ 32 i
theorem T_step (s : Int) (k : Nat) (m : Int) : T s (k + 1) m = T s k m ||| ((T s (k + 1) (m - num s ((k : Int) + 1)) <<< 1) % 4294967296) := by
  apply Nat.eq_of_testBit_eq
  intro i
  rw [Nat.testBit_or, show (4294967296 : Nat) = 2 ^ 32 from rfl, Nat.testBit_mod_two_pow, Nat.testBit_shiftLeft, T_bit, T_bit, T_bit]
  cases i with
  | zero => simp [W_k0]
  | succ i =>
    rw [W_kk]
    by_cases h : i + 1 < 32
    · have h2 : i < 32 := by omega
      have e : decide (0 < W s k (i + 1) m + W s (k + 1) i (m - num s ((k : Int) + 1))) = (decide (0 < W s k (i + 1) m) || decide (0 < W s (k + 1) i (m - num s ((k : Int) + 1)))) := by
        by_cases h3 : 0 < W s k (i + 1) m
        · simp [h3]; omega
        · by_cases h4 : 0 < W s (k + 1) i (m - num s ((k : Int) + 1))
          · have h5 : 0 < W s k (i + 1) m + W s (k + 1) i (m - num s ((k : Int) + 1)) := by omega
            simp [h4, h5]
          · have e1 : W s k (i + 1) m = 0 := by omega
            have e2 : W s (k + 1) i (m - num s ((k : Int) + 1)) = 0 := by omega
            simp [e1, e2]
      simp [h, h2, e]
    · simp [h]
theorem T_above (s : Int) (hs : 3 ≤ s) (k : Nat) (m : Int) (h : m < num s ((k : Int) + 1)) : T s (k + 1) m = T s k m := by
  apply Nat.eq_of_testBit_eq
  intro i
  rw [T_bit, T_bit, W_above s hs k i m h]
theorem t_zero (s : Int) (m : Nat) : (T s 0 (m : Int) : Int) = if m = 0 then 1 else 0 := by
  have e : T s 0 (m : Int) = if m = 0 then 1 else 0 := by
    apply Nat.eq_of_testBit_eq
    intro i
    rw [T_bit, W_00]
    by_cases h : m = 0
    · subst h
      cases i with
      | zero => simp
      | succ i => simp [Nat.testBit_succ]
    · have h2 : ¬ (i = 0 ∧ (m : Int) = 0) := by omega
      simp [h, h2]
  rw [e]
  split <;> rfl
theorem bits_or_u32_nat (a b : Nat) (ha : a < 4294967296) (hb : b < 4294967296) : bits .or .u32 (a : Int) (b : Int) = ((a ||| b : Nat) : Int) := by
  have hx : a ||| b < 2 ^ 32 := Nat.or_lt_two_pow (by omega) (by omega)
  have h1 : (BitVec.ofInt 32 (a : Int)).toNat = a := by
    rw [BitVec.ofInt_natCast, BitVec.toNat_ofNat]; exact Nat.mod_eq_of_lt (by omega)
  have h2 : (BitVec.ofInt 32 (b : Int)).toNat = b := by
    rw [BitVec.ofInt_natCast, BitVec.toNat_ofNat]; exact Nat.mod_eq_of_lt (by omega)
  show IntKind.u32.wrap ((BitVec.ofInt 32 (a : Int) ||| BitVec.ofInt 32 (b : Int)).toNat : Int) = _
  rw [BitVec.toNat_or, h1, h2]
  have e : ∀ n : Int, IntKind.u32.wrap n = n % 4294967296 := fun n => by simp [IntKind.wrap, IntKind.signed, IntKind.bits]
  rw [e]
  omega
theorem or_step (y z : Nat) (hy : y < 4294967296) : bits .or .u32 (y : Int) ((z : Int) * 2 % 4294967296) = ((y ||| ((z <<< 1) % 4294967296) : Nat) : Int) := by
  have e : (z : Int) * (2 : Int) % (4294967296 : Int) = (((z <<< 1) % 4294967296 : Nat) : Int) := by
    rw [Nat.shiftLeft_eq]
    omega
  rw [e, bits_or_u32_nat _ _ hy (Nat.mod_lt _ (by omega))]
/-- Sets up to k, but up to k + 1 for the sums below p. -/
def tmix (s : Int) (k : Nat) (p : Int) : Nat → Int := fun m => if (m : Int) < p then (T s (k + 1) m : Int) else (T s k m : Int)

set_option maxHeartbeats 3200000 in
theorem countsByPlace_some (s : Int) (N base0 g0 c0 : Nat) (w : World) (h1 : 3 ≤ s) (h2 : s ≤ 24) (hN : N ≤ 3000) (hN1 : 1 ≤ N) (hnb : Row w base0 g0 ((pl s N).toNat + 1) c0 (fun j => num s (j : Int))) :
    Calls Tryd.prog 63 #[.slice (some ⟨g0, 0, none⟩) ((pl s N).toNat + 1) c0, .int .i64 N] w fun e w' => (∃ v rs, e = .returned v ∧ rs.length = (pl s N).toNat + 1 ∧ Rcs w' w.heap.size v rs (N + 1) (fun j m => T s j m)) ∧ Below w.heap.size w w' := by
  obtain ⟨i0, hi0, hz0, hz1, hz2⟩ := info_parts infoCo
  obtain ⟨ir, hir, hzr0, hzr1, hzr2⟩ := info_parts infoCos
  have p0 := pl_nn s N h1 (by omega)
  have p1 := pl_77 s N h1 (by omega) (by omega)
  have hK : (pl s N).toNat ≤ 77 := by omega
  have hgl := hnb.lt
  have hcap : (pl s N).toNat + 1 ≤ c0 := by
    rcases hnb.2 with ⟨h, _⟩ | ⟨g, cap, cur, h, _, _, h3, _⟩
    · cases h
    · injection h with _ _ h; subst h; exact h3
  have HPL := Lib.hid (fun k : Int => fits_iff s N k h1 (by omega))
  have hK1 : 1 ≤ (pl s N).toNat := by
    have := pl_pos s N h1 (by omega)
    omega
  have HKK : Hid (((pl s N).toNat : Int) = pl s N) := Lib.hid (by omega)
  generalize (pl s N).toNat = K at *
  have HNB := Lib.hid hnb
  have hc1 : ¬ c0 = 1 := by omega
  have hk1 : (1 : Int) ≤ (K : Int) + 1 := by omega
  clear hnb
  go_enter Tryd.func63, Tryd.ntmps63
  go_wp2_with (at_make; refine wpList_make_full _ rfl _ _ 72 rfl w.heap.size 77 i0 (.int .u32 0) 1 Tryd.underlying72 hi0 hz0 hz1 _ _ _ _ (N + 1) rfl rfl (by push_cast; rfl) (by push_cast; rfl) (by rw [hz2]; omega) (by unfold maxLen; omega) (Nat.le_refl _) ?_; intro w1 hown1 hgrow1; have hr1 := roc_made hown1; have d0 := hr1.cell (j := 0) (by omega); have f0 := hr1.frozen 0)
  have hb1 : Below w.heap.size w w1 := (Below.refl _ _).grown hgrow1 (Nat.le_refl _) (fun g hg => by cases hg)
  have hr2 := (hr1.set 0 1).congr (f' := fun m => T s 0 m) (fun m hm => by rw [t_zero]; simp [upd])
  have hz1' := hr1.lt
  obtain ⟨w2, hw2⟩ : ∃ w2, w2 = (w1.setCell ⟨w.heap.size, 0, none⟩ (.int .u32 1)).alloc (.cells #[.slice (some ⟨w.heap.size, 0, none⟩) (N + 1) (N + 1)] 72) := ⟨_, rfl⟩
  have hb2 : Below w.heap.size w w2 := by rw [hw2]; exact (hb1.setCell (Nat.le_refl _) _).alloc (by simpa using hb1.size) _
  have hrow0 : Roc w2 w.heap.size w.heap.size (N + 1) (N + 1) (fun m => T s 0 m) := by rw [hw2]; exact World.ownsRow.alloc hr2 _
  have hrws0 : Rcs w2 w.heap.size (.slice (some ⟨w1.heap.size, 0, none⟩) 1 1) [.slice (some ⟨w.heap.size, 0, none⟩) (N + 1) (N + 1)] (N + 1) (fun j m => T s j m) := by
    refine ⟨?_, fun j u hu => ?_⟩
    · rw [hw2]
      have := World.ownsRow_lit (w1.setCell ⟨w.heap.size, 0, none⟩ (.int .u32 1)) (base := w.heap.size) (e := 72) (size := 1) #[.slice (some ⟨w.heap.size, 0, none⟩) (N + 1) (N + 1)] 1 (by simpa using hb1.size) (by unfold maxLen; omega) rfl
      simpa using this
    · match j, hu with
      | 0, hu => simp at hu; exact ⟨_, _, hu.symm, hrow0⟩
  rw [← hw2]
  have HR0 := Lib.hid hrow0
  have HS0 := Lib.hid hrws0
  clear hw2 hown1 hgrow1 hr1 d0 f0 hr2 hb1 hz1' hrow0 hrws0
  go_loopw [5, 6, 20] (fun row v i wr => ∃ (j g c : Nat) (rs : List Value), j ≤ K ∧ i = .int .i64 j ∧ row = .slice (some ⟨g, 0, none⟩) (N + 1) c ∧ rs.length = j + 1 ∧ Hid (Roc wr w.heap.size g (N + 1) c (fun m => T s j m)) ∧ Hid (Rcs wr w.heap.size v rs (N + 1) (fun j m => T s j m)) ∧ Below w.heap.size w wr) (fun _ _ i _ => K - (intOf i).toNat)
  case atStart => exact ⟨0, _, _, _, Nat.zero_le _, rfl, rfl, rfl, HR0, HS0, hb2⟩
  case round =>
    obtain ⟨j, g, c, rs, hj, rfl, rfl, hrl, hrow, hrws, hb⟩ := hrel
    by_cases hlt : j < K
    · have hjI : (j : Int) < (K : Int) := by omega
      have hxn := (HPL.out ((j : Int) + 1) (by omega)).2 (by rw [← HKK.out]; omega)
      have hx1 := num_pos s ((j : Int) + 1) h1 (by omega)
      have hcn : wr.cell? ⟨g0, 1 + j, none⟩ = some (.int .i64 (num s ((j : Int) + 1))) := by
        have h := (hb.cell (p := ⟨g0, j + 1, none⟩) hgl.2).trans (HNB.out.cell (j := j + 1) (by omega))
        rw [Nat.add_comm 1 j, h]
        push_cast
        rfl
      obtain ⟨x, hx⟩ : ∃ x, x = num s ((j : Int) + 1) := ⟨_, rfl⟩
      have HX := Lib.hid hx
      rw [← hx] at hcn hxn hx1
      clear hx
      go_wp2_with (go_at_call 73; refine (cloneCo_any _ _ _ _ _ _ (by omega) (by omega) hrow.out).mono ?_; rintro e wc ⟨⟨g', c', rfl, hrc⟩, hbc⟩)
      have HRC := Lib.hid hrc
      have hrcl := hrc.lt
      have hgold := hrow.out.lt
      clear hrc hcn
      go_loopw [9] (fun p wr2 => ∃ q : Int, p = .int .i64 q ∧ x ≤ q ∧ q ≤ (N : Int) + 1 ∧ Hid (Roc wr2 wr.heap.size g' (N + 1) c' (tmix s j q)) ∧ Below wr.heap.size wr wr2) (fun p _ => ((N : Int) + 1 - intOf p).toNat)
      case atStart => exact ⟨x, rfl, by omega, by omega, Lib.hid (HRC.out.congr (fun m hm => by
        simp only [tmix]
        by_cases e : (m : Int) < x
        · rw [if_pos e, T_above s h1 j m (by rw [← HX.out]; exact e)]
        · rw [if_neg e])), hbc⟩
      case round =>
        obtain ⟨q, rfl, hq0, hq1, hrow2, hb2⟩ := hrel
        by_cases hge : q ≤ (N : Int)
        · obtain ⟨a, rfl⟩ := Int.eq_ofNat_of_zero_le (show 0 ≤ q by omega)
          obtain ⟨b, hbq⟩ := Int.eq_ofNat_of_zero_le (show 0 ≤ (a : Int) - x by omega)
          have ca := hrow2.out.cell (j := a) (by omega)
          have cb := hrow2.out.cell (j := b) (by omega)
          have fa := hrow2.out.frozen a
          have ea : tmix s j a a = (T s j a : Int) := by simp [tmix]
          have eb : tmix s j a b = (T s (j + 1) b : Int) := by simp [tmix]; omega
          have e3 : T s (j + 1) (a : Int) = T s j a ||| ((T s (j + 1) b <<< 1) % 4294967296) := by rw [T_step, ← HX.out, hbq]
          have hlt1 := T_lt s j a
          have hlt2 := T_lt s (j + 1) b
          rw [ea] at ca
          rw [eb] at cb
          have hset := (hrow2.out.set a (T s (j + 1) (a : Int))).congr (f' := tmix s j ((a : Int) + 1)) (fun m hm => by
            simp only [upd, tmix]
            by_cases e : m = a
            · subst e; simp; omega
            · by_cases e2 : (m : Int) < (a : Int)
              · simp [e, e2]; omega
              · have e4 : ¬ ((m : Int) < (a : Int) + 1) := by omega
                simp [e, e2, e4])
          have hb3 := hb2.setCell (p := ⟨g', a, none⟩) hrcl.1 (.int .u32 (T s (j + 1) (a : Int)))
          rw [e3] at hset hb3
          generalize T s j (a : Int) = y at *
          generalize T s (j + 1) (b : Int) = z at *
          have HS := Lib.hid hset
          have HB3 := Lib.hid hb3
          have hor := or_step y z hlt1
          have w1e : IntKind.i64.wrap (b : Int) = (b : Int) := IntWalk.i64_in _ (by omega)
          have i1 : (0 : Int) ≤ (a : Int) := by omega
          have i2 : (a : Int) < (N : Int) + 1 := by omega
          have i3 : (0 : Int) ≤ (b : Int) := by omega
          have i4 : (b : Int) < (N : Int) + 1 := by omega
          clear hset ea eb e3 hrow2 hrow hb3 hrws
          go_wp2
          go_region
          all_goals (go_wp2; go_roundw)
          case rel => exact ⟨(a : Int) + 1, rfl, by omega, by omega, Lib.hid HS.out.drew, HB3.out.drew⟩
          case measure => simp [intOf]; omega
        · have hfin := hrow2.out.congr (f' := fun m => (T s (j + 1) m : Int)) (fun m hm => by
            simp only [tmix]
            rw [if_pos (by omega)])
          have hws2 := hrws.out.below hb2 (Nat.le_refl _)
          have hfw := hfin.wide hb.size
          rw [← hrl] at hfw
          have HF := Lib.hid hfw
          have HW3 := Lib.hid hws2
          have hb4 : Below w.heap.size w wr := hb.trans (hb2.mono hb.size)
          have HRL := Lib.hid hrl
          clear hfin hws2 hfw hrow2 hrow hrws hrl
          go_wp2_with (at_builtin; refine wpList_append_own _ rfl _ _ 74 rfl w.heap.size 72 ir (.slice none 0 0) 1 24 Tryd.underlying74 hir hzr0 hzr1 hzr2 rfl (by decide) _ rs.length rs rfl (HW3.out.1.alloc _) ⟨wr.heap.size, 0, none⟩ 1 1 [.slice (some ⟨g', 0, none⟩) (N + 1) c'] rfl rfl ?c1 ?c2 ?c3 ?c4 ?c5 ?_)
          case c2 => rfl
          case c3 => have := HRL.out; unfold maxLen; omega
          case c4 => have := HRL.out; omega
          case c5 => have := hb4.size; simp; omega
          · intro v' w5 hown' hgrow _
            have happ := HW3.out.app HF.out hown' hgrow
            have hb5 : Below w.heap.size w w5 := (hb4.alloc hb4.size _).grown hgrow (by have := hb4.size; simp; omega) fun g hg => (HW3.out.1.lt g hg).1
            have h6 := happ.2
            rw [HRL.out] at h6
            have H5 := Lib.hid happ.1
            have H6 := Lib.hid h6
            clear hown' hgrow happ h6
            go_wp2
            go_roundw
            case rel => exact ⟨j + 1, _, _, _, by omega, by go_num, rfl, by simp [HRL.out], H6, H5, hb5⟩
            case measure => simp [intOf]; omega
    · obtain rfl : j = K := by omega
      go_wp2
      go_ret
      exact ⟨⟨_, _, rfl, hrl, hrws.out⟩, hb⟩
set_option maxHeartbeats 1600000 in
theorem countsByPlace_none (s : Int) (g0 c0 : Nat) (w : World) (hc : 1 ≤ c0) :
    Calls Tryd.prog 63 #[.slice (some ⟨g0, 0, none⟩) 1 c0, .int .i64 0] w fun e w' => (∃ v rs, e = .returned v ∧ rs.length = 1 ∧ Rcs w' w.heap.size v rs 1 (fun j m => T s j m)) ∧ Below w.heap.size w w' := by
  obtain ⟨i0, hi0, hz0, hz1, hz2⟩ := info_parts infoCo
  go_enter Tryd.func63, Tryd.ntmps63
  go_wp2_with (at_make; refine wpList_make_full _ rfl _ _ 72 rfl w.heap.size 77 i0 (.int .u32 0) 1 Tryd.underlying72 hi0 hz0 hz1 _ _ _ _ 1 rfl rfl (by rfl) (by rfl) (by rw [hz2]; omega) (by unfold maxLen; omega) (Nat.le_refl _) ?_; intro w1 hown1 hgrow1; have hr1 := roc_made hown1; have d0 := hr1.cell (j := 0) (by omega); have f0 := hr1.frozen 0)
  all_goals
    have hb1 : Below w.heap.size w w1 := (Below.refl _ _).grown hgrow1 (Nat.le_refl _) (fun g hg => by cases hg)
    have hr2 := (hr1.set 0 1).congr (f' := fun m => T s 0 m) (fun m hm => by rw [t_zero]; simp [upd])
    obtain ⟨w2, hw2⟩ : ∃ w2, w2 = (w1.setCell ⟨w.heap.size, 0, none⟩ (.int .u32 1)).alloc (.cells #[.slice (some ⟨w.heap.size, 0, none⟩) 1 1] 72) := ⟨_, rfl⟩
    have hb2 : Below w.heap.size w w2 := by rw [hw2]; exact (hb1.setCell (Nat.le_refl _) _).alloc (by simpa using hb1.size) _
    have hrow0 : Roc w2 w.heap.size w.heap.size 1 1 (fun m => T s 0 m) := by rw [hw2]; exact World.ownsRow.alloc hr2 _
    have hrws0 : Rcs w2 w.heap.size (.slice (some ⟨w1.heap.size, 0, none⟩) 1 1) [.slice (some ⟨w.heap.size, 0, none⟩) 1 1] 1 (fun j m => T s j m) := by
      refine ⟨?_, fun j u hu => ?_⟩
      · rw [hw2]
        have := World.ownsRow_lit (w1.setCell ⟨w.heap.size, 0, none⟩ (.int .u32 1)) (base := w.heap.size) (e := 72) (size := 1) #[.slice (some ⟨w.heap.size, 0, none⟩) 1 1] 1 (by simpa using hb1.size) (by unfold maxLen; omega) rfl
        simpa using this
      · match j, hu with
        | 0, hu => simp at hu; exact ⟨_, _, hu.symm, hrow0⟩
    rw [← hw2]
    have HS0 := Lib.hid hrws0
    clear hw2 hown1 hgrow1 hr1 d0 f0 hr2 hb1 hrow0 hrws0
    refine wp_loop_rounds 1 ?_
    rw [rounds_succ]
    go_wp2
    go_ret
    exact ⟨⟨_, _, rfl, rfl, HS0.out⟩, hb2⟩
theorem countsByPlace_any (s : Int) (N base0 g0 c0 : Nat) (w : World) (h1 : 3 ≤ s) (h2 : s ≤ 24) (hN : N ≤ 3000) (hnb : Row w base0 g0 ((pl s N).toNat + 1) c0 (fun j => num s (j : Int))) :
    Calls Tryd.prog 63 #[.slice (some ⟨g0, 0, none⟩) ((pl s N).toNat + 1) c0, .int .i64 N] w fun e w' => (∃ v rs, e = .returned v ∧ rs.length = (pl s N).toNat + 1 ∧ Rcs w' w.heap.size v rs (N + 1) (fun j m => T s j m)) ∧ Below w.heap.size w w' := by
  rcases Nat.eq_zero_or_pos N with h | h
  · subst h
    have hc : 1 ≤ c0 := by
      rcases hnb.2 with ⟨h, _⟩ | ⟨g, cap, cur, h, _, _, h3, _⟩
      · cases h
      · injection h with _ _ h; omega
    have e : (pl s ((0 : Nat) : Int)).toNat = 0 := by rw [show (((0 : Nat) : Int)) = 0 from rfl, pl_zero s h1]; rfl
    rw [e]
    exact countsByPlace_none s g0 c0 w hc
  · exact countsByPlace_some s N base0 g0 c0 w h1 h2 hN h hnb
end Go.Proofs.YtiloljldefodkaaDoor

/- The least number of parts: out of a set of counts; the specification's table of needs. -/
namespace Go.Proofs.YtiloljldefodkaaDoor
open Go.ChangeShapes Go.WideShapes Go.ChangeAt Go.RowKit

theorem ctz_bit (x i : Nat) (h0 : x ≠ 0) (h : x < 2 ^ 32) : (x.testBit (Lib.ctz 32 x) = true) ∧ (i < Lib.ctz 32 x → x.testBit i = false) := by
  obtain ⟨m, hm, hk⟩ := Lib.ctzFrom_spec 32 x (by omega) h
  have e : Lib.ctz 32 x = Lib.ctzFrom 32 x := by simp [Lib.ctz, h0]
  rw [e]
  generalize Lib.ctzFrom 32 x = k at *
  rw [hm, Nat.mul_comm]
  refine ⟨?_, fun hi => ?_⟩
  · rw [Nat.testBit_mul_two_pow]
    simp
  · rw [Nat.testBit_mul_two_pow]
    simp
    omega
theorem ctz_T (s m : Int) (K : Nat) (h1 : 3 ≤ s) (h2 : s ≤ 24) (h3 : 0 ≤ m) (h4 : m ≤ 3000) (hK : pl s m ≤ K) : T s K m ≠ 0 ∧ Lib.ctz 32 (T s K m) = need s m := by
  have hn := need_sides s m h1 h2 h3 h4
  have h5 := need_is s m h3
  have b1 : (T s K m).testBit (need s m) = true := by
    rw [T_bit]
    have h6 := (rep_pl s h1 _ m h3 K hK).1 h5.1
    simp [h6]
    omega
  have h0 : T s K m ≠ 0 := by
    intro e
    rw [e] at b1
    simp at b1
  refine ⟨h0, ?_⟩
  have hlt := T_lt s K m
  have c1 := ctz_bit (T s K m) (need s m) h0 (by omega)
  have hle : ¬ need s m < Lib.ctz 32 (T s K m) := fun h => by
    have := c1.2 h
    rw [b1] at this
    cases this
  have hge : ¬ Lib.ctz 32 (T s K m) < need s m := fun h => by
    have h7 := c1.1
    rw [T_bit] at h7
    simp at h7
    exact h5.2 _ h ⟨K, h7.2⟩
  omega

theorem tz32_core (x k idx : Nat) (w : World) (hz : ((x : Int) == 0) = false)
    (key : bits BinOp.and IntKind.u32 (x : Int) (-(x : Int) % 4294967296) * 125613361 % 4294967296 / 134217728 = (idx : Int))
    (hi : idx < 32) (hk : k < 32) (hcell : w.cell? ⟨0, idx, none⟩ = some (.int .u8 k)) :
    Calls Tryd.prog 74 #[.int .u32 x] w fun e w' => e = .returned (.int .i64 k) ∧ w = w' := by
  go_enter Tryd.func74, Tryd.ntmps74
  go_wp2_with (simp only [key])
  go_ret
  exact ⟨rfl, rfl⟩
theorem tz32_any (x : Nat) (w : World) (hx0 : x ≠ 0) (hx : x < 4294967296) (hT : TabAt 0 Lib.deBruijn32tab w) :
    Calls Tryd.prog 74 #[.int .u32 x] w fun e w' => e = .returned (.int .i64 (Lib.ctz 32 x)) ∧ w = w' := by
  obtain ⟨hlow, hk⟩ := Lib.lowest_bit 32 x hx0 hx
  obtain ⟨hi, htab⟩ := Lib.deBruijn32_at _ hk
  have hcell := hT _ hi
  rw [htab] at hcell
  exact tz32_core x _ _ w (by simp; omega) (tz32_key x _ hx hx0 hlow) hi hk hcell
theorem least_any (x : Nat) (w : World) (hx0 : x ≠ 0) (hx : x < 4294967296) (hT : TabAt 0 Lib.deBruijn32tab w) :
    Calls Tryd.prog 64 #[.int .u32 x] w fun e w' => e = .returned (.int .i64 (Lib.ctz 32 x)) ∧ w = w' := by
  go_enter Tryd.func64, Tryd.ntmps64
  go_wp2_with (go_at_call 74; refine (tz32_any _ _ hx0 hx hT).mono ?_; rintro e w' ⟨rfl, rfl⟩)
  go_ret
  exact ⟨rfl, rfl⟩
theorem TabAt.below {w w' : World} {B : Nat} (h : TabAt 0 Lib.deBruijn32tab w) (hb : Below B w w') (hB : 0 < B) : TabAt 0 Lib.deBruijn32tab w' := fun j hj =>
  (hb.cell (p := ⟨0, j, none⟩) hB).trans (h j hj)

/-- Needs below p; 0 from p on. -/
noncomputable def nmix (s : Int) (p : Nat) : Nat → Int := fun m => if m < p then (need s m : Int) else 0
/-- The least need that a part of a place below k leaves, and one more; 0 where there is none. -/
noncomputable def best (s m : Int) : Nat → Int
  | 0 => 0
  | k + 1 => if num s ((k : Int) + 1) ≤ m ∧ (best s m k = 0 ∨ (need s (m - num s ((k : Int) + 1)) : Int) + 1 < best s m k) then (need s (m - num s ((k : Int) + 1)) : Int) + 1 else best s m k
theorem best_bds (s m : Int) (h1 : 3 ≤ s) (h2 : s ≤ 24) (h4 : m ≤ 3000) (k : Nat) : 0 ≤ best s m k ∧ best s m k ≤ 25 := by
  induction k with
  | zero => simp [best]
  | succ k ih =>
    rw [best]
    split
    · rename_i h
      have h5 := num_nn s ((k : Int) + 1) h1
      have h6 := need_sides s (m - num s ((k : Int) + 1)) h1 h2 (by omega) (by omega)
      omega
    · exact ih
theorem best_spec (s m : Int) (hm : 1 ≤ m) (k : Nat) (hk : 1 ≤ k) :
    1 ≤ best s m k ∧ (∃ j : Nat, j < k ∧ num s ((j : Int) + 1) ≤ m ∧ best s m k = (need s (m - num s ((j : Int) + 1)) : Int) + 1) ∧ (∀ j : Nat, j < k → num s ((j : Int) + 1) ≤ m → best s m k ≤ (need s (m - num s ((j : Int) + 1)) : Int) + 1) := by
  induction k with
  | zero => omega
  | succ k ih =>
    rcases Nat.eq_zero_or_pos k with h0 | h0
    · subst h0
      have e1 : num s (((0 : Nat) : Int) + 1) = 1 := by simp [num_one]
      have e : best s m (0 + 1) = (need s (m - num s (((0 : Nat) : Int) + 1)) : Int) + 1 := by
        rw [best, if_pos ⟨by rw [e1]; exact hm, Or.inl rfl⟩]
      rw [e]
      refine ⟨by omega, ⟨0, by omega, by rw [e1]; exact hm, rfl⟩, fun j hj _ => ?_⟩
      have : j = 0 := by omega
      subst this
      omega
    · obtain ⟨a, ⟨j, hj1, hj2, hj3⟩, c⟩ := ih h0
      rw [best]
      split
      · rename_i h
        have hlt : (need s (m - num s ((k : Int) + 1)) : Int) + 1 < best s m k := by
          rcases h.2 with h5 | h5
          · omega
          · exact h5
        refine ⟨by omega, ⟨k, by omega, h.1, rfl⟩, fun i hi hi2 => ?_⟩
        by_cases e : i = k
        · subst e; omega
        · have := c i (by omega) hi2
          omega
      · rename_i h
        refine ⟨a, ⟨j, by omega, hj2, hj3⟩, fun i hi hi2 => ?_⟩
        by_cases e : i = k
        · subst e
          rcases Int.lt_or_le ((need s (m - num s ((i : Int) + 1)) : Int) + 1) (best s m i) with h5 | h5
          · exact absurd ⟨hi2, Or.inr h5⟩ h
          · exact h5
        · exact c i (by omega) hi2
theorem best_need (s m : Int) (hs : 3 ≤ s) (hm : 1 ≤ m) (k : Nat) (hk : (k : Int) = pl s m) : best s m k = (need s m : Int) := by
  have hp := pl_pos s m hs (by omega)
  obtain ⟨a, ⟨j, hj1, hj2, hj3⟩, c⟩ := best_spec s m hm k (by omega)
  have h1 := need_put s m ((j : Int) + 1) (by omega) (by omega) hs
  obtain ⟨q, hq1, hq2, hq3⟩ := need_top s m hs (by omega)
  have h2 := (fits_iff s m q hs (by omega) (by omega)).1 hq2
  have h3 := c (q - 1).toNat (by omega) (by rw [show ((((q - 1).toNat : Nat) : Int)) + 1 = q from by omega]; exact hq2)
  rw [show ((((q - 1).toNat : Nat) : Int)) + 1 = q from by omega] at h3
  omega

set_option maxHeartbeats 3200000 in
theorem suFewest_any (s : Int) (N : Nat) (w : World) (h1 : 3 ≤ s) (h2 : s ≤ 24) (hN : N ≤ 3000) :
    Calls Tryd.prog 35 #[.int .i64 s, .int .i64 N] w fun e w' => (∃ g c, e = .returned (.slice (some ⟨g, 0, none⟩) (N + 1) c) ∧ Row w' w.heap.size g (N + 1) c (fun m => (need s m : Int))) ∧ Below w.heap.size w w' := by
  obtain ⟨i0, hi0, hz0, hz1, hz2⟩ := info_parts infoInt
  obtain ⟨B, hB⟩ : ∃ B, w.heap.size = B := ⟨_, rfl⟩
  have HBB := Lib.hid hB
  go_enter Tryd.func35, Tryd.ntmps35
  go_wp2_with (at_make; refine wpList_make_full _ rfl _ _ 26 rfl w.heap.size 3 i0 (.int .i64 0) 1 Tryd.underlying26 hi0 hz0 hz1 _ _ _ _ (N + 1) rfl rfl (by push_cast; rfl) (by push_cast; rfl) (by rw [hz2]; omega) (by unfold maxLen; omega) (Nat.le_refl _) ?_; intro w1 hown1 hgrow1)
  have hb1 : Below B w w1 := by rw [← hB]; exact (Below.refl _ _).grown hgrow1 (Nat.le_refl _) (fun g hg => by cases hg)
  rw [hB] at hown1
  have hr1 := (row_made hown1).congr (f' := nmix s 1) (fun m hm => by
    simp only [nmix]
    by_cases e : m < 1
    · have : m = 0 := by omega
      subst this
      rw [if_pos e, show (((0 : Nat) : Int)) = 0 from rfl, need_zero]
      rfl
    · rw [if_neg e])
  have HR1 := Lib.hid hr1
  clear hown1 hgrow1 hr1 hB
  go_wp2
  go_loopw [6] (fun i wr => ∃ p : Nat, 1 ≤ p ∧ p ≤ N + 1 ∧ i = .int .i64 p ∧ Hid (Row wr B B (N + 1) (N + 1) (nmix s p)) ∧ Below B w wr) (fun i _ => N + 1 - (intOf i).toNat)
  case atStart => exact ⟨1, by omega, by omega, rfl, HR1, hb1⟩
  case round =>
    obtain ⟨p, hp1, hp2, rfl, hrow, hb⟩ := hrel
    by_cases hlt : p ≤ N
    · have hpI : (p : Int) ≤ (N : Int) := by omega
      have q1 := pl_77 s p h1 (by omega) (by omega)
      have q0 := pl_nn s p h1 (by omega)
      have HPL := Lib.hid (fun k : Int => fits_iff s p k h1 (by omega))
      have HBB2 := Lib.hid (fun k => best_bds s p h1 h2 (by omega) k)
      go_wp2
      go_loopw [7, 8] (fun b k wr2 => ∃ j : Nat, (j : Int) ≤ pl s p ∧ k = .int .i64 ((j : Int) + 1) ∧ b = .int .i64 (best s p j) ∧ Hid (Row wr2 B B (N + 1) (N + 1) (nmix s p)) ∧ Below B w wr2) (fun _ k _ => (pl s p + 1 - intOf k).toNat)
      case atStart => exact ⟨0, q0, rfl, rfl, hrow, hb⟩
      case round =>
        clear hrow hb
        obtain ⟨j, hj, rfl, rfl, hrow, hb⟩ := hrel
        have hm := HPL.out ((j : Int) + 1) (by omega)
        by_cases hlt2 : (j : Int) + 1 ≤ pl s p
        · have hx := hm.2 hlt2
          have hnn := num_nn s ((j : Int) + 1) h1
          have hps := num_pos s ((j : Int) + 1) h1 (by omega)
          obtain ⟨b, hbq⟩ := Int.eq_ofNat_of_zero_le (show 0 ≤ (p : Int) - num s ((j : Int) + 1) by omega)
          have hnb := need_sides s b h1 h2 (by omega) (by omega)
          have cb := hrow.out.cell (j := b) (by omega)
          have eb : nmix s p b = (need s b : Int) := by simp only [nmix]; rw [if_pos (by omega)]
          rw [eb] at cb
          have hbb := HBB2.out j
          have n1 : (0 : Int) ≤ (b : Int) := by omega
          have n2 : (b : Int) < (N : Int) + 1 := by omega
          have hnn2 : (0 : Int) ≤ (need s b : Int) := by omega
          have HS : Hid (best s p (j + 1) = if best s p j = 0 ∨ (need s b : Int) + 1 < best s p j then (need s b : Int) + 1 else best s p j) := by
            refine Lib.hid ?_
            rw [best, hbq]
            by_cases h : best s p j = 0 ∨ (need s b : Int) + 1 < best s p j
            · rw [if_pos h, if_pos ⟨hx, h⟩]
            · rw [if_neg h, if_neg (fun h2 => h h2.2)]
          generalize (need s b : Int) = nb at *
          clear eb hm
          by_cases hz : best s p j = 0
          · have HF : Hid (best s p (j + 1) = nb + 1) := Lib.hid (by rw [HS.out, if_pos (Or.inl hz)])
            rw [hz]
            clear hz HS
            go_wp2_with (go_at_call 41; refine (shNumber_any _ _ _ h1 h2 (by omega) (by omega)).mono ?_; rintro e w' ⟨rfl, rfl⟩)
            go_roundw
            case rel => exact ⟨j + 1, by omega, by go_num, by rw [HF.out], hrow, hb⟩
            case measure => simp [intOf]; omega
          · have hzb : (best s p j == 0) = false := by simpa using hz
            by_cases hl : nb + 1 < best s p j
            · have HF : Hid (best s p (j + 1) = nb + 1) := Lib.hid (by rw [HS.out, if_pos (Or.inr hl)])
              clear hz HS
              generalize best s p j = bj at *
              go_wp2_with (go_at_call 41; refine (shNumber_any _ _ _ h1 h2 (by omega) (by omega)).mono ?_; rintro e w' ⟨rfl, rfl⟩)
              go_roundw
              case rel => exact ⟨j + 1, by omega, by go_num, by rw [HF.out], hrow, hb⟩
              case measure => simp [intOf]; omega
            · have HF : Hid (best s p (j + 1) = best s p j) := Lib.hid (by rw [HS.out, if_neg (fun h => h.elim hz hl)])
              clear hz HS
              generalize best s p j = bj at *
              go_wp2_with (go_at_call 41; refine (shNumber_any _ _ _ h1 h2 (by omega) (by omega)).mono ?_; rintro e w' ⟨rfl, rfl⟩)
              go_roundw
              case rel => exact ⟨j + 1, by omega, by go_num, by rw [HF.out], hrow, hb⟩
              case measure => simp [intOf]; omega
        · have hn : (p : Int) < num s ((j : Int) + 1) := by
            rcases Int.lt_or_le (p : Int) (num s ((j : Int) + 1)) with h | h
            · exact h
            · exact absurd (hm.1 h) hlt2
          have hbn := best_need s p h1 (by omega) j (by omega)
          have cp := hrow.out.cell (j := p) (by omega)
          have fp := hrow.out.frozen p
          have hset := (hrow.out.set p (best s p j)).congr (f' := nmix s (p + 1)) (fun m hm => by
            simp only [upd, nmix]
            by_cases e : m = p
            · subst e; rw [if_pos rfl, if_pos (by omega), hbn]
            · have e2 : (m < p + 1) = (m < p) := propext (by omega)
              rw [if_neg e]
              simp only [e2])
          have hb3 := hb.setCell (p := ⟨B, p, none⟩) (Nat.le_refl _) (.int .i64 (best s p j))
          have HS := Lib.hid hset
          have HB3 := Lib.hid hb3
          have n2 : (p : Int) < (N : Int) + 1 := by omega
          generalize best s p j = bj at *
          clear hset hb3 hrow hm hbn
          go_wp2_with (go_at_call 41; refine (shNumber_any _ _ _ h1 h2 (by omega) (by omega)).mono ?_; rintro e w' ⟨rfl, rfl⟩)
          go_roundw
          case rel => exact ⟨p + 1, by omega, by omega, by go_num, HS, HB3.out⟩
          case measure => simp [intOf]; omega
    · have hf := hrow.out.congr (f' := fun m => (need s m : Int)) (fun m hm => by simp only [nmix]; rw [if_pos (by omega)])
      have HF := Lib.hid hf
      clear hf hrow
      go_wp2
      go_ret
      rw [HBB.out]
      exact ⟨⟨_, _, rfl, HF.out⟩, hb⟩
end Go.Proofs.YtiloljldefodkaaDoor

/- Rising sequences of numbers and the last place that fits; the dots of pyramids. No program in sight. -/
namespace Go.Proofs.YtiloljldefodkaaDoor

/-- A sequence that begins with 0 and 1 and rises from place to place. -/
structure Sq (f : Int → Int) : Prop where
  zero : f 0 = 0
  one : f 1 = 1
  up : ∀ k, 0 ≤ k → f k < f (k + 1)

theorem Sq.lt_add {f : Int → Int} (h : Sq f) (a : Int) (ha : 0 ≤ a) (d : Nat) : f a < f (a + d + 1) := by
  induction d with
  | zero => simpa using h.up a ha
  | succ d ih =>
    have h1 := h.up (a + d + 1) (by omega)
    have e : a + ((d + 1 : Nat) : Int) + 1 = a + d + 1 + 1 := by omega
    rw [e]
    omega
theorem Sq.lt {f : Int → Int} (h : Sq f) {a b : Int} (ha : 0 ≤ a) (hb : a < b) : f a < f b := by
  have := h.lt_add a ha (b - a - 1).toNat
  have e : a + ((b - a - 1).toNat : Int) + 1 = b := by omega
  rwa [e] at this
theorem Sq.le {f : Int → Int} (h : Sq f) {a b : Int} (ha : 0 ≤ a) (hb : a ≤ b) : f a ≤ f b := by
  rcases Int.lt_or_eq_of_le hb with h1 | h1
  · exact Int.le_of_lt (h.lt ha h1)
  · rw [h1]; exact Int.le_refl _
theorem Sq.nn {f : Int → Int} (h : Sq f) {k : Int} (hk : 0 ≤ k) : 0 ≤ f k := by
  have := h.le (a := 0) (by omega) hk
  rw [h.zero] at this
  exact this
theorem Sq.pos {f : Int → Int} (h : Sq f) {k : Int} (hk : 1 ≤ k) : 1 ≤ f k := by
  have := h.le (a := 1) (by omega) hk
  rw [h.one] at this
  exact this

def IsLst (f : Int → Int) (n k : Int) : Prop := 0 ≤ k ∧ f k ≤ n ∧ n < f (k + 1)
theorem lst_ex {f : Int → Int} (h : Sq f) (n : Nat) : ∃ k, IsLst f n k := by
  induction n with
  | zero => exact ⟨0, by omega, by simp [h.zero], by have := h.one; simp; omega⟩
  | succ n ih =>
    obtain ⟨k, h0, h1, h2⟩ := ih
    by_cases hc : f (k + 1) ≤ ((n + 1 : Nat) : Int)
    · exact ⟨k + 1, by omega, hc, by have := h.up (k + 1) (by omega); omega⟩
    · exact ⟨k, h0, by omega, by omega⟩
/-- The greatest place whose number is no greater. -/
noncomputable def lst (f : Int → Int) (n : Int) : Int := Classical.epsilon (IsLst f n)
theorem lst_is {f : Int → Int} (h : Sq f) (n : Int) (hn : 0 ≤ n) : IsLst f n (lst f n) := by
  obtain ⟨m, rfl⟩ := Int.eq_ofNat_of_zero_le hn
  exact Classical.epsilon_spec (lst_ex h m)
theorem lst_nn {f : Int → Int} (h : Sq f) (n : Int) (hn : 0 ≤ n) : 0 ≤ lst f n := (lst_is h n hn).1
theorem lst_iff {f : Int → Int} (h : Sq f) (n k : Int) (hn : 0 ≤ n) (hk : 0 ≤ k) : f k ≤ n ↔ k ≤ lst f n := by
  obtain ⟨h0, h1, h2⟩ := lst_is h n hn
  constructor
  · intro h3
    rcases Int.lt_or_le (lst f n) k with hlt | hle
    · have := h.le (a := lst f n + 1) (b := k) (by omega) (by omega)
      omega
    · exact hle
  · intro h3
    have := h.le hk h3
    omega
theorem lst_lt {f : Int → Int} (h : Sq f) (n k : Int) (hn : 0 ≤ n) (hk : 0 ≤ k) (hf : n < f k) : lst f n < k := by
  rcases Int.lt_or_le (lst f n) k with h1 | h1
  · exact h1
  · have := (lst_iff h n k hn hk).2 h1
    omega
theorem lst_zero {f : Int → Int} (h : Sq f) : lst f 0 = 0 := by
  have h1 := lst_nn h 0 (by omega)
  have h2 := lst_lt h 0 1 (by omega) (by omega) (by rw [h.one]; omega)
  omega
theorem lst_pos {f : Int → Int} (h : Sq f) (n : Int) (hn : 0 < n) : 1 ≤ lst f n :=
  (lst_iff h n 1 (by omega) (by omega)).1 (by rw [h.one]; omega)

theorem sq_num (s : Int) (hs : 3 ≤ s) : Sq (num s) := ⟨num_zero s, num_one s, fun k hk => num_lt_succ s k hs hk⟩
theorem lst_num (s n : Int) (hs : 3 ≤ s) (hn : 0 ≤ n) : lst (num s) n = pl s n := by
  have h1 := fits_iff s n (lst (num s) n) hs hn (lst_nn (sq_num s hs) n hn)
  have h2 := lst_iff (sq_num s hs) n (pl s n) hn (pl_nn s n hs hn)
  have h3 := (lst_iff (sq_num s hs) n (lst (num s) n) hn (lst_nn (sq_num s hs) n hn)).2 (Int.le_refl _)
  have h4 := (fits_iff s n (pl s n) hs hn (pl_nn s n hs hn)).2 (Int.le_refl _)
  have h5 := h1.1 h3
  have h6 := h2.1 h4
  omega

/-! ### pyramids -/
/-- The dots of a pyramid of s sides with k layers. -/
def pyr (s k : Int) : Int := k * (k + 1) * ((s - 2) * k - (s - 5)) / 6

theorem tri_six (k : Int) : (k - 1) * k * (k + 1) % 6 = 0 := by
  have h2 : (k - 1) * k * (k + 1) % 2 = 0 := by
    rcases Int.emod_two_eq k with h | h <;> simp [Int.mul_emod, Int.sub_emod, Int.add_emod, h]
  have h3 : (k - 1) * k * (k + 1) % 3 = 0 := by
    have h : k % 3 = 0 ∨ k % 3 = 1 ∨ k % 3 = 2 := by omega
    rcases h with h | h | h <;> simp [Int.mul_emod, Int.sub_emod, Int.add_emod, h]
  omega
theorem pyr_form (s k : Int) : k * (k + 1) * ((s - 2) * k - (s - 5)) = (s - 2) * ((k - 1) * k * (k + 1)) + 3 * (k * (k + 1)) := by grind
theorem pyr_six (s k : Int) : 6 * pyr s k = k * (k + 1) * ((s - 2) * k - (s - 5)) := by
  have h1 := tri_six k
  have h2 := even_pr (k + 1)
  have h : k * (k + 1) * ((s - 2) * k - (s - 5)) = 6 * ((s - 2) * ((k - 1) * k * (k + 1) / 6) + (k + 1) * (k + 1 - 1) / 2) := by
    have h3 : (k - 1) * k * (k + 1) = 6 * ((k - 1) * k * (k + 1) / 6) := by omega
    have h4 : (k + 1) * (k + 1 - 1) = 2 * ((k + 1) * (k + 1 - 1) / 2) := by omega
    rw [pyr_form]
    generalize (k - 1) * k * (k + 1) / 6 = q at h3
    generalize (k + 1) * (k + 1 - 1) / 2 = r at h4
    rw [h3]
    grind
  unfold pyr
  rw [h]
  omega
theorem pyr_zero (s : Int) : pyr s 0 = 0 := by simp [pyr]
theorem pyr_succ (s k : Int) : pyr s (k + 1) = pyr s k + num s (k + 1) := by
  have h1 := pyr_six s k
  have h2 := pyr_six s (k + 1)
  have h3 := num_twice s (k + 1)
  grind
theorem pyr_one (s : Int) : pyr s 1 = 1 := by
  have := pyr_succ s 0
  rw [pyr_zero, show (0 : Int) + 1 = 1 from rfl, num_one] at this
  omega
theorem sq_pyr (s : Int) (hs : 3 ≤ s) : Sq (pyr s) := ⟨pyr_zero s, pyr_one s, fun k hk => by
  have h1 := pyr_succ s k
  have h2 := num_mono_le s hs (a := 1) (b := k + 1) (by omega) (by omega)
  rw [num_one] at h2
  omega⟩

/-- What a walk over k (k + 1) ((s - 2) k - (s - 5)) / 6 asks. -/
structure PyrBds (s k : Int) : Prop where
  a0 : 0 ≤ k * (k + 1)
  a1 : k * (k + 1) ≤ 1073774592
  b0 : 0 ≤ (s - 2) * k
  b1 : (s - 2) * k ≤ 720896
  c0 : -1000000000000000 ≤ k * (k + 1) * ((s - 2) * k - (s - 5))
  c1 : k * (k + 1) * ((s - 2) * k - (s - 5)) ≤ 1000000000000000
  d0 : 0 ≤ k * (k + 1) * ((s - 2) * k - (s - 5))
theorem pyr_bds (s k : Int) (h1 : 3 ≤ s) (h2 : s ≤ 24) (h3 : 0 ≤ k) (h4 : k ≤ 32768) : PyrBds s k := by
  have a0 : 0 ≤ k * (k + 1) := Int.mul_nonneg h3 (by omega)
  have a1 : k * (k + 1) ≤ 32768 * 32769 := Int.mul_le_mul h4 (by omega) (by omega) (by omega)
  have b0 : 0 ≤ (s - 2) * k := Int.mul_nonneg (by omega) h3
  have b1 : (s - 2) * k ≤ 22 * 32768 := Int.mul_le_mul (by omega) h4 h3 (by omega)
  have e : 0 ≤ k * (k + 1) * ((s - 2) * k - (s - 5)) := by
    have := pyr_six s k
    have := (sq_pyr s h1).nn h3
    omega
  have f : k * (k + 1) * ((s - 2) * k - (s - 5)) ≤ 1073774592 * 720898 := by
    have h5 := Int.mul_nonneg (a := k * (k + 1)) (b := 720898 - ((s - 2) * k - (s - 5))) a0 (by omega)
    have h6 : k * (k + 1) * (720898 - ((s - 2) * k - (s - 5))) = 720898 * (k * (k + 1)) - k * (k + 1) * ((s - 2) * k - (s - 5)) := by grind
    omega
  constructor <;> omega
/-- Three sides ask for the most layers. -/
theorem pyr_ge (s k : Int) (hs : 3 ≤ s) (hk : 0 ≤ k) : k * (k + 1) * (k + 2) ≤ 6 * pyr s k := by
  rw [pyr_six]
  have h1 : k * (k + 1) * ((s - 2) * k - (s - 5)) = k * (k + 1) * (k + 2) + (s - 3) * ((k - 1) * k * (k + 1)) := by grind
  have h2 : 0 ≤ (k - 1) * k * (k + 1) := by
    have := Int.mul_nonneg (a := k * (k - 1)) (b := k + 1) (pr_nn k) (by omega)
    have e : k * (k - 1) * (k + 1) = (k - 1) * k * (k + 1) := by grind
    omega
  have h3 := Int.mul_nonneg (a := s - 3) (b := (k - 1) * k * (k + 1)) (by omega) h2
  omega
theorem pyl_lt (s n : Int) (hs : 3 ≤ s) (hn : 0 ≤ n) (h : n ≤ 1000000000000) : lst (pyr s) n < 20000 := by
  refine lst_lt (sq_pyr s hs) n 20000 hn (by omega) ?_
  have := pyr_ge s 20000 hs (by omega)
  omega
end Go.Proofs.YtiloljldefodkaaDoor

/- Sums of numbers of a rising sequence: in how many ways, by how few. No program in sight. -/
namespace Go.Proofs.YtiloljldefodkaaDoor

/-- In how many ways m is a sum of just i numbers of the sequence of places 1, .., k. -/
def gW (f : Int → Int) : Nat → Nat → Int → Nat
  | 0, i, m => if i = 0 ∧ m = 0 then 1 else 0
  | k + 1, 0, m => gW f k 0 m
  | k + 1, i + 1, m => gW f k (i + 1) m + gW f (k + 1) i (m - f ((k : Int) + 1))
termination_by k i => (k, i)

theorem gW_00 (f : Int → Int) (i : Nat) (m : Int) : gW f 0 i m = if i = 0 ∧ m = 0 then 1 else 0 := by rw [gW]
theorem gW_k0 (f : Int → Int) (k : Nat) (m : Int) : gW f k 0 m = if m = 0 then 1 else 0 := by
  induction k with
  | zero => rw [gW]; simp
  | succ k ih => rw [gW]; exact ih
theorem gW_kk (f : Int → Int) (k i : Nat) (m : Int) : gW f (k + 1) (i + 1) m = gW f k (i + 1) m + gW f (k + 1) i (m - f ((k : Int) + 1)) := by rw [gW]
theorem gW_neg (f : Int → Int) (hs : Sq f) (k : Nat) : ∀ (i : Nat) (m : Int), m < 0 → gW f k i m = 0 := by
  induction k with
  | zero => intro i m h; rw [gW_00, if_neg (by omega)]
  | succ k ih =>
    intro i
    induction i with
    | zero => intro m h; rw [gW_k0, if_neg (by omega)]
    | succ i ih2 =>
      intro m h
      have := hs.nn (k := (k : Int) + 1) (by omega)
      rw [gW_kk, ih _ _ h, ih2 _ (by omega)]
theorem gW_above (f : Int → Int) (hs : Sq f) (k i : Nat) (m : Int) (h : m < f ((k : Int) + 1)) : gW f (k + 1) i m = gW f k i m := by
  cases i with
  | zero => rw [gW_k0, gW_k0]
  | succ i => rw [gW_kk, gW_neg f hs (k + 1) i (m - f ((k : Int) + 1)) (by omega)]; omega
theorem gW_pl_add (f : Int → Int) (hs : Sq f) (i : Nat) (m : Int) (hm : 0 ≤ m) (d : Nat) : gW f ((lst f m).toNat + d) i m = gW f (lst f m).toNat i m := by
  induction d with
  | zero => rfl
  | succ d ih =>
    have h0 := lst_nn hs m hm
    have h1 := lst_iff hs m (((lst f m).toNat + d : Nat) + 1 : Int) hm (by omega)
    rw [← Nat.add_assoc, gW_above f hs, ih]
    rcases Int.lt_or_le m (f ((((lst f m).toNat + d : Nat) : Int) + 1)) with h | h
    · exact h
    · have := h1.1 h; omega
/-- Places beyond the last one that fits turn nothing. -/
theorem gW_pl (f : Int → Int) (hs : Sq f) (i : Nat) (m : Int) (hm : 0 ≤ m) (k : Nat) (hk : lst f m ≤ k) : gW f k i m = gW f (lst f m).toNat i m := by
  have h0 := lst_nn hs m hm
  have e : k = (lst f m).toNat + (k - (lst f m).toNat) := by omega
  rw [e]
  exact gW_pl_add f hs i m hm _
theorem gW_mono (f : Int → Int) (k d i : Nat) (m : Int) : gW f k i m ≤ gW f (k + d) i m := by
  induction d with
  | zero => exact Nat.le_refl _
  | succ d ih =>
    refine Nat.le_trans ih ?_
    rw [← Nat.add_assoc]
    cases i with
    | zero => rw [gW_k0, gW_k0]; exact Nat.le_refl _
    | succ i => rw [gW_kk]; omega
theorem gW_le (f : Int → Int) {k l : Nat} (i : Nat) (m : Int) (h : k ≤ l) : gW f k i m ≤ gW f l i m := by
  have := gW_mono f k (l - k) i m
  rwa [Nat.add_sub_cancel' h] at this

/-- One part more, of whichever place. -/
theorem gW_put (f : Int → Int) (l : Nat) (K : Nat) : ∀ (i : Nat) (m : Int), l + 1 ≤ K → 0 < gW f K i (m - f ((l : Int) + 1)) → 0 < gW f K (i + 1) m := by
  induction K with
  | zero => intro i m h; omega
  | succ K ih =>
    intro i
    induction i with
    | zero =>
      intro m h hp
      rw [gW_kk]
      by_cases e : l = K
      · subst e; omega
      · have := ih 0 m (by omega) (by rw [gW_k0] at hp ⊢; exact hp)
        omega
    | succ i ih2 =>
      intro m h hp
      rw [gW_kk]
      by_cases e : l = K
      · subst e; omega
      · rw [gW_kk] at hp
        by_cases h1 : 0 < gW f K (i + 1) (m - f ((l : Int) + 1))
        · have := ih (i + 1) m (by omega) h1
          omega
        · have h2 : 0 < gW f (K + 1) i (m - f ((K : Int) + 1) - f ((l : Int) + 1)) := by
            have e2 : m - f ((K : Int) + 1) - f ((l : Int) + 1) = m - f ((l : Int) + 1) - f ((K : Int) + 1) := by omega
            rw [e2]
            omega
          have := ih2 _ (by omega) h2
          omega
/-- The greatest part of a sum. -/
theorem gW_top (f : Int → Int) (K : Nat) (i : Nat) (m : Int) (h : 0 < gW f K (i + 1) m) : ∃ l : Nat, l + 1 ≤ K ∧ 0 < gW f (l + 1) i (m - f ((l : Int) + 1)) := by
  induction K with
  | zero => rw [gW_00] at h; simp at h
  | succ K ih =>
    rw [gW_kk] at h
    by_cases h1 : 0 < gW f K (i + 1) m
    · obtain ⟨l, a, b⟩ := ih h1
      exact ⟨l, by omega, b⟩
    · exact ⟨K, by omega, by omega⟩

/-! ### as few parts as there may be -/
/-- m is a sum of just c parts. -/
def gRep (f : Int → Int) (c : Nat) (m : Int) : Prop := ∃ k, 0 < gW f k c m
theorem gRep_zero (f : Int → Int) (m : Int) : gRep f 0 m ↔ m = 0 := by
  constructor
  · rintro ⟨k, h⟩
    rw [gW_k0] at h
    by_cases e : m = 0
    · exact e
    · rw [if_neg e] at h; omega
  · rintro rfl
    exact ⟨0, by rw [gW_k0]; simp⟩
theorem gRep_put (f : Int → Int) (c : Nat) (m : Int) (l : Nat) (h : gRep f c (m - f ((l : Int) + 1))) : gRep f (c + 1) m := by
  obtain ⟨k, hk⟩ := h
  refine ⟨k + (l + 1), gW_put f l _ c m (by omega) ?_⟩
  exact Nat.lt_of_lt_of_le hk (gW_le f c _ (by omega))
theorem gRep_top (f : Int → Int) (c : Nat) (m : Int) (h : gRep f (c + 1) m) : ∃ l : Nat, gRep f c (m - f ((l : Int) + 1)) := by
  obtain ⟨k, hk⟩ := h
  obtain ⟨l, _, h2⟩ := gW_top f k c m hk
  exact ⟨l, _, h2⟩
theorem gRep_nn (f : Int → Int) (hs : Sq f) (c : Nat) (m : Int) (h : gRep f c m) : 0 ≤ m := by
  rcases Int.lt_or_le m 0 with h1 | h1
  · obtain ⟨k, hk⟩ := h
    rw [gW_neg f hs k c m h1] at hk
    omega
  · exact h1
theorem gRep_pl (f : Int → Int) (hs : Sq f) (c : Nat) (m : Int) (hm : 0 ≤ m) (K : Nat) (hK : lst f m ≤ K) : gRep f c m ↔ 0 < gW f K c m := by
  constructor
  · rintro ⟨k, hk⟩
    have h1 := gW_le f c m (Nat.le_max_left k K)
    rw [gW_pl f hs c m hm (max k K) (by omega)] at h1
    rw [gW_pl f hs c m hm K hK]
    omega
  · exact fun h => ⟨K, h⟩
theorem gRep_ones (f : Int → Int) (hs : Sq f) (m : Nat) : gRep f m (m : Int) := by
  induction m with
  | zero => exact (gRep_zero f _).2 (by simp)
  | succ m ih =>
    refine gRep_put f m _ 0 ?_
    have e : ((m + 1 : Nat) : Int) - f (((0 : Nat) : Int) + 1) = (m : Int) := by simp [hs.one]
    rw [e]
    exact ih

theorem gLeast_ex {P : Nat → Prop} : ∀ n, P n → ∃ c, P c ∧ ∀ d, d < c → ¬ P d := by
  intro n
  induction n using Nat.strongRecOn with
  | ind n ih =>
    intro h
    by_cases h1 : ∃ d, d < n ∧ P d
    · obtain ⟨d, h2, h3⟩ := h1
      exact ih d h2 h3
    · exact ⟨n, h, fun d h2 h3 => h1 ⟨d, h2, h3⟩⟩
/-- The least number of parts. -/
noncomputable def gNeed (f : Int → Int) (m : Int) : Nat := Classical.epsilon fun c => gRep f c m ∧ ∀ d, d < c → ¬ gRep f d m
theorem gNeed_is (f : Int → Int) (hs : Sq f) (m : Int) (hm : 0 ≤ m) : gRep f (gNeed f m) m ∧ ∀ d, d < gNeed f m → ¬ gRep f d m := by
  obtain ⟨n, rfl⟩ := Int.eq_ofNat_of_zero_le hm
  exact Classical.epsilon_spec (gLeast_ex (P := fun c => gRep f c (n : Int)) n (gRep_ones f hs n))
theorem gNeed_le (f : Int → Int) (hs : Sq f) (m : Int) (hm : 0 ≤ m) (c : Nat) (h : gRep f c m) : gNeed f m ≤ c := by
  rcases Nat.lt_or_ge c (gNeed f m) with h1 | h1
  · exact absurd h ((gNeed_is f hs m hm).2 c h1)
  · exact h1
theorem gNeed_zero (f : Int → Int) (hs : Sq f) : gNeed f 0 = 0 := by
  have := gNeed_le f hs 0 (by omega) 0 ((gRep_zero f 0).2 rfl)
  omega
theorem gNeed_pos (f : Int → Int) (hs : Sq f) (m : Int) (hm : 0 < m) : 1 ≤ gNeed f m := by
  rcases Nat.lt_or_ge 0 (gNeed f m) with h | h
  · exact h
  · have e : gNeed f m = 0 := by omega
    have h1 := (gNeed_is f hs m (by omega)).1
    rw [e] at h1
    have := (gRep_zero f m).1 h1
    omega
/-- One part of place k less, one gNeed less at most. -/
theorem gNeed_put (f : Int → Int) (m k : Int) (hk : 1 ≤ k) (h : 0 ≤ m - f k) (hs : Sq f) : gNeed f m ≤ gNeed f (m - f k) + 1 := by
  have h1 := hs.nn (k := k) (by omega)
  refine gNeed_le f hs m (by omega) _ (gRep_put f _ m (k - 1).toNat ?_)
  have e : (((k - 1).toNat : Nat) : Int) + 1 = k := by omega
  rw [e]
  exact (gNeed_is f hs _ h).1
/-- Some part leaves one gNeed less. -/
theorem gNeed_top (f : Int → Int) (m : Int) (hs : Sq f) (hm : 0 < m) : ∃ k, 1 ≤ k ∧ f k ≤ m ∧ gNeed f m = gNeed f (m - f k) + 1 := by
  have h0 := gNeed_pos f hs m hm
  have h1 := (gNeed_is f hs m (by omega)).1
  have e : gNeed f m = gNeed f m - 1 + 1 := by omega
  rw [e] at h1
  obtain ⟨l, h2⟩ := gRep_top f _ m h1
  have h3 := gRep_nn f hs _ _ h2
  refine ⟨(l : Int) + 1, by omega, by omega, ?_⟩
  have h4 := gNeed_le f hs _ h3 _ h2
  have h5 := gNeed_put f m ((l : Int) + 1) (by omega) h3 hs
  omega

/-! ### no more parts than sides -/

/-! ### bits: what has no more than c parts -/
def gbitsOf (xs : List Nat) : Nat → Nat
  | 0 => 1
  | c + 1 => xs.foldl (fun b x => b ||| (gbitsOf xs c <<< x)) (gbitsOf xs c)
theorem gfoldl_bit (b0 : Nat) (xs : List Nat) : ∀ (b : Nat) (n : Nat), (xs.foldl (fun b x => b ||| (b0 <<< x)) b).testBit n = true → b.testBit n = true ∨ ∃ x ∈ xs, x ≤ n ∧ b0.testBit (n - x) = true := by
  induction xs with
  | nil => intro b n h; exact Or.inl h
  | cons x xs ih =>
    intro b n h
    rcases ih _ n h with h1 | ⟨y, h2, h3⟩
    · rw [Nat.testBit_or, Bool.or_eq_true, Nat.testBit_shiftLeft, Bool.and_eq_true, decide_eq_true_eq] at h1
      rcases h1 with h1 | ⟨h4, h5⟩
      · exact Or.inl h1
      · exact Or.inr ⟨x, by simp, h4, h5⟩
    · exact Or.inr ⟨y, by simp [h2], h3⟩
theorem gbits_need (f : Int → Int) (hs : Sq f) (xs : List Nat) (hx : ∀ x ∈ xs, ∃ j : Nat, (x : Int) = f ((j : Int) + 1)) (c : Nat) : ∀ n : Nat, (gbitsOf xs c).testBit n = true → gNeed f (n : Int) ≤ c := by
  induction c with
  | zero =>
    intro n h
    simp only [gbitsOf] at h
    have e : n = 0 := by
      rcases Nat.eq_zero_or_pos n with h1 | h1
      · exact h1
      · obtain ⟨j, rfl⟩ : ∃ j, n = j + 1 := ⟨n - 1, by omega⟩
        rw [Nat.testBit_succ] at h
        simp at h
    rw [e]
    simp [gNeed_zero f hs]
  | succ c ih =>
    intro n h
    rcases gfoldl_bit _ xs _ n h with h1 | ⟨x, h2, h3, h4⟩
    · have := ih n h1; omega
    · obtain ⟨j, hj⟩ := hx x h2
      have h5 := ih _ h4
      have e : ((n - x : Nat) : Int) = (n : Int) - f ((j : Int) + 1) := by omega
      rw [e] at h5
      have := gNeed_put f n ((j : Int) + 1) (by omega) (by omega) hs
      omega
def gfull (n : Nat) : Nat := 2 ^ n - 1
theorem gfull_bit (n m : Nat) (h : m < n) : (gfull n).testBit m = true := by
  unfold gfull
  rw [Nat.testBit_two_pow_sub_one, decide_eq_true h]
/-- The tetrahedra of 1, .., 19 layers. -/
def tets : List Nat := [1, 4, 10, 20, 35, 56, 84, 120, 165, 220, 286, 364, 455, 560, 680, 816, 969, 1140, 1330]
theorem tets_mem : ∀ x ∈ tets, ∃ j : Nat, (x : Int) = pyr 3 ((j : Int) + 1) := by
  have h : ∀ x ∈ tets, ∃ j ∈ List.range 19, (x : Int) = pyr 3 ((j : Int) + 1) := by decide +kernel
  intro x hx
  obtain ⟨j, _, hj⟩ := h x hx
  exact ⟨j, hj⟩
def tetOk : Bool := (gbitsOf tets 5 &&& gfull 1501) == gfull 1501
theorem tetOk_is : tetOk = true := by kernel_rfl
/-- No number up to 1500 needs more than five tetrahedra. -/
theorem need_tets (n : Int) (h3 : 0 ≤ n) (h4 : n ≤ 1500) : gNeed (pyr 3) n ≤ 5 := by
  obtain ⟨m, rfl⟩ := Int.eq_ofNat_of_zero_le h3
  have h := tetOk_is
  unfold tetOk at h
  have h5 := eq_of_beq h
  have h6 : (gbitsOf tets 5 &&& gfull 1501).testBit m = (gfull 1501).testBit m := by rw [h5]
  rw [Nat.testBit_and, gfull_bit 1501 m (by omega), Bool.and_true] at h6
  exact gbits_need _ (sq_pyr 3 (by omega)) tets tets_mem 5 m h6

/-- No count is too great. -/
theorem gW_bound (f : Int → Int) (k : Nat) : ∀ (i : Nat) (m : Int), gW f k i m ≤ (k + 1) ^ i := by
  induction k with
  | zero =>
    intro i m
    rw [gW_00]
    have := Nat.pow_pos (n := i) (show 0 < 0 + 1 by omega)
    split <;> omega
  | succ k ih =>
    intro i
    induction i with
    | zero => intro m; rw [gW_k0]; simp; split <;> omega
    | succ i ih2 =>
      intro m
      rw [gW_kk]
      have h1 := ih (i + 1) m
      have h2 := ih2 (m - f ((k : Int) + 1))
      have h3 : (k + 1) ^ i ≤ (k + 1 + 1) ^ i := Nat.pow_le_pow_left (by omega) i
      have h4 : (k + 1) ^ (i + 1) = (k + 1) ^ i * (k + 1) := Nat.pow_succ ..
      have h5 : (k + 1 + 1) ^ (i + 1) = (k + 1 + 1) ^ i * (k + 1 + 1) := Nat.pow_succ ..
      have h6 := Nat.mul_le_mul_right (k + 1) h3
      have h7 : (k + 1 + 1) ^ i * (k + 1 + 1) = (k + 1 + 1) ^ i * (k + 1) + (k + 1 + 1) ^ i := by rw [Nat.mul_add (_ ^ i) (k + 1) 1, Nat.mul_one]
      omega
theorem tet_lst (n : Int) (h : 0 ≤ n) (h1 : n ≤ 1500) : lst (pyr 3) n ≤ 19 := by
  have := lst_lt (sq_pyr 3 (by omega)) n 20 h (by omega) (by
    have := pyr_ge 3 20 (by omega) (by omega)
    omega)
  omega
end Go.Proofs.YtiloljldefodkaaDoor

/- Sets of counts over whatever rising numbers. -/
namespace Go.Proofs.YtiloljldefodkaaDoor
open Go.ChangeShapes Go.WideShapes Go.ChangeAt Go.RowKit

/-- Which numbers of parts below 32 a number m can have, of places up to k. -/
def gT (s : Int → Int) (k : Nat) (m : Int) : Nat := msk (fun i => decide (0 < gW s k i m)) 32
theorem gT_lt (s : Int → Int) (k : Nat) (m : Int) : gT s k m < 4294967296 := msk_lt _ 32
theorem gT_bit (s : Int → Int) (k : Nat) (m : Int) (i : Nat) : (gT s k m).testBit i = (decide (i < 32) && decide (0 < gW s k i m)) := msk_bit _ 32 i
theorem gT_step (s : Int → Int) (k : Nat) (m : Int) : gT s (k + 1) m = gT s k m ||| ((gT s (k + 1) (m - s ((k : Int) + 1)) <<< 1) % 4294967296) := by
  apply Nat.eq_of_testBit_eq
  intro i
  rw [Nat.testBit_or, show (4294967296 : Nat) = 2 ^ 32 from rfl, Nat.testBit_mod_two_pow, Nat.testBit_shiftLeft, gT_bit, gT_bit, gT_bit]
  cases i with
  | zero => simp [gW_k0]
  | succ i =>
    rw [gW_kk]
    by_cases h : i + 1 < 32
    · have h2 : i < 32 := by omega
      have e : decide (0 < gW s k (i + 1) m + gW s (k + 1) i (m - s ((k : Int) + 1))) = (decide (0 < gW s k (i + 1) m) || decide (0 < gW s (k + 1) i (m - s ((k : Int) + 1)))) := by
        by_cases h3 : 0 < gW s k (i + 1) m
        · simp [h3]; omega
        · by_cases h4 : 0 < gW s (k + 1) i (m - s ((k : Int) + 1))
          · have h5 : 0 < gW s k (i + 1) m + gW s (k + 1) i (m - s ((k : Int) + 1)) := by omega
            simp [h4, h5]
          · have e1 : gW s k (i + 1) m = 0 := by omega
            have e2 : gW s (k + 1) i (m - s ((k : Int) + 1)) = 0 := by omega
            simp [e1, e2]
      simp [h, h2, e]
    · simp [h]
theorem gT_above (s : Int → Int) (hs : Sq s) (k : Nat) (m : Int) (h : m < s ((k : Int) + 1)) : gT s (k + 1) m = gT s k m := by
  apply Nat.eq_of_testBit_eq
  intro i
  rw [gT_bit, gT_bit, gW_above s hs k i m h]
theorem gt_zero (s : Int → Int) (m : Nat) : (gT s 0 (m : Int) : Int) = if m = 0 then 1 else 0 := by
  have e : gT s 0 (m : Int) = if m = 0 then 1 else 0 := by
    apply Nat.eq_of_testBit_eq
    intro i
    rw [gT_bit, gW_00]
    by_cases h : m = 0
    · subst h
      cases i with
      | zero => simp
      | succ i => simp [Nat.testBit_succ]
    · have h2 : ¬ (i = 0 ∧ (m : Int) = 0) := by omega
      simp [h, h2]
  rw [e]
  split <;> rfl
/-- Sets up to k, but up to k + 1 for the sums below p. -/
def gtmix (s : Int → Int) (k : Nat) (p : Int) : Nat → Int := fun m => if (m : Int) < p then (gT s (k + 1) m : Int) else (gT s k m : Int)

set_option maxHeartbeats 3200000 in
theorem gcountsByPlace_some (s : Int → Int) (N base0 g0 c0 : Nat) (w : World) (h1 : Sq s) (hk77 : lst s N ≤ 77) (hN : N ≤ 3000) (hN1 : 1 ≤ N) (hnb : Row w base0 g0 ((lst s N).toNat + 1) c0 (fun j => s (j : Int))) :
    Calls Tryd.prog 63 #[.slice (some ⟨g0, 0, none⟩) ((lst s N).toNat + 1) c0, .int .i64 N] w fun e w' => (∃ v rs, e = .returned v ∧ rs.length = (lst s N).toNat + 1 ∧ Rcs w' w.heap.size v rs (N + 1) (fun j m => gT s j m)) ∧ Below w.heap.size w w' := by
  obtain ⟨i0, hi0, hz0, hz1, hz2⟩ := info_parts infoCo
  obtain ⟨ir, hir, hzr0, hzr1, hzr2⟩ := info_parts infoCos
  have p0 := lst_nn h1 N (by omega)
  have p1 := hk77
  have hK : (lst s N).toNat ≤ 77 := by omega
  have hgl := hnb.lt
  have hcap : (lst s N).toNat + 1 ≤ c0 := by
    rcases hnb.2 with ⟨h, _⟩ | ⟨g, cap, cur, h, _, _, h3, _⟩
    · cases h
    · injection h with _ _ h; subst h; exact h3
  have HPL := Lib.hid (fun k : Int => lst_iff h1 N k (by omega))
  have hK1 : 1 ≤ (lst s N).toNat := by
    have := lst_pos h1 N (by omega)
    omega
  have HKK : Hid (((lst s N).toNat : Int) = lst s N) := Lib.hid (by omega)
  generalize (lst s N).toNat = K at *
  have HNB := Lib.hid hnb
  have hc1 : ¬ c0 = 1 := by omega
  have hk1 : (1 : Int) ≤ (K : Int) + 1 := by omega
  clear hnb
  go_enter Tryd.func63, Tryd.ntmps63
  go_wp2_with (at_make; refine wpList_make_full _ rfl _ _ 72 rfl w.heap.size 77 i0 (.int .u32 0) 1 Tryd.underlying72 hi0 hz0 hz1 _ _ _ _ (N + 1) rfl rfl (by push_cast; rfl) (by push_cast; rfl) (by rw [hz2]; omega) (by unfold maxLen; omega) (Nat.le_refl _) ?_; intro w1 hown1 hgrow1; have hr1 := roc_made hown1; have d0 := hr1.cell (j := 0) (by omega); have f0 := hr1.frozen 0)
  have hb1 : Below w.heap.size w w1 := (Below.refl _ _).grown hgrow1 (Nat.le_refl _) (fun g hg => by cases hg)
  have hr2 := (hr1.set 0 1).congr (f' := fun m => gT s 0 m) (fun m hm => by rw [gt_zero]; simp [upd])
  have hz1' := hr1.lt
  obtain ⟨w2, hw2⟩ : ∃ w2, w2 = (w1.setCell ⟨w.heap.size, 0, none⟩ (.int .u32 1)).alloc (.cells #[.slice (some ⟨w.heap.size, 0, none⟩) (N + 1) (N + 1)] 72) := ⟨_, rfl⟩
  have hb2 : Below w.heap.size w w2 := by rw [hw2]; exact (hb1.setCell (Nat.le_refl _) _).alloc (by simpa using hb1.size) _
  have hrow0 : Roc w2 w.heap.size w.heap.size (N + 1) (N + 1) (fun m => gT s 0 m) := by rw [hw2]; exact World.ownsRow.alloc hr2 _
  have hrws0 : Rcs w2 w.heap.size (.slice (some ⟨w1.heap.size, 0, none⟩) 1 1) [.slice (some ⟨w.heap.size, 0, none⟩) (N + 1) (N + 1)] (N + 1) (fun j m => gT s j m) := by
    refine ⟨?_, fun j u hu => ?_⟩
    · rw [hw2]
      have := World.ownsRow_lit (w1.setCell ⟨w.heap.size, 0, none⟩ (.int .u32 1)) (base := w.heap.size) (e := 72) (size := 1) #[.slice (some ⟨w.heap.size, 0, none⟩) (N + 1) (N + 1)] 1 (by simpa using hb1.size) (by unfold maxLen; omega) rfl
      simpa using this
    · match j, hu with
      | 0, hu => simp at hu; exact ⟨_, _, hu.symm, hrow0⟩
  rw [← hw2]
  have HR0 := Lib.hid hrow0
  have HS0 := Lib.hid hrws0
  clear hw2 hown1 hgrow1 hr1 d0 f0 hr2 hb1 hz1' hrow0 hrws0
  go_loopw [5, 6, 20] (fun row v i wr => ∃ (j g c : Nat) (rs : List Value), j ≤ K ∧ i = .int .i64 j ∧ row = .slice (some ⟨g, 0, none⟩) (N + 1) c ∧ rs.length = j + 1 ∧ Hid (Roc wr w.heap.size g (N + 1) c (fun m => gT s j m)) ∧ Hid (Rcs wr w.heap.size v rs (N + 1) (fun j m => gT s j m)) ∧ Below w.heap.size w wr) (fun _ _ i _ => K - (intOf i).toNat)
  case atStart => exact ⟨0, _, _, _, Nat.zero_le _, rfl, rfl, rfl, HR0, HS0, hb2⟩
  case round =>
    obtain ⟨j, g, c, rs, hj, rfl, rfl, hrl, hrow, hrws, hb⟩ := hrel
    by_cases hlt : j < K
    · have hjI : (j : Int) < (K : Int) := by omega
      have hxn := (HPL.out ((j : Int) + 1) (by omega)).2 (by rw [← HKK.out]; omega)
      have hx1 := h1.pos (k := ((j : Int) + 1)) (by omega)
      have hcn : wr.cell? ⟨g0, 1 + j, none⟩ = some (.int .i64 (s ((j : Int) + 1))) := by
        have h := (hb.cell (p := ⟨g0, j + 1, none⟩) hgl.2).trans (HNB.out.cell (j := j + 1) (by omega))
        rw [Nat.add_comm 1 j, h]
        push_cast
        rfl
      obtain ⟨x, hx⟩ : ∃ x, x = s ((j : Int) + 1) := ⟨_, rfl⟩
      have HX := Lib.hid hx
      rw [← hx] at hcn hxn hx1
      clear hx
      go_wp2_with (go_at_call 73; refine (cloneCo_any _ _ _ _ _ _ (by omega) (by omega) hrow.out).mono ?_; rintro e wc ⟨⟨g', c', rfl, hrc⟩, hbc⟩)
      have HRC := Lib.hid hrc
      have hrcl := hrc.lt
      have hgold := hrow.out.lt
      clear hrc hcn
      go_loopw [9] (fun p wr2 => ∃ q : Int, p = .int .i64 q ∧ x ≤ q ∧ q ≤ (N : Int) + 1 ∧ Hid (Roc wr2 wr.heap.size g' (N + 1) c' (gtmix s j q)) ∧ Below wr.heap.size wr wr2) (fun p _ => ((N : Int) + 1 - intOf p).toNat)
      case atStart => exact ⟨x, rfl, by omega, by omega, Lib.hid (HRC.out.congr (fun m hm => by
        simp only [gtmix]
        by_cases e : (m : Int) < x
        · rw [if_pos e, gT_above s h1 j m (by rw [← HX.out]; exact e)]
        · rw [if_neg e])), hbc⟩
      case round =>
        obtain ⟨q, rfl, hq0, hq1, hrow2, hb2⟩ := hrel
        by_cases hge : q ≤ (N : Int)
        · obtain ⟨a, rfl⟩ := Int.eq_ofNat_of_zero_le (show 0 ≤ q by omega)
          obtain ⟨b, hbq⟩ := Int.eq_ofNat_of_zero_le (show 0 ≤ (a : Int) - x by omega)
          have ca := hrow2.out.cell (j := a) (by omega)
          have cb := hrow2.out.cell (j := b) (by omega)
          have fa := hrow2.out.frozen a
          have ea : gtmix s j a a = (gT s j a : Int) := by simp [gtmix]
          have eb : gtmix s j a b = (gT s (j + 1) b : Int) := by simp [gtmix]; omega
          have e3 : gT s (j + 1) (a : Int) = gT s j a ||| ((gT s (j + 1) b <<< 1) % 4294967296) := by rw [gT_step, ← HX.out, hbq]
          have hlt1 := gT_lt s j a
          have hlt2 := gT_lt s (j + 1) b
          rw [ea] at ca
          rw [eb] at cb
          have hset := (hrow2.out.set a (gT s (j + 1) (a : Int))).congr (f' := gtmix s j ((a : Int) + 1)) (fun m hm => by
            simp only [upd, gtmix]
            by_cases e : m = a
            · subst e; simp; omega
            · by_cases e2 : (m : Int) < (a : Int)
              · simp [e, e2]; omega
              · have e4 : ¬ ((m : Int) < (a : Int) + 1) := by omega
                simp [e, e2, e4])
          have hb3 := hb2.setCell (p := ⟨g', a, none⟩) hrcl.1 (.int .u32 (gT s (j + 1) (a : Int)))
          rw [e3] at hset hb3
          generalize gT s j (a : Int) = y at *
          generalize gT s (j + 1) (b : Int) = z at *
          have HS := Lib.hid hset
          have HB3 := Lib.hid hb3
          have hor := or_step y z hlt1
          have w1e : IntKind.i64.wrap (b : Int) = (b : Int) := IntWalk.i64_in _ (by omega)
          have i1 : (0 : Int) ≤ (a : Int) := by omega
          have i2 : (a : Int) < (N : Int) + 1 := by omega
          have i3 : (0 : Int) ≤ (b : Int) := by omega
          have i4 : (b : Int) < (N : Int) + 1 := by omega
          clear hset ea eb e3 hrow2 hrow hb3 hrws
          go_wp2
          go_region
          all_goals (go_wp2; go_roundw)
          case rel => exact ⟨(a : Int) + 1, rfl, by omega, by omega, Lib.hid HS.out.drew, HB3.out.drew⟩
          case measure => simp [intOf]; omega
        · have hfin := hrow2.out.congr (f' := fun m => (gT s (j + 1) m : Int)) (fun m hm => by
            simp only [gtmix]
            rw [if_pos (by omega)])
          have hws2 := hrws.out.below hb2 (Nat.le_refl _)
          have hfw := hfin.wide hb.size
          rw [← hrl] at hfw
          have HF := Lib.hid hfw
          have HW3 := Lib.hid hws2
          have hb4 : Below w.heap.size w wr := hb.trans (hb2.mono hb.size)
          have HRL := Lib.hid hrl
          clear hfin hws2 hfw hrow2 hrow hrws hrl
          go_wp2_with (at_builtin; refine wpList_append_own _ rfl _ _ 74 rfl w.heap.size 72 ir (.slice none 0 0) 1 24 Tryd.underlying74 hir hzr0 hzr1 hzr2 rfl (by decide) _ rs.length rs rfl (HW3.out.1.alloc _) ⟨wr.heap.size, 0, none⟩ 1 1 [.slice (some ⟨g', 0, none⟩) (N + 1) c'] rfl rfl ?c1 ?c2 ?c3 ?c4 ?c5 ?_)
          case c2 => rfl
          case c3 => have := HRL.out; unfold maxLen; omega
          case c4 => have := HRL.out; omega
          case c5 => have := hb4.size; simp; omega
          · intro v' w5 hown' hgrow _
            have happ := HW3.out.app HF.out hown' hgrow
            have hb5 : Below w.heap.size w w5 := (hb4.alloc hb4.size _).grown hgrow (by have := hb4.size; simp; omega) fun g hg => (HW3.out.1.lt g hg).1
            have h6 := happ.2
            rw [HRL.out] at h6
            have H5 := Lib.hid happ.1
            have H6 := Lib.hid h6
            clear hown' hgrow happ h6
            go_wp2
            go_roundw
            case rel => exact ⟨j + 1, _, _, _, by omega, by go_num, rfl, by simp [HRL.out], H6, H5, hb5⟩
            case measure => simp [intOf]; omega
    · obtain rfl : j = K := by omega
      go_wp2
      go_ret
      exact ⟨⟨_, _, rfl, hrl, hrws.out⟩, hb⟩
set_option maxHeartbeats 1600000 in
theorem gcountsByPlace_none (s : Int → Int) (g0 c0 : Nat) (w : World) (hc : 1 ≤ c0) :
    Calls Tryd.prog 63 #[.slice (some ⟨g0, 0, none⟩) 1 c0, .int .i64 0] w fun e w' => (∃ v rs, e = .returned v ∧ rs.length = 1 ∧ Rcs w' w.heap.size v rs 1 (fun j m => gT s j m)) ∧ Below w.heap.size w w' := by
  obtain ⟨i0, hi0, hz0, hz1, hz2⟩ := info_parts infoCo
  go_enter Tryd.func63, Tryd.ntmps63
  go_wp2_with (at_make; refine wpList_make_full _ rfl _ _ 72 rfl w.heap.size 77 i0 (.int .u32 0) 1 Tryd.underlying72 hi0 hz0 hz1 _ _ _ _ 1 rfl rfl (by rfl) (by rfl) (by rw [hz2]; omega) (by unfold maxLen; omega) (Nat.le_refl _) ?_; intro w1 hown1 hgrow1; have hr1 := roc_made hown1; have d0 := hr1.cell (j := 0) (by omega); have f0 := hr1.frozen 0)
  all_goals
    have hb1 : Below w.heap.size w w1 := (Below.refl _ _).grown hgrow1 (Nat.le_refl _) (fun g hg => by cases hg)
    have hr2 := (hr1.set 0 1).congr (f' := fun m => gT s 0 m) (fun m hm => by rw [gt_zero]; simp [upd])
    obtain ⟨w2, hw2⟩ : ∃ w2, w2 = (w1.setCell ⟨w.heap.size, 0, none⟩ (.int .u32 1)).alloc (.cells #[.slice (some ⟨w.heap.size, 0, none⟩) 1 1] 72) := ⟨_, rfl⟩
    have hb2 : Below w.heap.size w w2 := by rw [hw2]; exact (hb1.setCell (Nat.le_refl _) _).alloc (by simpa using hb1.size) _
    have hrow0 : Roc w2 w.heap.size w.heap.size 1 1 (fun m => gT s 0 m) := by rw [hw2]; exact World.ownsRow.alloc hr2 _
    have hrws0 : Rcs w2 w.heap.size (.slice (some ⟨w1.heap.size, 0, none⟩) 1 1) [.slice (some ⟨w.heap.size, 0, none⟩) 1 1] 1 (fun j m => gT s j m) := by
      refine ⟨?_, fun j u hu => ?_⟩
      · rw [hw2]
        have := World.ownsRow_lit (w1.setCell ⟨w.heap.size, 0, none⟩ (.int .u32 1)) (base := w.heap.size) (e := 72) (size := 1) #[.slice (some ⟨w.heap.size, 0, none⟩) 1 1] 1 (by simpa using hb1.size) (by unfold maxLen; omega) rfl
        simpa using this
      · match j, hu with
        | 0, hu => simp at hu; exact ⟨_, _, hu.symm, hrow0⟩
    rw [← hw2]
    have HS0 := Lib.hid hrws0
    clear hw2 hown1 hgrow1 hr1 d0 f0 hr2 hb1 hrow0 hrws0
    refine wp_loop_rounds 1 ?_
    rw [rounds_succ]
    go_wp2
    go_ret
    exact ⟨⟨_, _, rfl, rfl, HS0.out⟩, hb2⟩
theorem gcountsByPlace_any (s : Int → Int) (N base0 g0 c0 : Nat) (w : World) (h1 : Sq s) (hk77 : lst s N ≤ 77) (hN : N ≤ 3000) (hnb : Row w base0 g0 ((lst s N).toNat + 1) c0 (fun j => s (j : Int))) :
    Calls Tryd.prog 63 #[.slice (some ⟨g0, 0, none⟩) ((lst s N).toNat + 1) c0, .int .i64 N] w fun e w' => (∃ v rs, e = .returned v ∧ rs.length = (lst s N).toNat + 1 ∧ Rcs w' w.heap.size v rs (N + 1) (fun j m => gT s j m)) ∧ Below w.heap.size w w' := by
  rcases Nat.eq_zero_or_pos N with h | h
  · subst h
    have hc : 1 ≤ c0 := by
      rcases hnb.2 with ⟨h, _⟩ | ⟨g, cap, cur, h, _, _, h3, _⟩
      · cases h
      · injection h with _ _ h; omega
    have e : (lst s ((0 : Nat) : Int)).toNat = 0 := by rw [show (((0 : Nat) : Int)) = 0 from rfl, lst_zero h1]; rfl
    rw [e]
    exact gcountsByPlace_none s g0 c0 w hc
  · exact gcountsByPlace_some s N base0 g0 c0 w h1 hk77 hN h hnb
end Go.Proofs.YtiloljldefodkaaDoor

/- The program's map of needs over whatever rising numbers. -/
namespace Go.Proofs.YtiloljldefodkaaDoor
open Go.ChangeShapes Go.WideShapes Go.ChangeAt Go.RowKit Go.Maps

theorem gctz_T (s : Int → Int) (m : Int) (K : Nat) (h1 : Sq s) (hn : gNeed s m ≤ 31) (h3 : 0 ≤ m) (hK : lst s m ≤ K) : gT s K m ≠ 0 ∧ Lib.ctz 32 (gT s K m) = gNeed s m := by
  have h5 := gNeed_is s h1 m h3
  have b1 : (gT s K m).testBit (gNeed s m) = true := by
    rw [gT_bit]
    have h6 := (gRep_pl s h1 _ m h3 K hK).1 h5.1
    simp [h6]
    omega
  have h0 : gT s K m ≠ 0 := by
    intro e
    rw [e] at b1
    simp at b1
  refine ⟨h0, ?_⟩
  have hlt := gT_lt s K m
  have c1 := ctz_bit (gT s K m) (gNeed s m) h0 (by omega)
  have hle : ¬ gNeed s m < Lib.ctz 32 (gT s K m) := fun h => by
    have := c1.2 h
    rw [b1] at this
    cases this
  have hge : ¬ Lib.ctz 32 (gT s K m) < gNeed s m := fun h => by
    have h7 := c1.1
    rw [gT_bit] at h7
    simp at h7
    exact h5.2 _ h ⟨K, h7.2⟩
  omega

/-- The needs of 0, .., k - 1, as a map reads. -/
noncomputable def gND (s : Int → Int) : Nat → DataW Unit
  | 0 => .map []
  | k + 1 => (gND s k).put (.int .i64 (k : Int)) (.lit (.int .i64 (gNeed s k)))
theorem gnd_map (s : Int → Int) (k : Nat) : IsMap (gND s k) := by
  cases k with
  | zero => exact isMap_empty
  | succ k =>
    induction k with
    | zero => exact isMap_empty.put _ _
    | succ k ih => exact IsMap.put ih _ _
theorem gnd_at (s : Int → Int) (k j : Nat) (h : j < k) (z : DataW Unit) : (gND s k).atKey (.int .i64 (j : Int)) z = .lit (.int .i64 (gNeed s j)) := by
  induction k with
  | zero => omega
  | succ k ih =>
    rw [gND]
    by_cases e : j = k
    · subst e
      exact atKey_put_same (gnd_map s j) (by simp [WideAt.IsKeyLit]) _ _
    · rw [atKey_put_other (by simp; omega)]
      exact ih (by omega)
theorem wf64 (a : Int) (h1 : -9223372036854775808 ≤ a) (h2 : a ≤ 9223372036854775807) : (Lit.int .i64 a).wf = true := by
  simp [Lit.wf, IntKind.min, IntKind.max, IntKind.bits, IntKind.signed]
  omega
theorem keyI : Keyed Tryd.prog 3 := int_keyed Tryd.underlying3
theorem zeroI (w : World) : (zeroValue 3).run Tryd.prog w = .ok (.int .i64 0) w := by kernel_rfl

set_option maxRecDepth 100000 in
set_option maxHeartbeats 3200000 in
theorem gneedsUpTo_any (s : Int → Int) (N base0 g0 c0 : Nat) (w : World) (h1 : Sq s) (hk77 : lst s N ≤ 77) (hnd : ∀ m : Nat, m ≤ N → gNeed s m ≤ 31) (hN : N ≤ 3000) (hnb : Row w base0 g0 ((lst s N).toNat + 1) c0 (fun j => s (j : Int))) (hT : TabAt 0 Lib.deBruijn32tab w) (hg : 0 < w.heap.size) :
    Calls Tryd.prog 32 #[.slice (some ⟨g0, 0, none⟩) ((lst s N).toNat + 1) c0, .int .i64 N] w fun e w' => (∃ b, e = .returned (.map (some b)) ∧ w.heap.size ≤ b ∧ w'.ownsMap Tryd.prog 3 (plainElem Tryd.prog 3) b (N + 1) (gND s (N + 1))) ∧ Below w.heap.size w w' := by
  have p0 := lst_nn h1 N (by omega)
  have p1 := hk77
  have HCP := Lib.hid (fun base0 g0 c0 w => gcountsByPlace_any s N base0 g0 c0 w h1 hk77 hN)
  have HCT : Hid (∀ m : Nat, m ≤ N → gT s (lst s N).toNat m ≠ 0 ∧ Lib.ctz 32 (gT s (lst s N).toNat m) = gNeed s m) := Lib.hid (fun m hm => gctz_T s m _ h1 (hnd m hm) (by omega) (by
    have h3 := lst_is h1 m (by omega)
    have h5 := h3.2.1
    have := (lst_iff h1 N (lst s m) (by omega) h3.1).1 (by omega)
    omega))
  have hK : (lst s N).toNat ≤ 77 := by omega
  generalize (lst s N).toNat = K at *
  have hmm : ∀ (x : Int) (w : World), (Instr.makeMap 49 (some (.int .i64 x))).run Tryd.prog w = .ok (.map (some w.heap.size)) (w.alloc (.map #[] 0)) := fun x w => by
    simp [Instr.makeMap, run_underlying Tryd.underlying49, asInt, asIntOf]
  have HTB := Lib.hid hT
  have HNN := Lib.hid hnd
  have HR : Hid (Row (w.alloc (.map #[] 0)) base0 g0 (K + 1) c0 (fun j => s (j : Int))) := Lib.hid (World.ownsRow.alloc hnb _)
  clear hT hnd hnb
  go_enter Tryd.func32, Tryd.ntmps32
  go_wp2_with (first
    | (go_at_call 63; refine (HCP.out _ _ _ _ HR.out).mono ?_; rintro e w2 ⟨⟨v, rs, rfl, hl, hws⟩, hb2⟩; have HL := Lib.hid hl; have HW := Lib.hid hws; clear hl hws)
    | (go_at_call 62; refine (lastCo_any _ _ _ _ _ _ HW.out (by rw [HL.out]; omega) (by rw [HL.out]; omega)).mono ?_; rintro e w3 ⟨⟨g3, c3, rfl, hr3⟩, rfl⟩; have HR3 := Lib.hid hr3; clear hr3))
  have hbA : Below (w.heap.size + 1) (w.alloc (.map #[] 0)) w2 := by
    have a2 := hb2
    simp only [World.size_alloc] at a2
    exact a2
  have hmap : w2.ownsMap Tryd.prog 3 (plainElem (H := Unit) Tryd.prog 3) w.heap.size 0 (gND s 0) :=
    (World.ownsMap_made w Tryd.prog 3 (plainElem (H := Unit) Tryd.prog 3)).kept (row := none) ⟨hbA.os, hbA.tape, hbA.output, hbA.size, fun k hk _ => hbA.block k (by simpa using hk)⟩ (by simp)
  have hB0 : Below w.heap.size w w2 := ((Below.refl _ w).alloc (Nat.le_refl _) _).trans (hbA.mono (by omega))
  have hr3 : Roc w2 (w.heap.size + 1) g3 (N + 1) c3 (fun m => (gT s K m : Int)) := by
    have h := HR3.out
    rw [HL.out, Nat.add_sub_cancel] at h
    exact h.wide (by simp)
  have HM := Lib.hid hmap
  have HR4 := Lib.hid hr3
  clear hmap hr3 hb2 hbA
  go_loopw [16] (fun i wr => ∃ k : Nat, k ≤ N + 1 ∧ i = .int .i64 k ∧ Hid (wr.ownsMap Tryd.prog 3 (plainElem (H := Unit) Tryd.prog 3) w.heap.size k (gND s k)) ∧ Hid (Roc wr (w.heap.size + 1) g3 (N + 1) c3 (fun m => (gT s K m : Int))) ∧ Below w.heap.size w wr) (fun i _ => N + 1 - (intOf i).toNat)
  case atStart => exact ⟨0, Nat.zero_le _, rfl, HM, HR4, hB0⟩
  case round =>
    obtain ⟨k, hk, rfl, hown, hrow, hb⟩ := hrel
    by_cases hlt : k < N + 1
    · have hkI : (k : Int) < (N : Int) + 1 := by omega
      have hc := hrow.out.cell (j := k) hlt
      obtain ⟨hx0, hxc⟩ := HCT.out k (by omega)
      have hxl := gT_lt s K k
      have HTw := Lib.hid (TabAt.below HTB.out hb hg)
      have hng := HNN.out k (by omega)
      have hnd : gND s (k + 1) = (gND s k).put (.int .i64 (k : Int)) (.lit (.int .i64 (gNeed s k))) := rfl
      have HND := Lib.hid hnd
      have HXC := Lib.hid hxc
      generalize gT s K k = x at *
      clear hnd hxc
      go_wp2_with (first
        | (go_at_call 64; refine (least_any _ _ hx0 hxl HTw.out).mono ?_; rw [HXC.out]; rintro e w' ⟨rfl, rfl⟩)
        | (at_mapUpdate; refine wpList_mapUpdate_own _ rfl _ _ _ 49 rfl 3 3 keyI Tryd.underlying49 _ w.heap.size k _ rfl hown.out (by unfold maxLen; omega) _ _ _ rfl rfl (keyOf_int_mk Tryd.underlying3 (wf64 _ (by omega) (by omega))) _ [] (plainElem_int Tryd.underlying3 (wf64 _ (by omega) (by omega))) ?_; intro w5 hown5 hgrow5))
      have hb5 : Below w.heap.size w w5 := hb.grown hgrow5 hb.size (fun j hj => by cases hj; exact Nat.le_refl _)
      have hr5 : Roc w5 (w.heap.size + 1) g3 (N + 1) c3 (fun m => (gT s K m : Int)) := World.ownsRow.kept hrow.out hgrow5 (Or.inr (by
        have := hrow.out.lt
        simp [Value.ownBlock]
        omega))
      have HO5 : Hid (w5.ownsMap Tryd.prog 3 (plainElem (H := Unit) Tryd.prog 3) w.heap.size (k + 1) (gND s (k + 1))) := Lib.hid (by rw [HND.out]; exact hown5)
      have HR5 := Lib.hid hr5
      clear hown5 hgrow5 hr5 hc
      go_wp2
      go_roundw
      case rel => exact ⟨k + 1, by omega, by go_num, HO5, HR5, hb5⟩
      case measure => simp [intOf]; omega
    · obtain rfl : k = N + 1 := by omega
      go_wp2
      go_ret
      exact ⟨⟨_, rfl, Nat.le_refl _, hown.out⟩, hb⟩
/-- The library's table lies where the program laid it, below the call. -/
structure Tabd (w : World) : Prop where
  tab : TabAt 0 Lib.deBruijn32tab w
  lt : 0 < w.heap.size
theorem Tabd.below {w W : World} (h : Tabd w) (hb : Below w.heap.size w W) : Tabd W := ⟨TabAt.below h.tab hb h.lt, Nat.lt_of_lt_of_le h.lt hb.size⟩
theorem glook_need (s : Int → Int) (k j : Nat) (h : j < k) {c : Int} (hat : (gND s k).atKey (.int .i64 (j : Int)) (.lit (.int .i64 0)) = .lit (.int .i64 c)) : c = (gNeed s j : Int) := by
  rw [gnd_at s k j h] at hat
  injection hat with hat
  injection hat with _ hat
  exact hat.symm
end Go.Proofs.YtiloljldefodkaaDoor

/- Polygonal numbers as rising numbers: the counts are the same. -/
namespace Go.Proofs.YtiloljldefodkaaDoor
theorem gW_num (s : Int) (k : Nat) : ∀ (i : Nat) (m : Int), gW (num s) k i m = W s k i m := by
  induction k with
  | zero => intro i m; rw [gW_00, W_00]
  | succ k ih =>
    intro i
    induction i with
    | zero => intro m; rw [gW_k0, W_k0]
    | succ i ih2 => intro m; rw [gW_kk, W_kk, ih, ih2]
theorem gRep_num (s : Int) (c : Nat) (m : Int) : gRep (num s) c m = Rep s c m := by
  unfold gRep Rep
  congr
  funext k
  rw [gW_num]
theorem gNeed_num (s m : Int) : gNeed (num s) m = need s m := by
  simp only [gNeed, need, gRep_num]
end Go.Proofs.YtiloljldefodkaaDoor

/- The program's map of needs; the fewest parts. -/
namespace Go.Proofs.YtiloljldefodkaaDoor
open Go.ChangeShapes Go.WideShapes Go.ChangeAt Go.RowKit Go.Maps

/-- The needs of 0, .., k - 1, as a map reads. -/
noncomputable def ND (s : Int) : Nat → DataW Unit
  | 0 => .map []
  | k + 1 => (ND s k).put (.int .i64 (k : Int)) (.lit (.int .i64 (need s k)))
theorem nd_map (s : Int) (k : Nat) : IsMap (ND s k) := by
  cases k with
  | zero => exact isMap_empty
  | succ k =>
    induction k with
    | zero => exact isMap_empty.put _ _
    | succ k ih => exact IsMap.put ih _ _
theorem nd_at (s : Int) (k j : Nat) (h : j < k) (z : DataW Unit) : (ND s k).atKey (.int .i64 (j : Int)) z = .lit (.int .i64 (need s j)) := by
  induction k with
  | zero => omega
  | succ k ih =>
    rw [ND]
    by_cases e : j = k
    · subst e
      exact atKey_put_same (nd_map s j) (by simp [WideAt.IsKeyLit]) _ _
    · rw [atKey_put_other (by simp; omega)]
      exact ih (by omega)
theorem nd_gen (s : Int) (k : Nat) : gND (num s) k = ND s k := by
  induction k with
  | zero => rfl
  | succ k ih => rw [gND, ND, ih, gNeed_num]
theorem needsUpTo_any (s : Int) (N base0 g0 c0 : Nat) (w : World) (h1 : 3 ≤ s) (h2 : s ≤ 24) (hN : N ≤ 3000) (hnb : Row w base0 g0 ((pl s N).toNat + 1) c0 (fun j => num s (j : Int))) (hT : TabAt 0 Lib.deBruijn32tab w) (hg : 0 < w.heap.size) :
    Calls Tryd.prog 32 #[.slice (some ⟨g0, 0, none⟩) ((pl s N).toNat + 1) c0, .int .i64 N] w fun e w' => (∃ b, e = .returned (.map (some b)) ∧ w.heap.size ≤ b ∧ w'.ownsMap Tryd.prog 3 (plainElem Tryd.prog 3) b (N + 1) (ND s (N + 1))) ∧ Below w.heap.size w w' := by
  have hL := lst_num s N h1 (by omega)
  have p1 := pl_77 s N h1 (by omega) (by omega)
  have h := gneedsUpTo_any (num s) N base0 g0 c0 w (sq_num s h1) (by omega) (fun m hm => by rw [gNeed_num]; have := need_sides s m h1 h2 (by omega) (by omega); omega) hN (by rw [hL]; exact hnb) hT hg
  rw [hL, nd_gen] at h
  exact h
end Go.Proofs.YtiloljldefodkaaDoor

/- The fewest parts, and the numbers that need most: the program's answers are the specification's. -/
namespace Go.Proofs.YtiloljldefodkaaDoor
open Go.ChangeShapes Go.WideShapes Go.ChangeAt Go.RowKit Go.Maps

theorem look_need (s : Int) (k j : Nat) (h : j < k) {c : Int} (hat : (ND s k).atKey (.int .i64 (j : Int)) (.lit (.int .i64 0)) = .lit (.int .i64 c)) : c = (need s j : Int) := by
  rw [nd_at s k j h] at hat
  injection hat with hat
  injection hat with _ hat
  exact hat.symm
theorem spec_FewestParts_no (s n : Int) (w : World) (h : (s < 3 ∨ 24 < s) ∨ (n < 0 ∨ 3000 < n)) :
    Calls Tryd.prog 10 #[.int .i64 s, .int .i64 n] w fun e w' => e = .returned (.tuple #[.int .i64 0, .bool false]) ∧ Below w.heap.size w w' := by
  have H := Lib.hid h
  clear h
  go_enter Tryd.func10, Tryd.ntmps10
  go_wp2_with (go_at_call 34; refine (suGood_no _ _ _ H.out).mono ?_; rintro e w' ⟨rfl, rfl⟩)
  go_ret2
  exact ⟨rfl, Below.refl _ _⟩
theorem impl_FewestParts_no (s n : Int) (w : World) (h : (s < 3 ∨ 24 < s) ∨ (n < 0 ∨ 3000 < n)) :
    Calls Tryd.prog 9 #[.int .i64 s, .int .i64 n] w fun e w' => e = .returned (.tuple #[.int .i64 0, .bool false]) ∧ Below w.heap.size w w' := by
  have H := Lib.hid h
  clear h
  go_enter Tryd.func9, Tryd.ntmps9
  go_wp2_with (go_at_call 30; refine (assum_no _ _ _ H.out).mono ?_; rintro e w' ⟨rfl, rfl⟩)
  go_ret2
  exact ⟨rfl, Below.refl _ _⟩

theorem spec_FewestParts_yes (s : Int) (N : Nat) (w : World) (h1 : 3 ≤ s) (h2 : s ≤ 24) (hN : N ≤ 3000) :
    Calls Tryd.prog 10 #[.int .i64 s, .int .i64 N] w fun e w' => e = .returned (.tuple #[.int .i64 (need s N), .bool true]) ∧ Below w.heap.size w w' := by
  have i1 : (0 : Int) ≤ (N : Int) := by omega
  have i2 : (N : Int) ≤ 3000 := by omega
  go_enter Tryd.func10, Tryd.ntmps10
  go_wp2_with (first
    | (go_at_call 34; refine (suGood_yes _ _ _ h1 h2 i1 i2).mono ?_; rintro e w' ⟨rfl, rfl⟩)
    | (go_at_call 35; refine (suFewest_any _ _ _ h1 h2 hN).mono ?_; rintro e w1 ⟨⟨g, c, rfl, hr⟩, hb⟩; have hc := hr.cell (j := N) (by omega)))
  go_ret2
  exact ⟨rfl, hb⟩
theorem impl_FewestParts_yes (s : Int) (N : Nat) (w : World) (h1 : 3 ≤ s) (h2 : s ≤ 24) (hN : N ≤ 3000) (ht : Tabd w) :
    Calls Tryd.prog 9 #[.int .i64 s, .int .i64 N] w fun e w' => e = .returned (.tuple #[.int .i64 (need s N), .bool true]) ∧ Below w.heap.size w w' := by
  have i1 : (0 : Int) ≤ (N : Int) := by omega
  have i2 : (N : Int) ≤ 3000 := by omega
  have HTB := Lib.hid ht
  have HNP := Lib.hid fun w => numbersByPlace_any s N w h1 h2 hN
  have HNU := Lib.hid fun (base0 g0 c0 : Nat) (w : World) hnb hT hg => needsUpTo_any s N base0 g0 c0 w h1 h2 hN hnb hT hg
  generalize (pl s N).toNat = K at *
  go_enter Tryd.func9, Tryd.ntmps9
  go_wp2_with (first
    | (go_at_call 30; refine (assum_yes _ _ _ h1 h2 i1 i2).mono ?_; rintro e w' ⟨rfl, rfl⟩)
    | (go_at_call 31; refine (HNP.out _).mono ?_; rintro e wn ⟨⟨gn, cn, rfl, hrn⟩, hbn⟩; have HRn := Lib.hid hrn; clear hrn)
    | (go_at_call 32; refine (HNU.out _ _ _ _ HRn.out (HTB.out.below hbn).tab (HTB.out.below hbn).lt).mono ?_; rintro e w1 ⟨⟨b, rfl, hle0, hm⟩, hbx⟩; have hb := hbn.trans (hbx.mono hbn.size); have hle := Nat.le_trans hbn.size hle0; have HM := Lib.hid hm; have HR1 := Lib.hid (HRn.out.below hbx (Nat.le_refl _)); clear hm hle0)
    | (at_lookup; refine wpList_lookup_own_int _ rfl _ _ 49 rfl 3 3 .i64 keyI Tryd.underlying49 Tryd.underlying3 (zeroI _) b (N + 1) _ rfl HM.out _ _ rfl (keyOf_int_mk Tryd.underlying3 (wf64 _ (by omega) (by omega))) ?_; intro c hat hwc; have hce := look_need s (N + 1) N (by omega) hat; have HCE := Lib.hid hce; clear hat hwc hce))
  go_ret2
  rw [← HCE.out]
  exact ⟨rfl, hb⟩
/-- The numbers in 1, .., k - 1 that need as many parts as there are sides. -/
noncomputable def nl (s : Int) : Nat → List Int
  | 0 => []
  | k + 1 => if 0 < k ∧ (need s k : Int) = s then nl s k ++ [(k : Int)] else nl s k
theorem nl_one (s : Int) : nl s 1 = [] := by rw [nl, if_neg (by omega)]; rfl
theorem nl_len (s : Int) (k : Nat) : (nl s k).length ≤ k := by
  induction k with
  | zero => simp [nl]
  | succ k ih =>
    rw [nl]
    split
    · simp; omega
    · omega
theorem nl_hit (s : Int) (k : Nat) (h1 : 0 < k) (h2 : (need s k : Int) = s) : nl s (k + 1) = nl s k ++ [(k : Int)] := by rw [nl, if_pos ⟨h1, h2⟩]
theorem nl_miss (s : Int) (k : Nat) (h : ¬ (0 < k ∧ (need s k : Int) = s)) : nl s (k + 1) = nl s k := by rw [nl, if_neg h]

end Go.Proofs.YtiloljldefodkaaDoor
