/- The texts XSuK XSuL XSgN XSuN joined. -/
import Derived.Test.YtiloljldefodkaaDoorSuI
import Derived.BigRegion
import Derived.Test.YtiloljldefodkaaDoorMc
import Derived.Deep.QuietTactic
import Derived.BigQuiet
/- Counts of parts: a table of rows, filled place by place. -/
namespace Go
/-- Nothing is appended, wherever it lies. -/
theorem run_append_owned_nothing {P : Program} {w : World} (base : Nat) (t ty e : TypeId) (i : TypeInfo) (size c : Nat) (A : Option Addr) (ht : P.underlying t = some (.slice e)) (hi : P.info? e = some i)
    (v : Value) (n : Nat) (xs : List Value) (hown : w.ownsRow base e size v n xs) :
    (Builtin.append_ #[t, t] ty #[v, .slice A 0 c]).run P w = .ok v w := by
  cases A <;> rcases hown.2 with ⟨rfl, rfl⟩ | ⟨g, cap, cur, rfl, _, _, hnc, _⟩ <;>
    simp [Builtin.append_, run_underlying ht, sizeOf, typeInfo, Builtin.lenOf, Builtin.firstCells, storeCells, loadCells, loadCellsFrom, *]
theorem wpList_append_own_nothing {P : Program} {w : World} {ops : Array Oper} {rest : List Oper} {o : Oper} {a : Act} {Q : Exit → Act → World → Prop} (hgd : o.guard = none) (s x : Operand) (t : TypeId)
    (ho : o.op = .call { callee := .builtin .append, args := #[s, x], argTypes := #[t, t] })
    (base : Nat) (e : TypeId) (i : TypeInfo) (size c : Nat) (A : Option Addr) (ht : P.underlying t = some (.slice e)) (hi : P.info? e = some i)
    (v : Value) (n : Nat) (xs : List Value) (hs : a.eval s = v) (hown : w.ownsRow base e size v n xs) (hx : a.eval x = .slice A 0 c)
    (h : wpList P ops Q rest (a.put o.dst v) w) : wpList P ops Q (o :: rest) a w := by
  refine wpList_plain hgd fun K hK => ?_
  have hrun := run_append_owned_nothing (P := P) (w := w) base t o.type e i size c A ht hi v n xs hown
  unfold Oper.wp
  simp [execOp, ho, resolve, invoke, builtin, hs, hx, hrun, Result.andThen]
  exact hK _ _ h
end Go
namespace Go.Proofs.YtiloljldefodkaaDoor
open Go.ChangeShapes Go.WideShapes Go.ChangeAt Go.RowKit

/-- Of no number the list by place is 0 alone, with no room behind it. -/
theorem numbersByPlace_zero (s : Int) (w : World) (h1 : 3 ≤ s) (h2 : s ≤ 24) :
    Calls Tryd.prog 31 #[.int .i64 s, .int .i64 0] w fun e w' => (∃ g, e = .returned (.slice (some ⟨g, 0, none⟩) 1 1) ∧ Row w' w.heap.size g 1 1 (fun j => num s (j : Int))) ∧ Below w.heap.size w w' := by
  obtain ⟨i0, hi0, hz0, hz1, hz2⟩ := info_parts infoInt
  have HZ := Lib.hid (pl_zero s h1)
  go_enter Tryd.func31, Tryd.ntmps31
  go_wp2_with fail
  refine (impl_PolygonalUpTo_yes _ _ _ h1 h2 (by omega) (by omega)).mono ?_
  rw [HZ.out]
  rintro e w1 ⟨A, c, rfl, o1, b1⟩
  rw [nums_len]
  have hlit : (w1.alloc (.cells #[.int .i64 0] 3)).ownsRow w.heap.size 3 1 (.slice (some ⟨w1.heap.size, 0, none⟩) 1 1) 1 [.int .i64 0] := World.ownsRow_lit w1 #[.int .i64 0] 1 b1.size (by unfold maxLen; omega) rfl
  have HL := Lib.hid hlit
  have hb2 : Below w.heap.size w (w1.alloc (.cells #[.int .i64 0] 3)) := b1.alloc b1.size _
  clear o1 hlit
  go_wp2_with (at_builtin; refine wpList_append_own_nothing rfl _ _ 26 rfl w.heap.size 3 i0 1 c A Tryd.underlying26 hi0 _ 1 [.int .i64 0] rfl HL.out rfl ?_)
  go_ret
  refine ⟨⟨_, rfl, ?_⟩, hb2⟩
  unfold Row
  rw [tab_nums s 0]
  simpa [nums] using HL.out
/-- The table's outer cells: the first i of P rows are there. -/
def outer (G : Nat → Nat) (n i P : Nat) : List Value := (List.range P).map fun j => if j < i then .slice (some ⟨G j, 0, none⟩) n n else .slice none 0 0
theorem outer_len (G : Nat → Nat) (n i P : Nat) : (outer G n i P).length = P := by simp [outer]
theorem outer_get (G : Nat → Nat) (n i P j : Nat) (h : j < P) : (outer G n i P)[j]? = some (if j < i then .slice (some ⟨G j, 0, none⟩) n n else .slice none 0 0) := by simp [outer, h]
theorem outer_set (G : Nat → Nat) (n i P g : Nat) : (outer G n i P).set i (.slice (some ⟨g, 0, none⟩) n n) = outer (fun j => if j = i then g else G j) n (i + 1) P := by
  apply List.ext_getElem?
  intro j
  by_cases hj : j < P
  · rw [outer_get _ _ _ _ _ hj, List.getElem?_set]
    by_cases e : i = j
    · subst e; simp [outer_len, hj]
    · have e2 : ¬ j = i := fun h => e h.symm
      have e3 : (j < i + 1) = (j < i) := propext (by omega)
      rw [if_neg e, outer_get _ _ _ _ _ hj]
      simp [e2, e3]
  · rw [List.getElem?_eq_none (by simp [outer_len]; omega), List.getElem?_eq_none (by simp [outer_len]; omega)]

/-- A table of P rows of n numbers, the first i of them there: row j in block G j has the numbers F j 0, .. -/
structure Mat (w : World) (base gv cv P n i : Nat) (G : Nat → Nat) (F : Nat → Nat → Int) : Prop where
  own : w.ownsRow base 26 1 (.slice (some ⟨gv, 0, none⟩) P cv) P (outer G n i P)
  rows : ∀ j, j < i → Row w base (G j) n n (F j)
  apart : ∀ j k, j < i → k < i → j ≠ k → G j ≠ G k
section
variable {w w' w1 : World} {base gv cv P n i : Nat} {G : Nat → Nat} {F F' : Nat → Nat → Int}
theorem Mat.cell (h : Mat w base gv cv P n i G F) {j : Nat} (hj : j < i) (hp : j < P) : w.cell? ⟨gv, j, none⟩ = some (.slice (some ⟨G j, 0, none⟩) n n) := by
  rw [World.ownsRow.cellAt h.own j (by omega), outer_get _ _ _ _ _ hp, if_pos hj]
theorem Mat.congr (h : Mat w base gv cv P n i G F) (he : ∀ j, j < i → ∀ m, m < n → F j m = F' j m) : Mat w base gv cv P n i G F' :=
  ⟨h.own, fun j hj => (h.rows j hj).congr (he j hj), h.apart⟩
theorem Mat.below {B : Nat} (h : Mat w base gv cv P n i G F) (hb : Below B w w') (hB : w.heap.size ≤ B) : Mat w' base gv cv P n i G F :=
  ⟨row_below h.own hb hB, fun j hj => (h.rows j hj).below hb hB, h.apart⟩
theorem Mat.drew (h : Mat w base gv cv P n i G F) : Mat w.drew base gv cv P n i G F := ⟨h.own, h.rows, h.apart⟩
theorem Mat.drewN (h : Mat w base gv cv P n i G F) (k : Nat) : Mat (w.drewN k) base gv cv P n i G F := ⟨h.own, h.rows, h.apart⟩
theorem Mat.set (h : Mat w base gv cv P n i G F) {j : Nat} (hj : j < i) (m : Nat) (x : Int) : Mat (w.setCell ⟨G j, m, none⟩ (.int .i64 x)) base gv cv P n i G (fun k => if k = j then upd (F j) m x else F k) := by
  have hr := h.rows j hj
  refine ⟨ownsRow_setCell_other h.own (a := ⟨G j, m, none⟩) (fun e => ?_) _, fun k hk => ?_, h.apart⟩
  · rcases owns_apart hr h.own (by decide) with h1 | h1
    · cases h1
    · exact h1 e.symm
  · by_cases e : k = j
    · subst e
      simp only [if_true]
      exact hr.set m x
    · simp only [e, if_false]
      exact ownsRow_setCell_other (h.rows k hk) (a := ⟨G j, m, none⟩) (fun e2 => h.apart k j hk hj e (by simpa [Value.ownBlock] using e2)) _
theorem Mat.add (h : Mat w base gv cv P n i G F) {g : Nat} (hr : Row w1 base g n n (F i)) (hg : w.heap.size ≤ g) (hgr : w.grownBy w1 none) :
    Mat (w1.setCell ⟨gv, i, none⟩ (.slice (some ⟨g, 0, none⟩) n n)) base gv cv P n (i + 1) (fun j => if j = i then g else G j) F := by
  have ho := World.ownsRow.kept h.own hgr (Or.inr (by simp [Value.ownBlock]))
  have hk : ∀ j, j < i → Row w1 base (G j) n n (F j) := fun j hj => World.ownsRow.kept (h.rows j hj) hgr (Or.inr (by simp [Value.ownBlock]))
  have other : ∀ {g' : Nat} {f : Nat → Int}, Row w1 base g' n n f → Row (w1.setCell ⟨gv, i, none⟩ (.slice (some ⟨g, 0, none⟩) n n)) base g' n n f := fun hr' =>
    ownsRow_setCell_other hr' (a := ⟨gv, i, none⟩) (fun e => by
      rcases owns_apart hr' ho (by decide) with h1 | h1
      · cases h1
      · exact h1 e) _
  have hlt : ∀ j, j < i → G j < w.heap.size := fun j hj => (h.rows j hj).lt.2
  refine ⟨?_, fun j hj => ?_, fun j k hj hk' hjk => ?_⟩
  · have h2 := (World.ownsRow.stored ho i (.slice (some ⟨g, 0, none⟩) n n)).1
    rw [outer_set] at h2
    exact h2
  · by_cases e : j = i
    · subst e
      simp only [if_true]
      exact other hr
    · simp only [e, if_false]
      exact other (hk j (by omega))
  · by_cases e : j = i
    · have e2 : ¬ k = i := by omega
      simp only [e, e2, if_true, if_false]
      have := hlt k (by omega)
      omega
    · by_cases e2 : k = i
      · simp only [e, e2, if_true, if_false]
        have := hlt j (by omega)
        omega
      · simp only [e, e2, if_false]
        exact h.apart j k (by omega) (by omega) hjk
theorem mat_made (G : Nat → Nat) (h : w.ownsRow base 26 1 (.slice (some ⟨gv, 0, none⟩) P cv) P (madeCells (Value.slice none 0 0).cells (P * 1)).toList) : Mat w base gv cv P n 0 G F := by
  refine ⟨?_, fun j hj => by omega, fun j k hj => by omega⟩
  have e : (madeCells (Value.slice none 0 0).cells (P * 1)).toList = outer G n 0 P := by
    rw [Nat.mul_one]
    show (madeCells #[Value.slice none 0 0] P).toList = _
    rw [toList_madeCells_one]
    apply List.ext_getElem?
    intro j
    by_cases hj : j < P
    · rw [outer_get _ _ _ _ _ hj]; simp [hj]
    · rw [List.getElem?_eq_none (by simp; omega), List.getElem?_eq_none (by simp [outer_len]; omega)]
  rwa [e] at h
end

/-- Counts of parts up to place k, but up to k + 1 for fewer parts than i, and for i parts of sums below q. -/
def wmix (s : Int) (k i : Nat) (q : Int) : Nat → Nat → Int := fun j m => if j < i ∨ (j = i ∧ (m : Int) < q) then (W s (k + 1) j m : Int) else (W s k j m : Int)
end Go.Proofs.YtiloljldefodkaaDoor

/- Counts of parts: the specification's. -/
namespace Go.Proofs.YtiloljldefodkaaDoor
open Go.ChangeShapes Go.WideShapes Go.ChangeAt Go.RowKit

theorem w_zero (s : Int) (j m : Nat) : (W s 0 j (m : Int) : Int) = if j = 0 ∧ m = 0 then 1 else 0 := by
  rw [W_00]
  by_cases h : j = 0 ∧ m = 0
  · rw [if_pos h, if_pos (by omega)]; rfl
  · rw [if_neg h, if_neg (by omega)]; rfl

theorem wmix_start (s : Int) (k : Nat) (j m : Nat) : (W s k j (m : Int) : Int) = wmix s k 1 0 j m := by
  simp only [wmix]
  by_cases h : j = 0
  · subst h; rw [if_pos (by omega), W_k0, W_k0]
  · rw [if_neg (by omega)]
theorem wmix_row (s : Int) (hs : 3 ≤ s) (k i : Nat) (x : Int) (hx : x = num s ((k : Int) + 1)) (j m : Nat) : wmix s k i 0 j m = wmix s k i x j m := by
  simp only [wmix]
  by_cases h1 : j < i
  · rw [if_pos (by omega), if_pos (by omega)]
  · by_cases h2 : j = i ∧ (m : Int) < x
    · rw [if_neg (by omega), if_pos (by omega), W_above s hs k j m (by omega)]
    · rw [if_neg (by omega), if_neg (by omega)]
theorem wmix_next (s : Int) (k i N : Nat) (q : Int) (hq : (N : Int) < q) (j m : Nat) (hm : m < N + 1) : wmix s k i q j m = wmix s k (i + 1) 0 j m := by
  simp only [wmix]
  by_cases h : j < i ∨ j = i
  · rw [if_pos (by omega), if_pos (by omega)]
  · rw [if_neg (by omega), if_neg (by omega)]
theorem wmix_end (s : Int) (k M : Nat) (j m : Nat) (hj : j < M + 1) : wmix s k (M + 1) 0 j m = (W s (k + 1) j m : Int) := by
  simp only [wmix]
  rw [if_pos (by omega)]
theorem wmix_step (s : Int) (k i a : Nat) (v : Int) (hv : v = (W s (k + 1) i (a : Int) : Int)) (j m : Nat) :
    (if j = i then upd (wmix s k i (a : Int) i) a v else wmix s k i (a : Int) j) m = wmix s k i ((a : Int) + 1) j m := by
  by_cases h : j = i
  · subst h
    by_cases e : m = a
    · subst e
      have e3 : (m : Int) < (m : Int) + 1 := by omega
      simp [upd, wmix, hv, e3]
    · have e2 : ((m : Int) < (a : Int) + 1) = ((m : Int) < (a : Int)) := propext (by omega)
      simp only [if_true, upd, wmix, e2]
      rw [if_neg e]
  · simp [wmix, h]

set_option maxHeartbeats 6400000 in
theorem suCount_any (s : Int) (N M : Nat) (w : World) (h1 : 3 ≤ s) (h2 : s ≤ 24) (hN : N ≤ 3000) (hM : M ≤ 24) :
    Calls Tryd.prog 56 #[.int .i64 s, .int .i64 N, .int .i64 M] w fun e w' => e = .returned (.int .i64 (W s (pl s N).toNat M N)) ∧ Below w.heap.size w w' := by
  obtain ⟨i0, hi0, hz0, hz1, hz2⟩ := info_parts infoInt
  obtain ⟨ir, hir, hzr0, hzr1, hzr2⟩ := info_parts infoRow
  have p0 := pl_nn s N h1 (by omega)
  have p1 := pl_77 s N h1 (by omega) (by omega)
  have hK : (pl s N).toNat ≤ 77 := by omega
  have HPL := Lib.hid (fun k : Int => fits_iff s N k h1 (by omega))
  have HKK : Hid (((pl s N).toNat : Int) = pl s N) := Lib.hid (by omega)
  generalize (pl s N).toNat = K at *
  obtain ⟨B, hB⟩ : ∃ B, w.heap.size = B := ⟨_, rfl⟩
  have HBB := Lib.hid hB
  go_enter Tryd.func56, Tryd.ntmps56
  go_wp2_with (at_make; refine wpList_make_full _ rfl _ _ 40 rfl w.heap.size 26 ir (.slice none 0 0) 1 Tryd.underlying40 hir hzr0 hzr1 _ _ _ _ (M + 1) rfl rfl (by push_cast; rfl) (by push_cast; rfl) (by rw [hzr2]; omega) (by unfold maxLen; omega) (Nat.le_refl _) ?_; intro w1 hown1 hgrow1)
  have hb1 : Below B w w1 := by rw [← hB]; exact (Below.refl _ _).grown hgrow1 (Nat.le_refl _) (fun g hg => by cases hg)
  rw [hB] at hown1
  have hm0 := mat_made (n := N + 1) (F := fun _ _ => 0) (fun _ => 0) hown1
  have HM0 := Lib.hid hm0
  clear hown1 hgrow1 hm0
  try simp only [hB]
  clear hB
  go_wp2
  go_loopw [18] (fun i wr => ∃ (j : Nat) (G : Nat → Nat), j ≤ M + 1 ∧ i = .int .i64 j ∧ Hid (Mat wr B B (M + 1) (M + 1) (N + 1) j G (fun _ _ => 0)) ∧ Below B w wr) (fun i _ => M + 1 - (intOf i).toNat)
  case atStart => exact ⟨0, _, Nat.zero_le _, rfl, HM0, hb1⟩
  case round =>
    obtain ⟨j, G, hj, rfl, hmat, hb⟩ := hrel
    by_cases hlt : j < M + 1
    · have hjI : (j : Int) < (M : Int) + 1 := by omega
      go_wp2_with (at_make; refine wpList_make_full _ rfl _ _ 26 rfl B 3 i0 (.int .i64 0) 1 Tryd.underlying26 hi0 hz0 hz1 _ _ _ _ (N + 1) rfl rfl (by push_cast; rfl) (by push_cast; rfl) (by rw [hz2]; omega) (by unfold maxLen; omega) (by have := hb.size; have := HBB.out; omega) ?_; intro w2 hown2 hgrow2; have hk := World.ownsRow.kept hmat.out.own hgrow2 (Or.inr (by simp [Value.ownBlock])); have hc := World.ownsRow.cellAt hk j (by omega); rw [outer_get _ _ _ _ _ hlt, if_neg (by omega)] at hc; have hf := World.ownsRow.frozenAt hk j)
      have hadd := hmat.out.add (row_made hown2) (Nat.le_refl _) hgrow2
      have hb2 : Below B w w2 := hb.grown hgrow2 (by have := hb.size; have := HBB.out; omega) (fun g hg => by cases hg)
      have hb3 := hb2.setCell (p := ⟨B, j, none⟩) (Nat.le_refl _) (.slice (some ⟨wr.heap.size, 0, none⟩) (N + 1) (N + 1))
      have HA := Lib.hid hadd
      clear hown2 hgrow2 hk hc hf hmat hadd
      go_wp2
      go_roundw
      case rel => exact ⟨j + 1, _, by omega, by go_num, HA, hb3⟩
      case measure => simp [intOf]; omega
    · obtain rfl : j = M + 1 := by omega
      have hcast : ((M + 1 : Nat) : Int) = (M : Int) + 1 := by omega
      rw [hcast]
      clear hcast
      have c0 := hmat.out.cell (j := 0) (by omega) (by omega)
      have d0 := (hmat.out.rows 0 (by omega)).cell (j := 0) (by omega)
      have f0 := (hmat.out.rows 0 (by omega)).frozen 0
      have hm1 := (hmat.out.set (j := 0) (by omega) 0 1).congr (F' := fun j m => (W s 0 j m : Int)) (fun j hj m hm => by
        rw [w_zero]
        by_cases e : j = 0
        · subst e; simp [upd]
        · simp [e])
      have hb1 := hb.setCell (p := ⟨G 0, 0, none⟩) (hmat.out.rows 0 (by omega)).lt.1 (.int .i64 1)
      have HM1 := Lib.hid hm1
      have i1 : (0 : Int) < (M : Int) + 1 := by omega
      have i2 : (0 : Int) < (N : Int) + 1 := by omega
      clear hm1 hmat
      go_wp2
      go_loopw [9] (fun k wr => ∃ k' : Nat, k' ≤ K ∧ k = .int .i64 ((k' : Int) + 1) ∧ Hid (Mat wr B B (M + 1) (M + 1) (N + 1) (M + 1) G (fun j m => (W s k' j m : Int))) ∧ Below B w wr) (fun k _ => K + 1 - (intOf k).toNat)
      case atStart => exact ⟨0, Nat.zero_le _, rfl, HM1, hb1⟩
      case round =>
        obtain ⟨k', hk', rfl, hmat, hb⟩ := hrel
        have hm := HPL.out ((k' : Int) + 1) (by omega)
        by_cases hlt : k' < K
        · have hxn := hm.2 (by rw [← HKK.out]; omega)
          have hx1 := num_pos s ((k' : Int) + 1) h1 (by omega)
          obtain ⟨x, hx⟩ : ∃ x, x = num s ((k' : Int) + 1) := ⟨_, rfl⟩
          have HX := Lib.hid hx
          have HNC := Lib.hid (fun w => shNumber_any s ((k' : Int) + 1) w h1 h2 (by omega) (by omega))
          rw [← hx] at hxn hx1
          have hms := hmat.out.congr (F' := wmix s k' 1 0) (fun j _ m _ => wmix_start s k' j m)
          have HMS := Lib.hid hms
          clear hm hx hms hmat
          go_wp2_with (go_at_call 41; refine (HNC.out _).mono ?_; rw [← HX.out]; rintro e w' ⟨rfl, rfl⟩)
          go_loopw [11] (fun i wr => ∃ i' : Nat, i' ≤ M ∧ i = .int .i64 ((i' : Int) + 1) ∧ Hid (Mat wr B B (M + 1) (M + 1) (N + 1) (M + 1) G (wmix s k' (i' + 1) 0)) ∧ Below B w wr) (fun i _ => M + 1 - (intOf i).toNat)
          case atStart => exact ⟨0, Nat.zero_le _, rfl, HMS, hb⟩
          case round =>
            obtain ⟨i', hi', rfl, hmat, hb⟩ := hrel
            by_cases hlt2 : i' < M
            · have hiI : (i' : Int) + 1 ≤ (M : Int) := by omega
              have hms := hmat.out.congr (F' := wmix s k' (i' + 1) x) (fun j _ m _ => wmix_row s h1 k' (i' + 1) x HX.out j m)
              have HMS2 := Lib.hid hms
              clear hms hmat
              go_wp2
              go_loopw [12] (fun p wr => ∃ q : Int, p = .int .i64 q ∧ x ≤ q ∧ q ≤ (N : Int) + 1 ∧ Hid (Mat wr B B (M + 1) (M + 1) (N + 1) (M + 1) G (wmix s k' (i' + 1) q)) ∧ Below B w wr) (fun p _ => ((N : Int) + 1 - intOf p).toNat)
              case atStart => exact ⟨x, rfl, by omega, by omega, HMS2, hb⟩
              case round =>
                obtain ⟨q, rfl, hq0, hq1, hmat, hb⟩ := hrel
                by_cases hge : q ≤ (N : Int)
                · obtain ⟨a, rfl⟩ := Int.eq_ofNat_of_zero_le (show 0 ≤ q by omega)
                  obtain ⟨b, hbq⟩ := Int.eq_ofNat_of_zero_le (show 0 ≤ (a : Int) - x by omega)
                  have ci := hmat.out.cell (j := i' + 1) (by omega) (by omega)
                  have cj := hmat.out.cell (j := i') (by omega) (by omega)
                  have ca := (hmat.out.rows (i' + 1) (by omega)).cell (j := a) (by omega)
                  have cb := (hmat.out.rows i' (by omega)).cell (j := b) (by omega)
                  have fa := (hmat.out.rows (i' + 1) (by omega)).frozen a
                  have gB := (hmat.out.rows (i' + 1) (by omega)).lt.1
                  have ea : wmix s k' (i' + 1) a (i' + 1) a = (W s k' (i' + 1) a : Int) := by simp [wmix]
                  have eb : wmix s k' (i' + 1) a i' b = (W s (k' + 1) i' b : Int) := by simp [wmix]
                  have e3 : (W s (k' + 1) (i' + 1) (a : Int) : Int) = (W s k' (i' + 1) a : Int) + (W s (k' + 1) i' b : Int) := by rw [W_kk, ← HX.out, hbq]; push_cast; rfl
                  have hsm := W_small s h1 (k' + 1) (i' + 1) a (by omega) (by omega) (by omega)
                  rw [ea] at ca
                  rw [eb] at cb
                  have hset := (hmat.out.set (j := i' + 1) (by omega) a (W s (k' + 1) (i' + 1) (a : Int) : Int)).congr (F' := wmix s k' (i' + 1) ((a : Int) + 1)) (fun j _ m _ => wmix_step s k' (i' + 1) a _ rfl j m)
                  have hb3 := hb.setCell (p := ⟨G (i' + 1), a, none⟩) gB (.int .i64 (W s (k' + 1) (i' + 1) (a : Int) : Int))
                  rw [e3] at hset hb3 hsm
                  have hD1 : (0 : Int) ≤ (W s k' (i' + 1) (a : Int) : Int) := by omega
                  have hD2 : (0 : Int) ≤ (W s (k' + 1) i' (b : Int) : Int) := by omega
                  generalize (W s k' (i' + 1) (a : Int) : Int) = y at *
                  generalize (W s (k' + 1) i' (b : Int) : Int) = z at *
                  have HS := Lib.hid hset
                  have HB3 := Lib.hid hb3
                  have w1e : IntKind.i64.wrap (b : Int) = (b : Int) := IntWalk.i64_in _ (by omega)
                  have w2e : IntKind.i64.wrap (y + z) = y + z := IntWalk.i64_in _ (by omega)
                  have w3e : IntKind.i64.wrap (i' : Int) = (i' : Int) := IntWalk.i64_in _ (by omega)
                  have t1 : ((i' : Int) + 1).toNat = i' + 1 := by omega
                  have n1 : (0 : Int) ≤ (a : Int) := by omega
                  have n2 : (a : Int) < (N : Int) + 1 := by omega
                  have n3 : (0 : Int) ≤ (b : Int) := by omega
                  have n4 : (b : Int) < (N : Int) + 1 := by omega
                  have n5 : (0 : Int) ≤ (i' : Int) + 1 := by omega
                  have n6 : (i' : Int) + 1 < (M : Int) + 1 := by omega
                  have n7 : (0 : Int) ≤ (i' : Int) := by omega
                  have n8 : (i' : Int) < (M : Int) + 1 := by omega
                  clear hset ea eb e3 hmat hb3 gB
                  go_wp2
                  generalize hwq : wr = wq at *
                  go_region
                  all_goals (go_wp2; go_roundw)
                  case rel => exact ⟨(a : Int) + 1, rfl, by omega, by omega, Lib.hid HS.out.drew, HB3.out.drew⟩
                  case measure => simp [intOf]; omega
                · have hms := hmat.out.congr (F' := wmix s k' (i' + 1 + 1) 0) (fun j _ m hm => wmix_next s k' (i' + 1) N q (by omega) j m hm)
                  have HMS3 := Lib.hid hms
                  clear hms hmat
                  go_wp2
                  go_roundw
                  case rel => exact ⟨i' + 1, by omega, by go_num, HMS3, hb⟩
                  case measure => simp [intOf]; omega
            · have hm2 := hmat.out
              rw [show i' = M from by omega] at hm2
              have hms := hm2.congr (F' := fun j m => (W s (k' + 1) j m : Int)) (fun j hj m _ => wmix_end s k' M j m hj)
              clear hm2
              have HMS3 := Lib.hid hms
              clear hms hmat
              go_wp2
              go_roundw
              case rel => exact ⟨k' + 1, by omega, by go_num, HMS3, hb⟩
              case measure => simp [intOf]; omega
        · obtain rfl : k' = K := by omega
          have hn : (N : Int) < num s ((k' : Int) + 1) := by
            rcases Int.lt_or_le (N : Int) (num s ((k' : Int) + 1)) with h | h
            · exact h
            · have := hm.1 h; rw [← HKK.out] at this; omega
          have ci := hmat.out.cell (j := M) (by omega) (by omega)
          have ca := (hmat.out.rows M (by omega)).cell (j := N) (by omega)
          clear hm hmat
          go_wp2_with (go_at_call 41; refine (shNumber_any _ _ _ h1 h2 (by omega) (by omega)).mono ?_; rintro e w' ⟨rfl, rfl⟩)
          go_ret
          rw [HBB.out]
          exact ⟨rfl, hb⟩
end Go.Proofs.YtiloljldefodkaaDoor

/- Counts of parts out of whatever rising numbers: the program's. -/
namespace Go.Proofs.YtiloljldefodkaaDoor
open Go.ChangeShapes Go.WideShapes Go.ChangeAt Go.RowKit

/-- Counts of parts up to place k, but up to k + 1 for fewer parts than i, and for i parts of sums below q. -/
def gmix (f : Int → Int) (k i : Nat) (q : Int) : Nat → Nat → Int := fun j m => if j < i ∨ (j = i ∧ (m : Int) < q) then (gW f (k + 1) j m : Int) else (gW f k j m : Int)
theorem gw_zero (f : Int → Int) (j m : Nat) : (gW f 0 j (m : Int) : Int) = if j = 0 ∧ m = 0 then 1 else 0 := by
  rw [gW_00]
  by_cases h : j = 0 ∧ m = 0
  · rw [if_pos h, if_pos (by omega)]; rfl
  · rw [if_neg h, if_neg (by omega)]; rfl

theorem gmix_start (f : Int → Int) (k : Nat) (j m : Nat) : (gW f k j (m : Int) : Int) = gmix f k 1 0 j m := by
  simp only [gmix]
  by_cases h : j = 0
  · subst h; rw [if_pos (by omega), gW_k0, gW_k0]
  · rw [if_neg (by omega)]
theorem gmix_row (f : Int → Int) (hs : Sq f) (k i : Nat) (x : Int) (hx : x = f ((k : Int) + 1)) (j m : Nat) : gmix f k i 0 j m = gmix f k i x j m := by
  simp only [gmix]
  by_cases h1 : j < i
  · rw [if_pos (by omega), if_pos (by omega)]
  · by_cases h2 : j = i ∧ (m : Int) < x
    · rw [if_neg (by omega), if_pos (by omega), gW_above f hs k j m (by omega)]
    · rw [if_neg (by omega), if_neg (by omega)]
theorem gmix_next (f : Int → Int) (k i N : Nat) (q : Int) (hq : (N : Int) < q) (j m : Nat) (hm : m < N + 1) : gmix f k i q j m = gmix f k (i + 1) 0 j m := by
  simp only [gmix]
  by_cases h : j < i ∨ j = i
  · rw [if_pos (by omega), if_pos (by omega)]
  · rw [if_neg (by omega), if_neg (by omega)]
theorem gmix_end (f : Int → Int) (k M : Nat) (j m : Nat) (hj : j < M + 1) : gmix f k (M + 1) 0 j m = (gW f (k + 1) j m : Int) := by
  simp only [gmix]
  rw [if_pos (by omega)]
theorem gmix_step (f : Int → Int) (k i a : Nat) (v : Int) (hv : v = (gW f (k + 1) i (a : Int) : Int)) (j m : Nat) :
    (if j = i then upd (gmix f k i (a : Int) i) a v else gmix f k i (a : Int) j) m = gmix f k i ((a : Int) + 1) j m := by
  by_cases h : j = i
  · subst h
    by_cases e : m = a
    · subst e
      have e3 : (m : Int) < (m : Int) + 1 := by omega
      simp [upd, gmix, hv, e3]
    · have e2 : ((m : Int) < (a : Int) + 1) = ((m : Int) < (a : Int)) := propext (by omega)
      simp only [if_true, upd, gmix, e2]
      rw [if_neg e]
  · simp [gmix, h]

set_option maxHeartbeats 6400000 in
theorem ways_two (f : Int → Int) (hs : Sq f) (N M K base0 g0 c0 : Nat) (w : World) (hN : N ≤ 3000) (hM : M ≤ 24) (hK : K ≤ 3000) (hKL : lst f N = K)
    (hsm : ∀ (k i m : Nat), k ≤ K → i ≤ M → m ≤ N → (gW f k i (m : Int) : Int) ≤ 9223372036854775807) (hc1 : ¬ c0 = 1) (hc2 : 1 ≤ c0) (hnb : Row w base0 g0 (K + 1) c0 (fun j => f (j : Int))) :
    Calls Tryd.prog 48 #[.slice (some ⟨g0, 0, none⟩) (K + 1) c0, .int .i64 N, .int .i64 M] w fun e w' => (∃ g, e = .returned (.slice (some ⟨g, 0, none⟩) (M + 1) (M + 1)) ∧ Row w' w.heap.size g (M + 1) (M + 1) (fun j => (gW f K j N : Int))) ∧ Below w.heap.size w w' := by
  obtain ⟨i0, hi0, hz0, hz1, hz2⟩ := info_parts infoInt
  obtain ⟨ir, hir, hzr0, hzr1, hzr2⟩ := info_parts infoRow
  have HPL := Lib.hid (fun (k : Int) hk => lst_iff hs N k (by omega) hk)
  have HKK := Lib.hid hKL.symm
  have HSM := Lib.hid hsm
  have HNB := Lib.hid hnb
  clear hKL hsm hnb
  obtain ⟨B, hB⟩ : ∃ B, w.heap.size = B := ⟨_, rfl⟩
  have HBB := Lib.hid hB
  go_enter Tryd.func48, Tryd.ntmps48
  go_wp2_with (at_make; refine wpList_make_full _ rfl _ _ 40 rfl w.heap.size 26 ir (.slice none 0 0) 1 Tryd.underlying40 hir hzr0 hzr1 _ _ _ _ (M + 1) rfl rfl (by push_cast; rfl) (by push_cast; rfl) (by rw [hzr2]; omega) (by unfold maxLen; omega) (Nat.le_refl _) ?_; intro w1 hown1 hgrow1)
  have hb1 : Below B w w1 := by rw [← hB]; exact (Below.refl _ _).grown hgrow1 (Nat.le_refl _) (fun g hg => by cases hg)
  rw [hB] at hown1
  have hm0 := mat_made (n := N + 1) (F := fun _ _ => 0) (fun _ => 0) hown1
  have HM0 := Lib.hid hm0
  clear hown1 hgrow1 hm0
  try simp only [hB]
  clear hB
  go_wp2
  go_loopw [22] (fun i wr => ∃ (j : Nat) (G : Nat → Nat), j ≤ M + 1 ∧ i = .int .i64 j ∧ Hid (Mat wr B B (M + 1) (M + 1) (N + 1) j G (fun _ _ => 0)) ∧ Below B w wr) (fun i _ => M + 1 - (intOf i).toNat)
  case atStart => exact ⟨0, _, Nat.zero_le _, rfl, HM0, hb1⟩
  case round =>
    obtain ⟨j, G, hj, rfl, hmat, hb⟩ := hrel
    by_cases hlt : j < M + 1
    · have hjI : (j : Int) < (M : Int) + 1 := by omega
      go_wp2_with (at_make; refine wpList_make_full _ rfl _ _ 26 rfl B 3 i0 (.int .i64 0) 1 Tryd.underlying26 hi0 hz0 hz1 _ _ _ _ (N + 1) rfl rfl (by push_cast; rfl) (by push_cast; rfl) (by rw [hz2]; omega) (by unfold maxLen; omega) (by have := hb.size; have := HBB.out; omega) ?_; intro w2 hown2 hgrow2; have hk := World.ownsRow.kept hmat.out.own hgrow2 (Or.inr (by simp [Value.ownBlock])); have hc := World.ownsRow.cellAt hk j (by omega); rw [outer_get _ _ _ _ _ hlt, if_neg (by omega)] at hc; have hf := World.ownsRow.frozenAt hk j)
      have hadd := hmat.out.add (row_made hown2) (Nat.le_refl _) hgrow2
      have hb2 : Below B w w2 := hb.grown hgrow2 (by have := hb.size; have := HBB.out; omega) (fun g hg => by cases hg)
      have hb3 := hb2.setCell (p := ⟨B, j, none⟩) (Nat.le_refl _) (.slice (some ⟨wr.heap.size, 0, none⟩) (N + 1) (N + 1))
      have HA := Lib.hid hadd
      clear hown2 hgrow2 hk hc hf hmat hadd
      go_wp2
      go_roundw
      case rel => exact ⟨j + 1, _, by omega, by go_num, HA, hb3⟩
      case measure => simp [intOf]; omega
    · obtain rfl : j = M + 1 := by omega
      have hcast : ((M + 1 : Nat) : Int) = (M : Int) + 1 := by omega
      rw [hcast]
      clear hcast
      have c0 := hmat.out.cell (j := 0) (by omega) (by omega)
      have d0 := (hmat.out.rows 0 (by omega)).cell (j := 0) (by omega)
      have f0 := (hmat.out.rows 0 (by omega)).frozen 0
      have hm1 := (hmat.out.set (j := 0) (by omega) 0 1).congr (F' := fun j m => (gW f 0 j m : Int)) (fun j hj m hm => by
        rw [gw_zero]
        by_cases e : j = 0
        · subst e; simp [upd]
        · simp [e])
      have hb1 := hb.setCell (p := ⟨G 0, 0, none⟩) (hmat.out.rows 0 (by omega)).lt.1 (.int .i64 1)
      have HM1 := Lib.hid hm1
      have i1 : (0 : Int) < (M : Int) + 1 := by omega
      have i2 : (0 : Int) < (N : Int) + 1 := by omega
      clear hm1 hmat
      have hgl := HNB.out.lt.2
      have HGA : Hid (∀ j, j < M + 1 → g0 ≠ G j) := Lib.hid (fun j hj => by
        have h3 := (HM1.out.rows j hj).lt.1
        have := HBB.out
        omega)
      go_wp2
      go_loopw [39] (fun i wr => ∃ k' : Nat, k' ≤ K ∧ i = .int .i64 (k' : Int) ∧ Hid (Mat wr B B (M + 1) (M + 1) (N + 1) (M + 1) G (fun j m => (gW f k' j m : Int))) ∧ Below B w wr) (fun i _ => K - (intOf i).toNat)
      case atStart => exact ⟨0, Nat.zero_le _, rfl, HM1, hb1⟩
      case round =>
        obtain ⟨k', hk', rfl, hmat, hb⟩ := hrel
        by_cases hlt : k' < K
        · have hkI : (k' : Int) < (K : Int) := by omega
          have hxn := (HPL.out ((k' : Int) + 1) (by omega)).2 (by rw [← HKK.out]; omega)
          have hx1 := hs.pos (k := (k' : Int) + 1) (by omega)
          have hnr := HNB.out.below hb (Nat.le_of_eq HBB.out)
          have hcn : wr.cell? ⟨g0, 1 + k', none⟩ = some (.int .i64 (f ((k' : Int) + 1))) := by
            have h := hnr.cell (j := k' + 1) (by omega)
            rw [Nat.add_comm 1 k', h]
            push_cast
            rfl
          obtain ⟨x, hx⟩ : ∃ x, x = f ((k' : Int) + 1) := ⟨_, rfl⟩
          have HX := Lib.hid hx
          rw [← hx] at hcn hxn hx1
          have hms := hmat.out.congr (F' := gmix f k' 1 0) (fun j _ m _ => gmix_start f k' j m)
          have HMS := Lib.hid hms
          clear hx hms hmat hnr
          go_wp2
          clear hcn
          go_loopw [11] (fun i wr2 => ∃ i' : Nat, i' ≤ M ∧ i = .int .i64 ((i' : Int) + 1) ∧ Hid (Mat wr2 B B (M + 1) (M + 1) (N + 1) (M + 1) G (gmix f k' (i' + 1) 0)) ∧ Below B w wr2) (fun i _ => M + 1 - (intOf i).toNat)
          case atStart => exact ⟨0, Nat.zero_le _, rfl, HMS, hb⟩
          case round =>
            obtain ⟨i', hi', rfl, hmat, hb⟩ := hrel
            by_cases hlt2 : i' < M
            · have hiI : (i' : Int) + 1 ≤ (M : Int) := by omega
              have hms := hmat.out.congr (F' := gmix f k' (i' + 1) x) (fun j _ m _ => gmix_row f hs k' (i' + 1) x HX.out j m)
              have HMS2 := Lib.hid hms
              have ci := hms.cell (j := i' + 1) (by omega) (by omega)
              have cj := hms.cell (j := i') (by omega) (by omega)
              have w3e : IntKind.i64.wrap (i' : Int) = (i' : Int) := IntWalk.i64_in _ (by omega)
              have t1 : ((i' : Int) + 1).toNat = i' + 1 := by omega
              have n5 : (0 : Int) ≤ (i' : Int) + 1 := by omega
              have n6 : (i' : Int) + 1 < (M : Int) + 1 := by omega
              have n7 : (0 : Int) ≤ (i' : Int) := by omega
              have n8 : (i' : Int) < (M : Int) + 1 := by omega
              clear hms hmat
              go_wp2
              go_quiet (fail)
              go_wp2
              clear ci cj
              go_loopw [14] (fun p wr2 => ∃ q : Int, p = .int .i64 q ∧ x ≤ q ∧ q ≤ (N : Int) + 1 ∧ Hid (Mat wr2 B B (M + 1) (M + 1) (N + 1) (M + 1) G (gmix f k' (i' + 1) q)) ∧ Below B w wr2) (fun p _ => ((N : Int) + 1 - intOf p).toNat)
              case atStart => exact ⟨x, rfl, by omega, by omega, Lib.hid (HMS2.out.drewN _), below_drewN hb _⟩
              case round =>
                obtain ⟨q, rfl, hq0, hq1, hmat, hb⟩ := hrel
                by_cases hge : q ≤ (N : Int)
                · obtain ⟨a, rfl⟩ := Int.eq_ofNat_of_zero_le (show 0 ≤ q by omega)
                  obtain ⟨b, hbq⟩ := Int.eq_ofNat_of_zero_le (show 0 ≤ (a : Int) - x by omega)
                  have ca := (hmat.out.rows (i' + 1) (by omega)).cell (j := a) (by omega)
                  have cb := (hmat.out.rows i' (by omega)).cell (j := b) (by omega)
                  have fa := (hmat.out.rows (i' + 1) (by omega)).frozen a
                  have gB := (hmat.out.rows (i' + 1) (by omega)).lt.1
                  have ea : gmix f k' (i' + 1) a (i' + 1) a = (gW f k' (i' + 1) a : Int) := by simp [gmix]
                  have eb : gmix f k' (i' + 1) a i' b = (gW f (k' + 1) i' b : Int) := by simp [gmix]
                  have e3 : (gW f (k' + 1) (i' + 1) (a : Int) : Int) = (gW f k' (i' + 1) a : Int) + (gW f (k' + 1) i' b : Int) := by rw [gW_kk, ← HX.out, hbq]; push_cast; rfl
                  have hsm := HSM.out (k' + 1) (i' + 1) a (by omega) (by omega) (by omega)
                  rw [ea] at ca
                  rw [eb] at cb
                  have hset := (hmat.out.set (j := i' + 1) (by omega) a (gW f (k' + 1) (i' + 1) (a : Int) : Int)).congr (F' := gmix f k' (i' + 1) ((a : Int) + 1)) (fun j _ m _ => gmix_step f k' (i' + 1) a _ rfl j m)
                  have hb3 := hb.setCell (p := ⟨G (i' + 1), a, none⟩) gB (.int .i64 (gW f (k' + 1) (i' + 1) (a : Int) : Int))
                  rw [e3] at hset hb3 hsm
                  have hD1 : (0 : Int) ≤ (gW f k' (i' + 1) (a : Int) : Int) := by omega
                  have hD2 : (0 : Int) ≤ (gW f (k' + 1) i' (b : Int) : Int) := by omega
                  generalize (gW f k' (i' + 1) (a : Int) : Int) = y at *
                  generalize (gW f (k' + 1) i' (b : Int) : Int) = z at *
                  have HS := Lib.hid hset
                  have HB3 := Lib.hid hb3
                  have w1e : IntKind.i64.wrap (b : Int) = (b : Int) := IntWalk.i64_in _ (by omega)
                  have w2e : IntKind.i64.wrap (y + z) = y + z := IntWalk.i64_in _ (by omega)
                  have n1 : (0 : Int) ≤ (a : Int) := by omega
                  have n2 : (a : Int) < (N : Int) + 1 := by omega
                  have n3 : (0 : Int) ≤ (b : Int) := by omega
                  have n4 : (b : Int) < (N : Int) + 1 := by omega
                  clear hset ea eb e3 hmat hb3 gB
                  go_wp2
                  go_region
                  all_goals (go_wp2; go_roundw)
                  case rel => exact ⟨(a : Int) + 1, rfl, by omega, by omega, Lib.hid HS.out.drew, HB3.out.drew⟩
                  case measure => simp [intOf]; omega
                · have hms := hmat.out.congr (F' := gmix f k' (i' + 1 + 1) 0) (fun j _ m hm => gmix_next f k' (i' + 1) N q (by omega) j m hm)
                  have HMS3 := Lib.hid hms
                  clear hms hmat
                  go_wp2
                  go_roundw
                  case rel => exact ⟨i' + 1, by omega, by go_num, HMS3, hb⟩
                  case measure => simp [intOf]; omega
            · have hm2 := hmat.out
              rw [show i' = M from by omega] at hm2
              have hms := hm2.congr (F' := fun j m => (gW f (k' + 1) j m : Int)) (fun j hj m _ => gmix_end f k' M j m hj)
              clear hm2
              have HMS3 := Lib.hid hms
              clear hms hmat
              go_wp2
              go_roundw
              case rel => exact ⟨k' + 1, by omega, by go_num, HMS3, hb⟩
              case measure => simp [intOf]; omega
        · obtain rfl : K = k' := by omega
          go_wp2_with (at_make; refine wpList_make_full _ rfl _ _ 26 rfl B 3 i0 (.int .i64 0) 1 Tryd.underlying26 hi0 hz0 hz1 _ _ _ _ (M + 1) rfl rfl (by push_cast; rfl) (by push_cast; rfl) (by rw [hz2]; omega) (by unfold maxLen; omega) (by have := hb.size; have := HBB.out; omega) ?_; intro w5 hown5 hgrow5)
          have hb5 : Below B w w5 := hb.grown hgrow5 (by have := hb.size; have := HBB.out; omega) (fun g hg => by cases hg)
          have hbm : Below wr.heap.size wr w5 := (Below.refl _ _).grown hgrow5 (Nat.le_refl _) (fun g hg => by cases hg)
          have HM5 := Lib.hid (hmat.out.below hbm (Nat.le_refl _))
          have HR5 := Lib.hid (row_made hown5)
          have HGN : Hid (∀ j, j < M + 1 → G j < wr.heap.size) := Lib.hid (fun j hj => (hmat.out.rows j hj).lt.2)
          have hsz5 : wr.heap.size < w5.heap.size := (row_made hown5).lt.2
          have hBw : B ≤ wr.heap.size := by have := hb.size; have := HBB.out; omega
          generalize hgn : wr.heap.size = gn at *
          clear hown5 hgrow5 hbm hmat
          go_wp2
          go_loopw [81] (fun i wr => ∃ t : Nat, t ≤ M + 1 ∧ i = .int .i64 t ∧ Hid (Row wr B gn (M + 1) (M + 1) (fun j => if j < t then (gW f K j N : Int) else 0)) ∧ Hid (Mat wr B B (M + 1) (M + 1) (N + 1) (M + 1) G (fun j m => (gW f K j m : Int))) ∧ Below B w wr) (fun i _ => M + 1 - (intOf i).toNat)
          case atStart => exact ⟨0, Nat.zero_le _, rfl, Lib.hid (HR5.out.congr (fun m hm => by simp)), HM5, hb5⟩
          case round =>
            obtain ⟨t, ht, rfl, hrow, hmat, hb⟩ := hrel
            by_cases hlt3 : t < M + 1
            · have htI : (t : Int) < (M : Int) + 1 := by omega
              have ci := hmat.out.cell (j := t) (by omega) (by omega)
              have ca := (hmat.out.rows t (by omega)).cell (j := N) (by omega)
              have cr := hrow.out.cell (j := t) (by omega)
              have fr := hrow.out.frozen t
              have n1 : (N : Int) < (N : Int) + 1 := by omega
              have hset := (hrow.out.set t (gW f K t N : Int)).congr (f' := fun j => if j < t + 1 then (gW f K j N : Int) else 0) (fun m hm => by
                simp only [upd]
                by_cases e : m = t
                · subst e; simp
                · have e2 : (m < t + 1) = (m < t) := propext (by omega)
                  simp [e, e2])
              have hap : ∀ j, j < M + 1 → G j ≠ gn := fun j hj e => by
                have h2 := HGN.out j hj
                omega
              have hm2 : Mat (wr.setCell ⟨gn, t, none⟩ (.int .i64 (gW f K t N : Int))) B B (M + 1) (M + 1) (N + 1) (M + 1) G (fun j m => (gW f K j m : Int)) :=
                ⟨ownsRow_setCell_other hmat.out.own (a := ⟨gn, t, none⟩) (fun e => by
                  rcases owns_apart hrow.out hmat.out.own (by decide) with h1 | h1
                  · cases h1
                  · exact h1 e.symm) _, fun k hk => ownsRow_setCell_other (hmat.out.rows k hk) (a := ⟨gn, t, none⟩) (fun e2 => hap k hk (by simpa [Value.ownBlock] using e2)) _, hmat.out.apart⟩
              have hb6 := hb.setCell (p := ⟨gn, t, none⟩) hBw (.int .i64 (gW f K t N : Int))
              have HS := Lib.hid hset
              have HM6 := Lib.hid hm2
              have HB6 := Lib.hid hb6
              generalize (gW f K t N : Int) = z at *
              clear hset hm2 hb6 hrow hmat hap
              go_wp2
              go_roundw
              case rel => exact ⟨t + 1, by omega, by go_num, HS, HM6, HB6.out⟩
              case measure => simp [intOf]; omega
            · obtain rfl : t = M + 1 := by omega
              have hf := hrow.out.congr (f' := fun j => (gW f K j N : Int)) (fun m hm => by rw [if_pos hm])
              have HF := Lib.hid hf
              clear hf hrow hmat
              go_wp2
              go_ret
              rw [HBB.out]
              exact ⟨⟨_, rfl, HF.out⟩, hb⟩

set_option maxHeartbeats 6400000 in
theorem ways_one (f : Int → Int) (hs : Sq f) (N M K base0 g0 : Nat) (w : World) (hN : N ≤ 3000) (hM : M ≤ 24) (hK : K ≤ 3000) (hKL : lst f N = K)
    (hsm : ∀ (k i m : Nat), k ≤ K → i ≤ M → m ≤ N → (gW f k i (m : Int) : Int) ≤ 9223372036854775807) (hK0 : K = 0) (hnb : Row w base0 g0 1 1 (fun j => f (j : Int))) :
    Calls Tryd.prog 48 #[.slice (some ⟨g0, 0, none⟩) 1 1, .int .i64 N, .int .i64 M] w fun e w' => (∃ g, e = .returned (.slice (some ⟨g, 0, none⟩) (M + 1) (M + 1)) ∧ Row w' w.heap.size g (M + 1) (M + 1) (fun j => (gW f K j N : Int))) ∧ Below w.heap.size w w' := by
  obtain ⟨i0, hi0, hz0, hz1, hz2⟩ := info_parts infoInt
  obtain ⟨ir, hir, hzr0, hzr1, hzr2⟩ := info_parts infoRow
  have HPL := Lib.hid (fun (k : Int) hk => lst_iff hs N k (by omega) hk)
  have HKK := Lib.hid hKL.symm
  have HSM := Lib.hid hsm
  have HNB := Lib.hid hnb
  clear hKL hsm hnb
  have HK0 := Lib.hid hK0
  clear hK0
  obtain ⟨B, hB⟩ : ∃ B, w.heap.size = B := ⟨_, rfl⟩
  have HBB := Lib.hid hB
  go_enter Tryd.func48, Tryd.ntmps48
  go_wp2_with (at_make; refine wpList_make_full _ rfl _ _ 40 rfl w.heap.size 26 ir (.slice none 0 0) 1 Tryd.underlying40 hir hzr0 hzr1 _ _ _ _ (M + 1) rfl rfl (by push_cast; rfl) (by push_cast; rfl) (by rw [hzr2]; omega) (by unfold maxLen; omega) (Nat.le_refl _) ?_; intro w1 hown1 hgrow1)
  have hb1 : Below B w w1 := by rw [← hB]; exact (Below.refl _ _).grown hgrow1 (Nat.le_refl _) (fun g hg => by cases hg)
  rw [hB] at hown1
  have hm0 := mat_made (n := N + 1) (F := fun _ _ => 0) (fun _ => 0) hown1
  have HM0 := Lib.hid hm0
  clear hown1 hgrow1 hm0
  try simp only [hB]
  clear hB
  go_wp2
  go_loopw [22] (fun i wr => ∃ (j : Nat) (G : Nat → Nat), j ≤ M + 1 ∧ i = .int .i64 j ∧ Hid (Mat wr B B (M + 1) (M + 1) (N + 1) j G (fun _ _ => 0)) ∧ Below B w wr) (fun i _ => M + 1 - (intOf i).toNat)
  case atStart => exact ⟨0, _, Nat.zero_le _, rfl, HM0, hb1⟩
  case round =>
    obtain ⟨j, G, hj, rfl, hmat, hb⟩ := hrel
    by_cases hlt : j < M + 1
    · have hjI : (j : Int) < (M : Int) + 1 := by omega
      go_wp2_with (at_make; refine wpList_make_full _ rfl _ _ 26 rfl B 3 i0 (.int .i64 0) 1 Tryd.underlying26 hi0 hz0 hz1 _ _ _ _ (N + 1) rfl rfl (by push_cast; rfl) (by push_cast; rfl) (by rw [hz2]; omega) (by unfold maxLen; omega) (by have := hb.size; have := HBB.out; omega) ?_; intro w2 hown2 hgrow2; have hk := World.ownsRow.kept hmat.out.own hgrow2 (Or.inr (by simp [Value.ownBlock])); have hc := World.ownsRow.cellAt hk j (by omega); rw [outer_get _ _ _ _ _ hlt, if_neg (by omega)] at hc; have hf := World.ownsRow.frozenAt hk j)
      have hadd := hmat.out.add (row_made hown2) (Nat.le_refl _) hgrow2
      have hb2 : Below B w w2 := hb.grown hgrow2 (by have := hb.size; have := HBB.out; omega) (fun g hg => by cases hg)
      have hb3 := hb2.setCell (p := ⟨B, j, none⟩) (Nat.le_refl _) (.slice (some ⟨wr.heap.size, 0, none⟩) (N + 1) (N + 1))
      have HA := Lib.hid hadd
      clear hown2 hgrow2 hk hc hf hmat hadd
      go_wp2
      go_roundw
      case rel => exact ⟨j + 1, _, by omega, by go_num, HA, hb3⟩
      case measure => simp [intOf]; omega
    · obtain rfl : j = M + 1 := by omega
      have hcast : ((M + 1 : Nat) : Int) = (M : Int) + 1 := by omega
      rw [hcast]
      clear hcast
      have c0 := hmat.out.cell (j := 0) (by omega) (by omega)
      have d0 := (hmat.out.rows 0 (by omega)).cell (j := 0) (by omega)
      have f0 := (hmat.out.rows 0 (by omega)).frozen 0
      have hm1 := (hmat.out.set (j := 0) (by omega) 0 1).congr (F' := fun j m => (gW f 0 j m : Int)) (fun j hj m hm => by
        rw [gw_zero]
        by_cases e : j = 0
        · subst e; simp [upd]
        · simp [e])
      have hb1 := hb.setCell (p := ⟨G 0, 0, none⟩) (hmat.out.rows 0 (by omega)).lt.1 (.int .i64 1)
      have HM1 := Lib.hid hm1
      have i1 : (0 : Int) < (M : Int) + 1 := by omega
      have i2 : (0 : Int) < (N : Int) + 1 := by omega
      clear hm1 hmat
      have hgl := HNB.out.lt.2
      have HGA : Hid (∀ j, j < M + 1 → g0 ≠ G j) := Lib.hid (fun j hj => by
        have h3 := (HM1.out.rows j hj).lt.1
        have := HBB.out
        omega)
      go_wp2
      go_loopw [39] (fun i wr => ∃ k' : Nat, k' ≤ K ∧ i = .int .i64 (k' : Int) ∧ Hid (Mat wr B B (M + 1) (M + 1) (N + 1) (M + 1) G (fun j m => (gW f k' j m : Int))) ∧ Below B w wr) (fun i _ => K - (intOf i).toNat)
      case atStart => exact ⟨0, Nat.zero_le _, rfl, HM1, hb1⟩
      case round =>
        obtain ⟨k', hk', rfl, hmat, hb⟩ := hrel
        · obtain rfl : K = k' := by have := HK0.out; omega
          go_wp2_with (at_make; refine wpList_make_full _ rfl _ _ 26 rfl B 3 i0 (.int .i64 0) 1 Tryd.underlying26 hi0 hz0 hz1 _ _ _ _ (M + 1) rfl rfl (by push_cast; rfl) (by push_cast; rfl) (by rw [hz2]; omega) (by unfold maxLen; omega) (by have := hb.size; have := HBB.out; omega) ?_; intro w5 hown5 hgrow5)
          have hb5 : Below B w w5 := hb.grown hgrow5 (by have := hb.size; have := HBB.out; omega) (fun g hg => by cases hg)
          have hbm : Below wr.heap.size wr w5 := (Below.refl _ _).grown hgrow5 (Nat.le_refl _) (fun g hg => by cases hg)
          have HM5 := Lib.hid (hmat.out.below hbm (Nat.le_refl _))
          have HR5 := Lib.hid (row_made hown5)
          have HGN : Hid (∀ j, j < M + 1 → G j < wr.heap.size) := Lib.hid (fun j hj => (hmat.out.rows j hj).lt.2)
          have hsz5 : wr.heap.size < w5.heap.size := (row_made hown5).lt.2
          have hBw : B ≤ wr.heap.size := by have := hb.size; have := HBB.out; omega
          generalize hgn : wr.heap.size = gn at *
          clear hown5 hgrow5 hbm hmat
          go_wp2
          go_loopw [81] (fun i wr => ∃ t : Nat, t ≤ M + 1 ∧ i = .int .i64 t ∧ Hid (Row wr B gn (M + 1) (M + 1) (fun j => if j < t then (gW f K j N : Int) else 0)) ∧ Hid (Mat wr B B (M + 1) (M + 1) (N + 1) (M + 1) G (fun j m => (gW f K j m : Int))) ∧ Below B w wr) (fun i _ => M + 1 - (intOf i).toNat)
          case atStart => exact ⟨0, Nat.zero_le _, rfl, Lib.hid (HR5.out.congr (fun m hm => by simp)), HM5, hb5⟩
          case round =>
            obtain ⟨t, ht, rfl, hrow, hmat, hb⟩ := hrel
            by_cases hlt3 : t < M + 1
            · have htI : (t : Int) < (M : Int) + 1 := by omega
              have ci := hmat.out.cell (j := t) (by omega) (by omega)
              have ca := (hmat.out.rows t (by omega)).cell (j := N) (by omega)
              have cr := hrow.out.cell (j := t) (by omega)
              have fr := hrow.out.frozen t
              have n1 : (N : Int) < (N : Int) + 1 := by omega
              have hset := (hrow.out.set t (gW f K t N : Int)).congr (f' := fun j => if j < t + 1 then (gW f K j N : Int) else 0) (fun m hm => by
                simp only [upd]
                by_cases e : m = t
                · subst e; simp
                · have e2 : (m < t + 1) = (m < t) := propext (by omega)
                  simp [e, e2])
              have hap : ∀ j, j < M + 1 → G j ≠ gn := fun j hj e => by
                have h2 := HGN.out j hj
                omega
              have hm2 : Mat (wr.setCell ⟨gn, t, none⟩ (.int .i64 (gW f K t N : Int))) B B (M + 1) (M + 1) (N + 1) (M + 1) G (fun j m => (gW f K j m : Int)) :=
                ⟨ownsRow_setCell_other hmat.out.own (a := ⟨gn, t, none⟩) (fun e => by
                  rcases owns_apart hrow.out hmat.out.own (by decide) with h1 | h1
                  · cases h1
                  · exact h1 e.symm) _, fun k hk => ownsRow_setCell_other (hmat.out.rows k hk) (a := ⟨gn, t, none⟩) (fun e2 => hap k hk (by simpa [Value.ownBlock] using e2)) _, hmat.out.apart⟩
              have hb6 := hb.setCell (p := ⟨gn, t, none⟩) hBw (.int .i64 (gW f K t N : Int))
              have HS := Lib.hid hset
              have HM6 := Lib.hid hm2
              have HB6 := Lib.hid hb6
              generalize (gW f K t N : Int) = z at *
              clear hset hm2 hb6 hrow hmat hap
              go_wp2
              go_roundw
              case rel => exact ⟨t + 1, by omega, by go_num, HS, HM6, HB6.out⟩
              case measure => simp [intOf]; omega
            · obtain rfl : t = M + 1 := by omega
              have hf := hrow.out.congr (f' := fun j => (gW f K j N : Int)) (fun m hm => by rw [if_pos hm])
              have HF := Lib.hid hf
              clear hf hrow hmat
              go_wp2
              go_ret
              rw [HBB.out]
              exact ⟨⟨_, rfl, HF.out⟩, hb⟩

theorem waysByParts_any (f : Int → Int) (hs : Sq f) (N M K base0 g0 c0 : Nat) (w : World) (hN : N ≤ 3000) (hM : M ≤ 24) (hK : K ≤ 3000) (hKL : lst f N = K)
    (hsm : ∀ (k i m : Nat), k ≤ K → i ≤ M → m ≤ N → (gW f k i (m : Int) : Int) ≤ 9223372036854775807) (hnb : Row w base0 g0 (K + 1) c0 (fun j => f (j : Int))) :
    Calls Tryd.prog 48 #[.slice (some ⟨g0, 0, none⟩) (K + 1) c0, .int .i64 N, .int .i64 M] w fun e w' => (∃ g, e = .returned (.slice (some ⟨g, 0, none⟩) (M + 1) (M + 1)) ∧ Row w' w.heap.size g (M + 1) (M + 1) (fun j => (gW f K j N : Int))) ∧ Below w.heap.size w w' := by
  have hc : K + 1 ≤ c0 := by
    rcases hnb.2 with ⟨h, _⟩ | ⟨g, cap, cur, h, _, _, h3, _⟩
    · cases h
    · injection h with _ _ h
      omega
  by_cases h1 : c0 = 1
  · subst h1
    obtain rfl : K = 0 := by omega
    exact ways_one f hs N M 0 base0 g0 w hN hM hK hKL hsm rfl hnb
  · exact ways_two f hs N M K base0 g0 c0 w hN hM hK hKL hsm h1 (by omega) hnb
end Go.Proofs.YtiloljldefodkaaDoor

/- Counts of parts: the program's, over the polygonal numbers. -/
namespace Go.Proofs.YtiloljldefodkaaDoor
open Go.ChangeShapes Go.WideShapes Go.ChangeAt Go.RowKit

theorem waysNum_any (s : Int) (N M base0 g0 c0 : Nat) (w : World) (h1 : 3 ≤ s) (h2 : s ≤ 24) (hN : N ≤ 3000) (hM : M ≤ 24) (hnb : Row w base0 g0 ((pl s N).toNat + 1) c0 (fun j => num s (j : Int))) :
    Calls Tryd.prog 48 #[.slice (some ⟨g0, 0, none⟩) ((pl s N).toNat + 1) c0, .int .i64 N, .int .i64 M] w fun e w' => (∃ g, e = .returned (.slice (some ⟨g, 0, none⟩) (M + 1) (M + 1)) ∧ Row w' w.heap.size g (M + 1) (M + 1) (fun j => (W s (pl s N).toNat j N : Int))) ∧ Below w.heap.size w w' := by
  have p0 := pl_nn s N h1 (by omega)
  have p1 := pl_77 s N h1 (by omega) (by omega)
  have hL := lst_num s N h1 (by omega)
  have h := waysByParts_any (num s) (sq_num s h1) N M (pl s N).toNat base0 g0 c0 w hN hM (by omega) (by omega) (fun k i m hk hi hm => by rw [gW_num]; exact W_small s h1 k i m (by omega) (by omega) (by omega)) hnb
  simp only [gW_num] at h
  exact h
end Go.Proofs.YtiloljldefodkaaDoor
