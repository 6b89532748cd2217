/- Sums of different places: the program's counts, a row a place. -/
import Derived.Test.YtlcmlfodhjmdiaaSuE
import Derived.Test.YtlcmlfodhjmdiaaSuD
namespace Go.Proofs.Ytlcmlfodhjmdiaa
open Go.ChangeShapes Go.WideShapes Go.ChangeAt Go.RowKit

theorem infoRow : (Try.prog.info? 28).map (fun i => (i.zero, i.size, i.bytes)) = some (some (.slice none 0 0), 1, 24) := by kernel_rfl

theorem owns_apart {w : World} {b1 b2 s1 s2 n1 n2 : Nat} {e1 e2 : TypeId} {v1 v2 : Value} {xs ys : List Value} (h1 : w.ownsRow b1 e1 s1 v1 n1 xs) (h2 : w.ownsRow b2 e2 s2 v2 n2 ys) (he : e1 ≠ e2) : v1.ownBlock = none ∨ v1.ownBlock ≠ v2.ownBlock := by
  rcases h1.2 with ⟨rfl, _⟩ | ⟨g, cap, cur, rfl, _, hg, _⟩
  · exact Or.inl rfl
  · refine Or.inr fun e => ?_
    rcases h2.2 with ⟨rfl, _⟩ | ⟨g', cap', cur', rfl, _, hg', _⟩
    · cases e
    · have e2 : g = g' := by simpa [Value.ownBlock] using e
      subst e2
      rw [hg] at hg'
      injection hg' with hg'
      injection hg' with _ h3 _
      exact he h3
theorem Row.wide {w : World} {base g n c : Nat} {f : Nat → Int} (h : Row w base g n c f) {b : Nat} (hb : b ≤ base) : Row w b g n c f := by
  refine ⟨h.1, ?_⟩
  rcases h.2 with ⟨h1, h2⟩ | ⟨g', cap, cur, h1, h2, h3⟩
  · exact Or.inl ⟨h1, h2⟩
  · exact Or.inr ⟨g', cap, cur, h1, by omega, h3⟩
theorem Row.keptBy {w w' : World} {base g n c : Nat} {f : Nat → Int} (h : Row w base g n c f) {b2 s2 n2 : Nat} {e2 : TypeId} {v2 : Value} {ys : List Value} (h2 : w.ownsRow b2 e2 s2 v2 n2 ys) (he : 3 ≠ e2) (hg : w.grownBy w' v2.ownBlock) : Row w' base g n c f :=
  World.ownsRow.kept h hg (owns_apart h h2 he)

/-- A slice of rows: row j has the numbers F j 0, .., F j (n - 1). -/
def Rws (w : World) (base : Nat) (v : Value) (rs : List Value) (n : Nat) (F : Nat → Nat → Int) : Prop :=
  w.ownsRow base 28 1 v rs.length rs ∧ ∀ j u, rs[j]? = some u → ∃ g c, u = .slice (some ⟨g, 0, none⟩) n c ∧ Row w base g n c (F j)
section
variable {w w' : World} {base n : Nat} {v : Value} {rs : List Value} {F : Nat → Nat → Int}
theorem Rws.below {B : Nat} (h : Rws w base v rs n F) (hb : Below B w w') (hB : w.heap.size ≤ B) : Rws w' base v rs n F :=
  ⟨row_below h.1 hb hB, fun j u hu => by
    obtain ⟨g, c, e, hr⟩ := h.2 j u hu
    exact ⟨g, c, e, hr.below hb hB⟩⟩
theorem Rws.get (h : Rws w base v rs n F) {j : Nat} (hj : j < rs.length) : ∃ gv cv g c, v = .slice (some ⟨gv, 0, none⟩) rs.length cv ∧ base ≤ gv ∧ w.cell? ⟨gv, j, none⟩ = some (.slice (some ⟨g, 0, none⟩) n c) ∧ Row w base g n c (F j) := by
  obtain ⟨g, c, e, hr⟩ := h.2 j _ (List.getElem?_eq_getElem hj)
  rcases h.1.2 with ⟨_, h2⟩ | ⟨gv, cv, cur, h2, h3, h4⟩
  · omega
  · subst h2
    refine ⟨gv, cv, g, c, rfl, h3, ?_, hr⟩
    rw [World.ownsRow.cellAt h.1 j (by omega), List.getElem?_eq_getElem hj, e]
theorem Rws.app {w1 : World} {v' : Value} {g c : Nat} (h : Rws w base v rs n F) (hr : Row w base g n c (F rs.length)) (hown : w1.ownsRow base 28 1 v' (rs.length + 1) (rs ++ [.slice (some ⟨g, 0, none⟩) n c]))
    (hg : (w.alloc (.cells #[.slice (some ⟨g, 0, none⟩) n c] 28)).grownBy w1 v.ownBlock) : Rws w1 base v' (rs ++ [.slice (some ⟨g, 0, none⟩) n c]) n F ∧ Row w1 base g n c (F rs.length) := by
  have hv := h.1.alloc (.cells #[.slice (some ⟨g, 0, none⟩) n c] 28)
  have keep : ∀ {g' c' : Nat} {f : Nat → Int}, Row w base g' n c' f → Row w1 base g' n c' f := fun hr' =>
    Row.keptBy (World.ownsRow.alloc hr' (.cells #[.slice (some ⟨g, 0, none⟩) n c] 28)) hv (by decide) hg
  refine ⟨⟨by simpa using hown, fun j u hu => ?_⟩, keep hr⟩
  rcases Nat.lt_or_ge j rs.length with hj | hj
  · rw [List.getElem?_append_left hj] at hu
    obtain ⟨g', c', e, hr'⟩ := h.2 j u hu
    exact ⟨g', c', e, keep hr'⟩
  · have e : j = rs.length := by
      have := (List.getElem?_eq_some_iff.1 hu).1
      simp at this
      omega
    subst e
    simp at hu
    exact ⟨g, c, hu.symm, keep hr⟩
end

theorem lastOf_any (w : World) (base n : Nat) (v : Value) (rs : List Value) (F : Nat → Nat → Int) (h : Rws w base v rs n F) (h0 : 1 ≤ rs.length) (h1 : rs.length ≤ 10000) :
    Calls Try.prog 52 #[v] w fun e w' => (∃ g c, e = .returned (.slice (some ⟨g, 0, none⟩) n c) ∧ Row w base g n c (F (rs.length - 1))) ∧ w = w' := by
  obtain ⟨gv, cv, g, c, rfl, _, hc, hr⟩ := h.get (j := rs.length - 1) (by omega)
  have HR := Lib.hid hr
  generalize rs.length = k at *
  have e1 : ((k : Int) - 1).toNat = k - 1 := by omega
  have e2 : (0 : Int) ≤ (k : Int) - 1 := by omega
  have e3 : (k : Int) - 1 < (k : Int) := by omega
  clear h hr
  go_enter Try.func52, Try.ntmps52
  go_wp2
  go_ret
  exact ⟨⟨_, _, rfl, HR.out⟩, rfl⟩

/-- Counts up to k, but up to k + 1 for the sums below p. -/
def umix (s : Int) (k : Nat) (p : Int) : Nat → Int := fun m => if (m : Int) < p then (D s (k + 1) m : Int) else (D s k m : Int)

set_option maxHeartbeats 3200000 in
theorem differentWays_some (s : Int) (N base0 g0 c0 : Nat) (w : World) (h1 : 3 ≤ s) (h2 : s ≤ 24) (hN : N ≤ 3000) (hN1 : 1 ≤ N) (hnb : Row w base0 g0 ((pl s N).toNat + 1) c0 (fun j => num s (j : Int))) :
    Calls Try.prog 53 #[.slice (some ⟨g0, 0, none⟩) ((pl s N).toNat + 1) c0, .int .i64 N] w fun e w' => (∃ v rs, e = .returned v ∧ rs.length = (pl s N).toNat + 1 ∧ Rws w' w.heap.size v rs (N + 1) (fun j m => D s j m)) ∧ Below w.heap.size w w' := by
  obtain ⟨i0, hi0, hz0, hz1, hz2⟩ := info_parts infoInt
  obtain ⟨ir, hir, hzr0, hzr1, hzr2⟩ := info_parts infoRow
  have p0 := pl_nn s N h1 (by omega)
  have p1 := pl_77 s N h1 (by omega) (by omega)
  have hK : (pl s N).toNat ≤ 77 := by omega
  have hgl := hnb.lt
  have hcap : (pl s N).toNat + 1 ≤ c0 := by
    rcases hnb.2 with ⟨h, _⟩ | ⟨g, cap, cur, h, _, _, h3, _⟩
    · cases h
    · injection h with _ _ h; subst h; exact h3
  have HPL := Lib.hid (fun k : Int => fits_iff s N k h1 (by omega))
  have hK1 : 1 ≤ (pl s N).toNat := by
    have := pl_pos s N h1 (by omega)
    omega
  have HKK : Hid (((pl s N).toNat : Int) = pl s N) := Lib.hid (by omega)
  generalize (pl s N).toNat = K at *
  have HNB := Lib.hid hnb
  have hc1 : ¬ c0 = 1 := by omega
  have hk1 : (1 : Int) ≤ (K : Int) + 1 := by omega
  clear hnb
  go_enter Try.func53, Try.ntmps53
  go_wp2_with (at_make; refine wpList_make_full _ rfl _ _ 28 rfl w.heap.size 3 i0 (.int .i64 0) 1 Try.underlying28 hi0 hz0 hz1 _ _ _ _ (N + 1) rfl rfl (by push_cast; rfl) (by push_cast; rfl) (by rw [hz2]; omega) (by unfold maxLen; omega) (Nat.le_refl _) ?_; intro w1 hown1 hgrow1; have hr1 := row_made hown1; have d0 := hr1.cell (j := 0) (by omega); have f0 := hr1.frozen 0)
  have hb1 : Below w.heap.size w w1 := (Below.refl _ _).grown hgrow1 (Nat.le_refl _) (fun g hg => by cases hg)
  have hr2 := (hr1.set 0 1).congr (f' := fun m => D s 0 m) (fun m hm => by rw [d_zero]; simp [upd])
  have hz1' := hr1.lt
  obtain ⟨w2, hw2⟩ : ∃ w2, w2 = (w1.setCell ⟨w.heap.size, 0, none⟩ (.int .i64 1)).alloc (.cells #[.slice (some ⟨w.heap.size, 0, none⟩) (N + 1) (N + 1)] 28) := ⟨_, rfl⟩
  have hb2 : Below w.heap.size w w2 := by rw [hw2]; exact (hb1.setCell (Nat.le_refl _) _).alloc (by simpa using hb1.size) _
  have hrow0 : Row w2 w.heap.size w.heap.size (N + 1) (N + 1) (fun m => D s 0 m) := by rw [hw2]; exact World.ownsRow.alloc hr2 _
  have hrws0 : Rws w2 w.heap.size (.slice (some ⟨w1.heap.size, 0, none⟩) 1 1) [.slice (some ⟨w.heap.size, 0, none⟩) (N + 1) (N + 1)] (N + 1) (fun j m => D s j m) := by
    refine ⟨?_, fun j u hu => ?_⟩
    · rw [hw2]
      have := World.ownsRow_lit (w1.setCell ⟨w.heap.size, 0, none⟩ (.int .i64 1)) (base := w.heap.size) (e := 28) (size := 1) #[.slice (some ⟨w.heap.size, 0, none⟩) (N + 1) (N + 1)] 1 (by simpa using hb1.size) (by unfold maxLen; omega) rfl
      simpa using this
    · match j, hu with
      | 0, hu => simp at hu; exact ⟨_, _, hu.symm, hrow0⟩
  rw [← hw2]
  have HR0 := Lib.hid hrow0
  have HS0 := Lib.hid hrws0
  clear hw2 hown1 hgrow1 hr1 d0 f0 hr2 hb1 hz1' hrow0 hrws0
  go_loopw [5, 6, 21] (fun row v i wr => ∃ (j g c : Nat) (rs : List Value), j ≤ K ∧ i = .int .i64 j ∧ row = .slice (some ⟨g, 0, none⟩) (N + 1) c ∧ rs.length = j + 1 ∧ Hid (Row wr w.heap.size g (N + 1) c (fun m => D s j m)) ∧ Hid (Rws wr w.heap.size v rs (N + 1) (fun j m => D s j m)) ∧ Below w.heap.size w wr) (fun _ _ i _ => K - (intOf i).toNat)
  case atStart => exact ⟨0, _, _, _, Nat.zero_le _, rfl, rfl, rfl, HR0, HS0, hb2⟩
  case round =>
    obtain ⟨j, g, c, rs, hj, rfl, rfl, hrl, hrow, hrws, hb⟩ := hrel
    by_cases hlt : j < K
    · have hjI : (j : Int) < (K : Int) := by omega
      have hxn := (HPL.out ((j : Int) + 1) (by omega)).2 (by rw [← HKK.out]; omega)
      have hx1 := num_pos s ((j : Int) + 1) h1 (by omega)
      have hcn : wr.cell? ⟨g0, 1 + j, none⟩ = some (.int .i64 (num s ((j : Int) + 1))) := by
        have h := (hb.cell (p := ⟨g0, j + 1, none⟩) hgl.2).trans (HNB.out.cell (j := j + 1) (by omega))
        rw [Nat.add_comm 1 j, h]
        push_cast
        rfl
      obtain ⟨x, hx⟩ : ∃ x, x = num s ((j : Int) + 1) := ⟨_, rfl⟩
      have HX := Lib.hid hx
      rw [← hx] at hcn hxn hx1
      clear hx
      go_wp2_with (go_at_call 70; refine (clone_any _ _ _ _ _ _ (by omega) (by omega) hrow.out).mono ?_; rintro e wc ⟨⟨g', c', rfl, hrc⟩, hbc⟩)
      have HRC := Lib.hid hrc
      have hrcl := hrc.lt
      have hgold := hrow.out.lt
      clear hrc hcn
      go_loopw [10] (fun p wr2 => ∃ q : Int, p = .int .i64 q ∧ x ≤ q ∧ q ≤ (N : Int) + 1 ∧ Hid (Row wr2 wr.heap.size g' (N + 1) c' (umix s j q)) ∧ Below wr.heap.size wr wr2) (fun p _ => ((N : Int) + 1 - intOf p).toNat)
      case atStart => exact ⟨x, rfl, by omega, by omega, Lib.hid (HRC.out.congr (fun m hm => by
        simp only [umix]
        by_cases e : (m : Int) < x
        · rw [if_pos e, D_above s h1 j m (by rw [← HX.out]; exact e)]
        · rw [if_neg e])), hbc⟩
      case round =>
        obtain ⟨q, rfl, hq0, hq1, hrow2, hb2⟩ := hrel
        by_cases hge : q ≤ (N : Int)
        · obtain ⟨a, rfl⟩ := Int.eq_ofNat_of_zero_le (show 0 ≤ q by omega)
          obtain ⟨b, hbq⟩ := Int.eq_ofNat_of_zero_le (show 0 ≤ (a : Int) - x by omega)
          have ca := hrow2.out.cell (j := a) (by omega)
          have cb := (hrow.out.below hb2 (Nat.le_refl _)).cell (j := b) (by omega)
          have fa := hrow2.out.frozen a
          have ea : umix s j a a = (D s j a : Int) := by simp [umix]
          have e3 : (D s (j + 1) (a : Int) : Int) = (D s j a : Int) + (D s j b : Int) := by rw [D, ← HX.out, hbq]; push_cast; rfl
          have hsm := D_small s h1 (j + 1) a (by omega) (by omega)
          rw [ea] at ca
          have hset := (hrow2.out.set a (D s (j + 1) (a : Int))).congr (f' := umix s j ((a : Int) + 1)) (fun m hm => by
            simp only [upd, umix]
            by_cases e : m = a
            · subst e; simp; omega
            · by_cases e2 : (m : Int) < (a : Int)
              · simp [e, e2]; omega
              · have e4 : ¬ ((m : Int) < (a : Int) + 1) := by omega
                simp [e, e2, e4])
          have hb3 := hb2.setCell (p := ⟨g', a, none⟩) hrcl.1 (.int .i64 (D s (j + 1) (a : Int)))
          rw [e3] at hset hb3 hsm
          have hD1 : (0 : Int) ≤ (D s j (a : Int) : Int) := by omega
          have hD2 : (0 : Int) ≤ (D s j (b : Int) : Int) := by omega
          generalize (D s j (a : Int) : Int) = y at *
          generalize (D s j (b : Int) : Int) = z at *
          have HS := Lib.hid hset
          have HB3 := Lib.hid hb3
          have w1e : IntKind.i64.wrap (b : Int) = (b : Int) := IntWalk.i64_in _ (by omega)
          have w2e : IntKind.i64.wrap (y + z) = y + z := IntWalk.i64_in _ (by omega)
          have i1 : (0 : Int) ≤ (a : Int) := by omega
          have i2 : (a : Int) < (N : Int) + 1 := by omega
          have i3 : (0 : Int) ≤ (b : Int) := by omega
          have i4 : (b : Int) < (N : Int) + 1 := by omega
          clear hset ea e3 hrow2 hrow hb3 hrws
          go_wp2
          go_region
          all_goals (go_wp2; go_roundw)
          case rel => exact ⟨(a : Int) + 1, rfl, by omega, by omega, Lib.hid HS.out.drew, HB3.out.drew⟩
          case measure => simp [intOf]; omega
        · have hfin := hrow2.out.congr (f' := fun m => (D s (j + 1) m : Int)) (fun m hm => by
            simp only [umix]
            rw [if_pos (by omega)])
          have hws2 := hrws.out.below hb2 (Nat.le_refl _)
          have hfw := hfin.wide hb.size
          rw [← hrl] at hfw
          have HF := Lib.hid hfw
          have HW3 := Lib.hid hws2
          have hb4 : Below w.heap.size w wr := hb.trans (hb2.mono hb.size)
          have HRL := Lib.hid hrl
          clear hfin hws2 hfw hrow2 hrow hrws hrl
          go_wp2_with (at_builtin; refine wpList_append_own _ rfl _ _ 22 rfl w.heap.size 28 ir (.slice none 0 0) 1 24 Try.underlying22 hir hzr0 hzr1 hzr2 rfl (by decide) _ rs.length rs rfl (HW3.out.1.alloc _) ⟨wr.heap.size, 0, none⟩ 1 1 [.slice (some ⟨g', 0, none⟩) (N + 1) c'] rfl rfl ?c1 ?c2 ?c3 ?c4 ?c5 ?_)
          case c2 => rfl
          case c3 => have := HRL.out; unfold maxLen; omega
          case c4 => have := HRL.out; omega
          case c5 => have := hb4.size; simp; omega
          · intro v' w5 hown' hgrow _
            have happ := HW3.out.app HF.out hown' hgrow
            have hb5 : Below w.heap.size w w5 := (hb4.alloc hb4.size _).grown hgrow (by have := hb4.size; simp; omega) fun g hg => (HW3.out.1.lt g hg).1
            have h6 := happ.2
            rw [HRL.out] at h6
            have H5 := Lib.hid happ.1
            have H6 := Lib.hid h6
            clear hown' hgrow happ h6
            go_wp2
            go_roundw
            case rel => exact ⟨j + 1, _, _, _, by omega, by go_num, rfl, by simp [HRL.out], H6, H5, hb5⟩
            case measure => simp [intOf]; omega
    · obtain rfl : j = K := by omega
      go_wp2
      go_ret
      exact ⟨⟨_, _, rfl, hrl, hrws.out⟩, hb⟩

theorem pl_zero (s : Int) (hs : 3 ≤ s) : pl s 0 = 0 := by
  have h1 := pl_nn s 0 hs (by omega)
  have h2 := fits_iff s 0 1 hs (by omega) (by omega)
  rw [num_one] at h2
  omega
set_option maxHeartbeats 1600000 in
theorem differentWays_none (s : Int) (g0 c0 : Nat) (w : World) (hc : 1 ≤ c0) :
    Calls Try.prog 53 #[.slice (some ⟨g0, 0, none⟩) 1 c0, .int .i64 0] w fun e w' => (∃ v rs, e = .returned v ∧ rs.length = 1 ∧ Rws w' w.heap.size v rs 1 (fun j m => D s j m)) ∧ Below w.heap.size w w' := by
  obtain ⟨i0, hi0, hz0, hz1, hz2⟩ := info_parts infoInt
  go_enter Try.func53, Try.ntmps53
  go_wp2_with (at_make; refine wpList_make_full _ rfl _ _ 28 rfl w.heap.size 3 i0 (.int .i64 0) 1 Try.underlying28 hi0 hz0 hz1 _ _ _ _ 1 rfl rfl (by rfl) (by rfl) (by rw [hz2]; omega) (by unfold maxLen; omega) (Nat.le_refl _) ?_; intro w1 hown1 hgrow1; have hr1 := row_made hown1; have d0 := hr1.cell (j := 0) (by omega); have f0 := hr1.frozen 0)
  all_goals
    have hb1 : Below w.heap.size w w1 := (Below.refl _ _).grown hgrow1 (Nat.le_refl _) (fun g hg => by cases hg)
    have hr2 := (hr1.set 0 1).congr (f' := fun m => D s 0 m) (fun m hm => by rw [d_zero]; simp [upd])
    obtain ⟨w2, hw2⟩ : ∃ w2, w2 = (w1.setCell ⟨w.heap.size, 0, none⟩ (.int .i64 1)).alloc (.cells #[.slice (some ⟨w.heap.size, 0, none⟩) 1 1] 28) := ⟨_, rfl⟩
    have hb2 : Below w.heap.size w w2 := by rw [hw2]; exact (hb1.setCell (Nat.le_refl _) _).alloc (by simpa using hb1.size) _
    have hrow0 : Row w2 w.heap.size w.heap.size 1 1 (fun m => D s 0 m) := by rw [hw2]; exact World.ownsRow.alloc hr2 _
    have hrws0 : Rws w2 w.heap.size (.slice (some ⟨w1.heap.size, 0, none⟩) 1 1) [.slice (some ⟨w.heap.size, 0, none⟩) 1 1] 1 (fun j m => D s j m) := by
      refine ⟨?_, fun j u hu => ?_⟩
      · rw [hw2]
        have := World.ownsRow_lit (w1.setCell ⟨w.heap.size, 0, none⟩ (.int .i64 1)) (base := w.heap.size) (e := 28) (size := 1) #[.slice (some ⟨w.heap.size, 0, none⟩) 1 1] 1 (by simpa using hb1.size) (by unfold maxLen; omega) rfl
        simpa using this
      · match j, hu with
        | 0, hu => simp at hu; exact ⟨_, _, hu.symm, hrow0⟩
    rw [← hw2]
    have HS0 := Lib.hid hrws0
    clear hw2 hown1 hgrow1 hr1 d0 f0 hr2 hb1 hrow0 hrws0
    refine wp_loop_rounds 1 ?_
    rw [rounds_succ]
    go_wp2
    go_ret
    exact ⟨⟨_, _, rfl, rfl, HS0.out⟩, hb2⟩
theorem differentWays_any (s : Int) (N base0 g0 c0 : Nat) (w : World) (h1 : 3 ≤ s) (h2 : s ≤ 24) (hN : N ≤ 3000) (hnb : Row w base0 g0 ((pl s N).toNat + 1) c0 (fun j => num s (j : Int))) :
    Calls Try.prog 53 #[.slice (some ⟨g0, 0, none⟩) ((pl s N).toNat + 1) c0, .int .i64 N] w fun e w' => (∃ v rs, e = .returned v ∧ rs.length = (pl s N).toNat + 1 ∧ Rws w' w.heap.size v rs (N + 1) (fun j m => D s j m)) ∧ Below w.heap.size w w' := by
  rcases Nat.eq_zero_or_pos N with h | h
  · subst h
    have hc : 1 ≤ c0 := by
      rcases hnb.2 with ⟨h, _⟩ | ⟨g, cap, cur, h, _, _, h3, _⟩
      · cases h
      · injection h with _ _ h; omega
    have e : (pl s ((0 : Nat) : Int)).toNat = 0 := by rw [show (((0 : Nat) : Int)) = 0 from rfl, pl_zero s h1]; rfl
    rw [e]
    exact differentWays_none s g0 c0 w hc
  · exact differentWays_some s N base0 g0 c0 w h1 h2 hN h hnb
end Go.Proofs.Ytlcmlfodhjmdiaa
