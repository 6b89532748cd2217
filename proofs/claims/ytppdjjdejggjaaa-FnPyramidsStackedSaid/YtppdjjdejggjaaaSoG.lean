/- The law FnExactCannonballs: the program's numbers of layers are the specification's, whatever the arguments. No condition. -/
import Derived.Test.YtppdjjdejggjaaaSoF
import Derived.Deep.RegionHeld3
import Derived.Deep.AppendLies
namespace Go.Proofs.Ytppdjjdejggjaaa
open Go.ChangeShapes Go.WideShapes Go.ChangeAt Go.RowKit

/-- The numbers of layers up to k whose pyramid of a sides is polygonal for b sides. -/
noncomputable def cbl (a b : Int) : Nat → List Int
  | 0 => []
  | k + 1 => if num b (pl b (pyr a ((k : Int) + 1))) = pyr a ((k : Int) + 1) then cbl a b k ++ [(k : Int) + 1] else cbl a b k
set_option maxRecDepth 4000 in
theorem cbl_len (a b : Int) (k : Nat) : (cbl a b k).length ≤ k := by
  induction k with
  | zero => simp [cbl]
  | succ k ih =>
    rw [cbl]
    split
    · simp; omega
    · omega
set_option maxRecDepth 4000 in
theorem cbl_hit (a b : Int) (k : Nat) (h : num b (pl b (pyr a ((k : Int) + 1))) = pyr a ((k : Int) + 1)) : cbl a b (k + 1) = cbl a b k ++ [(k : Int) + 1] := by rw [cbl, if_pos h]
set_option maxRecDepth 4000 in
theorem cbl_miss (a b : Int) (k : Nat) (h : ¬ num b (pl b (pyr a ((k : Int) + 1))) = pyr a ((k : Int) + 1)) : cbl a b (k + 1) = cbl a b k := by rw [cbl, if_neg h]
set_option maxRecDepth 4000 in
theorem pyr_few (s k : Int) (h1 : 3 ≤ s) (h2 : s ≤ 24) (h3 : 0 ≤ k) (h4 : k ≤ 2000) : 0 ≤ pyr s k ∧ pyr s k ≤ 100000000000 := by
  have a := (sq_pyr s h1).nn h3
  have b := (sq_pyr s h1).le h3 h4
  have c := pyr_six s 2000
  omega

set_option maxRecDepth 4000 in
theorem spec_Cannonballs_no0 (a b n : Int) (w : World) (h : (a < 3 ∨ 24 < a) ∨ ((b < 3 ∨ 24 < b) ∨ (n < 0 ∨ 2000 < n))) :
    Calls Try.prog 72 #[.int .i64 a, .int .i64 b, .int .i64 n] w (ResI false [] w) := by
  by_cases hs : a < 3 ∨ 24 < a
  · have H : Hid (a < 3 ∨ 24 < a) := Lib.hid hs
    clear h hs
    go_enter Try.func72, Try.ntmps72
    go_wp2_with (first
      | (go_at_call 160; refine (shSides_no _ _ H.out).mono ?_; rintro e w' ⟨rfl, rfl⟩))
    go_ret2
    exact resI_nil (Below.refl _ _)
  · skip
    have h1 : 3 ≤ a := by omega
    have h2 : a ≤ 24 := by omega
    have h' := h
    clear h
    have h : (b < 3 ∨ 24 < b) ∨ (n < 0 ∨ 2000 < n) := by omega
    clear h' hs
    by_cases hs : b < 3 ∨ 24 < b
    · have H : Hid (b < 3 ∨ 24 < b) := Lib.hid hs
      clear h hs
      go_enter Try.func72, Try.ntmps72
      go_wp2_with (first
        | (go_at_call 160; refine (shSides_yes _ _ h1 h2).mono ?_; rintro e w' ⟨rfl, rfl⟩)
        | (go_at_call 160; refine (shSides_no _ _ H.out).mono ?_; rintro e w' ⟨rfl, rfl⟩))
      go_ret2
      exact resI_nil (Below.refl _ _)
    · skip
      have g1 : 3 ≤ b := by omega
      have g2 : b ≤ 24 := by omega
      have h' := h
      clear h
      have h : n < 0 ∨ 2000 < n := by omega
      clear h' hs
      have H : Hid (n < 0 ∨ 2000 < n) := Lib.hid (by omega)
      clear h
      go_enter Try.func72, Try.ntmps72
      go_wp2_with (first
        | (go_at_call 160; refine (shSides_yes _ _ h1 h2).mono ?_; rintro e w' ⟨rfl, rfl⟩)
        | (go_at_call 160; refine (shSides_yes _ _ g1 g2).mono ?_; rintro e w' ⟨rfl, rfl⟩)
        | (go_at_call 147; refine (soLayers_no _ _ H.out).mono ?_; rintro e w' ⟨rfl, rfl⟩))
      go_ret2
      exact resI_nil (Below.refl _ _)
set_option maxRecDepth 4000 in
theorem impl_Cannonballs_no0 (a b n : Int) (w : World) (h : ((a < 3 ∨ 24 < a) ∨ (n < 0 ∨ 2000 < n)) ∨ (b < 3 ∨ 24 < b)) :
    Calls Try.prog 71 #[.int .i64 a, .int .i64 b, .int .i64 n] w (ResI false [] w) := by
  by_cases hs : (a < 3 ∨ 24 < a) ∨ (n < 0 ∨ 2000 < n)
  · have H : Hid ((a < 3 ∨ 24 < a) ∨ (n < 0 ∨ 2000 < n)) := Lib.hid hs
    clear h hs
    go_enter Try.func71, Try.ntmps71
    go_wp2_with (first
      | (go_at_call 149; refine (asal_no _ _ _ H.out).mono ?_; rintro e w' ⟨rfl, rfl⟩))
    go_ret2
    exact resI_nil (Below.refl _ _)
  · skip
    have h1 : 3 ≤ a := by omega
    have h2 : a ≤ 24 := by omega
    have h3 : 0 ≤ n := by omega
    have h4 : n ≤ 2000 := by omega
    have h' := h
    clear h
    have h : b < 3 ∨ 24 < b := by omega
    clear h' hs
    have H : Hid (b < 3 ∨ 24 < b) := Lib.hid (by omega)
    clear h
    go_enter Try.func71, Try.ntmps71
    go_wp2_with (first
      | (go_at_call 149; refine (asal_yes _ _ _ h1 h2 h3 h4).mono ?_; rintro e w' ⟨rfl, rfl⟩)
      | (go_at_call 161; refine (areSides_no _ _ H.out).mono ?_; rintro e w' ⟨rfl, rfl⟩))
    go_ret2
    exact resI_nil (Below.refl _ _)

set_option maxRecDepth 4000 in
set_option maxHeartbeats 1600000 in
theorem spec_Cannonballs_yes (a b : Int) (N : Nat) (w : World) (h1 : 3 ≤ a) (h2 : a ≤ 24) (g1 : 3 ≤ b) (g2 : b ≤ 24) (hN : N ≤ 2000) :
    Calls Try.prog 72 #[.int .i64 a, .int .i64 b, .int .i64 N] w (ResI true (cbl a b N) w) := by
  obtain ⟨i0, hi0, hz0, hz1, hz2⟩ := info_parts infoInt
  have i1 : (0 : Int) ≤ (N : Int) := by omega
  have i2 : (N : Int) ≤ 2000 := by omega
  go_enter Try.func72, Try.ntmps72
  go_wp2_with (first
    | (go_at_call 160; refine (shSides_yes _ _ h1 h2).mono ?_; rintro e w' ⟨rfl, rfl⟩)
    | (go_at_call 160; refine (shSides_yes _ _ g1 g2).mono ?_; rintro e w' ⟨rfl, rfl⟩)
    | (go_at_call 147; refine (soLayers_yes _ _ i1 i2).mono ?_; rintro e w' ⟨rfl, rfl⟩))
  go_loopw [8, 9] (fun v i wr => ∃ k : Nat, k ≤ N ∧ i = .int .i64 ((k : Int) + 1) ∧ Hid (wr.ownsRow w.heap.size 3 1 v (cbl a b k).length (i64s (cbl a b k))) ∧ Below w.heap.size w wr) (fun _ i _ => N + 1 - (intOf i).toNat)
  case atStart => exact ⟨0, by omega, rfl, Lib.hid (World.ownsRow_nil _ _ _ _), Below.refl _ _⟩
  case round =>
    obtain ⟨k, hk, rfl, hown, hb⟩ := hrel
    by_cases hlt : k < N
    · have hkI : (k : Int) + 1 ≤ (N : Int) := by omega
      obtain ⟨q0, q1⟩ := pyr_few a ((k : Int) + 1) h1 h2 (by omega) (by omega)
      have p0 := pl_nn b (pyr a ((k : Int) + 1)) g1 q0
      have p1 := pl_le b (pyr a ((k : Int) + 1)) g1 q0 (by omega)
      have HPY := Lib.hid fun w => soPyramid_any a ((k : Int) + 1) w h1 h2 (by omega) (by omega)
      have HBE := Lib.hid fun w => shBelow_any b (pyr a ((k : Int) + 1)) w g1 g2 q0 (by omega)
      have HNU := Lib.hid fun w => shNumber_any b (pl b (pyr a ((k : Int) + 1))) w g1 g2 (by omega) (by omega)
      have hle := cbl_len a b k
      by_cases hc : num b (pl b (pyr a ((k : Int) + 1))) = pyr a ((k : Int) + 1)
      · have HC := Lib.hid (cbl_hit a b k hc)
        have hbb : (num b (pl b (pyr a ((k : Int) + 1))) == pyr a ((k : Int) + 1)) = true := by simpa using hc
        clear hc p0 p1
        generalize pyr a ((k : Int) + 1) = P at *
        generalize pl b P = L at *
        go_wp2_with (first
          | (go_at_call 148; refine (HPY.out _).mono ?_; rintro e w' ⟨rfl, rfl⟩)
          | (go_at_call 127; refine (HBE.out _).mono ?_; rintro e w' ⟨rfl, rfl⟩)
          | (go_at_call 126; refine (HNU.out _).mono ?_; rintro e w' ⟨rfl, rfl⟩)
          | (at_builtin; refine wpList_append_own _ rfl _ _ 39 rfl w.heap.size 3 i0 (.int .i64 0) 1 8 Try.underlying39 hi0 hz0 hz1 hz2 rfl (by decide) _ _ _ rfl (hown.out.alloc _) ⟨wr.heap.size, 0, none⟩ 1 1 [.int .i64 ((k : Int) + 1)] rfl rfl ?c1 ?c2 ?c3 ?c4 ?c5 ?_))
        case c1 =>
          intro j u hj
          match j, hj with
          | 0, hj => simp at hj; subst hj; simp [Addr.add]
        case c2 => intro u hu; simp at hu; subst hu; rfl
        case c3 => unfold maxLen; omega
        case c4 => omega
        case c5 => have := hb.size; simp; omega
        · intro v' w1 hown' hgrow _
          rw [snoc_i64, ← HC.out] at hown'
          have hl : (cbl a b k).length + 1 = (cbl a b (k + 1)).length := by rw [HC.out]; simp
          rw [hl] at hown'
          have hb1 : Below w.heap.size w w1 := (hb.alloc hb.size _).grown hgrow (by have := hb.size; simp; omega) fun g hg => (hown.out.lt g hg).1
          have HO := Lib.hid hown'
          clear hown' hown hgrow hb hl
          go_wp2
          go_roundw
          case rel => exact ⟨k + 1, by omega, by go_num, HO, hb1⟩
          case measure => simp [intOf]; omega
      · have HC := Lib.hid (cbl_miss a b k hc)
        have hbb : (num b (pl b (pyr a ((k : Int) + 1))) == pyr a ((k : Int) + 1)) = false := by simpa using hc
        clear hc p0 p1
        generalize pyr a ((k : Int) + 1) = P at *
        generalize pl b P = L at *
        go_wp2_with (first
          | (go_at_call 148; refine (HPY.out _).mono ?_; rintro e w' ⟨rfl, rfl⟩)
          | (go_at_call 127; refine (HBE.out _).mono ?_; rintro e w' ⟨rfl, rfl⟩)
          | (go_at_call 126; refine (HNU.out _).mono ?_; rintro e w' ⟨rfl, rfl⟩))
        go_roundw
        case rel => exact ⟨k + 1, by omega, by go_num, by rw [HC.out]; exact hown, hb⟩
        case measure => simp [intOf]; omega
    · obtain rfl : k = N := by omega
      obtain ⟨A, c, rfl⟩ := row_form hown.out
      have hnk : decide ((k : Int) + 1 ≤ (k : Int)) = false := by simp; omega
      go_wp2
      go_ret2
      exact ⟨A, c, rfl, (own_of_row hown.out), hb⟩

/-! ### the program -/
set_option maxRecDepth 4000 in
theorem gr_trans {a b c : World} {row : Option Nat} (h1 : a.grownBy b row) (h2 : b.grownBy c row) : a.grownBy c row :=
  ⟨h2.os.trans h1.os, h2.tape.trans h1.tape, h2.output.trans h1.output, Nat.le_trans h1.size h2.size, fun k hk hne => (h2.block k (Nat.lt_of_lt_of_le hk h1.size) hne).trans (h1.block k hk hne)⟩
set_option maxRecDepth 4000 in
theorem gr_below {a b c : World} {row : Option Nat} (h1 : a.grownBy b row) (h2 : Below b.heap.size b c) : a.grownBy c row :=
  ⟨h2.os.trans h1.os, h2.tape.trans h1.tape, h2.output.trans h1.output, Nat.le_trans h1.size h2.size, fun k hk hne => (h2.block k (Nat.lt_of_lt_of_le hk h1.size)).trans (h1.block k hk hne)⟩
set_option maxRecDepth 4000 in
theorem gr_append {a b c : World} {row row2 : Option Nat} (h1 : a.grownBy b row) (h2 : b.grownBy c row2) (hr : ∀ k, row2 = some k → a.heap.size ≤ k) : a.grownBy c row :=
  ⟨h2.os.trans h1.os, h2.tape.trans h1.tape, h2.output.trans h1.output, Nat.le_trans h1.size h2.size, fun k hk hne => (h2.block k (Nat.lt_of_lt_of_le hk h1.size) (fun e => by have := hr k e.symm; omega)).trans (h1.block k hk hne)⟩

set_option maxRecDepth 4000 in
set_option maxHeartbeats 3200000 in
theorem impl_Cannonballs_yes (a b : Int) (N : Nat) (w : World) (h1 : 3 ≤ a) (h2 : a ≤ 24) (g1 : 3 ≤ b) (g2 : b ≤ 24) (hN : N ≤ 2000) :
    Calls Try.prog 71 #[.int .i64 a, .int .i64 b, .int .i64 N] w (ResI true (cbl a b N) w) := by
  obtain ⟨i0, hi0, hz0, hz1, hz2⟩ := info_parts infoInt
  have hcf := cf_pile
  have i1 : (0 : Int) ≤ (N : Int) := by omega
  have i2 : (N : Int) ≤ 2000 := by omega
  have HB : ∀ w : World, Hid (Calls Try.prog 163 #[.int .i64 a, .int .i64 1, .int .i64 N] w fun e w' => (∃ A, e = .returned (.slice A N N) ∧ Own w' w.heap.size w'.heap.size A (i64s (nums a N))) ∧ Below w.heap.size w w') := fun w => Lib.hid (by
    have h := layersBetween_any a 1 N w h1 h2 (by omega) (by omega)
    rw [show N + 1 - 1 = N by omega, nr_one] at h
    exact h)
  go_enter Try.func71, Try.ntmps71
  go_wp2_with (first
    | (go_at_call 149; refine (asal_yes _ _ _ h1 h2 i1 i2).mono ?_; rintro e w' ⟨rfl, rfl⟩)
    | (go_at_call 161; refine (areSides_yes _ _ g1 g2).mono ?_; rintro e w' ⟨rfl, rfl⟩)
    | (go_at_call 123; refine (polygonRule_any _ _ g1 g2).mono ?_; rintro e w1 ⟨rfl, hb1⟩)
    | (go_at_call 165; refine (newPile_any _).mono ?_; rintro e w3 ⟨rfl, c3, f3, z3, b3⟩; have d0 := (b3.cell (p := ⟨w1.heap.size, 0, none⟩) (by simp)).trans (by simp [go_sem] : _ = some (Value.int .i64 0)); have d1 := (b3.cell (p := ⟨w1.heap.size, 1, none⟩) (by simp)).trans (by simp [go_sem] : _ = some (Value.int .i64 (4 - b))); have d2 := (b3.cell (p := ⟨w1.heap.size, 2, none⟩) (by simp)).trans (by simp [go_sem] : _ = some (Value.int .i64 (b - 2))))
    | (go_at_call 163; refine ((HB _).out).mono ?_; rintro e w4 ⟨⟨A, rfl, ho⟩, b4⟩; have HO := Lib.hid ho; clear ho))
  have hr0 : (w1.alloc (.cells #[.int .i64 0, .int .i64 (4 - b), .int .i64 (b - 2)] 75)).heap.size = w1.heap.size + 1 := by simp
  have hw3 : Below w.heap.size w w3 := (hb1.alloc hb1.size _).trans (b3.mono (by rw [hr0]; have := hb1.size; omega))
  have hRw : w.heap.size ≤ w1.heap.size := hb1.size
  generalize (w1.alloc (.cells #[.int .i64 0, .int .i64 (4 - b), .int .i64 (b - 2)] 75)).heap.size = r at *
  generalize w1.heap.size = R at *
  obtain rfl : r = R + 1 := hr0
  have e0 := (b4.cell (p := ⟨R, 0, none⟩) (show R < w3.heap.size by omega)).trans d0
  have e1 := (b4.cell (p := ⟨R, 1, none⟩) (show R < w3.heap.size by omega)).trans d1
  have e2 := (b4.cell (p := ⟨R, 2, none⟩) (show R < w3.heap.size by omega)).trans d2
  have ep := (b4.cell (p := ⟨(R + 1), 0, none⟩) (show (R + 1) < w3.heap.size by omega)).trans c3
  have fp := (b4.frozen (p := ⟨(R + 1), 0, none⟩) (show (R + 1) < w3.heap.size by omega)).trans f3
  have HW := Lib.hid (hw3.trans (b4.mono hw3.size))
  have hz4 := b4.size
  have HO3 : Hid (Own w4 ((R + 1) + 1) w4.heap.size A (i64s (nums a N))) := Lib.hid (HO.out.wide (by omega) (Nat.le_refl _))
  have HR : Hid (w.heap.size ≤ R ∧ R + 2 ≤ w4.heap.size) := Lib.hid ⟨hRw, by omega⟩
  clear hb1 b3 b4 d0 d1 d2 c3 f3 z3 hz4 hw3 HO hRw
  go_loopw [10, 31] (fun v i wr => ∃ k : Nat, k ≤ N ∧ i = .int .i64 (k : Int) ∧ Hid (wr.ownsRow w4.heap.size 3 1 v (cbl a b k).length (i64s (cbl a b k))) ∧ Hid (w4.grownBy wr (some (R + 1))) ∧ wr.cell? ⟨(R + 1), 0, none⟩ = some (.int .i64 (pyr a (k : Int))) ∧ wr.frozen? ⟨(R + 1), 0, none⟩ = false) (fun _ i _ => N - (intOf i).toNat)
  case atStart => exact ⟨0, by omega, rfl, Lib.hid (World.ownsRow_nil _ _ _ _), Lib.hid (World.grownBy.refl _ _), by simpa [pyr_zero] using ep, fp⟩
  case round =>
    obtain ⟨k, hk, rfl, hown, hg, ecr, efr⟩ := hrel
    obtain ⟨hRw, hr4⟩ := HR.out
    by_cases hlt : k < N
    · have hkI : (k : Int) < (N : Int) := by omega
      obtain ⟨g, o, rfl, hg1, hg2, hca, _⟩ := HO3.out.at_ (k := k) (by simp [nums_len]; omega)
      have hgr : g ≠ (R + 1) := by omega
      have hca2 : wr.cell? ⟨g, o + k, none⟩ = some (.int .i64 (num a ((k : Int) + 1))) := by
        rw [hg.out.cell_far ⟨g, o + k, none⟩ hg2 (by simpa using hgr), hca]
        simp [nums]
      have r0 := (hg.out.cell_far ⟨R, 0, none⟩ (show R < w4.heap.size by omega) (by simp)).trans e0
      have r1 := (hg.out.cell_far ⟨R, 1, none⟩ (show R < w4.heap.size by omega) (by simp)).trans e1
      have r2 := (hg.out.cell_far ⟨R, 2, none⟩ (show R < w4.heap.size by omega) (by simp)).trans e2
      obtain ⟨q0, q1⟩ := pyr_few a (k : Int) h1 h2 (by omega) (by omega)
      obtain ⟨q2, q3⟩ := pyr_few a ((k : Int) + 1) h1 h2 (by omega) (by omega)
      obtain ⟨q4, q5⟩ := num_few a ((k : Int) + 1) h1 h2 (by omega) (by omega)
      have hps := pyr_succ a (k : Int)
      have hws := hg.out.size
      have hne : (k : Int) < (N : Int) := hkI
      have hle := cbl_len a b k
      clear hca HO3
      by_cases hc : num b (pl b (pyr a ((k : Int) + 1))) = pyr a ((k : Int) + 1)
      · have HC := Lib.hid (cbl_hit a b k hc)
        have HPB := Lib.hid fun w => placeOf_yes 0 (4 - b) (b - 2) (pyr a ((k : Int) + 1)) (pl b (pyr a ((k : Int) + 1))) (num b) w (poly_fits b _ g1 g2 q2 (by omega)) hc
        have HPS := Lib.hid hps
        rw [hps] at HPB q2 q3
        clear hc hps
        generalize pyr a (k : Int) = p at *
        generalize num a ((k : Int) + 1) = d at *
        have HPL : ∀ W5 : World, Hid (Below wr.heap.size wr W5 → W5.cell? ⟨wr.heap.size, 0, none⟩ = some (.int .i64 d) → wr.heap.size < W5.heap.size → Calls Try.prog 194 #[.slice (some ⟨wr.heap.size, 0, none⟩) 1 1, .pointer (some ⟨(R + 1), 0, none⟩)] W5 fun e w' => e = .returned (.int .i64 (p + d)) ∧ w'.cell? ⟨(R + 1), 0, none⟩ = some (.int .i64 (p + d)) ∧ w'.frozen? ⟨(R + 1), 0, none⟩ = false ∧ W5.grownBy w' (some (R + 1))) := fun W5 => Lib.hid fun hB hc hz => by
          have h := pile_any (some ⟨wr.heap.size, 0, none⟩) 1 1 (R + 1) W5.heap.size [d] p W5 rfl (by omega) (fun _ => ⟨_, rfl, hz, fun j u hu => by
            match j, hu with
            | 0, hu => simp at hu; subst hu; exact hc⟩) (fun ad ha => by injection ha with ha; subst ha; show wr.heap.size ≠ (R + 1); omega) (Nat.le_refl _) (fun j hj => by
            obtain rfl : j = 0 := by omega
            simp; omega) q0 (by omega) ((hB.cell (p := ⟨(R + 1), 0, none⟩) (show (R + 1) < wr.heap.size by omega)).trans ecr) ((hB.frozen (p := ⟨(R + 1), 0, none⟩) (show (R + 1) < wr.heap.size by omega)).trans efr)
          simpa [sumTo] using h
        have hB5 : Below wr.heap.size wr (wr.alloc (.cells #[.int .i64 d] 3)) := (Below.refl _ _).alloc (Nat.le_refl _) _
        have hc5 : (wr.alloc (.cells #[.int .i64 d] 3)).cell? ⟨wr.heap.size, 0, none⟩ = some (.int .i64 d) := by simp [go_sem]
        have hz5 : wr.heap.size < (wr.alloc (.cells #[.int .i64 d] 3)).heap.size := by simp
        have x0 := (hB5.cell (p := ⟨R, 0, none⟩) (show R < wr.heap.size by omega)).trans r0
        have x1 := (hB5.cell (p := ⟨R, 1, none⟩) (show R < wr.heap.size by omega)).trans r1
        have x2 := (hB5.cell (p := ⟨R, 2, none⟩) (show R < wr.heap.size by omega)).trans r2
        have hR5 : R < (wr.alloc (.cells #[.int .i64 d] 3)).heap.size := by simp; omega
        go_wp2
        go_region_held3 (fun w' => w'.cell? ⟨R, 0, none⟩ = some (.int .i64 0) ∧ w'.cell? ⟨R, 1, none⟩ = some (.int .i64 (4 - b)) ∧ w'.cell? ⟨R, 2, none⟩ = some (.int .i64 (b - 2)))
          (first | exact ⟨r0, r1, r2⟩ | exact ⟨x0, x1, x2⟩ | exact ⟨y0, y1, y2⟩ | exact ⟨(hb6.cell (p := ⟨R, 0, none⟩) hR6).trans y0, (hb6.cell (p := ⟨R, 1, none⟩) hR6).trans y1, (hb6.cell (p := ⟨R, 2, none⟩) hR6).trans y2⟩)
          (first
            | (go_at_call 194; refine ((HPL _).out hB5.drew hc5 hz5).mono ?_; rintro e w5 ⟨rfl, yp, yf, gp⟩; have y0 := (gp.cell_far ⟨R, 0, none⟩ hR5 (by simp)).trans x0; have y1 := (gp.cell_far ⟨R, 1, none⟩ hR5 (by simp)).trans x1; have y2 := (gp.cell_far ⟨R, 2, none⟩ hR5 (by simp)).trans x2; have hR6 : R < w5.heap.size := Nat.lt_of_lt_of_le hR5 gp.size)
            | (go_at_call 124; refine (HPB.out _).mono ?_; rintro e w6 ⟨rfl, hb6⟩))
        have hG6 : Hid (w4.grownBy w6 (some (R + 1))) := Lib.hid (gr_below (gr_trans (gr_below hg.out hB5.drew) gp) hb6)
        have hr5 : (R + 1) < w5.heap.size := by have := gp.size; simp at this; omega
        have ep6 := (hb6.cell (p := ⟨(R + 1), 0, none⟩) hr5).trans yp
        have fp6 := (hb6.frozen (p := ⟨(R + 1), 0, none⟩) hr5).trans yf
        have ho6 := Lib.hid (row_below (World.ownsRow.kept (hown.out.alloc (.cells #[.int .i64 d] 3)) (show World.grownBy (wr.alloc (.cells #[.int .i64 d] 3)) w5 (some (R + 1)) from ⟨gp.os, gp.tape, gp.output, gp.size, gp.block⟩) (Or.inr (fun e => by have := (hown.out.lt (R + 1) e).1; omega))) hb6 (Nat.le_refl _))
        have hz6 : w4.heap.size ≤ w6.heap.size := hG6.out.size
        clear hown hg ecr efr r0 r1 r2 x0 x1 x2 y0 y1 y2 yp yf gp hb6 hB5 hc5 hz5 HPL hR5 hR6 hr5
        go_wp2_with (at_builtin; refine wpList_append_own _ rfl _ _ 39 rfl w4.heap.size 3 i0 (.int .i64 0) 1 8 Try.underlying39 hi0 hz0 hz1 hz2 rfl (by decide) _ _ _ rfl (ho6.out.alloc _) ⟨w6.heap.size, 0, none⟩ 1 1 [.int .i64 ((k : Int) + 1)] rfl rfl ?c1 ?c2 ?c3 ?c4 ?c5 ?_)
        case c1 =>
          intro j u hj
          match j, hj with
          | 0, hj => simp at hj; subst hj; simp [Addr.add]
        case c2 => intro u hu; simp at hu; subst hu; rfl
        case c3 => unfold maxLen; omega
        case c4 => omega
        case c5 => simp; omega
        · intro v' w7 hown' hgrow _
          rw [snoc_i64, ← HC.out] at hown'
          have hl : (cbl a b k).length + 1 = (cbl a b (k + 1)).length := by rw [HC.out]; simp
          rw [hl] at hown'
          have HO := Lib.hid hown'
          have hBa : Below w6.heap.size w6 (w6.alloc (.cells #[.int .i64 ((k : Int) + 1)] 3)) := (Below.refl _ _).alloc (Nat.le_refl _) _
          have hG7 := Lib.hid (gr_append (gr_below hG6.out hBa) hgrow (fun g hg => (ho6.out.lt g hg).1))
          have ep7 : w7.cell? ⟨(R + 1), 0, none⟩ = some (.int .i64 (p + d)) := (hgrow.cell_far ⟨(R + 1), 0, none⟩ (show (R + 1) < _ by simp; omega) (fun e => by have := (ho6.out.lt (R + 1) e.symm).1; omega)).trans ((hBa.cell (p := ⟨(R + 1), 0, none⟩) (show (R + 1) < _ by omega)).trans ep6)
          have fp7 : w7.frozen? ⟨(R + 1), 0, none⟩ = false := (hgrow.frozen_far ⟨(R + 1), 0, none⟩ (show (R + 1) < _ by simp; omega) (fun e => by have := (ho6.out.lt (R + 1) e.symm).1; omega)).trans ((hBa.frozen (p := ⟨(R + 1), 0, none⟩) (show (R + 1) < _ by omega)).trans fp6)
          clear hown' hgrow hl hBa
          go_wp2
          go_roundw
          case rel => exact ⟨k + 1, by omega, by go_num, HO, hG7, by rw [ep7, show ((k + 1 : Nat) : Int) = (k : Int) + 1 from by omega, HPS.out], fp7⟩
          case measure => simp [intOf]; omega
      · have HC := Lib.hid (cbl_miss a b k hc)
        have HPB := Lib.hid fun w => placeOf_no 0 (4 - b) (b - 2) (pyr a ((k : Int) + 1)) (pl b (pyr a ((k : Int) + 1))) (num b) w (poly_fits b _ g1 g2 q2 (by omega)) hc
        have HPS := Lib.hid hps
        rw [hps] at HPB q2 q3
        clear hc hps
        generalize pyr a (k : Int) = p at *
        generalize num a ((k : Int) + 1) = d at *
        have HPL : ∀ W5 : World, Hid (Below wr.heap.size wr W5 → W5.cell? ⟨wr.heap.size, 0, none⟩ = some (.int .i64 d) → wr.heap.size < W5.heap.size → Calls Try.prog 194 #[.slice (some ⟨wr.heap.size, 0, none⟩) 1 1, .pointer (some ⟨(R + 1), 0, none⟩)] W5 fun e w' => e = .returned (.int .i64 (p + d)) ∧ w'.cell? ⟨(R + 1), 0, none⟩ = some (.int .i64 (p + d)) ∧ w'.frozen? ⟨(R + 1), 0, none⟩ = false ∧ W5.grownBy w' (some (R + 1))) := fun W5 => Lib.hid fun hB hc hz => by
          have h := pile_any (some ⟨wr.heap.size, 0, none⟩) 1 1 (R + 1) W5.heap.size [d] p W5 rfl (by omega) (fun _ => ⟨_, rfl, hz, fun j u hu => by
            match j, hu with
            | 0, hu => simp at hu; subst hu; exact hc⟩) (fun ad ha => by injection ha with ha; subst ha; show wr.heap.size ≠ (R + 1); omega) (Nat.le_refl _) (fun j hj => by
            obtain rfl : j = 0 := by omega
            simp; omega) q0 (by omega) ((hB.cell (p := ⟨(R + 1), 0, none⟩) (show (R + 1) < wr.heap.size by omega)).trans ecr) ((hB.frozen (p := ⟨(R + 1), 0, none⟩) (show (R + 1) < wr.heap.size by omega)).trans efr)
          simpa [sumTo] using h
        have hB5 : Below wr.heap.size wr (wr.alloc (.cells #[.int .i64 d] 3)) := (Below.refl _ _).alloc (Nat.le_refl _) _
        have hc5 : (wr.alloc (.cells #[.int .i64 d] 3)).cell? ⟨wr.heap.size, 0, none⟩ = some (.int .i64 d) := by simp [go_sem]
        have hz5 : wr.heap.size < (wr.alloc (.cells #[.int .i64 d] 3)).heap.size := by simp
        have x0 := (hB5.cell (p := ⟨R, 0, none⟩) (show R < wr.heap.size by omega)).trans r0
        have x1 := (hB5.cell (p := ⟨R, 1, none⟩) (show R < wr.heap.size by omega)).trans r1
        have x2 := (hB5.cell (p := ⟨R, 2, none⟩) (show R < wr.heap.size by omega)).trans r2
        have hR5 : R < (wr.alloc (.cells #[.int .i64 d] 3)).heap.size := by simp; omega
        go_wp2
        go_region_held3 (fun w' => w'.cell? ⟨R, 0, none⟩ = some (.int .i64 0) ∧ w'.cell? ⟨R, 1, none⟩ = some (.int .i64 (4 - b)) ∧ w'.cell? ⟨R, 2, none⟩ = some (.int .i64 (b - 2)))
          (first | exact ⟨r0, r1, r2⟩ | exact ⟨x0, x1, x2⟩ | exact ⟨y0, y1, y2⟩ | exact ⟨(hb6.cell (p := ⟨R, 0, none⟩) hR6).trans y0, (hb6.cell (p := ⟨R, 1, none⟩) hR6).trans y1, (hb6.cell (p := ⟨R, 2, none⟩) hR6).trans y2⟩)
          (first
            | (go_at_call 194; refine ((HPL _).out hB5.drew hc5 hz5).mono ?_; rintro e w5 ⟨rfl, yp, yf, gp⟩; have y0 := (gp.cell_far ⟨R, 0, none⟩ hR5 (by simp)).trans x0; have y1 := (gp.cell_far ⟨R, 1, none⟩ hR5 (by simp)).trans x1; have y2 := (gp.cell_far ⟨R, 2, none⟩ hR5 (by simp)).trans x2; have hR6 : R < w5.heap.size := Nat.lt_of_lt_of_le hR5 gp.size)
            | (go_at_call 124; refine (HPB.out _).mono ?_; rintro e w6 ⟨rfl, hb6⟩))
        have hG6 : Hid (w4.grownBy w6 (some (R + 1))) := Lib.hid (gr_below (gr_trans (gr_below hg.out hB5.drew) gp) hb6)
        have hr5 : (R + 1) < w5.heap.size := by have := gp.size; simp at this; omega
        have ep6 := (hb6.cell (p := ⟨(R + 1), 0, none⟩) hr5).trans yp
        have fp6 := (hb6.frozen (p := ⟨(R + 1), 0, none⟩) hr5).trans yf
        have ho6 := Lib.hid (row_below (World.ownsRow.kept (hown.out.alloc (.cells #[.int .i64 d] 3)) (show World.grownBy (wr.alloc (.cells #[.int .i64 d] 3)) w5 (some (R + 1)) from ⟨gp.os, gp.tape, gp.output, gp.size, gp.block⟩) (Or.inr (fun e => by have := (hown.out.lt (R + 1) e).1; omega))) hb6 (Nat.le_refl _))
        have hz6 : w4.heap.size ≤ w6.heap.size := hG6.out.size
        clear hown hg ecr efr r0 r1 r2 x0 x1 x2 y0 y1 y2 yp yf gp hb6 hB5 hc5 hz5 HPL hR5 hR6 hr5
        go_wp2
        go_roundw
        case rel => exact ⟨k + 1, by omega, by go_num, by rw [HC.out]; exact ho6, hG6, by rw [ep6, show ((k + 1 : Nat) : Int) = (k : Int) + 1 from by omega, HPS.out], fp6⟩
        case measure => simp [intOf]; omega
    · obtain rfl : k = N := by omega
      obtain ⟨A', c, rfl⟩ := row_form hown.out
      have hg4 := hg.out
      go_wp2
      go_ret2
      exact ⟨A', c, rfl, (own_of_row hown.out).wide (by omega) (Nat.le_refl _), HW.out.grown hg4 (by omega) (fun j hj => by injection hj with hj; omega)⟩
end Go.Proofs.Ytppdjjdejggjaaa
