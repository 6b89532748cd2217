/- The texts XDuJ XDuP XDuT XDuU XDuK XDuL XDuO joined. -/
import Derived.Test.YtkjibcnddknbjaaDoorMtD
import Derived.Lib.Builder
import Derived.Shelf.SlMaps.Clone
import Derived.Shelf.Strings.BuilderK
import Derived.Shelf.Strings.Split
/- Chapter 7: the program's pictures: limits, places. -/
namespace Go.Proofs.YtkjibcnddknbjaaDoor
open Go.ChangeShapes Go.WideShapes Go.ChangeAt Go.RowKit Go.Maps

/-- A picture of W columns and H rows, its dots in block b. -/
abbrev picV (W H : Int) (b : Nat) : Value := .agg #[.int .i64 W, .int .i64 H, .map (some b)]
def limB (W H : Int) : Bool := betr W 1 24 && betr H 1 24
set_option maxRecDepth 4000 in
theorem limits_any (W H : Int) (b : Nat) (w : World) :
    Calls Tryd.prog 15 #[.agg #[.int .i64 W, .int .i64 H, .map (some b)]] w fun e w' => e = .returned (.bool (limB W H)) ∧ Below w.heap.size w w' := by
  have HL : Hid (limB W H = (betr W 1 24 && betr H 1 24)) := Lib.hid rfl
  rw [HL.out]
  clear HL
  have HB := Lib.hid (show Below w.heap.size w (w.alloc (.cells #[.int .i64 W, .int .i64 H, .map (some b)] 34)) from (Below.refl _ _).alloc (Nat.le_refl _) _)
  cases h1 : betr W 1 24 <;> cases h2 : betr H 1 24
  all_goals
    go_enter Tryd.func15, Tryd.ntmps15
    go_wp2_with (go_at_call 21; refine (rwithin_any _ _ _ _).mono ?_; (first | rw [h1] | rw [h2]); rintro e w1 ⟨rfl, rfl⟩)
    go_ret
    exact ⟨rfl, HB.out⟩

/-- The first n places of a picture of W columns, row by row. -/
def plcs (W n : Nat) : List (Int × Int) := (List.range n).map fun i => (((i % W : Nat) : Int), ((i / W : Nat) : Int))
theorem plcs_len (W n : Nat) : (plcs W n).length = n := by simp [plcs]
theorem plcs_at (W n k : Nat) (h : k < n) : (plcs W n)[k]'(by rw [plcs_len]; exact h) = (((k % W : Nat) : Int), ((k / W : Nat) : Int)) := by simp [plcs]
theorem plcs_succ (W n : Nat) : plcs W (n + 1) = plcs W n ++ [(((n % W : Nat) : Int), ((n / W : Nat) : Int))] := by simp [plcs, List.range_succ]
set_option maxRecDepth 4000 in
set_option maxHeartbeats 1600000 in
theorem places_any (W H n b : Nat) (w : World) (hn : n = W * H) (hW : W ≤ 100) (hH : H ≤ 100) :
    Calls Tryd.prog 23 #[.agg #[.int .i64 (W : Int), .int .i64 (H : Int), .map (some b)]] w fun e w' => (∃ A c base, e = .returned (.slice A n c) ∧ w.heap.size < base ∧ w'.ownsRow base 47 2 (.slice A n c) n (prs (plcs W n))) ∧ Below w.heap.size w w' := by
  have HS : Hid (∀ x y, x < W → plcs W (y * W + x + 1) = plcs W (y * W + x) ++ [((x : Int), (y : Int))]) := Lib.hid fun x y hx => by rw [plcs_succ, place_x hx, place_y hx]
  have HL := Lib.hid fun k => plcs_len W k
  have HM : Hid (∀ y, y ≤ H → y * W ≤ 10000) := Lib.hid fun y hy => Nat.mul_le_mul (n₁ := y) (n₂ := 100) (m₁ := W) (m₂ := 100) (by omega) hW
  have HN : Hid (H * W = n) := Lib.hid (by rw [hn, Nat.mul_comm])
  have HU : Hid (∀ y, (y + 1) * W = y * W + W) := Lib.hid fun y => Nat.succ_mul y W
  clear hn
  generalize plcs W = pl at *
  have hB : Below w.heap.size w (w.alloc (.cells #[.int .i64 (W : Int), .int .i64 (H : Int), .map (some b)] 34)) := (Below.refl _ _).alloc (Nat.le_refl _) _
  have hz : w.heap.size < (w.alloc (.cells #[.int .i64 (W : Int), .int .i64 (H : Int), .map (some b)] 34)).heap.size := by simp
  have c0 : (w.alloc (.cells #[.int .i64 (W : Int), .int .i64 (H : Int), .map (some b)] 34)).cell? ⟨w.heap.size, 0, none⟩ = some (.int .i64 (W : Int)) := by simp [go_sem]
  have c1 : (w.alloc (.cells #[.int .i64 (W : Int), .int .i64 (H : Int), .map (some b)] 34)).cell? ⟨w.heap.size, 1, none⟩ = some (.int .i64 (H : Int)) := by simp [go_sem]
  go_enter Tryd.func23, Tryd.ntmps23
  go_wp2
  generalize w.alloc (.cells #[.int .i64 (W : Int), .int .i64 (H : Int), .map (some b)] 34) = wa at *
  have HB := Lib.hid hB
  clear hB
  go_loopw [3, 8] (fun v i wr => ∃ y : Nat, y ≤ H ∧ i = .int .i64 (y : Int) ∧ Hid (wr.ownsRow wa.heap.size 47 2 v (y * W) (prs (pl (y * W)))) ∧ Hid (Below wa.heap.size wa wr)) (fun _ i _ => H - (intOf i).toNat)
  case atStart => exact ⟨0, by omega, by simp, Lib.hid (by have := HL.out 0; rw [Nat.zero_mul, List.eq_nil_of_length_eq_zero this]; exact World.ownsRow_nil _ _ _ _), Lib.hid (Below.refl _ _)⟩
  case round =>
    obtain ⟨y, hy, rfl, hown, hb⟩ := hrel
    have d0 : wr.cell? ⟨w.heap.size, 0, none⟩ = some (.int .i64 (W : Int)) := (hb.out.cell (p := ⟨w.heap.size, 0, none⟩) hz).trans c0
    by_cases hlt : y < H
    · have hy2 : (y : Int) < (H : Int) := by omega
      go_wp2
      go_loopw [3, 13] (fun v i wr => ∃ x : Nat, x ≤ W ∧ i = .int .i64 (x : Int) ∧ Hid (wr.ownsRow wa.heap.size 47 2 v (y * W + x) (prs (pl (y * W + x)))) ∧ Hid (Below wa.heap.size wa wr)) (fun _ i _ => W - (intOf i).toNat)
      case atStart => exact ⟨0, by omega, by simp, by rw [Nat.add_zero]; exact hown, hb⟩
      case round =>
        obtain ⟨x, hx, rfl, hown1, hb1⟩ := hrel
        by_cases hlx : x < W
        · have hx2 : (x : Int) < (W : Int) := by omega
          have hm : y * W + x ≤ 10100 := by have := HM.out y hy; omega
          have hl := HL.out (y * W + x)
          have hs := HS.out x y hlx
          have hbz := hb1.out.size
          obtain ⟨k, hk⟩ : ∃ k, k = y * W + x := ⟨_, rfl⟩
          rw [← hk] at hm hl hs hown1
          have HK := Lib.hid hk
          clear hk
          have HSK := Lib.hid hs
          have HLK := Lib.hid hl
          clear hs hl
          go_wp2_with (at_builtin; refine app_vec wa.heap.size _ rfl _ _ rfl _ k (pl k) rfl hown1.out HLK.out hbz _ _ rfl (by omega) ?_; intro v' w4 ho4 hg4)
          have HO4 := Lib.hid ho4
          have HB4 := Lib.hid (hb1.out.grown hg4 hbz fun g hg => (hown1.out.lt g hg).1)
          clear ho4 hg4
          go_wp2
          go_roundw
          case rel => exact ⟨x + 1, by omega, by go_num, by rw [show y * W + (x + 1) = k + 1 by have := HK.out; omega, HSK.out]; exact HO4, HB4⟩
          case measure => simp [intOf]; omega
        · obtain rfl : x = W := by omega
          go_wp2
          go_roundw
          case rel => exact ⟨y + 1, by omega, by go_num, by rw [HU.out]; exact hown1, hb1⟩
          case measure => simp [intOf]; omega
    · obtain rfl : y = H := by omega
      obtain ⟨A, c, rfl⟩ := row_form hown.out
      have HO := Lib.hid hown.out
      rw [HN.out] at HO
      go_wp2
      go_ret
      exact ⟨⟨A, c, _, (by first | rfl | (rw [HN.out]; rfl)), hz, HO.out⟩, HB.out.trans (hb.out.mono HB.out.size)⟩
end Go.Proofs.YtkjibcnddknbjaaDoor
/- Chapter 7: pictures drawn by whatever function tells where dots are. -/
namespace Go.Proofs.YtkjibcnddknbjaaDoor
open Go.ChangeShapes Go.WideShapes Go.ChangeAt Go.RowKit Go.Maps

/-- The dots among the first k places. -/
def drF (W : Nat) (f : Int → Int → Bool) (k : Nat) (x y : Int) : Bool := decide (0 ≤ x ∧ x < (W : Int) ∧ 0 ≤ y ∧ y.toNat * W + x.toNat < k) && f x y
theorem place_eq {W k a b : Nat} (ha : a < W) : b * W + a = k ↔ a = k % W ∧ b = k / W := by
  constructor
  · rintro rfl
    exact ⟨(place_x ha).symm, (place_y ha).symm⟩
  · rintro ⟨rfl, rfl⟩
    rw [Nat.mul_comm]
    exact Nat.div_add_mod k W
theorem dr_zero (W : Nat) (f : Int → Int → Bool) (x y : Int) : false = drF W f 0 x y := by simp [drF]
theorem dr_iff {W : Nat} {f : Int → Int → Bool} {k : Nat} {x y : Int} : drF W f k x y = true ↔ (0 ≤ x ∧ x < (W : Int) ∧ 0 ≤ y ∧ y.toNat * W + x.toNat < k) ∧ f x y = true := by simp [drF]
theorem dr_more {W : Nat} {k : Nat} (hW : 1 ≤ W) {x y : Int} : (0 ≤ x ∧ x < (W : Int) ∧ 0 ≤ y ∧ y.toNat * W + x.toNat < k + 1) ↔ (0 ≤ x ∧ x < (W : Int) ∧ 0 ≤ y ∧ y.toNat * W + x.toNat < k) ∨ (x = ((k % W : Nat) : Int) ∧ y = ((k / W : Nat) : Int)) := by
  constructor
  · rintro ⟨h1, h2, h3, h4⟩
    obtain ⟨a, rfl⟩ := Int.eq_ofNat_of_zero_le h1
    obtain ⟨b, rfl⟩ := Int.eq_ofNat_of_zero_le h3
    simp only [Int.toNat_natCast] at h4 ⊢
    rcases Nat.lt_or_ge (b * W + a) k with h | h
    · exact .inl ⟨h1, h2, h3, h⟩
    · have e := (place_eq (W := W) (k := k) (a := a) (b := b) (by omega)).1 (by omega)
      exact .inr ⟨by rw [← e.1], by rw [← e.2]⟩
  · rintro (⟨h1, h2, h3, h4⟩ | ⟨rfl, rfl⟩)
    · exact ⟨h1, h2, h3, by omega⟩
    · have hm := Nat.mod_lt k (show 0 < W by omega)
      refine ⟨Int.natCast_nonneg _, Int.ofNat_lt.2 hm, Int.natCast_nonneg _, ?_⟩
      rw [Int.toNat_natCast, Int.toNat_natCast, Nat.mul_comm, Nat.div_add_mod]
      omega
theorem dr_yes {W : Nat} {f : Int → Int → Bool} {k : Nat} (hW : 1 ≤ W) (h : f ((k % W : Nat) : Int) ((k / W : Nat) : Int) = true) (x y : Int) : aS (drF W f k) ((k % W : Nat) : Int) ((k / W : Nat) : Int) x y = drF W f (k + 1) x y := by
  rw [Bool.eq_iff_iff]
  unfold aS
  rw [Bool.or_eq_true, dr_iff, dr_iff, dr_more hW, Bool.and_eq_true, decide_eq_true_eq, decide_eq_true_eq]
  constructor
  · rintro (⟨h1, h2⟩ | ⟨rfl, rfl⟩)
    · exact ⟨.inl h1, h2⟩
    · exact ⟨.inr ⟨rfl, rfl⟩, h⟩
  · rintro ⟨h1 | h1, h2⟩
    · exact .inl ⟨h1, h2⟩
    · exact .inr h1
theorem dr_no {W : Nat} {f : Int → Int → Bool} {k : Nat} (hW : 1 ≤ W) (h : f ((k % W : Nat) : Int) ((k / W : Nat) : Int) = false) (x y : Int) : drF W f k x y = drF W f (k + 1) x y := by
  rw [Bool.eq_iff_iff, dr_iff, dr_iff, dr_more hW]
  constructor
  · rintro ⟨h1, h2⟩
    exact ⟨.inl h1, h2⟩
  · rintro ⟨h1 | ⟨rfl, rfl⟩, h2⟩
    · exact ⟨h1, h2⟩
    · rw [h] at h2; cases h2
theorem dr_all (W H : Nat) (f : Int → Int → Bool) (x y : Int) : drF W f (W * H) x y = (inP W H x y && f x y) := by
  unfold drF inP
  congr 1
  refine decide_eq_decide.2 ⟨?_, ?_⟩
  · rintro ⟨h1, h2, h3, h4⟩
    obtain ⟨a, rfl⟩ := Int.eq_ofNat_of_zero_le h1
    obtain ⟨b, rfl⟩ := Int.eq_ofNat_of_zero_le h3
    simp only [Int.toNat_natCast] at h4
    refine ⟨h1, h2, h3, ?_⟩
    rcases Nat.lt_or_ge b H with h | h
    · omega
    · have := Nat.mul_le_mul_left W h
      rw [Nat.mul_comm W b] at this
      omega
  · rintro ⟨h1, h2, h3, h4⟩
    obtain ⟨a, rfl⟩ := Int.eq_ofNat_of_zero_le h1
    obtain ⟨b, rfl⟩ := Int.eq_ofNat_of_zero_le h3
    simp only [Int.toNat_natCast]
    exact ⟨h1, h2, h3, place_lt (by omega) (by omega)⟩
/-- A function value that tells the dots f of a picture of W columns and H rows, in worlds that have grown from w. -/
structure Dw (F : Nat) (first cap : Array Value) (f : Int → Int → Bool) (W H : Nat) (w : World) : Prop where
  cf : ∀ (args : Array Value) (V : World), (callFunc F args).run Tryd.prog V = .ok (.enter F args) V
  dw : ∀ (x y : Int) (V : World), 0 ≤ x ∧ x < (W : Int) ∧ 0 ≤ y ∧ y < (H : Int) → w.grownBy V none → Calls Tryd.prog F (first ++ (#[.int .i64 x, .int .i64 y] ++ cap)) V fun e w' => e = .returned (.bool (f x y)) ∧ Below V.heap.size V w'
theorem grown_heap {w w' : World} {row : Option Nat} {k : Nat} {o : Obj} (h : w.heap[k]? = some o) (hg : w.grownBy w' row) (hne : some k ≠ row) : w'.heap[k]? = some o :=
  (hg.block k (Array.getElem?_eq_some_iff.1 h).1 hne).trans h
theorem put_farD {W : World} {R o o' : Nat} {v u : Value} (h : W.cell? ⟨R, o', none⟩ = some u) (hne : ¬ o' = o) : (W.setCell ⟨R, o, none⟩ v).cell? ⟨R, o', none⟩ = some u :=
  (World.cell?_setCell_other W _ _ _ (by intro e; simp only [Addr.mk.injEq] at e; exact hne (by omega))).trans h
theorem put3D {W : World} {R : Nat} {a b c : Value} (c0 : W.cell? ⟨R, 0, none⟩ = some a) (c1 : W.cell? ⟨R, 1, none⟩ = some b) (c2 : W.cell? ⟨R, 2, none⟩ = some c) (p q r : Value) :
    (((W.setCell ⟨R, 0, none⟩ p).setCell ⟨R, 1, none⟩ q).setCell ⟨R, 2, none⟩ r).cell? ⟨R, 0, none⟩ = some p ∧ (((W.setCell ⟨R, 0, none⟩ p).setCell ⟨R, 1, none⟩ q).setCell ⟨R, 2, none⟩ r).cell? ⟨R, 1, none⟩ = some q ∧
    (((W.setCell ⟨R, 0, none⟩ p).setCell ⟨R, 1, none⟩ q).setCell ⟨R, 2, none⟩ r).cell? ⟨R, 2, none⟩ = some r :=
  ⟨put_farD (put_farD (World.cell?_setCell_same W _ _ c0) (by omega)) (by omega), put_farD (World.cell?_setCell_same _ _ _ (put_farD c1 (by omega))) (by omega), World.cell?_setCell_same _ _ _ (put_farD (put_farD c2 (by omega)) (by omega))⟩
theorem grown_set3 (w : World) (R : Nat) (p q r : Value) : w.grownBy (((w.setCell ⟨R, 0, none⟩ p).setCell ⟨R, 1, none⟩ q).setCell ⟨R, 2, none⟩ r) (some R) := by
  have one : ∀ (W : World) (o : Nat) (v : Value), W.grownBy (W.setCell ⟨R, o, none⟩ v) (some R) := fun W o v => ⟨rfl, rfl, rfl, by simp [World.setCell], fun k _ hk => Below.heap_setCell _ _ _ _ (fun e => hk (by simp [e]))⟩
  exact grown_tr (grown_tr (one _ _ _) (one _ _ _)) (one _ _ _)
end Go.Proofs.YtkjibcnddknbjaaDoor
/- Chapter 7: the program's pictures with other dots, turned, mirrored. -/
namespace Go.Proofs.YtkjibcnddknbjaaDoor
open Go.ChangeShapes Go.WideShapes Go.ChangeAt Go.RowKit Go.Maps

theorem grown_undrew {V w : World} {row : Option Nat} (h : V.drew.grownBy w row) : V.grownBy w row := ⟨h.os, h.tape, h.output, h.size, h.block⟩
theorem withDots_any (W H : Int) (b c : Nat) (w : World) :
    Calls Tryd.prog 30 #[.agg #[.int .i64 W, .int .i64 H, .map (some b)], .map (some c)] w fun e w' => e = .returned (.agg #[.int .i64 W, .int .i64 H, .map (some c)]) ∧ Below w.heap.size w w' := by
  go_enter Tryd.func30, Tryd.ntmps30
  go_wp2
  exact bodyPost_ret (v := .agg #[.int .i64 W, .int .i64 H, .map (some c)]) (by simp [results, Tryd.results30, go_sem]) rfl ⟨rfl, ((Below.refl _ _).alloc (Nat.le_refl _) _).alloc (by simp) _⟩
theorem turned1_any (x y H : Int) (K : Nat) (w : World) (c1 : w.cell? ⟨K, 1, none⟩ = some (.int .i64 H)) (_ : 0 ≤ x) (_ : x < 100) (y0 : 0 ≤ y) (y1 : y < 100) (h0 : 0 ≤ H) (h1 : H ≤ 100) :
    Calls Tryd.prog 28 #[.agg #[.int .i64 x, .int .i64 y], .pointer (some ⟨K, 0, none⟩)] w fun e w' => e = .returned (.agg #[.int .i64 (H - 1 - y), .int .i64 x]) ∧ Below w.heap.size w w' := by
  have e1 : IntKind.i64.wrap (H - 1) = H - 1 := IntWalk.i64_in _ (by omega)
  have e2 : IntKind.i64.wrap (H - 1 - y) = H - 1 - y := IntWalk.i64_in _ (by omega)
  have c1a := fun o => cell_old c1 o
  have c1b := fun o p => cell_old (cell_old c1 o) p
  go_enter Tryd.func28, Tryd.ntmps28
  go_wp2
  exact bodyPost_ret (v := .agg #[.int .i64 (H - 1 - y), .int .i64 x]) (by simp [results, Tryd.results28, go_sem]) rfl ⟨rfl, ((Below.refl _ _).alloc (Nat.le_refl _) _).alloc (by simp) _⟩
theorem mirrored1_any (x y W : Int) (K : Nat) (w : World) (c1 : w.cell? ⟨K, 0, none⟩ = some (.int .i64 W)) (x0 : 0 ≤ x) (x1 : x < 100) (_ : 0 ≤ y) (_ : y < 100) (h0 : 0 ≤ W) (h1 : W ≤ 100) :
    Calls Tryd.prog 31 #[.agg #[.int .i64 x, .int .i64 y], .pointer (some ⟨K, 0, none⟩)] w fun e w' => e = .returned (.agg #[.int .i64 (W - 1 - x), .int .i64 y]) ∧ Below w.heap.size w w' := by
  have e1 : IntKind.i64.wrap (W - 1) = W - 1 := IntWalk.i64_in _ (by omega)
  have e2 : IntKind.i64.wrap (W - 1 - x) = W - 1 - x := IntWalk.i64_in _ (by omega)
  have c1a := fun o => cell_old c1 o
  have c1b := fun o p => cell_old (cell_old c1 o) p
  go_enter Tryd.func31, Tryd.ntmps31
  go_wp2
  exact bodyPost_ret (v := .agg #[.int .i64 (W - 1 - x), .int .i64 y]) (by simp [results, Tryd.results31, go_sem]) rfl ⟨rfl, ((Below.refl _ _).alloc (Nat.le_refl _) _).alloc (by simp) _⟩
/-- A change of pictures: what a function makes of one. -/
def Chg (F : Nat) (W H : Nat) (S : Int → Int → Bool) (W' H' : Nat) (S' : Int → Int → Bool) : Prop :=
  ∀ (V : World) (b : Nat), Ds V b S → Calls Tryd.prog F #[.agg #[.int .i64 (W : Int), .int .i64 (H : Int), .map (some b)]] V fun e V' => (∃ c, e = .returned (.agg #[.int .i64 (W' : Int), .int .i64 (H' : Int), .map (some c)]) ∧ Ds V' c S') ∧ Below V.heap.size V V'
theorem cf_turned1 : ∀ (args : Array Value) (V : World), (callFunc 28 args).run Tryd.prog V = .ok (.enter 28 args) V := fun _ _ => by kernel_rfl
set_option maxRecDepth 8000 in
set_option maxHeartbeats 1600000 in
theorem turned_chg (W H : Nat) (S : Int → Int → Bool) (hS : Bd W H S) (hW : W ≤ 50) (hH : H ≤ 50) : Chg 18 W H S H W (fun x y => S y ((H : Int) - 1 - x)) := by
  intro w b hd
  have hbl := hd.lt
  obtain ⟨V, hV⟩ : ∃ V, V = (w.alloc (.cells #[.int .i64 (W : Int), .int .i64 (H : Int), .map (some b)] 34)).alloc (.cells #[.int .i64 0, .int .i64 0, .map none] 34) := ⟨_, rfl⟩
  have k0 : V.heap[w.heap.size]? = some (.cells #[.int .i64 (W : Int), .int .i64 (H : Int), .map (some b)] 34) := by
    rw [hV, (MapKept.heap_alloc _ _).2 _ (by simp)]
    exact (MapKept.heap_alloc _ _).1
  have k1 : V.heap[w.heap.size + 1]? = some (.cells #[.int .i64 0, .int .i64 0, .map none] 34) := by
    have h := (MapKept.heap_alloc (w.alloc (.cells #[.int .i64 (W : Int), .int .i64 (H : Int), .map (some b)] 34)) (.cells #[.int .i64 0, .int .i64 0, .map none] 34)).1
    rw [show (w.alloc (.cells #[.int .i64 (W : Int), .int .i64 (H : Int), .map (some b)] 34)).heap.size = w.heap.size + 1 by simp] at h
    rw [hV]
    exact h
  have hgV : w.grownBy V none := by rw [hV]; exact (World.grownBy_alloc w _ none).andThen (World.grownBy_alloc _ _ none) (by simp)
  have HD := Lib.hid (hd.kept hgV (by simp))
  have HMV : Hid (Mv 28 w.heap.size S (fun _ y => (H : Int) - 1 - y) (fun x _ => x) (fun _ v => v) (fun u _ => (H : Int) - 1 - u) V.drew) := Lib.hid
    { cf := cf_turned1
      mv := fun x y W' hs hg => by
        have hb := hS x y hs
        exact turned1_any x y H w.heap.size W' (hg.cell (show V.cell? ⟨w.heap.size, 1, none⟩ = _ from Lib.cell_of_heap k0 1) (by simp)) (by omega) (by omega) (by omega) (by omega) (by omega) (by omega)
      inv := fun x y _ u v => by constructor <;> rintro ⟨rfl, rfl⟩ <;> constructor <;> omega
      bd := fun x y hs => by have hb := hS x y hs; omega }
  have q0 : V.cell? ⟨w.heap.size, 0, none⟩ = some (.int .i64 (W : Int)) := Lib.cell_of_heap k0 0
  have q1 : V.cell? ⟨w.heap.size, 1, none⟩ = some (.int .i64 (H : Int)) := Lib.cell_of_heap k0 1
  have q2 : V.cell? ⟨w.heap.size, 2, none⟩ = some (.map (some b)) := Lib.cell_of_heap k0 2
  have hzV : V.heap.size = w.heap.size + 2 := by rw [hV]; simp
  go_enter Tryd.func18, Tryd.ntmps18
  go_wp2
  rw [← hV]
  clear hV
  have z1 : w.heap.size + 1 < V.drew.heap.size := by show w.heap.size + 1 < V.heap.size; omega
  have z0 : w.heap.size < V.drew.heap.size := by show w.heap.size < V.heap.size; omega
  go_region_held3 (fun w' => w'.cell? ⟨w.heap.size, 0, none⟩ = some (.int .i64 (W : Int)) ∧ w'.cell? ⟨w.heap.size, 1, none⟩ = some (.int .i64 (H : Int)) ∧ w'.cell? ⟨w.heap.size, 2, none⟩ = some (.map (some b)))
    (first | with_reducible exact ⟨t0, t1, t2⟩ | with_reducible exact ⟨(grown_set3 w3 _ _ _ _).cell t0 (by simp), (grown_set3 w3 _ _ _ _).cell t1 (by simp), (grown_set3 w3 _ _ _ _).cell t2 (by simp)⟩ | exact ⟨q0, q1, q2⟩)
    (first | (go_at_call 29; refine (moved_any _ _ _ _ _ _ _ _ _ HD.out.drew HMV.out).mono ?_; rintro e w3 ⟨⟨c, rfl, hc, hd3⟩, hb3⟩; have t0 := (hb3.cell (p := ⟨w.heap.size, 0, none⟩) z0).trans q0; have t1 := (hb3.cell (p := ⟨w.heap.size, 1, none⟩) z0).trans q1; have t2 := (hb3.cell (p := ⟨w.heap.size, 2, none⟩) z0).trans q2; have i3 := (hb3.block (w.heap.size + 1) z1).trans k1; have s0 := Lib.cell_of_heap i3 0; have s1 := Lib.cell_of_heap i3 1; have s2 := Lib.cell_of_heap i3 2; have f0 := Lib.frozen_of_heap i3 0; have f1 := Lib.frozen_of_heap i3 1; have f2 := Lib.frozen_of_heap i3 2; have HDF := Lib.hid hd3; have HGF := Lib.hid (grown_undrew (grown_of_below hb3 (Nat.le_refl _))); have hcV : V.heap.size ≤ c := hc))
  obtain ⟨e0, e1, e2⟩ := put3D s0 s1 s2 (.int .i64 (H : Int)) (.int .i64 (W : Int)) (.map (some c))
  have hgE := grown_set3 w3 (w.heap.size + 1) (.int .i64 (H : Int)) (.int .i64 (W : Int)) (.map (some c))
  have HDE := Lib.hid (HDF.out.kept hgE (by simp; omega))
  have HBE := Lib.hid ((Below.refl w.heap.size w).grown ((hgV.andThen HGF.out (by simp)).andThen hgE (by intro j hj; cases hj; exact Or.inl (by omega))) (Nat.le_refl _) (by simp))
  clear hgE
  go_wp2
  exact bodyPost_ret (v := .agg #[.int .i64 (H : Int), .int .i64 (W : Int), .map (some c)]) (by simp [results, Tryd.results18, go_sem, e0, e1, e2]) rfl ⟨⟨c, rfl, HDE.out⟩, HBE.out⟩
theorem cf_mirrored1 : ∀ (args : Array Value) (V : World), (callFunc 31 args).run Tryd.prog V = .ok (.enter 31 args) V := fun _ _ => by kernel_rfl
set_option maxRecDepth 8000 in
set_option maxHeartbeats 1600000 in
theorem mirrored_chg (W H : Nat) (S : Int → Int → Bool) (hS : Bd W H S) (hW : W ≤ 50) (hH : H ≤ 50) : Chg 19 W H S W H (fun x y => S ((W : Int) - 1 - x) y) := by
  intro w b hd
  have hbl := hd.lt
  obtain ⟨V, hV⟩ : ∃ V, V = (w.alloc (.cells #[.int .i64 (W : Int), .int .i64 (H : Int), .map (some b)] 34)).alloc (.cells #[.int .i64 0, .int .i64 0, .map none] 34) := ⟨_, rfl⟩
  have k0 : V.heap[w.heap.size]? = some (.cells #[.int .i64 (W : Int), .int .i64 (H : Int), .map (some b)] 34) := by
    rw [hV, (MapKept.heap_alloc _ _).2 _ (by simp)]
    exact (MapKept.heap_alloc _ _).1
  have k1 : V.heap[w.heap.size + 1]? = some (.cells #[.int .i64 0, .int .i64 0, .map none] 34) := by
    have h := (MapKept.heap_alloc (w.alloc (.cells #[.int .i64 (W : Int), .int .i64 (H : Int), .map (some b)] 34)) (.cells #[.int .i64 0, .int .i64 0, .map none] 34)).1
    rw [show (w.alloc (.cells #[.int .i64 (W : Int), .int .i64 (H : Int), .map (some b)] 34)).heap.size = w.heap.size + 1 by simp] at h
    rw [hV]
    exact h
  have hgV : w.grownBy V none := by rw [hV]; exact (World.grownBy_alloc w _ none).andThen (World.grownBy_alloc _ _ none) (by simp)
  have HD := Lib.hid (hd.kept hgV (by simp))
  have HMV : Hid (Mv 31 w.heap.size S (fun x _ => (W : Int) - 1 - x) (fun _ y => y) (fun u _ => (W : Int) - 1 - u) (fun _ v => v) V.drew) := Lib.hid
    { cf := cf_mirrored1
      mv := fun x y W' hs hg => by
        have hb := hS x y hs
        exact mirrored1_any x y W w.heap.size W' (hg.cell (show V.cell? ⟨w.heap.size, 0, none⟩ = _ from Lib.cell_of_heap k0 0) (by simp)) (by omega) (by omega) (by omega) (by omega) (by omega) (by omega)
      inv := fun x y _ u v => by constructor <;> rintro ⟨rfl, rfl⟩ <;> constructor <;> omega
      bd := fun x y hs => by have hb := hS x y hs; omega }
  have q0 : V.cell? ⟨w.heap.size, 0, none⟩ = some (.int .i64 (W : Int)) := Lib.cell_of_heap k0 0
  have q1 : V.cell? ⟨w.heap.size, 1, none⟩ = some (.int .i64 (H : Int)) := Lib.cell_of_heap k0 1
  have q2 : V.cell? ⟨w.heap.size, 2, none⟩ = some (.map (some b)) := Lib.cell_of_heap k0 2
  have hzV : V.heap.size = w.heap.size + 2 := by rw [hV]; simp
  go_enter Tryd.func19, Tryd.ntmps19
  go_wp2
  rw [← hV]
  clear hV
  have z1 : w.heap.size + 1 < V.drew.heap.size := by show w.heap.size + 1 < V.heap.size; omega
  have z0 : w.heap.size < V.drew.heap.size := by show w.heap.size < V.heap.size; omega
  go_region_held3 (fun w' => w'.cell? ⟨w.heap.size, 0, none⟩ = some (.int .i64 (W : Int)) ∧ w'.cell? ⟨w.heap.size, 1, none⟩ = some (.int .i64 (H : Int)) ∧ w'.cell? ⟨w.heap.size, 2, none⟩ = some (.map (some b)))
    (first | with_reducible exact ⟨t0, t1, t2⟩ | with_reducible exact ⟨(grown_set3 w4 _ _ _ _).cell t0 (by simp), (grown_set3 w4 _ _ _ _).cell t1 (by simp), (grown_set3 w4 _ _ _ _).cell t2 (by simp)⟩ | exact ⟨q0, q1, q2⟩)
    (first
      | (go_at_call 29; refine (moved_any _ _ _ _ _ _ _ _ _ HD.out.drew HMV.out).mono ?_; rintro e w3 ⟨⟨c, rfl, hc, hd3⟩, hb3⟩; have t0 := (hb3.cell (p := ⟨w.heap.size, 0, none⟩) z0).trans q0; have t1 := (hb3.cell (p := ⟨w.heap.size, 1, none⟩) z0).trans q1; have t2 := (hb3.cell (p := ⟨w.heap.size, 2, none⟩) z0).trans q2; have i3 := (hb3.block (w.heap.size + 1) z1).trans k1; have HDF := Lib.hid hd3; have HGF := Lib.hid (grown_undrew (grown_of_below hb3 (Nat.le_refl _))); have hcV : V.heap.size ≤ c := hc; have hz3 : V.heap.size ≤ w3.heap.size := HGF.out.size)
      | (go_at_call 30; refine (withDots_any _ _ _ _ _).mono ?_; rintro e w4 ⟨rfl, hb4⟩; have HDF := Lib.hid (HDF.out.below hb4); have hg4 := grown_of_below hb4 (Nat.le_refl _); have HGF := Lib.hid (HGF.out.andThen hg4 (by simp)); have t0 := hg4.cell t0 (by simp); have t1 := hg4.cell t1 (by simp); have t2 := hg4.cell t2 (by simp); have i3 := grown_heap i3 hg4 (by simp); have s0 := Lib.cell_of_heap i3 0; have s1 := Lib.cell_of_heap i3 1; have s2 := Lib.cell_of_heap i3 2; have f0 := Lib.frozen_of_heap i3 0; have f1 := Lib.frozen_of_heap i3 1; have f2 := Lib.frozen_of_heap i3 2))
  obtain ⟨e0, e1, e2⟩ := put3D s0 s1 s2 (.int .i64 (W : Int)) (.int .i64 (H : Int)) (.map (some c))
  have hgE := grown_set3 w4 (w.heap.size + 1) (.int .i64 (W : Int)) (.int .i64 (H : Int)) (.map (some c))
  have HDE := Lib.hid (HDF.out.kept hgE (by simp; omega))
  have HBE := Lib.hid ((Below.refl w.heap.size w).grown ((hgV.andThen HGF.out (by simp)).andThen hgE (by intro j hj; cases hj; exact Or.inl (by omega))) (Nat.le_refl _) (by simp))
  clear hgE
  go_wp2
  exact bodyPost_ret (v := .agg #[.int .i64 (W : Int), .int .i64 (H : Int), .map (some c)]) (by simp [results, Tryd.results19, go_sem, e0, e1, e2]) rfl ⟨⟨c, rfl, HDE.out⟩, HBE.out⟩
end Go.Proofs.YtkjibcnddknbjaaDoor
/- Chapter 7: the program's pictures with other dots, without borders. -/
namespace Go.Proofs.YtkjibcnddknbjaaDoor
open Go.ChangeShapes Go.WideShapes Go.ChangeAt Go.RowKit Go.Maps

end Go.Proofs.YtkjibcnddknbjaaDoor
/- Chapter 7: texts built: strings.Builder's writers, as this translation has them. -/
namespace Go.Proofs.YtkjibcnddknbjaaDoor
open Go.ChangeShapes Go.WideShapes Go.ChangeAt Go.RowKit Go.Maps

/-- Block b is a builder that holds these bytes. -/
abbrev Bdr (w : World) (B b : Nat) (bs : List UInt8) : Prop := Lib.IsBuilderF 51 5 B b (Lib.byteCells bs) w
abbrev Oth (w w' : World) (b : Nat) : Prop := Lib.OthersKept 5 (some b) w w'
theorem infoB7 : (Tryd.prog.info? 51).map (fun i => i.size) = some 2 := by kernel_rfl
theorem infoU7 : (Tryd.prog.info? 5).map (fun i => (i.zero, i.size, i.bytes)) = some (some (.int .u8 0), 1, 1) := by kernel_rfl
theorem lies7 : liesAt Tryd.prog Tryd.prog.depth 51 (2 / Tryd.prog.cellsOf 51) 0 51 1 = true := by kernel_rfl
set_option maxHeartbeats 1000000 in
set_option maxRecDepth 100000 in
theorem copyCheck_any (B b : Nat) (bs : List Value) (w : World) (h : Lib.IsBuilderF 51 5 B b bs w) :
    Calls Tryd.prog 35 #[.pointer (some ⟨b, 0, none⟩)] w fun e w' => e = .returned (.tuple #[]) ∧ Lib.BuilderAtF 51 5 B b (.pointer (some ⟨b, 0, none⟩)) bs w' ∧ Below B w w' ∧ Oth w w' b := by
  obtain ⟨j, hj, hjs⟩ := Option.map_eq_some_iff.1 infoB7
  rcases h with h | h
  · have c0 := h.cell0
    have hsh := h.shape
    have hfz := h.frozen0
    go_enter Tryd.func35, Tryd.ntmps35
    go_wp2
    rw [Lib.run_to_unsafe w ⟨b, 0, none⟩ Tryd.underlying48 Tryd.underlying72 hj (by rw [hjs]; decide) hsh (Nat.zero_lt_succ 1)]
    simp only [Result.andThen]
    rw [Oper.upon_value]
    go_wp2
    have hext : ∀ W : World, (callFunc 40 #[.pointer (some ⟨b, 0, none⟩)]).run Tryd.prog W = .ok (.value (.pointer (some ⟨b, 0, none⟩))) W := fun W => by
      rw [run_callFunc_extern Tryd.func40 (by kernel_rfl) (by kernel_rfl) (by kernel_rfl) (e := Extern.AbiNoEscape.same) (by kernel_rfl), Lib.run_noEscape]
      rfl
    rw [hext]
    rw [Oper.upon_value]
    go_wp2
    rw [Lib.run_from_unsafe w ⟨b, 0, none⟩ Tryd.underlying72 Tryd.underlying48 hj hsh lies7]
    simp only [Result.andThen]
    rw [Oper.upon_value]
    go_wp2
    go_end0
    exact ⟨rfl, h.used _, (Below.refl B w).setCell (p := ⟨b, 0, none⟩) h.1 _, (Lib.OthersKept.refl _ _ w).setCell ⟨b, 0, none⟩ rfl _⟩
  · have c0 := h.cell0
    go_enter Tryd.func35, Tryd.ntmps35
    go_wp2
    rw [Lib.run_neq_ptr_same w _ Tryd.underlying48 hj]
    go_wp2
    go_end0
    exact ⟨rfl, h, Below.refl B _, Lib.OthersKept.refl _ _ _⟩
theorem infoNe7 : 51 ≠ 5 := by decide
set_option maxHeartbeats 2000000 in
set_option maxRecDepth 100000 in
theorem writeByte_any (B b : Nat) (bs : List UInt8) (c : UInt8) (w : World) (h : Bdr w B b bs) (hl : bs.length ≤ 100000) (hBw : B ≤ w.heap.size) :
    Calls Tryd.prog 26 #[.pointer (some ⟨b, 0, none⟩), .int .u8 (c.toNat : Int)] w fun e w' => e = .returned .nilIface ∧ Bdr w' B b (bs ++ [c]) ∧ Below B w w' ∧ Oth w w' b := by
  obtain ⟨i0, hi, hz0, hz1, hz2⟩ := info_parts infoU7
  have hlb : (Lib.byteCells bs).length = bs.length := Lib.byteCells_length _
  have HAPP : Hid (Lib.byteCells bs ++ [.int .u8 (c.toNat : Int)] = Lib.byteCells (bs ++ [c])) := Lib.hid (by rw [Lib.byteCells_append]; rfl)
  have h2 : Lib.IsBuilderF 51 5 B b (Lib.byteCells bs) w := h
  clear h
  rw [← hlb] at hl
  clear hlb
  generalize Lib.byteCells bs = cs at *
  go_enter Tryd.func26, Tryd.ntmps26
  go_wp2_with (go_at_call 35; refine (copyCheck_any B b cs _ h2).mono ?_)
  rintro e w1 ⟨rfl, h1, hb1, hk1⟩
  obtain ⟨hB, v, hbk, hown, hne⟩ := h1
  have c0 : w1.cell? ⟨b, 0, none⟩ = some (.pointer (some ⟨b, 0, none⟩)) := by rw [Lib.cell_of_heap hbk]; rfl
  have c1 : w1.cell? ⟨b, 1, none⟩ = some v := by rw [Lib.cell_of_heap hbk]; rfl
  go_wp2_with (at_builtin; refine wpList_append_ownF _ rfl _ _ 49 rfl B 5 i0 (.int .u8 0) 1 1 Tryd.underlying49 hi hz0 hz1 hz2 rfl (by decide) _ _ _ rfl (hown.alloc _) ⟨w1.heap.size, 0, none⟩ 1 1 [.int .u8 (c.toNat : Int)] rfl rfl ?c1 ?c2 ?c3 ?c4 ?c5 ?_)
  case c1 =>
    intro j u hj
    match j, hj with
    | 0, hj => simp at hj; subst hj; simp [Addr.add]
  case c2 => intro u hu; simp at hu; subst hu; rfl
  case c3 => unfold maxLen; omega
  case c4 => omega
  case c5 => have := hb1.size; simp; omega
  intro v' w2 hown' hgrow _
  have hlt : b < w1.heap.size := (Array.getElem?_eq_some_iff.1 hbk).1
  have hb2 : w2.heap[b]? = some (.cells #[.pointer (some ⟨b, 0, none⟩), v] 51 (0, 0)) := by
    rw [hgrow.block b (by simp; omega) (fun e => hne e.symm), Lib.alloc_old w1 _ b hlt]
    exact hbk
  have d0 : w2.cell? ⟨b, 0, none⟩ = some (.pointer (some ⟨b, 0, none⟩)) := by rw [Lib.cell_of_heap hb2]; rfl
  have d1 : w2.cell? ⟨b, 1, none⟩ = some v := by rw [Lib.cell_of_heap hb2]; rfl
  have f1 : w2.frozen? ⟨b, 1, none⟩ = false := Lib.frozen_of_heap hb2 1
  obtain ⟨g, cap, rfl⟩ : ∃ g cap, v' = .slice (some ⟨g, 0, none⟩) (cs.length + 1) cap := by
    rcases hown'.2 with ⟨_, h0⟩ | ⟨g, cap, cur, fz, hv, _⟩
    · omega
    · exact ⟨g, cap, hv⟩
  go_wp2
  go_ret
  refine ⟨rfl, ?_, ?_, ((hk1.alloc _).grown hgrow (Lib.ownsRowF_kind (hown.alloc _))).setCell ⟨b, 1, none⟩ rfl _⟩
  · have := Lib.BuilderAtF.put (T := 51) (e := 5) hB hb2 (bs' := cs ++ [.int .u8 (c.toNat : Int)]) (by simpa using hown') infoNe7
    rw [HAPP.out] at this
    exact .inr this
  · exact ((hb1.alloc (by have := hb1.size; omega) _).grown hgrow (by have := hb1.size; simp; omega) (fun k hk => (hown.lt k hk).1)).setCell (p := ⟨b, 1, none⟩) hB _
set_option maxHeartbeats 2000000 in
set_option maxRecDepth 100000 in
theorem writeString_any (B b : Nat) (bs : List UInt8) (s : ByteArray) (w : World) (h : Bdr w B b bs) (hl : bs.length ≤ 100000) (hs : s.size ≤ 100000) (hBw : B ≤ w.heap.size) :
    Calls Tryd.prog 24 #[.pointer (some ⟨b, 0, none⟩), .string s] w fun e w' => e = .returned (.tuple #[.int .i64 s.size, .nilIface]) ∧ Bdr w' B b (bs ++ s.data.toList) ∧ Below B w w' ∧ Oth w w' b := by
  obtain ⟨i0, hi, hz0, hz1, hz2⟩ := info_parts infoU7
  have hlb : (Lib.byteCells bs).length = bs.length := Lib.byteCells_length _
  have HAPP : Hid (Lib.byteCells bs ++ Lib.strCells s = Lib.byteCells (bs ++ s.data.toList)) := Lib.hid (by rw [Lib.byteCells_append]; rfl)
  have h2 : Lib.IsBuilderF 51 5 B b (Lib.byteCells bs) w := h
  clear h
  rw [← hlb] at hl
  clear hlb
  generalize Lib.byteCells bs = cs at *
  go_enter Tryd.func24, Tryd.ntmps24
  go_wp2_with (go_at_call 35; refine (copyCheck_any B b cs _ h2).mono ?_)
  rintro e w1 ⟨rfl, h1, hb1, hk1⟩
  obtain ⟨hB, v, hbk, hown, hne⟩ := h1
  have c0 : w1.cell? ⟨b, 0, none⟩ = some (.pointer (some ⟨b, 0, none⟩)) := by rw [Lib.cell_of_heap hbk]; rfl
  have c1 : w1.cell? ⟨b, 1, none⟩ = some v := by rw [Lib.cell_of_heap hbk]; rfl
  go_wp2_with (at_builtin; refine Lib.wpList_append_own_stringF _ rfl _ _ 49 9 rfl B 5 i0 Tryd.underlying49 Tryd.underlying9 hi hz0 hz1 hz2 _ _ _ rfl hown s rfl ?c3 ?c4 ?c5 ?_)
  case c3 => unfold maxLen; omega
  case c4 => omega
  case c5 => have := hb1.size; omega
  intro v' w2 hown' hgrow _
  have hlt : b < w1.heap.size := (Array.getElem?_eq_some_iff.1 hbk).1
  have hb2 : w2.heap[b]? = some (.cells #[.pointer (some ⟨b, 0, none⟩), v] 51 (0, 0)) := by
    rw [hgrow.block b hlt (fun e => hne e.symm)]
    exact hbk
  have d0 : w2.cell? ⟨b, 0, none⟩ = some (.pointer (some ⟨b, 0, none⟩)) := by rw [Lib.cell_of_heap hb2]; rfl
  have d1 : w2.cell? ⟨b, 1, none⟩ = some v := by rw [Lib.cell_of_heap hb2]; rfl
  have f1 : w2.frozen? ⟨b, 1, none⟩ = false := Lib.frozen_of_heap hb2 1
  obtain ⟨ao, n', cap, rfl⟩ : ∃ ao n' cap, v' = .slice ao n' cap := by
    rcases hown'.2 with ⟨hv, _⟩ | ⟨g, cap, cur, fz, hv, _⟩
    · exact ⟨_, _, _, hv⟩
    · exact ⟨_, _, _, hv⟩
  go_wp2
  go_ret2
  refine ⟨rfl, ?_, ?_, (hk1.grown hgrow (Lib.ownsRowF_kind hown)).setCell ⟨b, 1, none⟩ rfl _⟩
  · have := Lib.BuilderAtF.put (T := 51) (e := 5) hB hb2 (bs' := cs ++ Lib.strCells s) (by simpa [Lib.strCells_length] using hown') infoNe7
    rw [HAPP.out] at this
    exact .inr this
  · exact (hb1.grown hgrow (by have := hb1.size; omega) (fun k hk => (hown.lt k hk).1)).setCell (p := ⟨b, 1, none⟩) hB _
end Go.Proofs.YtkjibcnddknbjaaDoor
/- The library's contracts at this translation: a builder's String, SplitN. -/
namespace Go.Proofs.YtkjibcnddknbjaaDoor
open Go.Shelf Go.RowKit Go.Lib
def Tryd.lays169_ren : Go.Shelf.Ren := ⟨fun | 169 => 27 | n => n, fun | 70 => 48 | 9 => 9 | 0 => 0 | 72 => 51 | 37 => 49 | 127 => 67 | 3 => 3 | 5 => 5 | n => n, fun | n => n⟩
theorem Tryd.lays169 : Go.Proofs.Lays.n169 Tryd.prog Tryd.lays169_ren := {
  mixed := by kernel_rfl
  f169 := Tryd.func27.trans (congrArg some (by kernel_rfl))
  t0 := Tryd.underlying0
  a0 := Tryd.isAgg0
  z0 := Tryd.sizeOf0
  v0 := Tryd.zeroValue0
  t3 := Tryd.underlying3
  a3 := Tryd.isAgg3
  z3 := Tryd.sizeOf3
  v3 := Tryd.zeroValue3
  t9 := Tryd.underlying9
  a9 := Tryd.isAgg9
  z9 := Tryd.sizeOf9
  v9 := Tryd.zeroValue9
  t37 := Tryd.underlying49
  a37 := Tryd.isAgg49
  z37 := Tryd.sizeOf49
  v37 := Tryd.zeroValue49
  t70 := Tryd.underlying48
  a70 := Tryd.isAgg48
  z70 := Tryd.sizeOf48
  v70 := Tryd.zeroValue48
  t72 := Tryd.underlying51
  a72 := Tryd.isAgg51
  z72 := Tryd.sizeOf51
  v72 := Tryd.zeroValue51
  t127 := Tryd.underlying67
  a127 := Tryd.isAgg67
  z127 := Tryd.sizeOf67
  v127 := Tryd.zeroValue67 }
theorem Tryd.Builder_Extra_169 : Builder.Extra Tryd.prog Tryd.lays169_ren := {
  sizeBuilder := by kernel_rfl
  liesBuilder := by kernel_rfl
  t5 := Tryd.underlying5
  a5 := Tryd.isAgg5
  z5 := Tryd.sizeOf5
  v5 := Tryd.zeroValue5
  infoByte := by kernel_rfl
  cellsByte := by kernel_rfl
  sizeByte := by kernel_rfl
  neB5 := by decide }
theorem Tryd.Builder_String_any_k (B b : Nat) (l : List UInt8) (w : World) (h : Lib.IsBuilderF 51 5 B b (Lib.byteCells l) w) (hBw : B ≤ w.heap.size) :
    Calls Tryd.prog 27 #[.pointer (some ⟨b, 0, none⟩)] w fun e w' => e = .returned (.string ⟨l.toArray⟩) ∧ (Lib.IsBuilderF 51 5 B b (Lib.byteCells l) w' ∧ Below B w w' ∧ Lib.OthersKept 5 (some b) w w') := Any.Builder_String_any_k Tryd.lays169 Tryd.Builder_Extra_169 B b l w h hBw
def Tryd.lays147_ren : Go.Shelf.Ren := ⟨fun | 147 => 14 | 221 => 20 | 268 => 32 | 138 => 33 | 143 => 34 | 195 => 36 | 197 => 37 | 218 => 38 | 219 => 39 | 260 => 41 | 217 => 42 | 225 => 43 | 224 => 44 | 267 => 45 | 266 => 46 | 314 => 47 | n => n, fun | 9 => 9 | 3 => 3 | 31 => 25 | 4 => 4 | 0 => 0 | 105 => 69 | 21 => 21 | 5 => 5 | 46 => 75 | 119 => 76 | 139 => 79 | 138 => 78 | 146 => 81 | 51 => 80 | n => n, fun | 1 => 0 | 3 => 1 | 4 => 2 | n => n⟩
theorem Tryd.lays147 : Go.Proofs.Lays.n147 Tryd.prog Tryd.lays147_ren := {
  mixed := by kernel_rfl
  f138 := Tryd.func33.trans (congrArg some (by kernel_rfl))
  f143 := Tryd.func34.trans (congrArg some (by kernel_rfl))
  f147 := Tryd.func14.trans (congrArg some (by kernel_rfl))
  f195 := Tryd.func36.trans (congrArg some (by kernel_rfl))
  f197 := Tryd.func37.trans (congrArg some (by kernel_rfl))
  f217 := Tryd.func42.trans (congrArg some (by kernel_rfl))
  f218 := Tryd.func38.trans (congrArg some (by kernel_rfl))
  f219 := Tryd.func39.trans (congrArg some (by kernel_rfl))
  f221 := Tryd.func20.trans (congrArg some (by kernel_rfl))
  f224 := Tryd.func44.trans (congrArg some (by kernel_rfl))
  f225 := Tryd.func43.trans (congrArg some (by kernel_rfl))
  f260 := Tryd.func41.trans (congrArg some (by kernel_rfl))
  f266 := Tryd.func46.trans (congrArg some (by kernel_rfl))
  f267 := Tryd.func45.trans (congrArg some (by kernel_rfl))
  f268 := Tryd.func32.trans (congrArg some (by kernel_rfl))
  f314 := Tryd.func47.trans (congrArg some (by kernel_rfl))
  t0 := Tryd.underlying0
  a0 := Tryd.isAgg0
  z0 := Tryd.sizeOf0
  v0 := Tryd.zeroValue0
  t3 := Tryd.underlying3
  a3 := Tryd.isAgg3
  z3 := Tryd.sizeOf3
  v3 := Tryd.zeroValue3
  t4 := Tryd.underlying4
  a4 := Tryd.isAgg4
  z4 := Tryd.sizeOf4
  v4 := Tryd.zeroValue4
  t5 := Tryd.underlying5
  a5 := Tryd.isAgg5
  z5 := Tryd.sizeOf5
  v5 := Tryd.zeroValue5
  t9 := Tryd.underlying9
  a9 := Tryd.isAgg9
  z9 := Tryd.sizeOf9
  v9 := Tryd.zeroValue9
  t21 := Tryd.underlying21
  a21 := Tryd.isAgg21
  z21 := Tryd.sizeOf21
  v21 := Tryd.zeroValue21
  t31 := Tryd.underlying25
  a31 := Tryd.isAgg25
  z31 := Tryd.sizeOf25
  v31 := Tryd.zeroValue25
  t46 := Tryd.underlying75
  a46 := Tryd.isAgg75
  z46 := Tryd.sizeOf75
  v46 := Tryd.zeroValue75
  t51 := Tryd.underlying80
  a51 := Tryd.isAgg80
  z51 := Tryd.sizeOf80
  v51 := Tryd.zeroValue80
  t105 := Tryd.underlying69
  a105 := Tryd.isAgg69
  z105 := Tryd.sizeOf69
  v105 := Tryd.zeroValue69
  t119 := Tryd.underlying76
  a119 := Tryd.isAgg76
  z119 := Tryd.sizeOf76
  t138 := Tryd.underlying78
  a138 := Tryd.isAgg78
  z138 := Tryd.sizeOf78
  v138 := Tryd.zeroValue78
  t139 := Tryd.underlying79
  a139 := Tryd.isAgg79
  z139 := Tryd.sizeOf79
  v139 := Tryd.zeroValue79
  t146 := Tryd.underlying81
  a146 := Tryd.isAgg81
  z146 := Tryd.sizeOf81
  v146 := Tryd.zeroValue81
  g1 := by kernel_rfl
  g3 := by kernel_rfl
  g4 := by kernel_rfl }
theorem Tryd.strings_SplitN (s sep : ByteArray) (n : Nat) (m : Int) (w : World) (hs : s.size < 4294967281) (hm : w.cell? ⟨0, 0, none⟩ = some (.int .i64 m)) (h1 : 1 ≤ sep.size) (hn : 1 ≤ n) (hn63 : n ≤ 9223372036854775807) :
    Calls Tryd.prog 14 #[.string s, .string sep, .int .i64 n] w fun e w' =>
      e = .returned (.slice (some ⟨w.heap.size, 0, none⟩) (Lib.splitB sep 0 (min n (s.size + 1) - 1) s).length (min n (s.size + 1))) ∧ w' = w.alloc (.cells (Lib.cellsOf (Lib.splitB sep 0 (min n (s.size + 1) - 1) s) (min n (s.size + 1))) 9) := Any.strings_SplitN Tryd.lays147 (by kernel_rfl) s sep n m w hs hm h1 hn hn63
end Go.Proofs.YtkjibcnddknbjaaDoor
/- Chapter 7: the text of the program's picture. -/
namespace Go.Proofs.YtkjibcnddknbjaaDoor
open Go.ChangeShapes Go.WideShapes Go.ChangeAt Go.RowKit Go.Maps

/-- The text, as far as the first k places. -/
def txP (W : Nat) (d : Nat → Bool) : Nat → List UInt8
  | 0 => []
  | k + 1 => txP W d k ++ (if k % W = 0 ∧ 0 < k / W then [47] else []) ++ [sgn (d k)]
theorem txP_len (W : Nat) (d : Nat → Bool) (k : Nat) : (txP W d k).length ≤ 2 * k := by
  induction k with
  | zero => simp [txP]
  | succ k ih =>
    rw [txP]
    simp only [List.length_append, List.length_singleton]
    split <;> simp <;> omega
theorem txP_row (W : Nat) (d : Nat → Bool) (y : Nat) (hy : txP W d (y * W) = joinP 47 (gRows W y d)) (x : Nat) (hx : x < W) : txP W d (y * W + (x + 1)) = joinP 47 (gRows W y d ++ [(List.range (x + 1)).map fun i => sgn (d (y * W + i))]) := by
  induction x with
  | zero =>
    rw [Nat.zero_add, txP, hy, ← Nat.add_zero (y * W), place_x (x := 0) hx, place_y (x := 0) hx]
    rcases Nat.eq_zero_or_pos y with rfl | h
    · simp [gRows, joinP]
    · rw [if_pos ⟨rfl, h⟩, joinP_snoc _ _ _ (fun e => by have := gRows_len W y d; rw [e] at this; simp at this; omega)]
      simp
  | succ x ih =>
    rw [← Nat.add_assoc, txP, ih (by omega), place_x (x := x + 1) hx, if_neg (by omega), List.append_nil, List.range_succ (n := x + 1), List.map_append, ← joinP_ext]
    rfl
theorem txP_rows (W : Nat) (d : Nat → Bool) (hW : 1 ≤ W) (y : Nat) : txP W d (y * W) = joinP 47 (gRows W y d) := by
  induction y with
  | zero => simp [txP, gRows, joinP]
  | succ y ih =>
    have h := txP_row W d y ih (W - 1) (by omega)
    rw [show W - 1 + 1 = W by omega] at h
    rw [Nat.succ_mul, h]
    congr 1
    simp [gRows, List.range_succ, gRow]
theorem txP_all (W H : Nat) (d : Nat → Bool) (hW : 1 ≤ W) : txP W d (W * H) = gText W H d := by
  rw [Nat.mul_comm, txP_rows W d hW]
  rfl
theorem Bdr.below {w w' : World} {B b : Nat} {bs : List UInt8} (h : Bdr w B b bs) (hb : Below w.heap.size w w') : Bdr w' B b bs := by
  have hg := grown_of_below hb (Nat.le_refl _)
  have key : ∀ p, Lib.BuilderAtF 51 5 B b p (Lib.byteCells bs) w → Lib.BuilderAtF 51 5 B b p (Lib.byteCells bs) w' := by
    rintro p ⟨hB, v, hh, ho, hn⟩
    have hlt : b < w.heap.size := (Array.getElem?_eq_some_iff.1 hh).1
    exact ⟨hB, v, (hb.block b hlt).trans hh, ho.kept hg (by cases hv : v.ownBlock <;> simp), hn⟩
  exact h.elim (fun h => .inl (key _ h)) (fun h => .inr (key _ h))
theorem oth_row {w w' : World} {b base n : Nat} {v : Value} {cs : List Value} {e size : Nat} (h : w.ownsRow base e size v n cs) (hk : Oth w w' b) (he : e ≠ 5) (hb : b < base) : w'.ownsRow base e size v n cs := by
  obtain ⟨h1, h2⟩ := h
  refine ⟨h1, h2.imp id ?_⟩
  rintro ⟨g, cap, cur, hv, hg, hh, r⟩
  exact ⟨g, cap, cur, hv, hg, hk g _ hh (by simp; omega) (by intro c fz e1; cases e1; exact he rfl), r⟩
theorem oth_cell {w w' : World} {b g j : Nat} {cs : Array Value} {t : TypeId} {fr : Nat × Nat} {v : Value} (h : w.heap[g]? = some (.cells cs t fr)) (hk : Oth w w' b) (ht : t ≠ 5) (hb : g ≠ b) (hv : cs[j]? = some v) : w'.cell? ⟨g, j, none⟩ = some v := by
  have h2 := hk g _ h (by simp; exact hb) (by intro c fz e1; cases e1; exact ht rfl)
  rw [Lib.cell_of_heap h2]
  exact hv
theorem writeO (B b : Nat) (bs : List UInt8) (w : World) (h : Bdr w B b bs) (hl : bs.length ≤ 100000) (hBw : B ≤ w.heap.size) :
    Calls Tryd.prog 26 #[.pointer (some ⟨b, 0, none⟩), .int .u8 111] w fun e w' => e = .returned .nilIface ∧ Bdr w' B b (bs ++ [sgn true]) ∧ Below B w w' ∧ Oth w w' b := writeByte_any B b bs 111 w h hl hBw
theorem writeE (B b : Nat) (bs : List UInt8) (w : World) (h : Bdr w B b bs) (hl : bs.length ≤ 100000) (hBw : B ≤ w.heap.size) :
    Calls Tryd.prog 26 #[.pointer (some ⟨b, 0, none⟩), .int .u8 46] w fun e w' => e = .returned .nilIface ∧ Bdr w' B b (bs ++ [sgn false]) ∧ Below B w w' ∧ Oth w w' b := writeByte_any B b bs 46 w h hl hBw
theorem writeB (B b : Nat) (bs : List UInt8) (w : World) (h : Bdr w B b bs) (hl : bs.length ≤ 100000) (hBw : B ≤ w.heap.size) :
    Calls Tryd.prog 24 #[.pointer (some ⟨b, 0, none⟩), .string ⟨#[47]⟩] w fun e w' => e = .returned (.tuple #[.int .i64 1, .nilIface]) ∧ Bdr w' B b (bs ++ [47]) ∧ Below B w w' ∧ Oth w w' b := writeString_any B b bs ⟨#[47]⟩ w h hl (by decide) hBw
theorem infoNe8 : 47 ≠ 5 := by decide
set_option maxRecDepth 8000 in
set_option maxHeartbeats 3200000 in
theorem text_any (W H n b : Nat) (S : Int → Int → Bool) (w : World) (h : Ds w b S) (hn : n = W * H) (w0 : 1 ≤ W) (w1 : W ≤ 50) (hH : H ≤ 50) :
    Calls Tryd.prog 17 #[.agg #[.int .i64 (W : Int), .int .i64 (H : Int), .map (some b)]] w fun e w' => e = .returned (.string (bt (sT W H S))) ∧ Below w.heap.size w w' := by
  have hbl := h.lt
  have HFIN : Hid (txP W (sD W S) n = sT W H S) := Lib.hid (by rw [hn]; exact txP_all W H _ w0)
  have HLEN := Lib.hid fun k => txP_len W (sD W S) k
  have hn2 : n ≤ 2500 := by rw [hn]; exact Nat.mul_le_mul (n₁ := W) (n₂ := 50) (m₁ := H) (m₂ := 50) w1 hH
  have HPL := Lib.hid fun w => places_any W H n b w hn (by omega) (by omega)
  have HPA : Hid (∀ k, k < n → (prs (plcs W n))[2 * k]? = some (.int .i64 ((k % W : Nat) : Int)) ∧ (prs (plcs W n))[2 * k + 1]? = some (.int .i64 ((k / W : Nat) : Int))) := Lib.hid fun k h => by
    have := prs_get (plcs W n) k (by rw [plcs_len]; exact h)
    rw [plcs_at W n k h] at this
    exact this
  have HPN : Hid (0 < n → 0 < (prs (plcs W n)).length) := Lib.hid fun h => by rw [prs_len, plcs_len]; omega
  have HST : Hid (∀ k, k < n → txP W (sD W S) (k + 1) = txP W (sD W S) k ++ (if k % W = 0 ∧ 0 < k / W then [47] else []) ++ [sgn (S ((k % W : Nat) : Int) ((k / W : Nat) : Int))]) := Lib.hid fun k _ => rfl
  have HXY : Hid (∀ k, k < n → k % W < 50 ∧ k / W < 50) := Lib.hid fun k hk => by
    obtain ⟨h1, h2, _⟩ := place_of (W := W) (H := H) (i := k) (by rw [← hn]; exact hk)
    omega
  have HT0 : Hid (txP W (sD W S) 0 = []) := Lib.hid rfl
  have HH := Lib.hid h
  clear h hn
  generalize sT W H S = t at *
  generalize txP W (sD W S) = tx at *
  generalize prs (plcs W n) = pl at *
  have hW0 : Bdr ((w.alloc (.cells #[.int .i64 (W : Int), .int .i64 (H : Int), .map (some b)] 34)).alloc (.cells #[.pointer none, .slice none 0 0] 51)) (w.heap.size + 1) (w.heap.size + 1) [] := by
    have := Lib.IsBuilderF.of (Lib.fresh_isBuilder 51 5 (w.alloc (.cells #[.int .i64 (W : Int), .int .i64 (H : Int), .map (some b)] 34)))
    rw [show (w.alloc (.cells #[.int .i64 (W : Int), .int .i64 (H : Int), .map (some b)] 34)).heap.size = w.heap.size + 1 by simp] at this
    exact this
  go_enter Tryd.func17, Tryd.ntmps17
  go_wp2_with (go_at_call 23; refine (HPL.out _).mono ?_; rintro e wp ⟨⟨A, c, base, rfl, hbase, hrow⟩, hbp⟩)
  have hz0 : ((w.alloc (.cells #[.int .i64 (W : Int), .int .i64 (H : Int), .map (some b)] 34)).alloc (.cells #[.pointer none, .slice none 0 0] 51)).heap.size = w.heap.size + 1 + 1 := by simp
  have hb0 : Below w.heap.size w ((w.alloc (.cells #[.int .i64 (W : Int), .int .i64 (H : Int), .map (some b)] 34)).alloc (.cells #[.pointer none, .slice none 0 0] 51)) := ((Below.refl _ _).alloc (Nat.le_refl _) _).alloc (by simp) _
  have HB := Lib.hid (hb0.trans (hbp.mono hb0.size))
  have m0 : wp.cell? ⟨w.heap.size, 2, none⟩ = some (.map (some b)) := (hbp.cell (p := ⟨w.heap.size, 2, none⟩) (by simp; omega)).trans (by simp [go_sem])
  have HBD := Lib.hid (hW0.below hbp)
  have HD := Lib.hid (((HH.out.alloc (.cells #[.int .i64 (W : Int), .int .i64 (H : Int), .map (some b)] 34)).alloc (.cells #[.pointer none, .slice none 0 0] 51)).below hbp)
  have HRW := Lib.hid hrow
  rw [hz0] at hbase
  have hzp : w.heap.size + 2 ≤ wp.heap.size := by have := hbp.size; omega
  clear hb0 hbp hrow hW0 HH HPL hz0
  go_loopw [9] (fun i wr => ∃ k : Nat, k ≤ n ∧ i = .int .i64 (k : Int) ∧ Hid (Bdr wr (w.heap.size + 1) (w.heap.size + 1) (tx k)) ∧ Hid (wr.ownsRow base 47 2 (.slice A n c) n pl) ∧ Hid (Below (w.heap.size + 1) wp wr)) (fun i _ => n - (intOf i).toNat)
  case atStart => exact ⟨0, by omega, by simp, by rw [HT0.out]; exact HBD, HRW, Lib.hid (Below.refl _ _)⟩
  case round =>
    obtain ⟨k, hk, rfl, HBk, HRk, HWk⟩ := hrel
    have hzr : wp.heap.size ≤ wr.heap.size := HWk.out.size
    by_cases hlt : k < n
    · have hlt2 : (k : Int) < (n : Int) := by omega
      have hp := HPA.out k hlt
      obtain ⟨g, o, rfl, hg0, hg1, hcs⟩ := own_of_row HRk.out (HPN.out (by omega))
      have s0 := (hcs _ _ hp.1).1
      have s1 := (hcs _ _ hp.2).1
      rw [Nat.mul_comm 2 k] at s0 s1
      rw [← Nat.add_assoc] at s1
      have m1 : wr.cell? ⟨w.heap.size, 2, none⟩ = some (.map (some b)) := (HWk.out.cell (p := ⟨w.heap.size, 2, none⟩) (by simp)).trans m0
      have m1a := fun ob => cell_old m1 ob
      have hst := HST.out k hlt
      have hxy := HXY.out k hlt
      have hln := HLEN.out k
      have HDk := Lib.hid (HD.out.below2 HWk.out (by omega))
      have hcond : (k % W = 0 ∧ 0 < k / W) ↔ (((k % W : Nat) : Int) = 0 ∧ 0 < ((k / W : Nat) : Int)) := by
        generalize k % W = x
        generalize k / W = y
        omega
      have hX0 : 0 ≤ ((k % W : Nat) : Int) ∧ ((k % W : Nat) : Int) < 50 ∧ 0 ≤ ((k / W : Nat) : Int) ∧ ((k / W : Nat) : Int) < 50 := by
        generalize k % W = x at *
        generalize k / W = y at *
        omega
      simp only [hcond] at hst
      generalize ((k % W : Nat) : Int) = x at *
      generalize ((k / W : Nat) : Int) = y at *
      have HHAS := Lib.hid fun V (hd : Ds V b S) => has_any b S x y V hd (wf2_of (by omega) (by omega) (by omega) (by omega))
      clear hp hcs hcond hxy
      by_cases hsep : x = 0 ∧ 0 < y
      · obtain ⟨rfl, hy⟩ := hsep
        rw [if_pos ⟨rfl, hy⟩] at hst
        have HSK := Lib.hid hst
        clear hst
        cases hc : S 0 y with
        | true =>
          rw [hc] at HHAS HSK
          clear hc
          have HW1 := Lib.hid (HWk.out.alloc (by omega) (.cells #[.int .i64 0, .int .i64 y] 47))
          have HBx := Lib.hid (HBk.out.below ((Below.refl _ _).alloc (Nat.le_refl _) (.cells #[.int .i64 0, .int .i64 y] 47)))
          have HRx := Lib.hid (HRk.out.alloc (.cells #[.int .i64 0, .int .i64 y] 47))
          have HDx := Lib.hid (HDk.out.alloc (.cells #[.int .i64 0, .int .i64 y] 47))
          go_wp2_with (first
            | (go_at_call 24; refine (writeB _ _ _ _ HBx.out (by omega) (by simp; omega)).mono ?_; rintro e w2 ⟨rfl, hB2, hb2, hk2⟩; have HBy := Lib.hid hB2; have HRy := Lib.hid (oth_row HRx.out hk2 infoNe8 (by omega)); have HDy := Lib.hid (HDx.out.below2 hb2 (by omega)); have HW2 := Lib.hid (HW1.out.trans hb2); have m2 := (hb2.cell (p := ⟨w.heap.size, 2, none⟩) (by simp)).trans (m1a (.cells #[.int .i64 0, .int .i64 y] 47)); have e0 := oth_cell (j := 0) (v := .int .i64 0) (MapKept.heap_alloc wr (.cells #[.int .i64 0, .int .i64 y] 47)).1 hk2 infoNe8 (by omega) rfl; have e1 := oth_cell (j := 1) (v := .int .i64 y) (MapKept.heap_alloc wr (.cells #[.int .i64 0, .int .i64 y] 47)).1 hk2 infoNe8 (by omega) rfl; clear hB2 hb2 hk2)
            | (go_at_call 25; refine (HHAS.out _ HDy.out).mono ?_; rintro e w3 ⟨rfl, hb3⟩; have HBz := Lib.hid (HBy.out.below hb3); have HRz := Lib.hid (row_below HRy.out hb3 (Nat.le_refl _)); have hz3 := HW2.out.size; have HW3 := Lib.hid (HW2.out.trans (hb3.mono (by omega))); clear hb3)
            | (go_at_call 26; refine (writeO _ _ _ _ HBz.out (by (try simp); omega) (by have := HW3.out.size; omega)).mono ?_; rintro e w4 ⟨rfl, hB4, hb4, hk4⟩; have HB4 := Lib.hid hB4; have HR4 := Lib.hid (oth_row HRz.out hk4 infoNe8 (by omega)); have HW4 := Lib.hid (HW3.out.trans hb4); clear hB4 hb4 hk4))
          go_wp2
          go_roundw
          case rel => exact ⟨k + 1, by omega, by go_num, by rw [HSK.out]; exact HB4, HR4, HW4⟩
          case measure => simp [intOf]; omega
        | false =>
          rw [hc] at HHAS HSK
          clear hc
          have HW1 := Lib.hid (HWk.out.alloc (by omega) (.cells #[.int .i64 0, .int .i64 y] 47))
          have HBx := Lib.hid (HBk.out.below ((Below.refl _ _).alloc (Nat.le_refl _) (.cells #[.int .i64 0, .int .i64 y] 47)))
          have HRx := Lib.hid (HRk.out.alloc (.cells #[.int .i64 0, .int .i64 y] 47))
          have HDx := Lib.hid (HDk.out.alloc (.cells #[.int .i64 0, .int .i64 y] 47))
          go_wp2_with (first
            | (go_at_call 24; refine (writeB _ _ _ _ HBx.out (by omega) (by simp; omega)).mono ?_; rintro e w2 ⟨rfl, hB2, hb2, hk2⟩; have HBy := Lib.hid hB2; have HRy := Lib.hid (oth_row HRx.out hk2 infoNe8 (by omega)); have HDy := Lib.hid (HDx.out.below2 hb2 (by omega)); have HW2 := Lib.hid (HW1.out.trans hb2); have m2 := (hb2.cell (p := ⟨w.heap.size, 2, none⟩) (by simp)).trans (m1a (.cells #[.int .i64 0, .int .i64 y] 47)); have e0 := oth_cell (j := 0) (v := .int .i64 0) (MapKept.heap_alloc wr (.cells #[.int .i64 0, .int .i64 y] 47)).1 hk2 infoNe8 (by omega) rfl; have e1 := oth_cell (j := 1) (v := .int .i64 y) (MapKept.heap_alloc wr (.cells #[.int .i64 0, .int .i64 y] 47)).1 hk2 infoNe8 (by omega) rfl; clear hB2 hb2 hk2)
            | (go_at_call 25; refine (HHAS.out _ HDy.out).mono ?_; rintro e w3 ⟨rfl, hb3⟩; have HBz := Lib.hid (HBy.out.below hb3); have HRz := Lib.hid (row_below HRy.out hb3 (Nat.le_refl _)); have hz3 := HW2.out.size; have HW3 := Lib.hid (HW2.out.trans (hb3.mono (by omega))); clear hb3)
            | (go_at_call 26; refine (writeE _ _ _ _ HBz.out (by (try simp); omega) (by have := HW3.out.size; omega)).mono ?_; rintro e w4 ⟨rfl, hB4, hb4, hk4⟩; have HB4 := Lib.hid hB4; have HR4 := Lib.hid (oth_row HRz.out hk4 infoNe8 (by omega)); have HW4 := Lib.hid (HW3.out.trans hb4); clear hB4 hb4 hk4))
          go_wp2
          go_roundw
          case rel => exact ⟨k + 1, by omega, by go_num, by rw [HSK.out]; exact HB4, HR4, HW4⟩
          case measure => simp [intOf]; omega
      · rw [if_neg hsep] at hst
        have HSK := Lib.hid hst
        clear hst
        by_cases hx : x = 0
        · subst hx
          obtain rfl : y = 0 := by
            rcases Int.lt_or_le 0 y with hl | hl
            · exact absurd ⟨rfl, hl⟩ hsep
            · omega
          cases hc : S 0 0 with
          | true =>
            rw [hc] at HHAS HSK
            clear hc
            have HW1 := Lib.hid (HWk.out.alloc (by omega) (.cells #[.int .i64 0, .int .i64 0] 47))
            have HBx := Lib.hid (HBk.out.below ((Below.refl _ _).alloc (Nat.le_refl _) (.cells #[.int .i64 0, .int .i64 0] 47)))
            have HRx := Lib.hid (HRk.out.alloc (.cells #[.int .i64 0, .int .i64 0] 47))
            have HDx := Lib.hid (HDk.out.alloc (.cells #[.int .i64 0, .int .i64 0] 47))
            have HBy := HBx
            have HRy := HRx
            have HDy := HDx
            have HW2 := HW1
            go_wp2_with (first
              | (go_at_call 25; refine (HHAS.out _ HDy.out).mono ?_; rintro e w3 ⟨rfl, hb3⟩; have HBz := Lib.hid (HBy.out.below hb3); have HRz := Lib.hid (row_below HRy.out hb3 (Nat.le_refl _)); have hz3 := HW2.out.size; have HW3 := Lib.hid (HW2.out.trans (hb3.mono (by omega))); clear hb3)
              | (go_at_call 26; refine (writeO _ _ _ _ HBz.out (by (try simp); omega) (by have := HW3.out.size; omega)).mono ?_; rintro e w4 ⟨rfl, hB4, hb4, hk4⟩; have HB4 := Lib.hid hB4; have HR4 := Lib.hid (oth_row HRz.out hk4 infoNe8 (by omega)); have HW4 := Lib.hid (HW3.out.trans hb4); clear hB4 hb4 hk4))
            go_wp2
            go_roundw
            case rel => exact ⟨k + 1, by omega, by go_num, by rw [HSK.out, List.append_nil]; exact HB4, HR4, HW4⟩
            case measure => simp [intOf]; omega
          | false =>
            rw [hc] at HHAS HSK
            clear hc
            have HW1 := Lib.hid (HWk.out.alloc (by omega) (.cells #[.int .i64 0, .int .i64 0] 47))
            have HBx := Lib.hid (HBk.out.below ((Below.refl _ _).alloc (Nat.le_refl _) (.cells #[.int .i64 0, .int .i64 0] 47)))
            have HRx := Lib.hid (HRk.out.alloc (.cells #[.int .i64 0, .int .i64 0] 47))
            have HDx := Lib.hid (HDk.out.alloc (.cells #[.int .i64 0, .int .i64 0] 47))
            have HBy := HBx
            have HRy := HRx
            have HDy := HDx
            have HW2 := HW1
            go_wp2_with (first
              | (go_at_call 25; refine (HHAS.out _ HDy.out).mono ?_; rintro e w3 ⟨rfl, hb3⟩; have HBz := Lib.hid (HBy.out.below hb3); have HRz := Lib.hid (row_below HRy.out hb3 (Nat.le_refl _)); have hz3 := HW2.out.size; have HW3 := Lib.hid (HW2.out.trans (hb3.mono (by omega))); clear hb3)
              | (go_at_call 26; refine (writeE _ _ _ _ HBz.out (by (try simp); omega) (by have := HW3.out.size; omega)).mono ?_; rintro e w4 ⟨rfl, hB4, hb4, hk4⟩; have HB4 := Lib.hid hB4; have HR4 := Lib.hid (oth_row HRz.out hk4 infoNe8 (by omega)); have HW4 := Lib.hid (HW3.out.trans hb4); clear hB4 hb4 hk4))
            go_wp2
            go_roundw
            case rel => exact ⟨k + 1, by omega, by go_num, by rw [HSK.out, List.append_nil]; exact HB4, HR4, HW4⟩
            case measure => simp [intOf]; omega
        · have hxb : (x == 0) = false := by simpa using hx
          cases hc : S x y with
          | true =>
            rw [hc] at HHAS HSK
            clear hc
            have HW1 := Lib.hid (HWk.out.alloc (by omega) (.cells #[.int .i64 x, .int .i64 y] 47))
            have HBx := Lib.hid (HBk.out.below ((Below.refl _ _).alloc (Nat.le_refl _) (.cells #[.int .i64 x, .int .i64 y] 47)))
            have HRx := Lib.hid (HRk.out.alloc (.cells #[.int .i64 x, .int .i64 y] 47))
            have HDx := Lib.hid (HDk.out.alloc (.cells #[.int .i64 x, .int .i64 y] 47))
            have HBy := HBx
            have HRy := HRx
            have HDy := HDx
            have HW2 := HW1
            go_wp2_with (first
              | (go_at_call 25; refine (HHAS.out _ HDy.out).mono ?_; rintro e w3 ⟨rfl, hb3⟩; have HBz := Lib.hid (HBy.out.below hb3); have HRz := Lib.hid (row_below HRy.out hb3 (Nat.le_refl _)); have hz3 := HW2.out.size; have HW3 := Lib.hid (HW2.out.trans (hb3.mono (by omega))); clear hb3)
              | (go_at_call 26; refine (writeO _ _ _ _ HBz.out (by (try simp); omega) (by have := HW3.out.size; omega)).mono ?_; rintro e w4 ⟨rfl, hB4, hb4, hk4⟩; have HB4 := Lib.hid hB4; have HR4 := Lib.hid (oth_row HRz.out hk4 infoNe8 (by omega)); have HW4 := Lib.hid (HW3.out.trans hb4); clear hB4 hb4 hk4))
            go_wp2
            go_roundw
            case rel => exact ⟨k + 1, by omega, by go_num, by rw [HSK.out, List.append_nil]; exact HB4, HR4, HW4⟩
            case measure => simp [intOf]; omega
          | false =>
            rw [hc] at HHAS HSK
            clear hc
            have HW1 := Lib.hid (HWk.out.alloc (by omega) (.cells #[.int .i64 x, .int .i64 y] 47))
            have HBx := Lib.hid (HBk.out.below ((Below.refl _ _).alloc (Nat.le_refl _) (.cells #[.int .i64 x, .int .i64 y] 47)))
            have HRx := Lib.hid (HRk.out.alloc (.cells #[.int .i64 x, .int .i64 y] 47))
            have HDx := Lib.hid (HDk.out.alloc (.cells #[.int .i64 x, .int .i64 y] 47))
            have HBy := HBx
            have HRy := HRx
            have HDy := HDx
            have HW2 := HW1
            go_wp2_with (first
              | (go_at_call 25; refine (HHAS.out _ HDy.out).mono ?_; rintro e w3 ⟨rfl, hb3⟩; have HBz := Lib.hid (HBy.out.below hb3); have HRz := Lib.hid (row_below HRy.out hb3 (Nat.le_refl _)); have hz3 := HW2.out.size; have HW3 := Lib.hid (HW2.out.trans (hb3.mono (by omega))); clear hb3)
              | (go_at_call 26; refine (writeE _ _ _ _ HBz.out (by (try simp); omega) (by have := HW3.out.size; omega)).mono ?_; rintro e w4 ⟨rfl, hB4, hb4, hk4⟩; have HB4 := Lib.hid hB4; have HR4 := Lib.hid (oth_row HRz.out hk4 infoNe8 (by omega)); have HW4 := Lib.hid (HW3.out.trans hb4); clear hB4 hb4 hk4))
            go_wp2
            go_roundw
            case rel => exact ⟨k + 1, by omega, by go_num, by rw [HSK.out, List.append_nil]; exact HB4, HR4, HW4⟩
            case measure => simp [intOf]; omega
    · obtain rfl : k = n := by omega
      rw [HFIN.out] at HBk
      go_wp2_with (go_at_call 27; refine (Tryd.Builder_String_any_k _ _ _ _ HBk.out (by omega)).mono ?_; rintro e w5 ⟨rfl, _, hb5, _⟩)
      go_ret
      exact ⟨rfl, HB.out.trans ((HWk.out.trans hb5).mono (Nat.le_succ _))⟩
end Go.Proofs.YtkjibcnddknbjaaDoor
