/- Chapter 9, by the specification: puzzles that are made. -/
import Derived.Test.YtmpajeldfbchhaaTgH
import Derived.Deep.Cut
namespace Go.Proofs.Ytmpajeldfbchhaa
open Go.ChangeShapes Go.WideShapes Go.ChangeAt Go.RowKit

/-- The next one of the numbers. -/
def nx9 (z : Nat) : Nat := (z * 191 + 2719) % 10007
theorem nx9_lt (z : Nat) : nx9 z ≤ 10006 := by
  unfold nx9
  have := Nat.mod_lt (z * 191 + 2719) (show 0 < 10007 by omega)
  omega
theorem nx9_run (z : Nat) (h : z ≤ 10007) : IntKind.i64.wrap ((z : Int) * 191) = (z : Int) * 191 ∧ IntKind.i64.wrap ((z : Int) * 191 + 2719) = (z : Int) * 191 + 2719 ∧ ((z : Int) * 191 + 2719).tmod 10007 = ((nx9 z : Nat) : Int) ∧ IntKind.i64.wrap ((nx9 z : Nat) : Int) = ((nx9 z : Nat) : Int) := by
  refine ⟨IntWalk.i64_in _ (by omega), IntWalk.i64_in _ (by omega), ?_, IntWalk.i64_in _ (by have := nx9_lt z; omega)⟩
  rw [Int.tmod_eq_emod_of_nonneg (by omega)]
  unfold nx9
  omega
theorem mod9_run (z m : Nat) (h : z ≤ 10007) (_hm : 0 < m) : (z : Int).tmod (m : Int) = ((z % m : Nat) : Int) ∧ IntKind.i64.wrap ((z % m : Nat) : Int) = ((z % m : Nat) : Int) := by
  refine ⟨by rw [Int.tmod_eq_emod_of_nonneg (by omega)]; rfl, IntWalk.i64_in _ (by have := Nat.mod_le z m; omega)⟩
/-- A clue that a number fits, and the number behind it. -/
noncomputable def mkc9 (n z : Nat) : Clu × Nat :=
  if nx9 z % 3 = 0 then (⟨2, ((nx9 (nx9 z) % 11 + 2 : Nat) : Int), ((n % (nx9 (nx9 z) % 11 + 2) : Nat) : Int)⟩, nx9 (nx9 z))
  else if nx9 z % 3 = 1 then (⟨3, ((dig9 n : Nat) : Int), 0⟩, nx9 z)
  else (⟨if shp9 ((nx9 (nx9 z) % 6 + 3 : Nat) : Int) (n : Int) = true then 0 else 1, ((nx9 (nx9 z) % 6 + 3 : Nat) : Int), 0⟩, nx9 (nx9 z))
theorem mkc9_0 (n z : Nat) (h : nx9 z % 3 = 0) : mkc9 n z = (⟨2, ((nx9 (nx9 z) % 11 + 2 : Nat) : Int), ((n % (nx9 (nx9 z) % 11 + 2) : Nat) : Int)⟩, nx9 (nx9 z)) := if_pos h
theorem mkc9_1 (n z : Nat) (h : nx9 z % 3 = 1) : mkc9 n z = (⟨3, ((dig9 n : Nat) : Int), 0⟩, nx9 z) := by
  unfold mkc9
  rw [if_neg (by omega), if_pos h]
theorem mkc9_2 (n z : Nat) (h : nx9 z % 3 = 2) : mkc9 n z = (⟨if shp9 ((nx9 (nx9 z) % 6 + 3 : Nat) : Int) (n : Int) = true then 0 else 1, ((nx9 (nx9 z) % 6 + 3 : Nat) : Int), 0⟩, nx9 (nx9 z)) := by
  unfold mkc9
  rw [if_neg (by omega), if_neg (by omega)]
theorem mkc9_lt (n z : Nat) : (mkc9 n z).2 ≤ 10006 := by
  rcases (by omega : nx9 z % 3 = 0 ∨ nx9 z % 3 = 1 ∨ nx9 z % 3 = 2) with h | h | h
  · rw [mkc9_0 n z h]; exact nx9_lt (nx9 z)
  · rw [mkc9_1 n z h]; exact nx9_lt z
  · rw [mkc9_2 n z h]; exact nx9_lt (nx9 z)
noncomputable def mks9 (n : Nat) : Nat → Nat → List Clu × Nat
  | 0, z => ([], z)
  | k + 1, z => ((mks9 n k z).1 ++ [(mkc9 n (mks9 n k z).2).1], (mkc9 n (mks9 n k z).2).2)
theorem mks9_len (n k z : Nat) : (mks9 n k z).1.length = k := by
  induction k with
  | zero => rfl
  | succ k ih => rw [mks9, List.length_append, ih]; rfl
theorem mks9_lt (n k z : Nat) (h : z ≤ 10006) : (mks9 n k z).2 ≤ 10006 := by
  cases k with
  | zero => exact h
  | succ k => simp only [mks9]; exact mkc9_lt n (mks9 n k z).2
/-- What MakePuzzle hands back. -/
def ResM (ok : Bool) (m : Int) (nn : Int) (ys : List Clu) (w : World) (e : Ending) (w' : World) : Prop :=
  ∃ A c, e = .returned (.tuple #[.agg #[.int .i64 m, .slice A ys.length c], .int .i64 nn, .bool ok]) ∧ Own w' w.heap.size w'.heap.size A (c64 ys) ∧ Below w.heap.size w w'
theorem snoc_c64 (xs : List Clu) (a b c : Int) : c64 xs ++ [.int .i64 a, .int .i64 b, .int .i64 c] = c64 (xs ++ [⟨a, b, c⟩]) := by
  rw [c64_app]
  rfl
/-- A box that holds a puzzle under way. -/
structure Pb9 (w : World) (Q : Nat) (m : Int) (v : Value) (k : Nat) (xs : List Clu) : Prop where
  c0 : w.cell? ⟨Q, 0, none⟩ = some (.int .i64 m)
  c1 : w.cell? ⟨Q, 1, none⟩ = some v
  f1 : w.frozen? ⟨Q, 1, none⟩ = false
  z : Q < w.heap.size
  r : w.ownsRow (Q + 1) 25 3 v k (c64 xs)
theorem Pb9.below {w w' : World} {Q : Nat} {m : Int} {v : Value} {k : Nat} {xs : List Clu} (h : Pb9 w Q m v k xs) (hb : Below w.heap.size w w') : Pb9 w' Q m v k xs :=
  ⟨(hb.cell (p := ⟨Q, 0, none⟩) h.z).trans h.c0, (hb.cell (p := ⟨Q, 1, none⟩) h.z).trans h.c1, (hb.frozen (p := ⟨Q, 1, none⟩) h.z).trans h.f1, Nat.lt_of_lt_of_le h.z hb.size, row_below h.r hb (Nat.le_refl _)⟩
theorem row_set9 {w : World} {base g o n s : Nat} {t : TypeId} {v : Value} {cs : List Value} (h : w.ownsRow base t s v n cs) (hg : g < base) (u : Value) : (w.setCell ⟨g, o, none⟩ u).ownsRow base t s v n cs := by
  have hb : Below g w (w.setCell ⟨g, o, none⟩ u) := (Below.refl g w).setCell (Nat.le_refl _) u
  have hk : w.grownBy (w.setCell ⟨g, o, none⟩ u) (some g) := ⟨hb.os, hb.tape, hb.output, hb.size, fun i hi hne => Below.heap_setCell _ _ _ i (fun e => hne (by rw [e]))⟩
  refine h.kept hk ?_
  cases hv : v.ownBlock with
  | none => exact .inl rfl
  | some j =>
    refine .inr fun e => ?_
    have := (h.lt j hv).1
    injection e with e
    omega
/-- One clue more. -/
theorem Pb9.app {w w2 w3 : World} {Q : Nat} {m : Int} {v v' : Value} {k : Nat} {xs : List Clu} (h : Pb9 w Q m v k xs) (hb : Below w.heap.size w w2) {a b c : Int} (ho : w3.ownsRow (Q + 1) 25 3 v' (k + 1) (c64 xs ++ [.int .i64 a, .int .i64 b, .int .i64 c])) (hg : w2.grownBy w3 v.ownBlock) :
    w3.cell? ⟨Q, 1, none⟩ = some v ∧ w3.frozen? ⟨Q, 1, none⟩ = false ∧ Pb9 (w3.setCell ⟨Q, 1, none⟩ v') Q m v' (k + 1) (xs ++ [⟨a, b, c⟩]) := by
  have h2 := h.below hb
  have hne : some Q ≠ v.ownBlock := fun e => by
    have := (h2.r.lt Q e.symm).1
    omega
  have hgb := hg.block Q h2.z hne
  have c0 : w3.cell? ⟨Q, 0, none⟩ = some (.int .i64 m) := (World.cell?_of_block (a := ⟨Q, 0, none⟩) hgb).trans h2.c0
  have c1 : w3.cell? ⟨Q, 1, none⟩ = some v := (World.cell?_of_block (a := ⟨Q, 1, none⟩) hgb).trans h2.c1
  have f1 : w3.frozen? ⟨Q, 1, none⟩ = false := (World.frozen?_of_block (a := ⟨Q, 1, none⟩) hgb).trans h2.f1
  refine ⟨c1, f1, (World.cell?_setCell_other w3 _ _ _ (fun e => by simp at e)).trans c0, World.cell?_setCell_same w3 _ _ c1, by rw [World.frozen?_setCell]; exact f1, ?_, ?_⟩
  · have := hg.size
    simp [World.setCell]
    exact Nat.lt_of_lt_of_le h2.z this
  · rw [← snoc_c64]
    exact row_set9 ho (Nat.lt_succ_self Q) _
theorem betr_out9 {x lo hi : Int} (h : betr x lo hi = true) : lo ≤ x ∧ x ≤ hi := of_decide_eq_true h
set_option maxHeartbeats 1600000 in
theorem spec_MakePuzzle_no (a b c : Int) (w : World) (hno : ((a < 1 ∨ 500 < a) ∨ (b < 0 ∨ 6 < b)) ∨ (c < 0 ∨ 9999 < c)) :
    Calls Try.prog 25 #[.int .i64 a, .int .i64 b, .int .i64 c] w (ResM false 0 0 [] w) := by
  obtain ⟨r0, r1, f0, f1⟩ := Rm.new w 35
  have hb := set2_below9 ((Below.refl _ _).alloc (Nat.le_refl _) (.cells #[.int .i64 0, .slice none 0 0] 35)) (Nat.le_refl w.heap.size) (.int .i64 0) (.slice none 0 0)
  by_cases h1 : a < 1 ∨ 500 < a
  · have H1 := Lib.hid (betr_no h1)
    have HB := Lib.hid ((Below.refl w.heap.size w).alloc (Nat.le_refl _) (.cells #[.int .i64 0, .slice none 0 0] 35))
    clear h1 hno hb
    go_enter Try.func25, Try.ntmps25
    go_wp2_with (go_at_call 37; refine (rin_any _ _ _ _).mono ?_; rw [H1.out]; rintro e w' ⟨rfl, rfl⟩)
    exact bodyPost_ret (v := .tuple #[.agg #[.int .i64 0, .slice none 0 0], .int .i64 0, .bool false]) (by simp [results, Try.results25, go_sem]) rfl ⟨none, 0, rfl, Own.none_, HB.out⟩
  · have H1 := Lib.hid (betr_yes (x := a) (lo := 1) (hi := 500) (by omega) (by omega))
    by_cases h2 : b < 0 ∨ 6 < b
    · have H2 := Lib.hid (betr_no h2)
      have HB := Lib.hid ((Below.refl w.heap.size w).alloc (Nat.le_refl _) (.cells #[.int .i64 0, .slice none 0 0] 35))
      clear h1 hno hb h2
      go_enter Try.func25, Try.ntmps25
      go_wp2_with (go_at_call 37; refine (rin_any _ _ _ _).mono ?_; (first | rw [H1.out] | rw [H2.out]); rintro e w' ⟨rfl, rfl⟩)
      exact bodyPost_ret (v := .tuple #[.agg #[.int .i64 0, .slice none 0 0], .int .i64 0, .bool false]) (by simp [results, Try.results25, go_sem]) rfl ⟨none, 0, rfl, Own.none_, HB.out⟩
    · have H2 := Lib.hid (betr_yes (x := b) (lo := 0) (hi := 6) (by omega) (by omega))
      have H3 := Lib.hid (betr_no (x := c) (lo := 0) (hi := 9999) (by omega))
      have HB := Lib.hid ((Below.refl w.heap.size w).alloc (Nat.le_refl _) (.cells #[.int .i64 0, .slice none 0 0] 35))
      clear h1 hno hb h2
      go_enter Try.func25, Try.ntmps25
      go_wp2_with (go_at_call 37; refine (rin_any _ _ _ _).mono ?_; (first | rw [H1.out] | rw [H2.out] | rw [H3.out]); rintro e w' ⟨rfl, rfl⟩)
      exact bodyPost_ret (v := .tuple #[.agg #[.int .i64 0, .slice none 0 0], .int .i64 0, .bool false]) (by simp [results, Try.results25, go_sem]) rfl ⟨none, 0, rfl, Own.none_, HB.out⟩
/-! ### made by tgL.py -/
theorem news9 (w : World) (o : Obj) (a b c : Value) (t : TypeId) (f : Nat × Nat) : ∀ j u, [a, b, c][j]? = some u → (((w.alloc o).alloc (.cells #[a, b, c] t f))).cell? ((⟨w.heap.size + 1, 0, none⟩ : Addr).add j) = some u := by
  intro j u hu
  have z : (w.alloc o).heap.size = w.heap.size + 1 := by simp
  rw [← z]
  exact World.news_of_block (heap_alloc_new _ _) j u hu
theorem one9 (a b c : Int) : ∀ u ∈ [Value.int .i64 a, .int .i64 b, .int .i64 c], u.oneCell' = true := by
  intro u hu
  simp at hu
  rcases hu with rfl | rfl | rfl <;> rfl
theorem Rm.grown9 {w0 wr w3 : World} {m : Int} {v : Value} {k : Nat} {xs : List Clu} (h : Rm wr w0.heap.size) (hp : Pb9 wr (w0.heap.size + 1) m v k xs) {o o' : Obj} (hg : ((wr.alloc o).alloc o').grownBy w3 v.ownBlock) : Rm w3 w0.heap.size := by
  have hb := (((Below.refl wr.heap.size wr).alloc (Nat.le_refl _) o).alloc (by simp) o')
  refine (h.below hb (by have := hp.z; omega)).below ((Below.refl (w0.heap.size + 1) _).grown hg (by have := hp.z; simp; omega) fun g e => ?_) (Nat.le_refl _)
  have := (hp.r.lt g e).1
  omega
theorem below_grown9 {w0 wr w3 : World} {m : Int} {v : Value} {k : Nat} {xs : List Clu} (h : Below w0.heap.size w0 wr) (hp : Pb9 wr (w0.heap.size + 1) m v k xs) {o o' : Obj} (hg : ((wr.alloc o).alloc o').grownBy w3 v.ownBlock) : Below w0.heap.size w0 w3 :=
  ((h.alloc h.size o).alloc (by have := h.size; simp; omega) o').grown hg (by have := h.size; simp; omega) fun g e => by
    have := (hp.r.lt g e).1
    omega
theorem app_all9 {w0 wr w3 : World} {m : Int} {v v' : Value} {k : Nat} {xs : List Clu} {a b c : Int} {o o' : Obj} (hp : Pb9 wr (w0.heap.size + 1) m v k xs) (hr : Rm wr w0.heap.size) (hb : Below w0.heap.size w0 wr)
    (ho : w3.ownsRow (w0.heap.size + 1 + 1) 25 3 v' (k + 1) (c64 xs ++ [.int .i64 a, .int .i64 b, .int .i64 c])) (hg : ((wr.alloc o).alloc o').grownBy w3 v.ownBlock) :
    w3.cell? ⟨w0.heap.size + 1, 1, none⟩ = some v ∧ w3.frozen? ⟨w0.heap.size + 1, 1, none⟩ = false ∧ Pb9 (w3.setCell ⟨w0.heap.size + 1, 1, none⟩ v') (w0.heap.size + 1) m v' (k + 1) (xs ++ [⟨a, b, c⟩]) ∧ Rm (w3.setCell ⟨w0.heap.size + 1, 1, none⟩ v') w0.heap.size ∧ Below w0.heap.size w0 (w3.setCell ⟨w0.heap.size + 1, 1, none⟩ v') := by
  obtain ⟨h1, h2, h3⟩ := hp.app (((Below.refl wr.heap.size wr).alloc (Nat.le_refl _) o).alloc (by simp) o') ho hg
  exact ⟨h1, h2, h3, (hr.grown9 hp hg).below ((Below.refl (w0.heap.size + 1) w3).setCell (p := ⟨w0.heap.size + 1, 1, none⟩) (Nat.le_refl _) v') (Nat.le_refl _), (below_grown9 hb hp hg).setCell (p := ⟨w0.heap.size + 1, 1, none⟩) (Nat.le_succ _) v'⟩
set_option maxRecDepth 4000 in
set_option maxHeartbeats 6400000 in
theorem spec_MakePuzzle_yes (M K sd : Nat) (w : World) (h1 : 1 ≤ M) (h2 : M ≤ 500) (h3 : K ≤ 6) (h4 : sd ≤ 9999) :
    Calls Try.prog 25 #[.int .i64 (M : Int), .int .i64 (K : Int), .int .i64 (sd : Int)] w (ResM true (M : Int) ((nx9 sd % M + 1 : Nat) : Int) (mks9 (nx9 sd % M + 1) K (nx9 sd)).1 w) := by
  obtain ⟨i0, hi0, hz0, hz1, hz2⟩ := info_parts infoClue
  have H1 := Lib.hid (betr_yes (x := (M : Int)) (lo := 1) (hi := 500) (by omega) (by omega))
  have H2 := Lib.hid (betr_yes (x := (K : Int)) (lo := 0) (hi := 6) (by omega) (by omega))
  have H3 := Lib.hid (betr_yes (x := (sd : Int)) (lo := 0) (hi := 9999) (by omega) (by omega))
  obtain ⟨s1, s2, s3, s4⟩ := nx9_run sd (by omega)
  have sz := nx9_lt sd
  generalize nx9 sd = Z at *
  obtain ⟨m1, m2⟩ := mod9_run Z M (by omega) h1
  have hlt := Nat.mod_lt Z h1
  obtain ⟨n, hn⟩ : ∃ n, n = Z % M + 1 := ⟨_, rfl⟩
  rw [← hn]
  have m3 : IntKind.i64.wrap (((Z % M : Nat) : Int) + 1) = (n : Int) := by rw [IntWalk.i64_in _ (by omega)]; omega
  have hn5 : n ≤ 500 := by omega
  have hM0 : (M : Int) ≠ 0 := by omega
  have hMb : ((M : Int) == 0) = false := by simp; omega
  generalize Z % M = r at *
  clear hn hlt h4
  have hb1 : Below w.heap.size w ((w.alloc (.cells #[.int .i64 0, .slice none 0 0] 35)).alloc (.cells #[.int .i64 (M : Int), .slice none 0 0] 35)) := ((Below.refl _ _).alloc (Nat.le_refl _) _).alloc (by simp) _
  have hr1 := (Rm.new w 35).below ((Below.refl (w.alloc (.cells #[.int .i64 0, .slice none 0 0] 35)).heap.size _).alloc (Nat.le_refl _) (.cells #[.int .i64 (M : Int), .slice none 0 0] 35)) (by simp)
  have hp1 : Pb9 ((w.alloc (.cells #[.int .i64 0, .slice none 0 0] 35)).alloc (.cells #[.int .i64 (M : Int), .slice none 0 0] 35)) (w.heap.size + 1) (M : Int) (.slice none 0 0) 0 [] :=
    ⟨by simp, by simp, by simp [go_sem], by simp, World.ownsRow_nil _ _ _ _⟩
  have HB1 := Lib.hid hb1
  have HR1 := Lib.hid hr1
  have HP1 := Lib.hid hp1
  clear hb1 hr1 hp1
  go_enter Try.func25, Try.ntmps25
  go_wp2_with (go_at_call 37; refine (rin_any _ _ _ _).mono ?_; (first | rw [H1.out] | rw [H2.out] | rw [H3.out]); rintro e w' ⟨rfl, rfl⟩)
  go_loopw [1, 9] (fun c z wr => ∃ j : Nat, j ≤ K ∧ c = .int .i64 ((K - j : Nat) : Int) ∧ z = .int .i64 (((mks9 n j Z).2 : Nat) : Int) ∧ Hid (∃ v, Pb9 wr (w.heap.size + 1) (M : Int) v j (mks9 n j Z).1) ∧ Hid (Rm wr w.heap.size) ∧ Hid (Below w.heap.size w wr)) (fun c _ _ => (intOf c).toNat)
  case atStart => exact ⟨0, Nat.zero_le _, rfl, rfl, Lib.hid ⟨_, HP1.out⟩, HR1, HB1⟩
  case round =>
    obtain ⟨j, hj, rfl, rfl, HP, HR, HB⟩ := hrel
    clear s1 s2 s3 s4 m1 m2 m3 hM0 hMb
    by_cases hlt : j < K
    · have hz := mks9_lt n j Z sz
      have hs : Hid (mks9 n (j + 1) Z = ((mks9 n j Z).1 ++ [(mkc9 n (mks9 n j Z).2).1], (mkc9 n (mks9 n j Z).2).2)) := Lib.hid rfl
      obtain ⟨v, hp⟩ := HP.out
      generalize (mks9 n j Z).2 = z at *
      generalize (mks9 n j Z).1 = xs at *
      obtain ⟨t1, t2, t3, t4⟩ := nx9_run z (by omega)
      have c0 : (mkc9 n z) = mkc9 n z := rfl
      have HC0 := mkc9_0 n z
      have HC1 := mkc9_1 n z
      have HC2 := mkc9_2 n z
      have hy1 := nx9_lt z
      generalize nx9 z = z1 at *
      obtain ⟨x1, x2⟩ := mod9_run z1 3 (by omega) (by omega)
      have hKj : (0 : Int) < ((K - j : Nat) : Int) := by omega
      have hKj1 : IntKind.i64.wrap (((K - j : Nat) : Int) - 1) = ((K - (j + 1) : Nat) : Int) := by rw [IntWalk.i64_in _ (by omega)]; omega
      have HD := Lib.hid fun W => pzDigits_any n W (by omega)
      have HDL := dig9_le n
      have HPP := Lib.hid hp
      have p1 := hp.c1
      have pz := hp.z
      clear hp HP c0
      rcases (by omega : z1 % 3 = 0 ∨ z1 % 3 = 1 ∨ z1 % 3 = 2) with hq | hq | hq
      · rw [hq] at x1 x2
        have x3 : (z1 : Int).tmod 3 = 0 := x1
        clear x2
        go_upto_region 12 with (go_at_call 47; refine (HD.out _).mono ?_; rintro e w' ⟨rfl, rfl⟩)
        clear t1 t2 t3 t4 x3
        obtain ⟨u1, u2, u3, u4⟩ := nx9_run z1 (by omega)
        have hz2' := nx9_lt z1
        have hC := HC0 hq
        generalize nx9 z1 = z2 at *
        obtain ⟨y1, y2⟩ := mod9_run z2 11 (by omega) (by omega)
        have ylt := Nat.mod_lt z2 (show 0 < 11 by omega)
        have y4 : (z2 : Int).tmod 11 = ((z2 % 11 : Nat) : Int) := y1
        have y3 : IntKind.i64.wrap (((z2 % 11 : Nat) : Int) + 2) = ((z2 % 11 + 2 : Nat) : Int) := by rw [IntWalk.i64_in _ (by omega)]; omega
        obtain ⟨q, hq2⟩ : ∃ q, q = z2 % 11 + 2 := ⟨_, rfl⟩
        rw [← hq2] at hC y3
        have hq3 : 2 ≤ q := by omega
        obtain ⟨n1, n2⟩ := mod9_run n q (by omega) (by omega)
        have q0 : (q : Int) ≠ 0 := by omega
        have q1 : ((q : Int) == 0) = false := by simp; omega
        generalize z2 % 11 = r2 at *
        generalize n % q = r3 at *
        have HCC := Lib.hid hC
        clear HC0 HC1 HC2 x1 y1 hq2 hC
        go_wp2_with (first
          | (go_at_call 47; refine (HD.out _).mono ?_; rintro e w' ⟨rfl, rfl⟩)
          | (go_at_call 48; refine (HS.out _).mono ?_; rintro e w' ⟨rfl, rfl⟩)
          | (at_builtin; refine wpList_append_own _ rfl _ _ 33 rfl (w.heap.size + 1 + 1) 25 i0 (.agg #[.int .i64 0, .int .i64 0, .int .i64 0]) 3 24 Try.underlying33 hi0 hz0 hz1 hz2 rfl (by decide) _ _ _ rfl ((HPP.out.r.alloc _).alloc _) ⟨wr.heap.size + 1, 0, none⟩ 1 1 [.int .i64 2, .int .i64 (q : Int), .int .i64 (r3 : Int)] rfl rfl (news9 wr _ _ _ _ _ _) (one9 _ _ _) (by unfold maxLen; omega) (by omega) (by simp; omega) ?_; intro v' w3 hown' hgrow _; obtain ⟨B', cp', rfl⟩ := row_form hown'; obtain ⟨d1, g1, hpp, hrr, hbb⟩ := app_all9 HPP.out HR.out HB.out hown' hgrow; have HPN := Lib.hid hpp; have HRN := Lib.hid hrr; have HBN := Lib.hid hbb; clear hown' hgrow hpp hrr hbb))
        go_roundw
        case rel => exact ⟨j + 1, by omega, by first | rfl | go_num, by rw [hs.out, HCC.out], Lib.hid ⟨_, by rw [hs.out, HCC.out]; exact HPN.out⟩, HRN, HBN⟩
        case measure => simp [intOf]; omega

      · rw [hq] at x1 x2
        have x3 : (z1 : Int).tmod 3 = 1 := x1
        clear x2
        have hC := HC1 hq
        generalize dig9 n = dg at *
        have HCC := Lib.hid hC
        clear HC0 HC1 HC2 x1 hC
        go_wp2_with (first
          | (go_at_call 47; refine (HD.out _).mono ?_; rintro e w' ⟨rfl, rfl⟩)
          | (go_at_call 48; refine (HS.out _).mono ?_; rintro e w' ⟨rfl, rfl⟩)
          | (at_builtin; refine wpList_append_own _ rfl _ _ 33 rfl (w.heap.size + 1 + 1) 25 i0 (.agg #[.int .i64 0, .int .i64 0, .int .i64 0]) 3 24 Try.underlying33 hi0 hz0 hz1 hz2 rfl (by decide) _ _ _ rfl ((HPP.out.r.alloc _).alloc _) ⟨wr.heap.size + 1, 0, none⟩ 1 1 [.int .i64 3, .int .i64 (dg : Int), .int .i64 0] rfl rfl (news9 wr _ _ _ _ _ _) (one9 _ _ _) (by unfold maxLen; omega) (by omega) (by simp; omega) ?_; intro v' w3 hown' hgrow _; obtain ⟨B', cp', rfl⟩ := row_form hown'; obtain ⟨d1, g1, hpp, hrr, hbb⟩ := app_all9 HPP.out HR.out HB.out hown' hgrow; have HPN := Lib.hid hpp; have HRN := Lib.hid hrr; have HBN := Lib.hid hbb; clear hown' hgrow hpp hrr hbb))
        go_roundw
        case rel => exact ⟨j + 1, by omega, by first | rfl | go_num, by rw [hs.out, HCC.out], Lib.hid ⟨_, by rw [hs.out, HCC.out]; exact HPN.out⟩, HRN, HBN⟩
        case measure => simp [intOf]; omega

      · rw [hq] at x1 x2
        have x3 : (z1 : Int).tmod 3 = 2 := x1
        clear x2
        go_upto_region 16 with (go_at_call 47; refine (HD.out _).mono ?_; rintro e w' ⟨rfl, rfl⟩)
        clear t1 t2 t3 t4 x3
        obtain ⟨u1, u2, u3, u4⟩ := nx9_run z1 (by omega)
        have hz2' := nx9_lt z1
        have hC := HC2 hq
        generalize nx9 z1 = z2 at *
        obtain ⟨y1, y2⟩ := mod9_run z2 6 (by omega) (by omega)
        have ylt := Nat.mod_lt z2 (show 0 < 6 by omega)
        have y4 : (z2 : Int).tmod 6 = ((z2 % 6 : Nat) : Int) := y1
        have y3 : IntKind.i64.wrap (((z2 % 6 : Nat) : Int) + 3) = ((z2 % 6 + 3 : Nat) : Int) := by rw [IntWalk.i64_in _ (by omega)]; omega
        obtain ⟨q, hq2⟩ : ∃ q, q = z2 % 6 + 3 := ⟨_, rfl⟩
        rw [← hq2] at hC y3
        have HS := Lib.hid fun W => pzShape_any (q : Int) (n : Int) W (by omega) (by omega) (by omega)
        generalize z2 % 6 = r2 at *
        clear HC0 HC1 HC2 x1 y1 hq2
        cases hsh : shp9 (q : Int) (n : Int) with
        | true =>
          rw [hsh] at HS hC
          rw [if_pos rfl] at hC
          have HCC := Lib.hid hC
          clear hsh hC
          go_wp2_with (first
            | (go_at_call 47; refine (HD.out _).mono ?_; rintro e w' ⟨rfl, rfl⟩)
            | (go_at_call 48; refine (HS.out _).mono ?_; rintro e w' ⟨rfl, rfl⟩)
            | (at_builtin; refine wpList_append_own _ rfl _ _ 33 rfl (w.heap.size + 1 + 1) 25 i0 (.agg #[.int .i64 0, .int .i64 0, .int .i64 0]) 3 24 Try.underlying33 hi0 hz0 hz1 hz2 rfl (by decide) _ _ _ rfl ((HPP.out.r.alloc _).alloc _) ⟨wr.heap.size + 1, 0, none⟩ 1 1 [.int .i64 0, .int .i64 (q : Int), .int .i64 0] rfl rfl (news9 wr _ _ _ _ _ _) (one9 _ _ _) (by unfold maxLen; omega) (by omega) (by simp; omega) ?_; intro v' w3 hown' hgrow _; obtain ⟨B', cp', rfl⟩ := row_form hown'; obtain ⟨d1, g1, hpp, hrr, hbb⟩ := app_all9 HPP.out HR.out HB.out hown' hgrow; have HPN := Lib.hid hpp; have HRN := Lib.hid hrr; have HBN := Lib.hid hbb; clear hown' hgrow hpp hrr hbb))
          go_roundw
          case rel => exact ⟨j + 1, by omega, by first | rfl | go_num, by rw [hs.out, HCC.out], Lib.hid ⟨_, by rw [hs.out, HCC.out]; exact HPN.out⟩, HRN, HBN⟩
          case measure => simp [intOf]; omega

        | false =>
          rw [hsh] at HS hC
          rw [if_neg (by simp)] at hC
          have HCC := Lib.hid hC
          clear hsh hC
          go_wp2_with (first
            | (go_at_call 47; refine (HD.out _).mono ?_; rintro e w' ⟨rfl, rfl⟩)
            | (go_at_call 48; refine (HS.out _).mono ?_; rintro e w' ⟨rfl, rfl⟩)
            | (at_builtin; refine wpList_append_own _ rfl _ _ 33 rfl (w.heap.size + 1 + 1) 25 i0 (.agg #[.int .i64 0, .int .i64 0, .int .i64 0]) 3 24 Try.underlying33 hi0 hz0 hz1 hz2 rfl (by decide) _ _ _ rfl ((HPP.out.r.alloc _).alloc _) ⟨wr.heap.size + 1, 0, none⟩ 1 1 [.int .i64 1, .int .i64 (q : Int), .int .i64 0] rfl rfl (news9 wr _ _ _ _ _ _) (one9 _ _ _) (by unfold maxLen; omega) (by omega) (by simp; omega) ?_; intro v' w3 hown' hgrow _; obtain ⟨B', cp', rfl⟩ := row_form hown'; obtain ⟨d1, g1, hpp, hrr, hbb⟩ := app_all9 HPP.out HR.out HB.out hown' hgrow; have HPN := Lib.hid hpp; have HRN := Lib.hid hrr; have HBN := Lib.hid hbb; clear hown' hgrow hpp hrr hbb))
          go_roundw
          case rel => exact ⟨j + 1, by omega, by first | rfl | go_num, by rw [hs.out, HCC.out], Lib.hid ⟨_, by rw [hs.out, HCC.out]; exact HPN.out⟩, HRN, HBN⟩
          case measure => simp [intOf]; omega

    · obtain rfl : j = K := by omega
      have HL := Lib.hid (mks9_len n j Z)
      obtain ⟨v, hp⟩ := HP.out
      generalize (mks9 n j Z).1 = xs at *
      obtain ⟨B, d, rfl⟩ := row_form hp.r
      obtain ⟨r0, r1, f0, f1⟩ := HR.out
      have p0 := hp.c0
      have p1 := hp.c1
      have HO := Lib.hid (own_of_row hp.r)
      have HBf := Lib.hid (set2_below9 HB.out (Nat.le_refl w.heap.size) (.int .i64 (M : Int)) (.slice B j d))
      have HOf := Lib.hid (own_far9 HO.out (Q := w.heap.size) (by omega) (.int .i64 (M : Int)) (.slice B j d))
      have HZf := Lib.hid (set2_size9 wr w.heap.size (.int .i64 (M : Int)) (.slice B j d))
      clear hp HP
      go_wp2
      exact bodyPost_ret (v := .tuple #[.agg #[.int .i64 (M : Int), .slice B j d], .int .i64 (n : Int), .bool true]) (by simp [results, Try.results25, go_sem, r0, r1]) rfl ⟨B, d, by rw [HL.out], (by rw [HZf.out]; exact HOf.out.wide (by omega) (Nat.le_refl _)), HBf.out⟩
end Go.Proofs.Ytmpajeldfbchhaa
