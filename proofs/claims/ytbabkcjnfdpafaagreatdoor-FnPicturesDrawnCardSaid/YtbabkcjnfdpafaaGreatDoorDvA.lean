/- Chapter 7: two pictures read, texts within limits, by the program. -/
import Derived.Test.YtbabkcjnfdpafaaGreatDoorDuZ
import Derived.Test.YtbabkcjnfdpafaaGreatDoorDuW
namespace Go.Proofs.YtbabkcjnfdpafaaGreatDoor
open Go.ChangeShapes Go.WideShapes Go.ChangeAt Go.RowKit Go.Maps

/-- What one reading gives, whether it succeeds or not. -/
def RdQ (l : List UInt8) (w' : World) (a b : Int) (m : Option Nat) : Prop :=
  isPic l = true → a = (pW l : Int) ∧ b = (pH l : Int) ∧ ∃ c, m = some c ∧ Ds w' c (gS (pW l) (pH l) (pD l))
theorem RdQ.kept {l : List UInt8} {w w' : World} {a b : Int} {m : Option Nat} (h : RdQ l w a b m) (hg : w.grownBy w' none) : RdQ l w' a b m := fun hp => by
  obtain ⟨h1, h2, c, h3, h4⟩ := h hp
  exact ⟨h1, h2, c, h3, h4.kept hg (by simp)⟩
theorem RdQ.kept1 {l : List UInt8} {w w' : World} {a b : Int} {m : Option Nat} {R : Nat} (h : RdQ l w a b m) (hg : w.grownBy w' (some R)) (hR : ∀ c S, Ds w c S → R ≠ c) : RdQ l w' a b m := fun hp => by
  obtain ⟨h1, h2, c, h3, h4⟩ := h hp
  exact ⟨h1, h2, c, h3, h4.kept hg (fun e => hR c _ h4 (Option.some.inj e).symm)⟩
theorem readPicture_q (s : ByteArray) (w : World) (hs : s.size ≤ 2000000) (hM : MaxL w) :
    Calls Tryz.prog 51 #[.string s] w fun e w' => (∃ a b m, e = .returned (.tuple #[.agg #[.int .i64 a, .int .i64 b, .map m], .bool (isPic s.data.toList)]) ∧ RdQ s.data.toList w' a b m) ∧ Below w.heap.size w w' :=
  (readPicture_any s w hs hM).mono fun e w' h => by
    obtain ⟨h1 | h1, hb⟩ := h
    · obtain ⟨hp, c, he, _, hd⟩ := h1
      rw [hp]
      exact ⟨⟨_, _, _, he, fun _ => ⟨rfl, rfl, c, rfl, hd⟩⟩, hb⟩
    · obtain ⟨hp, he⟩ := h1
      rw [hp]
      exact ⟨⟨_, _, _, he, fun h => by rw [hp] at h; cases h⟩, hb⟩
/-- A block of cells holds no dots. -/
theorem cells_ne {w : World} {R : Nat} {cs : Array Value} {t : TypeId} {fr : Nat × Nat} (h : w.heap[R]? = some (.cells cs t fr)) : ∀ c S, Ds w c S → R ≠ c := by
  rintro c S ⟨D, ⟨es, clock, hh, _⟩, _⟩ rfl
  rw [h] at hh
  cases hh
set_option maxRecDepth 8000 in
set_option maxHeartbeats 3200000 in
theorem readPictures_any (s t : ByteArray) (w : World) (hs : s.size ≤ 2000000) (ht : t.size ≤ 2000000) (hM : MaxL w) :
    Calls Tryz.prog 57 #[.string s, .string t] w fun e w' => (∃ a b m a' b' m', e = .returned (.tuple #[.agg #[.int .i64 a, .int .i64 b, .map m], .agg #[.int .i64 a', .int .i64 b', .map m'], .bool (isPic s.data.toList && isPic t.data.toList)]) ∧ RdQ s.data.toList w' a b m ∧ RdQ t.data.toList w' a' b' m') ∧ Below w.heap.size w w' := by
  have HR := Lib.hid fun V (h : MaxL V) => readPicture_q s V hs h
  have HT := Lib.hid fun V (h : MaxL V) => readPicture_q t V ht h
  obtain ⟨B, hB⟩ : ∃ B, B = (w.alloc (.cells #[.int .i64 0, .int .i64 0, .map none] 57)).alloc (.cells #[.int .i64 0, .int .i64 0, .map none] 57) := ⟨_, rfl⟩
  have k0 : B.heap[w.heap.size]? = some (.cells #[.int .i64 0, .int .i64 0, .map none] 57) := by
    rw [hB, (MapKept.heap_alloc _ _).2 _ (by simp)]
    exact (MapKept.heap_alloc _ _).1
  have k1 : B.heap[w.heap.size + 1]? = some (.cells #[.int .i64 0, .int .i64 0, .map none] 57) := by
    have h := (MapKept.heap_alloc (w.alloc (.cells #[.int .i64 0, .int .i64 0, .map none] 57)) (.cells #[.int .i64 0, .int .i64 0, .map none] 57)).1
    rw [show (w.alloc (.cells #[.int .i64 0, .int .i64 0, .map none] 57)).heap.size = w.heap.size + 1 by simp] at h
    rw [hB]
    exact h
  have hgB : w.grownBy B none := by rw [hB]; exact (World.grownBy_alloc w _ none).andThen (World.grownBy_alloc _ _ none) (by simp)
  have hzB : B.heap.size = w.heap.size + 2 := by rw [hB]; simp
  have HM := Lib.hid (hM.below ((Below.refl w.heap.size w).grown hgB (Nat.le_refl _) (by simp)))
  generalize s.data.toList = l at *
  generalize t.data.toList = r at *
  go_enter Tryz.func57, Tryz.ntmps57
  go_wp2_with fail
  rw [← hB]
  clear hB hM
  refine (HR.out _ HM.out).mono ?_
  rintro e w1 ⟨⟨a, b, m, rfl, hq1⟩, hb1⟩
  have hg1 := (grown_of_below hb1 (Nat.le_refl _)).andThen (World.grownBy_alloc w1 (.cells #[.int .i64 a, .int .i64 b, .map m] 57) none) (by simp)
  have HM1 := Lib.hid ((HM.out.below hb1).below ((Below.refl _ _).alloc (Nat.le_refl _) (.cells #[.int .i64 a, .int .i64 b, .map m] 57)))
  have HQ1 := Lib.hid (hq1.kept (World.grownBy_alloc w1 (.cells #[.int .i64 a, .int .i64 b, .map m] 57) none))
  have i0 := grown_heap k0 hg1 (by simp)
  have i1 := grown_heap k1 hg1 (by simp)
  have i2 := (MapKept.heap_alloc w1 (.cells #[.int .i64 a, .int .i64 b, .map m] 57)).1
  have HG1 := Lib.hid (hgB.andThen hg1 (by simp))
  have hz1 : w.heap.size + 2 ≤ w1.heap.size := by have := hb1.size; omega
  clear hq1 hb1 hg1 hgB k0 k1 hzB HM
  go_wp2_with (go_at_call 51; refine (HT.out _ HM1.out).mono ?_; rintro e w2 ⟨⟨a', b', m', rfl, hq2⟩, hb2⟩)
  have hg2 := (grown_of_below hb2 (Nat.le_refl _)).andThen (World.grownBy_alloc w2 (.cells #[.int .i64 a', .int .i64 b', .map m'] 57) none) (by simp)
  have HQ2 := Lib.hid (hq2.kept (World.grownBy_alloc w2 (.cells #[.int .i64 a', .int .i64 b', .map m'] 57) none))
  have HQ3 := Lib.hid (HQ1.out.kept hg2)
  have j0 := grown_heap i0 hg2 (by simp)
  have j1 := grown_heap i1 hg2 (by simp)
  have j2 := grown_heap i2 hg2 (by simp)
  have j3 := (MapKept.heap_alloc w2 (.cells #[.int .i64 a', .int .i64 b', .map m'] 57)).1
  have HG2 := Lib.hid (HG1.out.andThen hg2 (by simp))
  have hz2 : w1.heap.size + 1 ≤ w2.heap.size := by have := hb2.size; simp at this; omega
  clear hq2 hb2 hg2 i0 i1 i2 HQ1 HG1 HM1
  generalize w2.alloc (.cells #[.int .i64 a', .int .i64 b', .map m'] 57) = V at *
  have a0 := Lib.cell_of_heap j2 0
  have a1 := Lib.cell_of_heap j2 1
  have a2 := Lib.cell_of_heap j2 2
  have b0 := Lib.cell_of_heap j3 0
  have b1 := Lib.cell_of_heap j3 1
  have b2 := Lib.cell_of_heap j3 2
  have s0 := Lib.cell_of_heap j0 0
  have s1 := Lib.cell_of_heap j0 1
  have s2 := Lib.cell_of_heap j0 2
  have f0 := Lib.frozen_of_heap j0 0
  have f1 := Lib.frozen_of_heap j0 1
  have f2 := Lib.frozen_of_heap j0 2
  have t0 := Lib.cell_of_heap j1 0
  have t1 := Lib.cell_of_heap j1 1
  have t2 := Lib.cell_of_heap j1 2
  have g0 := Lib.frozen_of_heap j1 0
  have g1 := Lib.frozen_of_heap j1 1
  have g2 := Lib.frozen_of_heap j1 2
  cases hp : isPic l
  all_goals
    go_region
    have h1 := grown_set3 V w.heap.size (.int .i64 a) (.int .i64 b) (.map m)
    obtain ⟨e0, e1, e2⟩ := put3D s0 s1 s2 (.int .i64 a) (.int .i64 b) (.map m)
    obtain ⟨q0, q1, q2⟩ := put3D (h1.cell t0 (by simp)) (h1.cell t1 (by simp)) (h1.cell t2 (by simp)) (.int .i64 a') (.int .i64 b') (.map m')
    have h2 := grown_set3 (((V.setCell ⟨w.heap.size, 0, none⟩ (.int .i64 a)).setCell ⟨w.heap.size, 1, none⟩ (.int .i64 b)).setCell ⟨w.heap.size, 2, none⟩ (.map m)) (w.heap.size + 1) (.int .i64 a') (.int .i64 b') (.map m')
    have p0 := h2.cell e0 (by simp)
    have p1 := h2.cell e1 (by simp)
    have p2 := h2.cell e2 (by simp)
    have c0 := cells_ne j0
    have c1 := cells_ne (grown_heap j1 h1 (by simp))
    have r1 := (HQ3.out.kept1 h1 c0).kept1 h2 c1
    have r2 := (HQ2.out.kept1 h1 c0).kept1 h2 c1
    have hB := (Below.refl w.heap.size w).grown ((HG2.out.andThen h1 (by intro j hj; cases hj; exact Or.inl (Nat.le_refl _))).andThen h2 (by intro j hj; cases hj; exact Or.inl (Nat.le_succ _))) (Nat.le_refl _) (by simp)
    clear h1 h2 e0 e1 e2 c0 c1
    generalize (((((V.setCell ⟨w.heap.size, 0, none⟩ (.int .i64 a)).setCell ⟨w.heap.size, 1, none⟩ (.int .i64 b)).setCell ⟨w.heap.size, 2, none⟩ (.map m)).setCell ⟨w.heap.size + 1, 0, none⟩ (.int .i64 a')).setCell ⟨w.heap.size + 1, 1, none⟩ (.int .i64 b')).setCell ⟨w.heap.size + 1, 2, none⟩ (.map m') = wE at *
    go_wp2
  · exact bodyPost_ret (v := .tuple #[.agg #[.int .i64 a, .int .i64 b, .map m], .agg #[.int .i64 a', .int .i64 b', .map m'], .bool false]) (by simp [results, Tryz.results57, go_sem, p0, p1, p2, q0, q1, q2]) rfl ⟨⟨a, b, m, a', b', m', by simp [hp], r1, r2⟩, hB.drew⟩
  · exact bodyPost_ret (v := .tuple #[.agg #[.int .i64 a, .int .i64 b, .map m], .agg #[.int .i64 a', .int .i64 b', .map m'], .bool (isPic r)]) (by simp [results, Tryz.results57, go_sem, p0, p1, p2, q0, q1, q2]) rfl ⟨⟨a, b, m, a', b', m', by simp [hp], r1, r2⟩, hB.drew⟩
set_option maxRecDepth 8000 in
theorem tlim_no (W H : Int) (b : Nat) (w : World) (h : limB W H = false) :
    Calls Tryz.prog 58 #[.agg #[.int .i64 W, .int .i64 H, .map (some b)]] w fun e w' => e = .returned (.tuple #[.string ⟨#[]⟩, .bool false]) ∧ Below w.heap.size w w' := by
  have HL := Lib.hid fun V => limits_any W H b V
  rw [h] at HL
  clear h
  have HB := Lib.hid (show Below w.heap.size w (w.alloc (.cells #[.int .i64 W, .int .i64 H, .map (some b)] 57)) from (Below.refl _ _).alloc (Nat.le_refl _) _)
  go_enter Tryz.func58, Tryz.ntmps58
  go_wp2_with (go_at_call 84; refine (HL.out _).mono ?_; rintro e w1 ⟨rfl, hb1⟩)
  go_ret2
  exact ⟨rfl, HB.out.trans (hb1.mono HB.out.size)⟩
set_option maxRecDepth 8000 in
theorem tlim_yes (W H b : Nat) (S : Int → Int → Bool) (w : World) (hd : Ds w b S) (w0 : 1 ≤ W) (w1 : W ≤ 24) (h0 : 1 ≤ H) (h1 : H ≤ 24) :
    Calls Tryz.prog 58 #[.agg #[.int .i64 (W : Int), .int .i64 (H : Int), .map (some b)]] w fun e w' => e = .returned (.tuple #[.string (bt (sT W H S)), .bool true]) ∧ Below w.heap.size w w' := by
  have HL := Lib.hid fun V => limits_any (W : Int) (H : Int) b V
  have hlb : limB (W : Int) (H : Int) = true := by
    unfold limB
    rw [betr_yes (by omega) (by omega), betr_yes (by omega) (by omega)]
    rfl
  rw [hlb] at HL
  clear hlb
  have HT := Lib.hid fun V (hd : Ds V b S) => text_any W H (W * H) b S V hd rfl w0 (by omega) (by omega)
  generalize sT W H S = t at *
  have HB := Lib.hid (show Below w.heap.size w (w.alloc (.cells #[.int .i64 (W : Int), .int .i64 (H : Int), .map (some b)] 57)) from (Below.refl _ _).alloc (Nat.le_refl _) _)
  have HD := Lib.hid (hd.alloc (.cells #[.int .i64 (W : Int), .int .i64 (H : Int), .map (some b)] 57))
  have k0 := (MapKept.heap_alloc w (.cells #[.int .i64 (W : Int), .int .i64 (H : Int), .map (some b)] 57)).1
  clear hd
  go_enter Tryz.func58, Tryz.ntmps58
  go_wp2_with (first
    | (go_at_call 84; refine (HL.out _).mono ?_; rintro e w2 ⟨rfl, hb2⟩; have HD2 := Lib.hid (HD.out.below hb2); have HB2 := Lib.hid (HB.out.trans (hb2.mono HB.out.size)); have i0 := grown_heap k0 (grown_of_below hb2 (Nat.le_refl _)) (by simp); have a0 := Lib.cell_of_heap i0 0; have a1 := Lib.cell_of_heap i0 1; have a2 := Lib.cell_of_heap i0 2)
    | (go_at_call 75; refine (HT.out _ HD2.out).mono ?_; rintro e w5 ⟨rfl, hb5⟩))
  go_ret2
  exact ⟨rfl, HB2.out.trans (hb5.mono HB2.out.size)⟩
end Go.Proofs.YtbabkcjnfdpafaaGreatDoor
