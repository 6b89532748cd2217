/- Chapter 9, by the specification: AddClue. -/
import Derived.Test.YtmpajeldfbchhaaTgL
import Derived.Deep.RegionHeldLaw
namespace Go.Proofs.Ytmpajeldfbchhaa
open Go.ChangeShapes Go.WideShapes Go.ChangeAt Go.RowKit

/-- A box that holds a clue. -/
def Bc9 (w : World) (Q : Nat) (q : Clu) : Prop := w.cell? ⟨Q, 0, none⟩ = some (.int .i64 q.k) ∧ w.cell? ⟨Q, 1, none⟩ = some (.int .i64 q.a) ∧ w.cell? ⟨Q, 2, none⟩ = some (.int .i64 q.b)
theorem Bc9.below {w w' : World} {Q B : Nat} {q : Clu} (h : Bc9 w Q q) (hb : Below B w w') (hB : Q + 1 ≤ B) : Bc9 w' Q q :=
  ⟨(hb.cell (p := ⟨Q, 0, none⟩) hB).trans h.1, (hb.cell (p := ⟨Q, 1, none⟩) hB).trans h.2.1, (hb.cell (p := ⟨Q, 2, none⟩) hB).trans h.2.2⟩
theorem Bc9.new (w : World) (q : Clu) (t : TypeId) : Bc9 (w.alloc (.cells #[.int .i64 q.k, .int .i64 q.a, .int .i64 q.b] t)) w.heap.size q := ⟨by simp [go_sem], by simp [go_sem], by simp [go_sem]⟩
/-- The boxes of the arguments and the room of the answer, behind the entry. -/
abbrev ent9 (w : World) (m : Int) (A : Option Addr) (n c : Nat) (q : Clu) (t u v : TypeId) : World := ((w.alloc (.cells #[.int .i64 m, .slice A n c] t)).alloc (.cells #[.int .i64 q.k, .int .i64 q.a, .int .i64 q.b] u)).alloc (.cells #[.int .i64 0, .slice none 0 0] v)
theorem entryA9 (w : World) (m : Int) (A : Option Addr) (n c : Nat) (q : Clu) (t u v : TypeId) :
    Bx (ent9 w m A n c q t u v) w.heap.size m A n c ∧ Bc9 (ent9 w m A n c q t u v) (w.heap.size + 1) q ∧ Rm (ent9 w m A n c q t u v) (w.heap.size + 2) ∧ Below w.heap.size w (ent9 w m A n c q t u v) ∧ (ent9 w m A n c q t u v).heap.size = w.heap.size + 3 := by
  have z1 : (w.alloc (.cells #[.int .i64 m, .slice A n c] t)).heap.size = w.heap.size + 1 := by simp
  have z2 : ((w.alloc (.cells #[.int .i64 m, .slice A n c] t)).alloc (.cells #[.int .i64 q.k, .int .i64 q.a, .int .i64 q.b] u)).heap.size = w.heap.size + 2 := by simp
  refine ⟨?_, ?_, ?_, (((Below.refl _ _).alloc (Nat.le_refl _) _).alloc (by simp) _).alloc (by simp; omega) _, by simp⟩
  · exact (Bx.new w m A n c t).below (((Below.refl (w.heap.size + 1) _).alloc (by rw [z1]; exact Nat.le_refl _) _).alloc (by rw [z2]; omega) _) (Nat.le_refl _)
  · have h := Bc9.new (w.alloc (.cells #[.int .i64 m, .slice A n c] t)) q u
    rw [z1] at h
    exact h.below ((Below.refl (w.heap.size + 2) _).alloc (by rw [z2]; exact Nat.le_refl _) _) (Nat.le_refl _)
  · have h := Rm.new ((w.alloc (.cells #[.int .i64 m, .slice A n c] t)).alloc (.cells #[.int .i64 q.k, .int .i64 q.a, .int .i64 q.b] u)) v
    rw [z2] at h
    exact h
set_option maxRecDepth 4000 in
set_option maxHeartbeats 1600000 in
theorem spec_AddClue_no (m : Int) (A : Option Addr) (n c lo : Nat) (xs : List Clu) (q : Clu) (w : World) (hn : xs.length = n) (hm : n ≤ 1048576) (ha : Own w lo w.heap.size A (c64 xs)) (hno : okp9 m xs = false ∨ okc9 q = false ∨ n = 6) :
    Calls Try.prog 23 #[.agg #[.int .i64 m, .slice A n c], .agg #[.int .i64 q.k, .int .i64 q.a, .int .i64 q.b]] w (ResZ false 0 [] w) := by
  obtain ⟨bx, bc, rm, b0, z0⟩ := entryA9 w m A n c q 35 25 35
  have HP := Lib.hid (pzGood_any m A n c _ _ xs _ hn hm (ha.below b0 (Nat.le_refl _)) b0.size)
  have HQ := Lib.hid fun W => pzClue_any q W
  have HB0 := Lib.hid b0
  have HR0 := Lib.hid rm
  have HX0 := Lib.hid bx
  have HC0 := Lib.hid bc
  cases hok : okp9 m xs with
  | false =>
    rw [hok] at HP
    clear ha bx bc rm b0 hno hok
    go_enter Try.func23, Try.ntmps23
    go_wp2_with (go_at_call 31; refine HP.out.mono ?_; rintro e w1 ⟨rfl, b1⟩; have HB1 := Lib.hid b1; obtain ⟨r0, r1, f0, f1⟩ := HR0.out.below b1 (by rw [z0]; exact Nat.le_refl _); clear b1)
    have HB := Lib.hid (set2_below9 (HB0.out.trans (HB1.out.mono HB0.out.size)) (Nat.le_add_right w.heap.size 2) (.int .i64 0) (.slice none 0 0))
    exact bodyPost_ret (v := .tuple #[.agg #[.int .i64 0, .slice none 0 0], .bool false]) (by simp [results, Try.results23, go_sem, r0, r1]) rfl ⟨none, 0, rfl, Own.none_, HB.out⟩
  | true =>
    rw [hok] at HP
    have hno2 := hno.resolve_left (by rw [hok]; simp)
    cases hoc : okc9 q with
    | false =>
      rw [hoc] at HQ
      clear ha bx bc rm b0 hno hno2 hok hoc
      go_enter Try.func23, Try.ntmps23
      go_wp2_with (first
        | (go_at_call 31; refine HP.out.mono ?_; rintro e w1 ⟨rfl, b1⟩; have HB1 := Lib.hid (HB0.out.trans (b1.mono HB0.out.size)); have HR1 := Lib.hid (HR0.out.below b1 (by rw [z0]; exact Nat.le_refl _)); obtain ⟨k0, k1, k2⟩ := HC0.out.below b1 (by rw [z0]; omega); have hz1 : w.heap.size + 3 ≤ w1.heap.size := (by have := b1.size; rw [z0] at this; exact this); clear b1)
        | (go_at_call 27; refine (HQ.out _).mono ?_; rintro e w2 ⟨rfl, b2⟩; have HB2 := Lib.hid (HB1.out.trans (b2.mono HB1.out.size)); obtain ⟨r0, r1, f0, f1⟩ := HR1.out.below b2 hz1; clear b2))
      have HB := Lib.hid (set2_below9 HB2.out (Nat.le_add_right w.heap.size 2) (.int .i64 0) (.slice none 0 0))
      exact bodyPost_ret (v := .tuple #[.agg #[.int .i64 0, .slice none 0 0], .bool false]) (by simp [results, Try.results23, go_sem, r0, r1]) rfl ⟨none, 0, rfl, Own.none_, HB.out⟩
    | true =>
      rw [hoc] at HQ
      obtain rfl : n = 6 := hno2.resolve_left (by rw [hoc]; simp)
      clear ha bx bc rm b0 hno hno2 hok hoc
      go_enter Try.func23, Try.ntmps23
      go_wp2_with (first
        | (go_at_call 31; refine HP.out.mono ?_; rintro e w1 ⟨rfl, b1⟩; have HB1 := Lib.hid (HB0.out.trans (b1.mono HB0.out.size)); have HR1 := Lib.hid (HR0.out.below b1 (by rw [z0]; exact Nat.le_refl _)); have HX1 := Lib.hid (HX0.out.below b1 (by rw [z0]; omega)); obtain ⟨k0, k1, k2⟩ := HC0.out.below b1 (by rw [z0]; omega); have hz1 : w.heap.size + 3 ≤ w1.heap.size := (by have := b1.size; rw [z0] at this; exact this); clear b1)
        | (go_at_call 27; refine (HQ.out _).mono ?_; rintro e w2 ⟨rfl, b2⟩; have HB2 := Lib.hid (HB1.out.trans (b2.mono HB1.out.size)); obtain ⟨r0, r1, f0, f1⟩ := HR1.out.below b2 hz1; obtain ⟨c0, c1⟩ := (HX1.out.below b2 (by omega)).cells; clear b2))
      have HB := Lib.hid (set2_below9 HB2.out (Nat.le_add_right w.heap.size 2) (.int .i64 0) (.slice none 0 0))
      exact bodyPost_ret (v := .tuple #[.agg #[.int .i64 0, .slice none 0 0], .bool false]) (by simp [results, Try.results23, go_sem, r0, r1]) rfl ⟨none, 0, rfl, Own.none_, HB.out⟩
/-! ### made by thA.py -/
theorem le_alloc9 {k : Nat} {w : World} {o : Obj} (h : k ≤ w.heap.size) : k ≤ (w.alloc o).heap.size := Nat.le_trans h (by simp)
theorem cell9' {w4 : World} (a b c : Value) (t : TypeId) (f : Nat × Nat) : ∀ j u, [a, b, c][j]? = some u → (w4.alloc (.cells #[a, b, c] t f)).cell? ((⟨w4.heap.size, 0, none⟩ : Addr).add j) = some u := fun j u hu => World.news_of_block (heap_alloc_new _ _) j u hu
theorem row_wide9 {w : World} {base base' : Nat} {e : TypeId} {size n : Nat} {v : Value} {xs : List Value} (h : w.ownsRow base e size v n xs) (hb : base' ≤ base) : w.ownsRow base' e size v n xs := by
  obtain ⟨h1, h2⟩ := h
  refine ⟨h1, h2.imp id ?_⟩
  rintro ⟨g, cap, cur, a, b, c⟩
  exact ⟨g, cap, cur, a, Nat.le_trans hb b, c⟩
set_option maxRecDepth 8000 in
set_option maxHeartbeats 6400000 in
theorem spec_AddClue_yes (m : Int) (g o n c lo : Nat) (xs : List Clu) (qk qa qb : Int) (w : World) (hn : xs.length = n) (hnc : n ≤ c) (ha : Own w lo w.heap.size (some ⟨g, o, none⟩) (c64 xs)) (hok : okp9 m xs = true) (hoc : okc9 ⟨qk, qa, qb⟩ = true) (h6 : n < 6) :
    Calls Try.prog 23 #[.agg #[.int .i64 m, .slice (some ⟨g, o, none⟩) n c], .agg #[.int .i64 qk, .int .i64 qa, .int .i64 qb]] w (ResZ true m (xs ++ [⟨qk, qa, qb⟩]) w) := by
  obtain ⟨i0, hi0, hz0, hz1, hz2⟩ := info_parts infoClue
  obtain ⟨bx, bc, rm, b0, z0⟩ := entryA9 w m (some ⟨g, o, none⟩) n c ⟨qk, qa, qb⟩ 35 25 35
  have HP := Lib.hid (pzGood_any m (some ⟨g, o, none⟩) n c _ _ xs _ hn (by omega) (ha.below b0 (Nat.le_refl _)) b0.size)
  have HQ := Lib.hid fun W => pzClue_any ⟨qk, qa, qb⟩ W
  rw [hok] at HP
  rw [hoc] at HQ
  have HB0 := Lib.hid b0
  have HR0 := Lib.hid rm
  have HX0 := Lib.hid bx
  have HC0 := Lib.hid bc
  have HXL : Hid ((c64 xs).length = n * 3) := Lib.hid (by rw [c64_len, hn])
  have HXO := Lib.hid (c64_one xs)
  have HS0 : Hid (∀ W, Below w.heap.size w W → ∀ j u, (c64 xs)[j]? = some u → W.cell? ((⟨g, o, none⟩ : Addr).add j) = some u) := Lib.hid fun W hb j u hu => by
    have h := front_cells9 (k := xs.length) ha W hb j u
    rw [List.take_length] at h
    exact h hu
  have HW : Hid (c64 (xs ++ [⟨qk, qa, qb⟩]) = c64 xs ++ [.int .i64 qk, .int .i64 qa, .int .i64 qb]) := Lib.hid (snoc_c64 xs qk qa qb).symm
  have HWL : Hid ((xs ++ [(⟨qk, qa, qb⟩ : Clu)]).length = n + 1) := Lib.hid (by simp [hn])
  generalize c64 xs = X at *
  have hni : ¬ ((n : Int) = 6) := by omega
  have hnb : ((n : Int) == 6) = false := by simp; omega
  clear ha bx bc rm b0 hok hoc hn
  go_enter Try.func23, Try.ntmps23
  go_wp2_with (first
    | (go_at_call 31; refine HP.out.mono ?_; rintro e w1 ⟨rfl, b1⟩; have HB1 := Lib.hid (HB0.out.trans (b1.mono HB0.out.size)); have HR1 := Lib.hid (HR0.out.below b1 (by rw [z0]; exact Nat.le_refl _)); have HX1 := Lib.hid (HX0.out.below b1 (by rw [z0]; omega)); have HC1 := Lib.hid (HC0.out.below b1 (by rw [z0]; omega)); obtain ⟨k0, k1, k2⟩ := HC1.out; have hz1' : w.heap.size + 3 ≤ w1.heap.size := (by have := b1.size; rw [z0] at this; exact this); clear b1)
    | (go_at_call 27; refine (HQ.out _).mono ?_; rintro e w2 ⟨rfl, b2⟩; have HB2 := Lib.hid (HB1.out.trans (b2.mono HB1.out.size)); have HR2 := Lib.hid (HR1.out.below b2 hz1'); have HX2 := Lib.hid (HX1.out.below b2 (by omega)); have HC2 := Lib.hid (HC1.out.below b2 (by omega)); have hle : w.heap.size + 3 ≤ w2.heap.size := Nat.le_trans hz1' b2.size; obtain ⟨c0, c1⟩ := HX2.out.cells; clear b2))
  have HSRC : Hid (∀ W, Below (w.heap.size + 3) w2 W → ∀ j u, X[j]? = some u → W.cell? ((⟨g, o, none⟩ : Addr).add j) = some u) := Lib.hid fun W hb => HS0.out W (HB2.out.trans (hb.mono (by omega)))
  have HK : Hid (∀ W, Below (w.heap.size + 3) w2 W → (W.cell? ⟨w.heap.size, 0, none⟩ = some (.int .i64 m) ∧ W.cell? ⟨w.heap.size, 1, none⟩ = some (.slice (some ⟨g, o, none⟩) n c)) ∧ (W.cell? ⟨w.heap.size + 1, 0, none⟩ = some (.int .i64 qk) ∧ W.cell? ⟨w.heap.size + 1, 1, none⟩ = some (.int .i64 qa) ∧ W.cell? ⟨w.heap.size + 1, 2, none⟩ = some (.int .i64 qb))) := Lib.hid fun W hb => ⟨(HX2.out.below hb (by omega)).cells, HC2.out.below hb (by omega)⟩
  have HK2 : Hid (∀ W, Below (w.heap.size + 2) w2 W → (W.cell? ⟨w.heap.size, 0, none⟩ = some (.int .i64 m) ∧ W.cell? ⟨w.heap.size, 1, none⟩ = some (.slice (some ⟨g, o, none⟩) n c)) ∧ (W.cell? ⟨w.heap.size + 1, 0, none⟩ = some (.int .i64 qk) ∧ W.cell? ⟨w.heap.size + 1, 1, none⟩ = some (.int .i64 qa) ∧ W.cell? ⟨w.heap.size + 1, 2, none⟩ = some (.int .i64 qb))) := Lib.hid fun W hb => ⟨(HX2.out.below hb (by omega)).cells, HC2.out.below hb (by omega)⟩
  have lit : ∀ W : World, (W.alloc (.cells #[] 25)).ownsRow W.heap.size 25 3 (.slice (some ⟨W.heap.size, 0, none⟩) 0 0) 0 [] := fun W => World.ownsRow_lit W #[] 0 (Nat.le_refl _) (by unfold maxLen; omega) rfl
  have HLA := Lib.hid (row_wide9 (lit w2.drew) hle)
  have HZA : Hid (w.heap.size + 3 ≤ (w2.drew.alloc (.cells #[] 25)).heap.size) := Lib.hid (by simp; omega)
  have HLB := Lib.hid (HLA.out.alloc (.cells #[.int .i64 qk, .int .i64 qa, .int .i64 qb] 25))
  have HZB : Hid (w.heap.size + 3 ≤ ((w2.drew.alloc (.cells #[] 25)).alloc (.cells #[.int .i64 qk, .int .i64 qa, .int .i64 qb] 25)).heap.size) := Lib.hid (by simp; omega)
  have HZC : Hid (w.heap.size + 3 ≤ (w2.drew.alloc (.cells #[.int .i64 qk, .int .i64 qa, .int .i64 qb] 25)).heap.size) := Lib.hid (by simp; omega)
  have HLC : Hid (((w2.drew.alloc (.cells #[.int .i64 qk, .int .i64 qa, .int .i64 qb] 25)).alloc (.cells #[] 25)).ownsRow (w.heap.size + 3) 25 3 (.slice (some ⟨w2.heap.size + 1, 0, none⟩) 0 0) 0 []) := Lib.hid (by
    have h := row_wide9 (lit (w2.drew.alloc (.cells #[.int .i64 qk, .int .i64 qa, .int .i64 qb] 25))) HZC.out
    have z : (w2.drew.alloc (.cells #[.int .i64 qk, .int .i64 qa, .int .i64 qb] 25)).heap.size = w2.heap.size + 1 := by simp
    rw [z] at h
    exact h)
  have HZD : Hid (w.heap.size + 3 ≤ ((w2.drew.alloc (.cells #[.int .i64 qk, .int .i64 qa, .int .i64 qb] 25)).alloc (.cells #[] 25)).heap.size) := Lib.hid (by simp; omega)
  have HNB : Hid (∀ W, ((w2.drew.alloc (.cells #[] 25)).alloc (.cells #[.int .i64 qk, .int .i64 qa, .int .i64 qb] 25)).grownBy W (Value.ownBlock (.slice (some ⟨w2.drew.heap.size, 0, none⟩) 0 0)) → ∀ j u, [Value.int .i64 qk, .int .i64 qa, .int .i64 qb][j]? = some u → W.cell? ((⟨w2.heap.size + 1, 0, none⟩ : Addr).add j) = some u) := Lib.hid fun W hg j u hu => by
    have z : (w2.drew.alloc (.cells #[] 25)).heap.size = w2.heap.size + 1 := by simp
    have h := heap_alloc_new (w2.drew.alloc (.cells #[] 25)) (.cells #[.int .i64 qk, .int .i64 qa, .int .i64 qb] 25)
    rw [z] at h
    exact World.news_of_block ((hg.block (w2.heap.size + 1) (by simp) (fun e => by simp [Value.ownBlock] at e)).trans h) j u hu
  have HNC : Hid (∀ W, ((w2.drew.alloc (.cells #[.int .i64 qk, .int .i64 qa, .int .i64 qb] 25)).alloc (.cells #[] 25)).grownBy W (Value.ownBlock (.slice (some ⟨w2.heap.size + 1, 0, none⟩) 0 0)) → ∀ j u, [Value.int .i64 qk, .int .i64 qa, .int .i64 qb][j]? = some u → W.cell? ((⟨w2.heap.size, 0, none⟩ : Addr).add j) = some u) := Lib.hid fun W hg j u hu => by
    have h := heap_alloc_new w2.drew (.cells #[.int .i64 qk, .int .i64 qa, .int .i64 qb] 25)
    have h2 : ((w2.drew.alloc (.cells #[.int .i64 qk, .int .i64 qa, .int .i64 qb] 25)).alloc (.cells #[] 25)).heap[w2.heap.size]? = some (.cells #[.int .i64 qk, .int .i64 qa, .int .i64 qb] 25) := ((((Below.refl (w2.drew.alloc (.cells #[.int .i64 qk, .int .i64 qa, .int .i64 qb] 25)).heap.size _).alloc (Nat.le_refl _) (.cells #[] 25)).block w2.heap.size (by simp))).trans h
    exact World.news_of_block ((hg.block w2.heap.size (by simp; omega) (fun e => by simp [Value.ownBlock] at e)).trans h2) j u hu
  clear lit
  go_region_held_law (fun W => (W.cell? ⟨w.heap.size, 0, none⟩ = some (.int .i64 m) ∧ W.cell? ⟨w.heap.size, 1, none⟩ = some (.slice (some ⟨g, o, none⟩) n c)) ∧ (W.cell? ⟨w.heap.size + 1, 0, none⟩ = some (.int .i64 qk) ∧ W.cell? ⟨w.heap.size + 1, 1, none⟩ = some (.int .i64 qa) ∧ W.cell? ⟨w.heap.size + 1, 2, none⟩ = some (.int .i64 qb)))
    (first | with_reducible exact HK.out _ (Below.refl _ _) | with_reducible exact HK.out _ (Below.refl _ _).drew | with_reducible exact HK.out _ ((Below.refl _ _).drew.alloc hle _) | with_reducible exact HK.out _ (((Below.refl _ _).drew.alloc hle _).alloc HZA.out _) | with_reducible exact HK.out _ (((Below.refl _ _).drew.alloc hle _).alloc HZC.out _) | with_reducible exact HK.out _ ((Below.refl _ _).alloc hle _).drew | with_reducible exact HK.out _ (((Below.refl _ _).alloc hle _).alloc (le_alloc9 hle) _).drew | with_reducible exact HK.out _ hb5 | with_reducible exact HK.out _ (hb5.alloc hs5' _) | with_reducible exact HK.out _ hb6 | exact HK2.out _ (set2_below9 (hb6.mono (Nat.le_succ _)) (Nat.le_refl _) _ _))
    (first
      | (refine step_append9 rfl (.tmp 23) (.tmp 25) 33 rfl (w.heap.size + 3) 25 i0 (.agg #[.int .i64 0, .int .i64 0, .int .i64 0]) 3 24 Try.underlying33 hi0 hz0 hz1 hz2 rfl (by decide) _ 0 [] (by simp [Act.eval]) HLA.out ⟨g, o, none⟩ n c X (by simp [Act.eval]) HXL.out (HSRC.out _ ((Below.refl _ w2).drew.alloc hle _)) HXO.out (by unfold maxLen; omega) (by omega) HZA.out ?_; intro v1 w5 hown1 hgrow1; obtain ⟨B1, d1, rfl⟩ := row_form hown1; rw [Nat.zero_add, List.nil_append] at hown1; rw [Nat.zero_add]; have hb5 : Below (w.heap.size + 3) w2 w5 := ((Below.refl _ w2).drew.alloc hle _).grown hgrow1 HZA.out (fun g e => (HLA.out.lt g e).1); have hs5' : w.heap.size + 3 ≤ w5.heap.size := Nat.le_trans hle hb5.size; skip)
      | (refine step_append9 rfl (.tmp 23) (.tmp 25) 33 rfl (w.heap.size + 3) 25 i0 (.agg #[.int .i64 0, .int .i64 0, .int .i64 0]) 3 24 Try.underlying33 hi0 hz0 hz1 hz2 rfl (by decide) _ 0 [] (by simp [Act.eval]) HLB.out ⟨g, o, none⟩ n c X (by simp [Act.eval]) HXL.out (HSRC.out _ (((Below.refl _ w2).drew.alloc hle _).alloc HZA.out _)) HXO.out (by unfold maxLen; omega) (by omega) HZB.out ?_; intro v1 w5 hown1 hgrow1; obtain ⟨B1, d1, rfl⟩ := row_form hown1; rw [Nat.zero_add, List.nil_append] at hown1; rw [Nat.zero_add]; have hb5 : Below (w.heap.size + 3) w2 w5 := (((Below.refl _ w2).drew.alloc hle _).alloc HZA.out _).grown hgrow1 HZB.out (fun g e => (HLB.out.lt g e).1); have hs5' : w.heap.size + 3 ≤ w5.heap.size := Nat.le_trans hle hb5.size; have hn5 := HNB.out _ hgrow1)
      | (refine step_append9 rfl (.tmp 23) (.tmp 25) 33 rfl (w.heap.size + 3) 25 i0 (.agg #[.int .i64 0, .int .i64 0, .int .i64 0]) 3 24 Try.underlying33 hi0 hz0 hz1 hz2 rfl (by decide) _ 0 [] (by simp [Act.eval]) HLC.out ⟨g, o, none⟩ n c X (by simp [Act.eval]) HXL.out (HSRC.out _ (((Below.refl _ w2).drew.alloc hle _).alloc HZC.out _)) HXO.out (by unfold maxLen; omega) (by omega) HZD.out ?_; intro v1 w5 hown1 hgrow1; obtain ⟨B1, d1, rfl⟩ := row_form hown1; rw [Nat.zero_add, List.nil_append] at hown1; rw [Nat.zero_add]; have hb5 : Below (w.heap.size + 3) w2 w5 := (((Below.refl _ w2).drew.alloc hle _).alloc HZC.out _).grown hgrow1 HZD.out (fun g e => (HLC.out.lt g e).1); have hs5' : w.heap.size + 3 ≤ w5.heap.size := Nat.le_trans hle hb5.size; have hn5 := HNC.out _ hgrow1)
      | (refine step_append9 rfl (.tmp 26) (.tmp 28) 33 rfl (w.heap.size + 3) 25 i0 (.agg #[.int .i64 0, .int .i64 0, .int .i64 0]) 3 24 Try.underlying33 hi0 hz0 hz1 hz2 rfl (by decide) (.slice B1 n d1) n X (by first | rfl | simp [Act.eval] | simp [Act.eval, Act.put]) hown1 ⟨w2.heap.size + 1, 0, none⟩ 1 1 [.int .i64 qk, .int .i64 qa, .int .i64 qb] (by first | rfl | simp [Act.eval] | simp [Act.eval, Act.put]) rfl hn5 (one9 _ _ _) (by unfold maxLen; omega) (by omega) hs5' ?_; intro v2 w6 hown2 hgrow2; obtain ⟨B2, d2, rfl⟩ := row_form hown2; have hb6 : Below (w.heap.size + 3) w2 w6 := hb5.grown hgrow2 hs5' (fun g e => (hown1.lt g e).1); have HO6 := Lib.hid hown2; obtain ⟨r0, r1, f0, f1⟩ := HR2.out.below hb6 (Nat.le_refl _); clear hown2 hgrow2)
      | (refine step_append9 rfl (.tmp 26) (.tmp 28) 33 rfl (w.heap.size + 3) 25 i0 (.agg #[.int .i64 0, .int .i64 0, .int .i64 0]) 3 24 Try.underlying33 hi0 hz0 hz1 hz2 rfl (by decide) (.slice B1 n d1) n X (by first | rfl | simp [Act.eval] | simp [Act.eval, Act.put]) hown1 ⟨w2.heap.size, 0, none⟩ 1 1 [.int .i64 qk, .int .i64 qa, .int .i64 qb] (by first | rfl | simp [Act.eval] | simp [Act.eval, Act.put]) rfl hn5 (one9 _ _ _) (by unfold maxLen; omega) (by omega) hs5' ?_; intro v2 w6 hown2 hgrow2; obtain ⟨B2, d2, rfl⟩ := row_form hown2; have hb6 : Below (w.heap.size + 3) w2 w6 := hb5.grown hgrow2 hs5' (fun g e => (hown1.lt g e).1); have HO6 := Lib.hid hown2; obtain ⟨r0, r1, f0, f1⟩ := HR2.out.below hb6 (Nat.le_refl _); clear hown2 hgrow2)
      | (refine step_append9 rfl (.tmp 26) (.tmp 28) 33 rfl (w.heap.size + 3) 25 i0 (.agg #[.int .i64 0, .int .i64 0, .int .i64 0]) 3 24 Try.underlying33 hi0 hz0 hz1 hz2 rfl (by decide) (.slice B1 n d1) n X (by first | rfl | simp [Act.eval] | simp [Act.eval, Act.put]) (hown1.alloc _) ⟨w5.heap.size, 0, none⟩ 1 1 [.int .i64 qk, .int .i64 qa, .int .i64 qb] (by first | rfl | simp [Act.eval] | simp [Act.eval, Act.put]) rfl (cell9' _ _ _ _ _) (one9 _ _ _) (by unfold maxLen; omega) (by omega) (by simp; omega) ?_; intro v2 w6 hown2 hgrow2; obtain ⟨B2, d2, rfl⟩ := row_form hown2; have hb6 : Below (w.heap.size + 3) w2 w6 := (hb5.alloc hs5' _).grown hgrow2 (by simp; omega) (fun g e => (hown1.lt g e).1); have HO6 := Lib.hid hown2; obtain ⟨r0, r1, f0, f1⟩ := HR2.out.below hb6 (Nat.le_refl _); clear hown2 hgrow2)
      )
  all_goals
    have HO7 := Lib.hid (own_of_row HO6.out)
    have HBf := Lib.hid (set2_below9 (hb6.mono (Nat.le_succ _)) (Nat.le_refl (w.heap.size + 2)) (.int .i64 m) (.slice B2 (n + 1) d2))
    have HBg := Lib.hid (HB2.out.trans (HBf.out.mono (by omega)))
    have HOf := Lib.hid (own_far9 HO7.out (Q := w.heap.size + 2) (Nat.lt_succ_self _) (.int .i64 m) (.slice B2 (n + 1) d2))
    have HZf := Lib.hid (set2_size9 w6 (w.heap.size + 2) (.int .i64 m) (.slice B2 (n + 1) d2))
    clear hb5 hb6 hown1 c0 c1
    go_wp2
    exact bodyPost_ret (v := .tuple #[.agg #[.int .i64 m, .slice B2 (n + 1) d2], .bool true]) (by simp [results, Try.results23, go_sem, r0, r1]) rfl ⟨B2, d2, by rw [HWL.out], (by rw [HZf.out, HW.out]; exact HOf.out.wide (by omega) (Nat.le_refl _)), HBg.out⟩
end Go.Proofs.Ytmpajeldfbchhaa
