/- Chapter 9, by the program: puzzles without a clue; DropClue. -/
import Derived.Test.YtmpajeldfbchhaaTgI
import Derived.Test.YtmpajeldfbchhaaTgF
namespace Go.Proofs.Ytmpajeldfbchhaa
open Go.ChangeShapes Go.WideShapes Go.ChangeAt Go.RowKit

theorem row_cap9 {w : World} {base : Nat} {e : TypeId} {size n d : Nat} {B : Option Addr} {xs : List Value} (h : w.ownsRow base e size (.slice B n d) n xs) : n ≤ d ∧ d ≤ 9223372036854775807 := by
  rcases h.2 with ⟨h1, h2⟩ | ⟨g, cap, cur, hv, _, _, h3, h4, _⟩
  · injection h1 with _ h5 h6
    omega
  · injection hv with _ _ h6
    unfold maxLen at h4
    omega
set_option maxRecDepth 8000 in
set_option maxHeartbeats 3200000 in
theorem withoutClue_any (m : Int) (g o n c lo hi : Nat) (xs : List Clu) (k : Nat) (w : World) (hn : xs.length = n) (hm : n ≤ 1048576) (hk : k < n) (hc : n ≤ c) (hc2 : c ≤ 9223372036854775807) (hn2 : n ≤ 524288) (ha : Own w lo hi (some ⟨g, o, none⟩) (c64 xs)) (hh : hi ≤ w.heap.size) :
    Calls Try.prog 42 #[.agg #[.int .i64 m, .slice (some ⟨g, o, none⟩) n c], .int .i64 (k : Int)] w fun e w' => ∃ B d, e = .returned (.agg #[.int .i64 m, .slice B (n - 1) d]) ∧ Own w' w.heap.size w'.heap.size B (c64 (without9 xs k)) ∧ n - 1 ≤ d ∧ d ≤ 9223372036854775807 ∧ Below w.heap.size w w' := by
  obtain ⟨bx, rm, b0, z0⟩ := entry9 w m (some ⟨g, o, none⟩) n c 35 35
  have HT := Lib.hid (front_cells9 (k := k) ha)
  have HD := Lib.hid (part_cells9 (k := k + 1) ha (by omega) (by rw [hn]; exact hc))
  have HTL : Hid ((c64 (xs.take k)).length = k * 3) := Lib.hid (by rw [c64_len, List.length_take]; omega)
  have HDL : Hid ((c64 (xs.drop (k + 1))).length = (n - (k + 1)) * 3) := Lib.hid (by rw [c64_len, List.length_drop]; omega)
  have HW : Hid (c64 (without9 xs k) = c64 (xs.take k) ++ c64 (xs.drop (k + 1))) := Lib.hid (by unfold without9; rw [c64_app])
  have HO1 := Lib.hid (c64_one (xs.take k))
  have HO2 := Lib.hid (c64_one (xs.drop (k + 1)))
  have hki : (k : Int) < (n : Int) := by omega
  have hkc : (k : Int) ≤ (c : Int) := by omega
  have hki2 : (k : Int) + 1 ≤ (n : Int) := by omega
  have hk0 : (0 : Int) ≤ (k : Int) + 1 := by omega
  have hni : (n : Int) ≤ (c : Int) := by omega
  have e1 : IntKind.i64.wrap ((k : Int) + 1) = (k : Int) + 1 := IntWalk.i64_in _ (by omega)
  have e2 : ((k : Int) + 1).toNat = k + 1 := by omega
  have hc0 : ¬ c = 0 := by omega
  have hkn : k < n := hk
  obtain ⟨AD, hAD, HD⟩ : ∃ AD, (if c = k + 1 then some (⟨g, o, none⟩ : Addr) else some ⟨g, o + (k + 1) * 3, none⟩) = some AD ∧ Hid (∀ w', Below hi w w' → ∀ j u, (c64 (xs.drop (k + 1)))[j]? = some u → w'.cell? (AD.add j) = some u) :=
    ⟨if c = k + 1 then (⟨g, o, none⟩ : Addr) else ⟨g, o + (k + 1) * 3, none⟩, by split <;> rfl, HD⟩
  have HCC := Lib.hid fun (W : World) (R : Nat) (hb : Below w.heap.size w W) (c0 : W.cell? ⟨R, 0, none⟩ = some (.slice (some ⟨g, o, none⟩) k c)) (c1 : W.cell? ⟨R, 1, none⟩ = some (.slice (some AD) (n - (k + 1)) (c - (k + 1)))) (hR : R < W.heap.size) =>
    concatClues_any R ⟨g, o, none⟩ AD k c (n - (k + 1)) (c - (k + 1)) _ _ W c0 c1 hR HTL.out HDL.out (by omega) (by omega) HO1.out HO2.out (fun w' hb' => HT.out w' ((hb.mono hh).trans (hb'.mono (Nat.le_trans hh hb.size)))) (fun w' hb' => HD.out w' ((hb.mono hh).trans (hb'.mono (Nat.le_trans hh hb.size))))
  generalize c64 (xs.take k) = T at *
  generalize c64 (xs.drop (k + 1)) = D at *
  have HWC := Lib.hid fun B p d W => withClues_any m (some ⟨g, o, none⟩) B n c p d W
  obtain ⟨c0, c1⟩ := bx.cells
  have HX0 := Lib.hid bx
  have HR0 := Lib.hid rm
  have HB0 := Lib.hid b0
  clear ha hn hk bx rm b0 HT HD HTL HDL HO1 HO2
  go_enter Try.func42, Try.ntmps42
  go_wp2
  generalize hw1 : (w.alloc (.cells #[.int .i64 m, .slice (some ⟨g, o, none⟩) n c] 35)).alloc (.cells #[.int .i64 0, .slice none 0 0] 35) = w1 at *
  clear hw1
  have hz1 : w.heap.size < w1.heap.size := by omega
  have hz2 : w.heap.size + 1 < w1.heap.size := by omega
  have HB1 := Lib.hid (HB0.out.alloc (Nat.le_of_lt hz1) (.cells #[.slice (some ⟨g, o, none⟩) k c, .slice (some AD) (n - (k + 1)) (c - (k + 1))] 33)).drew
  obtain ⟨q0, q1, hR⟩ : ((w1.alloc (.cells #[.slice (some ⟨g, o, none⟩) k c, .slice (some AD) (n - (k + 1)) (c - (k + 1))] 33)).drew).cell? ⟨w.heap.size + 2, 0, none⟩ = some (.slice (some ⟨g, o, none⟩) k c) ∧ ((w1.alloc (.cells #[.slice (some ⟨g, o, none⟩) k c, .slice (some AD) (n - (k + 1)) (c - (k + 1))] 33)).drew).cell? ⟨w.heap.size + 2, 1, none⟩ = some (.slice (some AD) (n - (k + 1)) (c - (k + 1))) ∧ w.heap.size + 2 < ((w1.alloc (.cells #[.slice (some ⟨g, o, none⟩) k c, .slice (some AD) (n - (k + 1)) (c - (k + 1))] 33)).drew).heap.size := by
    rw [← z0]
    exact ⟨by simp [go_sem], by simp [go_sem], by simp⟩
  have HX2 := Lib.hid (HX0.out.below ((Below.refl w1.heap.size w1).alloc (Nat.le_refl _) (.cells #[.slice (some ⟨g, o, none⟩) k c, .slice (some AD) (n - (k + 1)) (c - (k + 1))] 33)).drew (Nat.le_of_lt hz2))
  have HR2 := Lib.hid (HR0.out.below ((Below.refl w1.heap.size w1).alloc (Nat.le_refl _) (.cells #[.slice (some ⟨g, o, none⟩) k c, .slice (some AD) (n - (k + 1)) (c - (k + 1))] 33)).drew hz2)
  obtain ⟨a0, a1⟩ := HX2.out.cells
  refine wp_region_held_drew (S := (fun w' => w'.cell? ⟨w.heap.size, 0, none⟩ = some (.int .i64 m) ∧ w'.cell? ⟨w.heap.size, 1, none⟩ = some (.slice (some ⟨g, o, none⟩) n c))) (by kernel_rfl) ?_ (fun hHeld => ?_)
  · exact ⟨c0, c1⟩
  refine wpAnyH_take (i := 0) (v := ?_) rfl (by kernel_rfl) (by kernel_rfl) (by kernel_rfl) (fun _ _ _ h => h) (Or.inl ⟨by rfl, ?_⟩) (by assumption) ?_
  rotate_left
  · intro wx hSw
    (try dsimp only at hSw)
    go_simp
    (try with_reducible rfl)
  (try simp only [Act.put, List.setIfInBounds_toArray])
  refine wpAnyH_take (i := 1) (v := ?_) rfl (by kernel_rfl) (by kernel_rfl) (by kernel_rfl) (fun _ _ _ h => h) (Or.inl ⟨by rfl, ?_⟩) (by assumption) ?_
  rotate_left
  · intro wx hSw
    (try dsimp only at hSw)
    go_simp
    (try with_reducible rfl)
  (try simp only [Act.put])
  refine wpAnyH_take (i := 2) (v := ?_) rfl (by kernel_rfl) (by kernel_rfl) (by kernel_rfl) (fun _ _ _ h => h) (Or.inl ⟨by rfl, ?_⟩) (by assumption) ?_
  rotate_left
  · intro wx hSw
    (try dsimp only at hSw)
    go_simp
    (try with_reducible rfl)
  (try simp only [Act.put])
  refine wpAnyH_take (i := 3) (v := ?_) rfl (by kernel_rfl) (by kernel_rfl) (by kernel_rfl) (fun _ _ _ h => h) (Or.inl ⟨by rfl, ?_⟩) (by assumption) ?_
  rotate_left
  · intro wx hSw
    (try dsimp only at hSw)
    go_simp
    (try with_reducible rfl)
  (try simp only [Act.put])
  refine wpAnyH_take (i := 4) (v := ?_) rfl (by kernel_rfl) (by kernel_rfl) (by kernel_rfl) (fun _ _ _ h => h) (Or.inl ⟨by rfl, ?_⟩) (by assumption) ?_
  rotate_left
  · intro wx hSw
    (try dsimp only at hSw)
    go_simp
    (try with_reducible rfl)
  (try simp only [Act.put])
  refine wpAnyH_take (i := 5) (v := ?_) rfl (by kernel_rfl) (by kernel_rfl) (by kernel_rfl) (fun _ _ _ h => h) (Or.inl ⟨by rfl, ?_⟩) (by assumption) ?_
  rotate_left
  · intro wx hSw
    (try dsimp only at hSw)
    go_simp
    (try with_reducible rfl)
  (try simp only [Act.put])
  refine wpAnyH_take (i := 6) (v := ?_) rfl (by kernel_rfl) (by kernel_rfl) (by kernel_rfl) (fun _ _ _ h => h) (Or.inl ⟨by rfl, ?_⟩) (by assumption) ?_
  rotate_left
  · intro wx hSw
    (try dsimp only at hSw)
    go_simp
    (try with_reducible rfl)
  (try simp only [Act.put])
  refine wpAnyH_take (i := 7) (v := ?_) rfl (by kernel_rfl) (by kernel_rfl) (by kernel_rfl) (fun _ _ _ h => h) (Or.inl ⟨by rfl, ?_⟩) (by assumption) ?_
  rotate_left
  · intro wx hSw
    (try dsimp only at hSw)
    go_simp
    (try with_reducible rfl)
  (try simp only [Act.put])
  refine wpAnyH_take (i := 8) (v := ?_) rfl (by kernel_rfl) (by kernel_rfl) (by kernel_rfl) (fun _ _ _ h => h) (Or.inl ⟨by rfl, ?_⟩) (by assumption) ?_
  rotate_left
  · intro wx hSw
    (try dsimp only at hSw)
    go_simp
    (try with_reducible rfl)
  (try simp only [Act.put])
  refine wpAnyH_take (i := 9) (v := ?_) rfl (by kernel_rfl) (by kernel_rfl) (by kernel_rfl) (fun _ _ _ h => h) (Or.inl ⟨by rfl, ?_⟩) (by assumption) ?_
  rotate_left
  · intro wx hSw
    (try dsimp only at hSw)
    go_simp
    (try with_reducible rfl)
  (try simp only [Act.put])
  refine wpAnyH_ready (rs := [10]) (by kernel_rfl) (by simp) ?_
  refine AllReadyH.cons rfl (fun K hK => ?_) AllReadyH.nil
  go_simp
  refine hK.out _ _ ?_ (fun hHeld => ?_)
  · exact ⟨a0, a1⟩
  clear hK K
  (try simp only [Act.put, List.setIfInBounds_toArray, List.set_cons_zero, List.set_cons_succ])
  refine wpAnyH_ready (rs := [11]) (by kernel_rfl) (by simp) ?_
  refine AllReadyH.cons rfl (fun K hK => ?_) AllReadyH.nil
  go_simp
  go_at_call 58
  refine (HCC.out _ (w.heap.size + 2) HB1.out q0 q1 hR).mono ?_
  rintro e w2 ⟨⟨v, rfl, ho⟩, b2⟩
  obtain ⟨B, d, rfl⟩ := row_form ho
  have HO := Lib.hid ho
  have HB2 := Lib.hid b2
  have HX3 := Lib.hid (HX2.out.below b2 (by omega))
  have HR3 := Lib.hid (HR2.out.below b2 (by omega))
  have hz3 := Nat.lt_of_lt_of_le hR b2.size
  clear ho b2
  obtain ⟨x0, x1⟩ := HX3.out.cells
  refine hK.out _ _ ?_ (fun hHeld => ?_)
  · exact ⟨x0, x1⟩
  clear hK K
  (try simp only [Act.put, List.setIfInBounds_toArray, List.set_cons_zero, List.set_cons_succ])
  refine wpAnyH_ready (rs := [12]) (by kernel_rfl) (by simp) ?_
  refine AllReadyH.cons rfl (fun K hK => ?_) AllReadyH.nil
  go_simp
  go_at_call 45
  refine (HWC.out _ _ _ _).mono ?_
  rintro e w3 ⟨rfl, b3⟩
  have HB3 := Lib.hid b3
  obtain ⟨r0, r1, f0, f1⟩ := HR3.out.below b3 (by omega)
  have HX4 := Lib.hid (HX3.out.below b3 (by omega))
  obtain ⟨y0, y1⟩ := HX4.out.cells
  clear b3
  refine hK.out _ _ ?_ (fun hHeld => ?_)
  · exact ⟨y0, y1⟩
  clear hK K
  (try simp only [Act.put, List.setIfInBounds_toArray, List.set_cons_zero, List.set_cons_succ])
  refine wpAnyH_ready (rs := [13]) (by kernel_rfl) (by simp) ?_
  refine AllReadyH.cons rfl (fun K hK => ?_) AllReadyH.nil
  go_simp
  refine hK.out _ _ ?_ (fun hHeld => ?_)
  · exact (HX4.out.below (set2_below9 (Below.refl (w.heap.size + 1) w3) (Nat.le_refl _) (.int .i64 m) (.slice B (k + (n - (k + 1))) d)) (Nat.le_refl _)).cells
  clear hK K
  (try simp only [Act.put, List.setIfInBounds_toArray, List.set_cons_zero, List.set_cons_succ])
  refine wpAnyH_done (by kernel_rfl) ?_ _
  have e3 : k + (n - (k + 1)) = n - 1 := by omega
  have HBf := Lib.hid (set2_below9 (HB1.out.trans ((HB2.out.trans (HB3.out.mono HB2.out.size)).mono HB1.out.size)) (Nat.le_succ w.heap.size) (.int .i64 m) (.slice B (k + (n - (k + 1))) d))
  have HOf := Lib.hid (own_far9 ((own_of_row HO.out).below HB3.out (Nat.le_refl _)) (Q := w.heap.size + 1) (by omega) (.int .i64 m) (.slice B (k + (n - (k + 1))) d))
  have HZf := Lib.hid (set2_size9 w3 (w.heap.size + 1) (.int .i64 m) (.slice B (k + (n - (k + 1))) d))
  have HCf := Lib.hid (row_cap9 HO.out)
  have HS3 := Lib.hid HB3.out.size
  have HS1 := Lib.hid HB1.out.size
  clear y0 y1 x0 x1 a0 a1 c0 c1 q0 q1
  go_wp2
  exact bodyPost_ret (v := .agg #[.int .i64 m, .slice B (k + (n - (k + 1))) d]) (by simp [results, Try.results42, go_sem, r0, r1]) rfl ⟨B, d, by rw [e3], (by rw [HZf.out, HW.out]; exact HOf.out.wide HS1.out HS3.out), by have := HCf.out.1; omega, HCf.out.2, HBf.out⟩
-- END withoutClue
end Go.Proofs.Ytmpajeldfbchhaa
