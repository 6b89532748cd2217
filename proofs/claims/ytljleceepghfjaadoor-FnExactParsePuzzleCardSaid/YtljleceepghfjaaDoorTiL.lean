/- Chapter 9: a puzzle's text, read by the specification: puzzles without clues. -/
import Derived.Test.YtljleceepghfjaaDoorTiH
namespace Go.Proofs.YtljleceepghfjaaDoor
open Go.ChangeShapes Go.WideShapes Go.ChangeAt Go.RowKit

theorem le_allocT (w : World) (o : Obj) : w.heap.size ≤ (w.alloc o).heap.size := by simp
theorem strs_two (x y : List UInt8) : strs [x, y] = [.string (bt x), .string (bt y)] := rfl
set_option maxRecDepth 4000 in
set_option maxHeartbeats 1600000 in
theorem spec_ParsePuzzle_nil (s : ByteArray) (w : World) (a : List UInt8) (hs : s.size ≤ 80) (hla : a.length ≤ 1000000) (hp : parts s.data.toList 58 = [a, []]) (ok : Bool) (hok : okp9 (rd9 a) [] = ok) :
    Calls Tryd.prog 4 #[.string s] w (ResZ ok (if ok then rd9 a else 0) [] w) := by
  have rm := Rm.new w 24
  have b0 : Below w.heap.size w (w.alloc (.cells #[.int .i64 0, .slice none 0 0] 24)) := (Below.refl _ _).alloc (Nat.le_refl _) _
  have z0 : (w.alloc (.cells #[.int .i64 0, .slice none 0 0] 24)).heap.size = w.heap.size + 1 := by simp
  have HS := Lib.hid fun W => l1Split_58 s W (by omega)
  rw [hp] at HS
  have HRD := Lib.hid fun W => l1Read_any (bt a) W (by rw [bt_size]; omega)
  rw [bt_list] at HRD
  have HPG := Lib.hid fun W => pzGood_any (rd9 a) none 0 0 0 0 [] W rfl (by omega) Own.none_ (Nat.zero_le _)
  rw [hok] at HPG
  have HB0 := Lib.hid b0
  have HR0 := Lib.hid rm
  have HZ0 := Lib.hid z0
  have h8i : ¬ (80 : Int) < (s.size : Int) := by omega
  clear rm b0 z0 hp hok
  generalize rd9 a = v at *
  have HAD : Hid (∀ g j : Nat, (⟨g, 0, none⟩ : Addr).add j = ⟨g, j, none⟩) := Lib.hid fun g j => by unfold Addr.add; split <;> simp_all
  have walk : Calls Tryd.prog 4 #[.string s] w (ResZ ok (if ok then v else 0) [] w) := by
    cases ok with
    | false =>
      go_enter Tryd.func4, Tryd.ntmps4
      go_wp2_with (first
        | (go_at_call 9; refine (HS.out _).mono ?_; rintro e w1 ⟨⟨A, c, rfl, ho⟩, b1⟩; obtain ⟨g, cap, hv, hg1, hg2⟩ := ho.form (Nat.succ_pos 1); injection hv with hv1 hv2 hv3; subst hv1; have p0 := ho.cells (g := g) rfl 0 (.string (bt a)) rfl; have p1 := ho.cells (g := g) rfl 1 (.string (bt [])) rfl; rw [HAD.out] at p0 p1; have p2 : (w1.alloc (.cells #[.int .i64 v, .slice none 0 0] 24)).cell? ⟨g, 1, none⟩ = some (.string ⟨#[]⟩) := (((Below.refl w1.heap.size w1).alloc (Nat.le_refl _) (.cells #[.int .i64 v, .slice none 0 0] 24)).cell (p := ⟨g, 1, none⟩) hg2).trans p1; have HB1 := Lib.hid (HB0.out.trans (b1.mono HB0.out.size)); have HR1 := Lib.hid (HR0.out.below b1 (by rw [HZ0.out]; exact Nat.le_refl _)); have HZ1 : Hid (w.heap.size + 1 ≤ w1.heap.size) := Lib.hid (by have := b1.size; rw [HZ0.out] at this; exact this); clear b1 ho hg1 hg2 hv2 hv3)
        | (go_at_call 10; refine (HRD.out _).mono ?_; rintro e w2 ⟨rfl, rfl⟩)
        | (go_at_call 11; refine (HPG.out _).mono ?_; rintro e w3 ⟨rfl, b3⟩; have HB3 := Lib.hid (((HB1.out.alloc HB1.out.size (.cells #[.int .i64 v, .slice none 0 0] 24))).trans (b3.mono (HB1.out.alloc HB1.out.size (.cells #[.int .i64 v, .slice none 0 0] 24)).size)); obtain ⟨r0, r1, f0, f1⟩ := (HR1.out.below ((Below.refl w1.heap.size w1).alloc (Nat.le_refl _) (.cells #[.int .i64 v, .slice none 0 0] 24)) HZ1.out).below b3 (Nat.le_trans HZ1.out (le_allocT _ _)); clear b3))
      have HB := Lib.hid (set2_below9 HB3.out (Nat.le_refl w.heap.size) (.int .i64 0) (.slice none 0 0))
      exact bodyPost_ret (v := .tuple #[.agg #[.int .i64 0, .slice none 0 0], .bool false]) (by simp [results, Tryd.results4, go_sem, r0, r1]) rfl ⟨none, 0, rfl, Own.none_, HB.out⟩
    | true =>
      go_enter Tryd.func4, Tryd.ntmps4
      go_wp2_with (first
        | (go_at_call 9; refine (HS.out _).mono ?_; rintro e w1 ⟨⟨A, c, rfl, ho⟩, b1⟩; obtain ⟨g, cap, hv, hg1, hg2⟩ := ho.form (Nat.succ_pos 1); injection hv with hv1 hv2 hv3; subst hv1; have p0 := ho.cells (g := g) rfl 0 (.string (bt a)) rfl; have p1 := ho.cells (g := g) rfl 1 (.string (bt [])) rfl; rw [HAD.out] at p0 p1; have p2 : (w1.alloc (.cells #[.int .i64 v, .slice none 0 0] 24)).cell? ⟨g, 1, none⟩ = some (.string ⟨#[]⟩) := (((Below.refl w1.heap.size w1).alloc (Nat.le_refl _) (.cells #[.int .i64 v, .slice none 0 0] 24)).cell (p := ⟨g, 1, none⟩) hg2).trans p1; have HB1 := Lib.hid (HB0.out.trans (b1.mono HB0.out.size)); have HR1 := Lib.hid (HR0.out.below b1 (by rw [HZ0.out]; exact Nat.le_refl _)); have HZ1 : Hid (w.heap.size + 1 ≤ w1.heap.size) := Lib.hid (by have := b1.size; rw [HZ0.out] at this; exact this); clear b1 ho hg1 hg2 hv2 hv3)
        | (go_at_call 10; refine (HRD.out _).mono ?_; rintro e w2 ⟨rfl, rfl⟩)
        | (go_at_call 11; refine (HPG.out _).mono ?_; rintro e w3 ⟨rfl, b3⟩; have HB3 := Lib.hid (((HB1.out.alloc HB1.out.size (.cells #[.int .i64 v, .slice none 0 0] 24))).trans (b3.mono (HB1.out.alloc HB1.out.size (.cells #[.int .i64 v, .slice none 0 0] 24)).size)); obtain ⟨d0, d1⟩ := ((Bx.new w1 v none 0 0 24).below b3 (by simp)).cells; obtain ⟨r0, r1, f0, f1⟩ := (HR1.out.below ((Below.refl w1.heap.size w1).alloc (Nat.le_refl _) (.cells #[.int .i64 v, .slice none 0 0] 24)) HZ1.out).below b3 (Nat.le_trans HZ1.out (le_allocT _ _)); clear b3))
      have HB := Lib.hid (set2_below9 HB3.out (Nat.le_refl w.heap.size) (.int .i64 v) (.slice none 0 0))
      exact bodyPost_ret (v := .tuple #[.agg #[.int .i64 v, .slice none 0 0], .bool true]) (by simp [results, Tryd.results4, go_sem, r0, r1]) rfl ⟨none, 0, rfl, Own.none_, HB.out⟩
  exact walk
end Go.Proofs.YtljleceepghfjaaDoor
