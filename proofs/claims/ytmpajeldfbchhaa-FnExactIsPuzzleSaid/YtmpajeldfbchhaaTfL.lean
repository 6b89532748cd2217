/- Chapter 9: the laws IsClue and DoesFit: the specification's sides and the frames. -/
import Derived.Test.YtmpajeldfbchhaaTfE
import Derived.Test.YtmpajeldfbchhaaTfD
namespace Go.Proofs.Ytmpajeldfbchhaa
open Go.ChangeShapes Go.WideShapes Go.ChangeAt Go.RowKit

theorem spec_IsClue (q : Clu) (w : World) : Calls Try.prog 9 #[.agg #[.int .i64 q.k, .int .i64 q.a, .int .i64 q.b]] w fun e w' => e = .returned (.bool (okc9 q)) ∧ Below w.heap.size w w' := by
  have HC := Lib.hid fun W => pzClue_any q W
  have b0 : Below w.heap.size w (w.alloc (.cells #[.int .i64 q.k, .int .i64 q.a, .int .i64 q.b] 25)) := (Below.refl _ _).alloc (Nat.le_refl _) _
  go_enter Try.func9, Try.ntmps9
  go_wp2_with (go_at_call 27; refine (HC.out _).mono ?_; rintro e w1 ⟨rfl, b1⟩)
  go_ret
  exact ⟨rfl, b0.trans (b1.mono b0.size)⟩
set_option maxHeartbeats 800000 in
theorem lawC_IsClue (q : Clu) (r : Bool) (w : World)
    (hs : ∀ w : World, Calls Try.prog 9 #[.agg #[.int .i64 q.k, .int .i64 q.a, .int .i64 q.b]] w fun e w' => e = .returned (.bool r) ∧ Below w.heap.size w w')
    (hi : ∀ w : World, Calls Try.prog 11 #[.agg #[.int .i64 q.k, .int .i64 q.a, .int .i64 q.b]] w fun e w' => e = .returned (.bool r) ∧ Below w.heap.size w w') :
    Calls Try.prog 3 #[.agg #[.int .i64 q.k, .int .i64 q.a, .int .i64 q.b]] w fun e w' => e = .returned (.bool true) ∧ Below w.heap.size w w' := by
  have HS := Lib.hid hs
  have HI := Lib.hid hi
  clear hs hi
  have HT := Lib.hid fun W => toClue_any q.k q.a q.b W
  have b0 : Below w.heap.size w (w.alloc (.cells #[.int .i64 q.k, .int .i64 q.a, .int .i64 q.b] 23)) := (Below.refl _ _).alloc (Nat.le_refl _) _
  have c0 : (w.alloc (.cells #[.int .i64 q.k, .int .i64 q.a, .int .i64 q.b] 23)).cell? ⟨w.heap.size, 0, none⟩ = some (.int .i64 q.k) ∧ (w.alloc (.cells #[.int .i64 q.k, .int .i64 q.a, .int .i64 q.b] 23)).cell? ⟨w.heap.size, 1, none⟩ = some (.int .i64 q.a) ∧ (w.alloc (.cells #[.int .i64 q.k, .int .i64 q.a, .int .i64 q.b] 23)).cell? ⟨w.heap.size, 2, none⟩ = some (.int .i64 q.b) := ⟨by simp [go_sem], by simp [go_sem], by simp [go_sem]⟩
  have z0 : w.heap.size < (w.alloc (.cells #[.int .i64 q.k, .int .i64 q.a, .int .i64 q.b] 23)).heap.size := by simp
  go_enter Try.func3, Try.ntmps3
  go_wp2_with fail
  refine (HT.out _).mono ?_
  rintro e w1 ⟨rfl, b1⟩
  go_wp2_with fail
  refine (HS.out _).mono ?_
  rintro e w2 ⟨rfl, b2⟩
  have b12 := b1.trans (b2.mono b1.size)
  have d0 := (b12.cell (p := ⟨w.heap.size, 0, none⟩) z0).trans c0.1
  have d1 := (b12.cell (p := ⟨w.heap.size, 1, none⟩) z0).trans c0.2.1
  have d2 := (b12.cell (p := ⟨w.heap.size, 2, none⟩) z0).trans c0.2.2
  have b02 := b0.trans (b12.mono b0.size)
  clear b1 b2 b12 b0 c0 z0
  go_wp2_with fail
  refine (HT.out _).mono ?_
  rintro e w3 ⟨rfl, b3⟩
  go_wp2_with fail
  refine (HI.out _).mono ?_
  rintro e w4 ⟨rfl, b4⟩
  have b34 := b3.trans (b4.mono b3.size)
  have b04 := b02.trans (b34.mono b02.size)
  clear b3 b4 b34 b02 d0 d1 d2
  go_wp2
  go_ret
  exact ⟨rfl, b04⟩
set_option maxHeartbeats 800000 in
theorem spec_DoesFit_kind (q : Clu) (n : Int) (w : World) (hk : okc9 q = false) : Calls Try.prog 17 #[.agg #[.int .i64 q.k, .int .i64 q.a, .int .i64 q.b], .int .i64 n] w fun e w' => e = .returned (.tuple #[.bool false, .bool false]) ∧ Below w.heap.size w w' := by
  have HC := Lib.hid fun W => pzClue_any q W
  rw [hk] at HC
  clear hk
  have b0 : Below w.heap.size w (w.alloc (.cells #[.int .i64 q.k, .int .i64 q.a, .int .i64 q.b] 25)) := (Below.refl _ _).alloc (Nat.le_refl _) _
  go_enter Try.func17, Try.ntmps17
  go_wp2_with (go_at_call 27; refine (HC.out _).mono ?_; rintro e w1 ⟨rfl, b1⟩)
  go_ret2
  exact ⟨rfl, b0.trans (b1.mono b0.size)⟩
set_option maxHeartbeats 800000 in
theorem spec_DoesFit_far (q : Clu) (n : Int) (w : World) (hk : okc9 q = true) (hn : n < 1 ∨ 500 < n) : Calls Try.prog 17 #[.agg #[.int .i64 q.k, .int .i64 q.a, .int .i64 q.b], .int .i64 n] w fun e w' => e = .returned (.tuple #[.bool false, .bool false]) ∧ Below w.heap.size w w' := by
  have HC := Lib.hid fun W => pzClue_any q W
  rw [hk] at HC
  have HN := Lib.hid (betr_no hn)
  clear hk hn
  have b0 : Below w.heap.size w (w.alloc (.cells #[.int .i64 q.k, .int .i64 q.a, .int .i64 q.b] 25)) := (Below.refl _ _).alloc (Nat.le_refl _) _
  go_enter Try.func17, Try.ntmps17
  go_wp2_with (first
    | (go_at_call 27; refine (HC.out _).mono ?_; rintro e w1 ⟨rfl, b1⟩)
    | (go_at_call 37; refine (rin_any _ _ _ _).mono ?_; rw [HN.out]; rintro e w' ⟨rfl, rfl⟩))
  go_ret2
  exact ⟨rfl, b0.trans (b1.mono b0.size)⟩
set_option maxHeartbeats 800000 in
theorem spec_DoesFit_yes (q : Clu) (n : Nat) (w : World) (hk : okc9 q = true) (h1 : 1 ≤ n) (h2 : n ≤ 500) : Calls Try.prog 17 #[.agg #[.int .i64 q.k, .int .i64 q.a, .int .i64 q.b], .int .i64 (n : Int)] w fun e w' => e = .returned (.tuple #[.bool (fit9 q n), .bool true]) ∧ Below w.heap.size w w' := by
  have HC := Lib.hid fun W => pzClue_any q W
  have HF := Lib.hid fun W => pzFits_any q n W hk (by omega)
  rw [hk] at HC
  have HN := Lib.hid (betr_yes (x := (n : Int)) (lo := 1) (hi := 500) (by omega) (by omega))
  clear hk
  have b0 : Below w.heap.size w (w.alloc (.cells #[.int .i64 q.k, .int .i64 q.a, .int .i64 q.b] 25)) := (Below.refl _ _).alloc (Nat.le_refl _) _
  have c0 : (w.alloc (.cells #[.int .i64 q.k, .int .i64 q.a, .int .i64 q.b] 25)).cell? ⟨w.heap.size, 0, none⟩ = some (.int .i64 q.k) ∧ (w.alloc (.cells #[.int .i64 q.k, .int .i64 q.a, .int .i64 q.b] 25)).cell? ⟨w.heap.size, 1, none⟩ = some (.int .i64 q.a) ∧ (w.alloc (.cells #[.int .i64 q.k, .int .i64 q.a, .int .i64 q.b] 25)).cell? ⟨w.heap.size, 2, none⟩ = some (.int .i64 q.b) := ⟨by simp [go_sem], by simp [go_sem], by simp [go_sem]⟩
  have z0 : w.heap.size < (w.alloc (.cells #[.int .i64 q.k, .int .i64 q.a, .int .i64 q.b] 25)).heap.size := by simp
  go_enter Try.func17, Try.ntmps17
  go_wp2_with fail
  refine (HC.out _).mono ?_
  rintro e w1 ⟨rfl, b1⟩
  have d0 := (b1.cell (p := ⟨w.heap.size, 0, none⟩) z0).trans c0.1
  have d1 := (b1.cell (p := ⟨w.heap.size, 1, none⟩) z0).trans c0.2.1
  have d2 := (b1.cell (p := ⟨w.heap.size, 2, none⟩) z0).trans c0.2.2
  have b01 := b0.trans (b1.mono b0.size)
  clear b1 b0 c0 z0
  go_wp2_with (first
    | (go_at_call 38; refine (HF.out _).mono ?_; rintro e w2 ⟨rfl, b2⟩)
    | (go_at_call 37; refine (rin_any _ _ _ _).mono ?_; rw [HN.out]; rintro e w' ⟨rfl, rfl⟩))
  go_ret2
  exact ⟨rfl, b01.trans (b2.mono b01.size)⟩
set_option maxHeartbeats 800000 in
theorem lawC_DoesFit (q : Clu) (n : Int) (g r : Bool) (w : World)
    (hs : ∀ w : World, Calls Try.prog 17 #[.agg #[.int .i64 q.k, .int .i64 q.a, .int .i64 q.b], .int .i64 n] w fun e w' => e = .returned (.tuple #[.bool g, .bool r]) ∧ Below w.heap.size w w')
    (hi : ∀ w : World, Calls Try.prog 18 #[.agg #[.int .i64 q.k, .int .i64 q.a, .int .i64 q.b], .int .i64 n] w fun e w' => e = .returned (.tuple #[.bool g, .bool r]) ∧ Below w.heap.size w w') :
    Calls Try.prog 5 #[.agg #[.int .i64 q.k, .int .i64 q.a, .int .i64 q.b], .int .i64 n] w fun e w' => e = .returned (.bool true) ∧ Below w.heap.size w w' := by
  have HS := Lib.hid hs
  have HI := Lib.hid hi
  clear hs hi
  have HT := Lib.hid fun W => toClue_any q.k q.a q.b W
  have b0 : Below w.heap.size w (w.alloc (.cells #[.int .i64 q.k, .int .i64 q.a, .int .i64 q.b] 23)) := (Below.refl _ _).alloc (Nat.le_refl _) _
  have c0 : (w.alloc (.cells #[.int .i64 q.k, .int .i64 q.a, .int .i64 q.b] 23)).cell? ⟨w.heap.size, 0, none⟩ = some (.int .i64 q.k) ∧ (w.alloc (.cells #[.int .i64 q.k, .int .i64 q.a, .int .i64 q.b] 23)).cell? ⟨w.heap.size, 1, none⟩ = some (.int .i64 q.a) ∧ (w.alloc (.cells #[.int .i64 q.k, .int .i64 q.a, .int .i64 q.b] 23)).cell? ⟨w.heap.size, 2, none⟩ = some (.int .i64 q.b) := ⟨by simp [go_sem], by simp [go_sem], by simp [go_sem]⟩
  have z0 : w.heap.size < (w.alloc (.cells #[.int .i64 q.k, .int .i64 q.a, .int .i64 q.b] 23)).heap.size := by simp
  go_enter Try.func5, Try.ntmps5
  go_wp2_with fail
  refine (HT.out _).mono ?_
  rintro e w1 ⟨rfl, b1⟩
  go_wp2_with fail
  refine (HS.out _).mono ?_
  rintro e w2 ⟨rfl, b2⟩
  have b12 := b1.trans (b2.mono b1.size)
  have d0 := (b12.cell (p := ⟨w.heap.size, 0, none⟩) z0).trans c0.1
  have d1 := (b12.cell (p := ⟨w.heap.size, 1, none⟩) z0).trans c0.2.1
  have d2 := (b12.cell (p := ⟨w.heap.size, 2, none⟩) z0).trans c0.2.2
  have b02 := b0.trans (b12.mono b0.size)
  clear b1 b2 b12 b0 c0 z0
  go_wp2_with fail
  refine (HT.out _).mono ?_
  rintro e w3 ⟨rfl, b3⟩
  go_wp2_with fail
  refine (HI.out _).mono ?_
  rintro e w4 ⟨rfl, b4⟩
  have b34 := b3.trans (b4.mono b3.size)
  have b04 := b02.trans (b34.mono b02.size)
  clear b3 b4 b34 b02 d0 d1 d2
  go_wp2
  go_ret
  exact ⟨rfl, b04⟩
end Go.Proofs.Ytmpajeldfbchhaa
