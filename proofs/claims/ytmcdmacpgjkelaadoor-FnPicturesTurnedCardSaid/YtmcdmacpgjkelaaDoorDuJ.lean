/- Chapter 7: the program's pictures: limits, places. -/
import Derived.Test.YtmcdmacpgjkelaaDoorDuD
namespace Go.Proofs.YtmcdmacpgjkelaaDoor
open Go.ChangeShapes Go.WideShapes Go.ChangeAt Go.RowKit Go.Maps

/-- A picture of W columns and H rows, its dots in block b. -/
abbrev picV (W H : Int) (b : Nat) : Value := .agg #[.int .i64 W, .int .i64 H, .map (some b)]
def limB (W H : Int) : Bool := betr W 1 24 && betr H 1 24
set_option maxRecDepth 4000 in
theorem limits_any (W H : Int) (b : Nat) (w : World) :
    Calls Tryd.prog 56 #[.agg #[.int .i64 W, .int .i64 H, .map (some b)]] w fun e w' => e = .returned (.bool (limB W H)) ∧ Below w.heap.size w w' := by
  have HL : Hid (limB W H = (betr W 1 24 && betr H 1 24)) := Lib.hid rfl
  rw [HL.out]
  clear HL
  have HB := Lib.hid (show Below w.heap.size w (w.alloc (.cells #[.int .i64 W, .int .i64 H, .map (some b)] 42)) from (Below.refl _ _).alloc (Nat.le_refl _) _)
  cases h1 : betr W 1 24 <;> cases h2 : betr H 1 24
  all_goals
    go_enter Tryd.func56, Tryd.ntmps56
    go_wp2_with (go_at_call 72; refine (rwithin_any _ _ _ _).mono ?_; (first | rw [h1] | rw [h2]); rintro e w1 ⟨rfl, rfl⟩)
    go_ret
    exact ⟨rfl, HB.out⟩

/-- The first n places of a picture of W columns, row by row. -/
def plcs (W n : Nat) : List (Int × Int) := (List.range n).map fun i => (((i % W : Nat) : Int), ((i / W : Nat) : Int))
theorem plcs_len (W n : Nat) : (plcs W n).length = n := by simp [plcs]
theorem plcs_at (W n k : Nat) (h : k < n) : (plcs W n)[k]'(by rw [plcs_len]; exact h) = (((k % W : Nat) : Int), ((k / W : Nat) : Int)) := by simp [plcs]
theorem plcs_succ (W n : Nat) : plcs W (n + 1) = plcs W n ++ [(((n % W : Nat) : Int), ((n / W : Nat) : Int))] := by simp [plcs, List.range_succ]
set_option maxRecDepth 4000 in
set_option maxHeartbeats 1600000 in
theorem places_any (W H n b : Nat) (w : World) (hn : n = W * H) (hW : W ≤ 100) (hH : H ≤ 100) :
    Calls Tryd.prog 66 #[.agg #[.int .i64 (W : Int), .int .i64 (H : Int), .map (some b)]] w fun e w' => (∃ A c base, e = .returned (.slice A n c) ∧ w.heap.size < base ∧ w'.ownsRow base 68 2 (.slice A n c) n (prs (plcs W n))) ∧ Below w.heap.size w w' := by
  have HS : Hid (∀ x y, x < W → plcs W (y * W + x + 1) = plcs W (y * W + x) ++ [((x : Int), (y : Int))]) := Lib.hid fun x y hx => by rw [plcs_succ, place_x hx, place_y hx]
  have HL := Lib.hid fun k => plcs_len W k
  have HM : Hid (∀ y, y ≤ H → y * W ≤ 10000) := Lib.hid fun y hy => Nat.mul_le_mul (n₁ := y) (n₂ := 100) (m₁ := W) (m₂ := 100) (by omega) hW
  have HN : Hid (H * W = n) := Lib.hid (by rw [hn, Nat.mul_comm])
  have HU : Hid (∀ y, (y + 1) * W = y * W + W) := Lib.hid fun y => Nat.succ_mul y W
  clear hn
  generalize plcs W = pl at *
  have hB : Below w.heap.size w (w.alloc (.cells #[.int .i64 (W : Int), .int .i64 (H : Int), .map (some b)] 42)) := (Below.refl _ _).alloc (Nat.le_refl _) _
  have hz : w.heap.size < (w.alloc (.cells #[.int .i64 (W : Int), .int .i64 (H : Int), .map (some b)] 42)).heap.size := by simp
  have c0 : (w.alloc (.cells #[.int .i64 (W : Int), .int .i64 (H : Int), .map (some b)] 42)).cell? ⟨w.heap.size, 0, none⟩ = some (.int .i64 (W : Int)) := by simp [go_sem]
  have c1 : (w.alloc (.cells #[.int .i64 (W : Int), .int .i64 (H : Int), .map (some b)] 42)).cell? ⟨w.heap.size, 1, none⟩ = some (.int .i64 (H : Int)) := by simp [go_sem]
  go_enter Tryd.func66, Tryd.ntmps66
  go_wp2
  generalize w.alloc (.cells #[.int .i64 (W : Int), .int .i64 (H : Int), .map (some b)] 42) = wa at *
  have HB := Lib.hid hB
  clear hB
  go_loopw [3, 8] (fun v i wr => ∃ y : Nat, y ≤ H ∧ i = .int .i64 (y : Int) ∧ Hid (wr.ownsRow wa.heap.size 68 2 v (y * W) (prs (pl (y * W)))) ∧ Hid (Below wa.heap.size wa wr)) (fun _ i _ => H - (intOf i).toNat)
  case atStart => exact ⟨0, by omega, by simp, Lib.hid (by have := HL.out 0; rw [Nat.zero_mul, List.eq_nil_of_length_eq_zero this]; exact World.ownsRow_nil _ _ _ _), Lib.hid (Below.refl _ _)⟩
  case round =>
    obtain ⟨y, hy, rfl, hown, hb⟩ := hrel
    have d0 : wr.cell? ⟨w.heap.size, 0, none⟩ = some (.int .i64 (W : Int)) := (hb.out.cell (p := ⟨w.heap.size, 0, none⟩) hz).trans c0
    by_cases hlt : y < H
    · have hy2 : (y : Int) < (H : Int) := by omega
      go_wp2
      go_loopw [3, 13] (fun v i wr => ∃ x : Nat, x ≤ W ∧ i = .int .i64 (x : Int) ∧ Hid (wr.ownsRow wa.heap.size 68 2 v (y * W + x) (prs (pl (y * W + x)))) ∧ Hid (Below wa.heap.size wa wr)) (fun _ i _ => W - (intOf i).toNat)
      case atStart => exact ⟨0, by omega, by simp, by rw [Nat.add_zero]; exact hown, hb⟩
      case round =>
        obtain ⟨x, hx, rfl, hown1, hb1⟩ := hrel
        by_cases hlx : x < W
        · have hx2 : (x : Int) < (W : Int) := by omega
          have hm : y * W + x ≤ 10100 := by have := HM.out y hy; omega
          have hl := HL.out (y * W + x)
          have hs := HS.out x y hlx
          have hbz := hb1.out.size
          obtain ⟨k, hk⟩ : ∃ k, k = y * W + x := ⟨_, rfl⟩
          rw [← hk] at hm hl hs hown1
          have HK := Lib.hid hk
          clear hk
          have HSK := Lib.hid hs
          have HLK := Lib.hid hl
          clear hs hl
          go_wp2_with (at_builtin; refine app_vec wa.heap.size _ rfl _ _ rfl _ k (pl k) rfl hown1.out HLK.out hbz _ _ rfl (by omega) ?_; intro v' w4 ho4 hg4)
          have HO4 := Lib.hid ho4
          have HB4 := Lib.hid (hb1.out.grown hg4 hbz fun g hg => (hown1.out.lt g hg).1)
          clear ho4 hg4
          go_wp2
          go_roundw
          case rel => exact ⟨x + 1, by omega, by go_num, by rw [show y * W + (x + 1) = k + 1 by have := HK.out; omega, HSK.out]; exact HO4, HB4⟩
          case measure => simp [intOf]; omega
        · obtain rfl : x = W := by omega
          go_wp2
          go_roundw
          case rel => exact ⟨y + 1, by omega, by go_num, by rw [HU.out]; exact hown1, hb1⟩
          case measure => simp [intOf]; omega
    · obtain rfl : y = H := by omega
      obtain ⟨A, c, rfl⟩ := row_form hown.out
      have HO := Lib.hid hown.out
      rw [HN.out] at HO
      go_wp2
      go_ret
      exact ⟨⟨A, c, _, (by first | rfl | (rw [HN.out]; rfl)), hz, HO.out⟩, HB.out.trans (hb.out.mono HB.out.size)⟩
end Go.Proofs.YtmcdmacpgjkelaaDoor
