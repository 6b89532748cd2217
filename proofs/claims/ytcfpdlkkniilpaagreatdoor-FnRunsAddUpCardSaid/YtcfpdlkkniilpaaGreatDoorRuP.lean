/- Chapter 5: the law SumOfSquaresRun. -/
import Derived.Test.YtcfpdlkkniilpaaGreatDoorRuC
namespace Go.Proofs.YtcfpdlkkniilpaaGreatDoor
open Go.ChangeShapes Go.WideShapes Go.ChangeAt Go.RowKit

/-- The squares of f, .., f + k - 1 together. -/
def sqSum (f : Int) : Nat → Int
  | 0 => 0
  | k + 1 => sqSum f k + (f + k) * (f + k)
theorem sqSum_b (f : Int) (h1 : -1000 ≤ f) (h2 : f ≤ 1000) (k : Nat) (hk : k ≤ 1000) : 0 ≤ sqSum f k ∧ sqSum f k ≤ 4000000 * k := by
  induction k with
  | zero => simp [sqSum]
  | succ k ih =>
    have i := ih (by omega)
    have a := sq_nn (f + k)
    have b := sq_le (f + k) 2000 (by omega) (by omega)
    rw [sqSum]
    omega
theorem sq_b (f : Int) (h1 : -1000 ≤ f) (h2 : f ≤ 1000) (k : Nat) (hk : k ≤ 1000) : 0 ≤ (f + k) * (f + k) ∧ (f + k) * (f + k) ≤ 4000000 := by
  have a := sq_nn (f + k)
  have b := sq_le (f + k) 2000 (by omega) (by omega)
  omega

theorem rnewPile_any (w : World) :
    Calls Tryz.prog 50 #[] w fun e w' => e = .returned (.func (.func 62) #[] #[.pointer (some ⟨w.heap.size, 0, none⟩)]) ∧ w' = w.alloc (.cells #[.int .i64 0] 3) := by
  have hmf : ∀ (fn : Fn) (first cap : Array Value) (w : World), (Instr.makeFunc fn first cap).run Tryz.prog w = .ok (.func fn first cap) w := fun _ _ _ _ => rfl
  go_enter Tryz.func50, Tryz.ntmps50
  go_wp2
  go_ret
  exact ⟨rfl, rfl⟩
set_option maxHeartbeats 800000 in
/-- A number is added to the pile. -/
theorem pileOne_any (q r : Nat) (p x : Int) (w : World) (hx : w.cell? ⟨q, 0, none⟩ = some (.int .i64 x)) (hp : w.cell? ⟨r, 0, none⟩ = some (.int .i64 p)) (hf : w.frozen? ⟨r, 0, none⟩ = false)
    (p0 : 0 ≤ p) (p1 : p ≤ 1000000000000) (x0 : 0 ≤ x) (x1 : x ≤ 1000000000000) :
    Calls Tryz.prog 62 #[.slice (some ⟨q, 0, none⟩) 1 1, .pointer (some ⟨r, 0, none⟩)] w fun e w' => e = .returned (.int .i64 (p + x)) ∧ w' = w.setCell ⟨r, 0, none⟩ (.int .i64 (p + x)) := by
  have hs := World.cell?_setCell_same w ⟨r, 0, none⟩ (.int .i64 (p + x)) hp
  go_enter Tryz.func62, Tryz.ntmps62
  go_wp2
  go_loopw [8] (fun i wr => (i = .int .i64 0 ∧ wr = w) ∨ (i = .int .i64 1 ∧ wr = w.setCell ⟨r, 0, none⟩ (.int .i64 (p + x)))) (fun i _ => 2 - (intOf i).toNat)
  case atStart => exact Or.inl ⟨rfl, rfl⟩
  case round =>
    rcases hrel with ⟨rfl, rfl⟩ | ⟨rfl, rfl⟩
    · go_wp2
      go_roundw
      case rel => exact Or.inr ⟨rfl, trivial⟩
      case measure => simp [intOf]
    · go_wp2
      go_ret
      exact ⟨rfl, rfl⟩
set_option maxHeartbeats 800000 in
/-- The pile as it is. -/
theorem pileNone_any (r : Nat) (p : Int) (w : World) (hp : w.cell? ⟨r, 0, none⟩ = some (.int .i64 p)) :
    Calls Tryz.prog 62 #[.slice none 0 0, .pointer (some ⟨r, 0, none⟩)] w fun e w' => e = .returned (.int .i64 p) ∧ w' = w := by
  go_enter Tryz.func62, Tryz.ntmps62
  go_wp2
  go_loopw [8] (fun i wr => i = .int .i64 0 ∧ wr = w) (fun i _ => (intOf i).toNat)
  case atStart => exact ⟨rfl, rfl⟩
  case round =>
    obtain ⟨rfl, rfl⟩ := hrel
    go_wp2
    go_ret
    exact ⟨rfl, rfl⟩
set_option maxHeartbeats 1600000 in
theorem spec_SumOfSquaresRun_yes (f : Int) (L : Nat) (w : World) (f1 : -1000 ≤ f) (f2 : f ≤ 1000) (l2 : L ≤ 1000) :
    Calls Tryz.prog 26 #[.agg #[.int .i64 f, .int .i64 L]] w fun e w' => e = .returned (.tuple #[.int .i64 (sqSum f L), .bool true]) ∧ Below w.heap.size w w' := by
  have HA := Lib.hid (betr_yes f1 f2)
  have HB := Lib.hid (betr_yes (x := (L : Int)) (lo := 0) (hi := 1000) (by omega) (by omega))
  have HS := Lib.hid (sqSum_b f f1 f2)
  have HQ := Lib.hid (sq_b f f1 f2)
  go_enter Tryz.func26, Tryz.ntmps26
  go_wp2_with (go_at_call 46; refine (rin_any _ _ _ _).mono ?_; (first | rw [HA.out] | rw [HB.out]); rintro e w' ⟨rfl, rfl⟩)
  have c0 : (w.alloc (.cells #[.int .i64 f, .int .i64 L] 31)).cell? ⟨w.heap.size, 0, none⟩ = some (.int .i64 f) := by simp [go_sem]
  have c1 : (w.alloc (.cells #[.int .i64 f, .int .i64 L] 31)).cell? ⟨w.heap.size, 1, none⟩ = some (.int .i64 L) := by simp [go_sem]
  have hb : Below w.heap.size w (w.alloc (.cells #[.int .i64 f, .int .i64 L] 31)) := (Below.refl _ _).alloc (Nat.le_refl _) _
  generalize w.alloc (.cells #[.int .i64 f, .int .i64 L] 31) = W at *
  go_loopw [4, 5] (fun s i wr => ∃ k : Nat, k ≤ L ∧ s = .int .i64 (sqSum f k) ∧ i = .int .i64 (k : Int) ∧ wr = W) (fun _ i _ => L - (intOf i).toNat)
  case atStart => exact ⟨0, by omega, rfl, by simp, rfl⟩
  case round =>
    obtain ⟨k, hk, rfl, rfl, rfl⟩ := hrel
    obtain ⟨s0, s1⟩ := HS.out k (by omega)
    by_cases hlt : k < L
    · obtain ⟨q0, q1⟩ := HQ.out k (by omega)
      have hst : sqSum f (k + 1) = sqSum f k + (f + k) * (f + k) := rfl
      have HST := Lib.hid hst
      obtain ⟨y, hy⟩ : ∃ y, y = sqSum f k := ⟨_, rfl⟩
      rw [← hy] at s0 s1 HST ⊢
      have hkL : (k : Int) < (L : Int) := by omega
      clear hst hy
      go_wp2
      go_roundw
      case rel => exact ⟨k + 1, hlt, by rw [HST.out], by go_num, trivial⟩
      case measure => simp [intOf]; omega
    · obtain rfl : k = L := by omega
      obtain ⟨y, hy⟩ : ∃ y, y = sqSum f k := ⟨_, rfl⟩
      rw [← hy]
      have HY := Lib.hid hy
      clear hy s0 s1
      go_wp2
      go_ret2
      exact ⟨by rw [HY.out]; rfl, hb⟩
set_option maxHeartbeats 3200000 in
theorem impl_SumOfSquaresRun_yes (f : Int) (L : Nat) (w : World) (f1 : -1000 ≤ f) (f2 : f ≤ 1000) (l2 : L ≤ 1000) :
    Calls Tryz.prog 25 #[.agg #[.int .i64 f, .int .i64 L]] w fun e w' => e = .returned (.tuple #[.int .i64 (sqSum f L), .bool true]) ∧ Below w.heap.size w w' := by
  have HA := Lib.hid (betr_yes (x := f) (lo := -1000) (hi := 1000) f1 f2)
  have HB := Lib.hid (betr_yes (x := (L : Int)) (lo := 0) (hi := 1000) (by omega) (by omega))
  have HS := Lib.hid (sqSum_b f f1 f2)
  have HQ := Lib.hid (sq_b f f1 f2)
  go_enter Tryz.func25, Tryz.ntmps25
  go_wp2_with (first
    | (go_at_call 42; refine (rofSize_any _ _ _ (by omega) (by omega)).mono ?_; rw [HA.out]; rintro e w' ⟨rfl, rfl⟩)
    | (go_at_call 43; refine (rwithin_any _ _ _ _).mono ?_; rw [HB.out]; rintro e w' ⟨rfl, rfl⟩)
    | (go_at_call 50; refine (rnewPile_any _).mono ?_; rintro e w' ⟨rfl, rfl⟩))
  have c0 : ((w.alloc (.cells #[.int .i64 f, .int .i64 L] 31)).alloc (.cells #[.int .i64 0] 3)).cell? ⟨w.heap.size, 0, none⟩ = some (.int .i64 f) := by simp [go_sem]
  have c1 : ((w.alloc (.cells #[.int .i64 f, .int .i64 L] 31)).alloc (.cells #[.int .i64 0] 3)).cell? ⟨w.heap.size, 1, none⟩ = some (.int .i64 L) := by simp [go_sem]
  have d0 : ((w.alloc (.cells #[.int .i64 f, .int .i64 L] 31)).alloc (.cells #[.int .i64 0] 3)).cell? ⟨w.heap.size + 1, 0, none⟩ = some (.int .i64 0) := by simp [go_sem]
  have e0 : ((w.alloc (.cells #[.int .i64 f, .int .i64 L] 31)).alloc (.cells #[.int .i64 0] 3)).frozen? ⟨w.heap.size + 1, 0, none⟩ = false := by simp [go_sem]
  have hb : Below w.heap.size w ((w.alloc (.cells #[.int .i64 f, .int .i64 L] 31)).alloc (.cells #[.int .i64 0] 3)) := ((Below.refl _ _).alloc (Nat.le_refl _) _).alloc (by simp) _
  have hzW : w.heap.size + 2 ≤ ((w.alloc (.cells #[.int .i64 f, .int .i64 L] 31)).alloc (.cells #[.int .i64 0] 3)).heap.size := by simp
  generalize (w.alloc (.cells #[.int .i64 f, .int .i64 L] 31)).alloc (.cells #[.int .i64 0] 3) = W at *
  obtain ⟨R, hR⟩ : ∃ R, R = w.heap.size := ⟨_, rfl⟩
  rw [← hR] at c0 c1 d0 e0 hzW ⊢
  have HRR := Lib.hid hR
  have HW := Lib.hid hb
  clear hb hR
  go_loopw [5] (fun i wr => ∃ k : Nat, k ≤ L ∧ i = .int .i64 (f + k) ∧ wr.cell? ⟨R, 0, none⟩ = some (.int .i64 f) ∧ wr.cell? ⟨R, 1, none⟩ = some (.int .i64 L) ∧ wr.cell? ⟨R + 1, 0, none⟩ = some (.int .i64 (sqSum f k)) ∧ wr.frozen? ⟨R + 1, 0, none⟩ = false ∧ R + 2 ≤ wr.heap.size ∧ Hid (Below w.heap.size w wr)) (fun i _ => (f + L - intOf i).toNat)
  case atStart => exact ⟨0, by omega, by simp, c0, c1, d0, e0, hzW, HW⟩
  case round =>
    clear c0 c1 d0 e0 hzW HW
    obtain ⟨k, hk, rfl, c0, c1, d0, e0, hzW, HW⟩ := hrel
    obtain ⟨s0, s1⟩ := HS.out k (by omega)
    obtain ⟨y, hy⟩ : ∃ y, y = sqSum f k := ⟨_, rfl⟩
    have HLB := Lib.hid fun W => last_below f (L : Int) W (by omega) (by omega) (by omega) (by omega)
    by_cases hlt : k < L
    · obtain ⟨q0, q1⟩ := HQ.out k (by omega)
      have hst : sqSum f (k + 1) = sqSum f k + (f + k) * (f + k) := rfl
      have HST := Lib.hid hst
      rw [← hy] at s0 s1 d0 HST
      have hkL : (k : Int) < (L : Int) := by omega
      obtain ⟨x, hx⟩ : ∃ x, x = f + (k : Int) := ⟨_, rfl⟩
      rw [← hx] at q0 q1 HST ⊢
      have hx1 : -1000 ≤ x := by omega
      have hx2 : x ≤ 2000 := by omega
      have hx3 : x ≤ f + (L : Int) - 1 := by omega
      have HX := Lib.hid hx
      clear hst hy hx
      go_wp2_with fail
      refine (HLB.out _).mono ?_
      rintro e w2 ⟨rfl, hb2⟩
      have c0' := (hb2.cell (p := ⟨R, 0, none⟩) (by simp; omega)).trans c0
      have c1' := (hb2.cell (p := ⟨R, 1, none⟩) (by simp; omega)).trans c1
      have d0' := (hb2.cell (p := ⟨R + 1, 0, none⟩) (by simp; omega)).trans d0
      have e0' := (hb2.frozen (p := ⟨R + 1, 0, none⟩) (by simp; omega)).trans e0
      have z2 : R + 2 ≤ w2.heap.size := Nat.le_trans hzW hb2.size
      have hbA : Below w2.heap.size w2 (w2.alloc (.cells #[.int .i64 (x * x)] 3)) := (Below.refl _ _).alloc (Nat.le_refl _) _
      have HPO : Hid (Calls Tryz.prog 62 #[.slice (some ⟨w2.heap.size, 0, none⟩) 1 1, .pointer (some ⟨R + 1, 0, none⟩)] (w2.alloc (.cells #[.int .i64 (x * x)] 3)) fun e w' => e = .returned (.int .i64 (y + x * x)) ∧ w' = (w2.alloc (.cells #[.int .i64 (x * x)] 3)).setCell ⟨R + 1, 0, none⟩ (.int .i64 (y + x * x))) := Lib.hid
        (pileOne_any w2.heap.size (R + 1) y (x * x) _ (by simp [go_sem]) ((hbA.cell (p := ⟨R + 1, 0, none⟩) (by simp; omega)).trans d0') ((hbA.frozen (p := ⟨R + 1, 0, none⟩) (by simp; omega)).trans e0') s0 (by omega) q0 (by omega))
      have HFIN : Hid (∀ w3, w3 = (w2.alloc (.cells #[.int .i64 (x * x)] 3)).setCell ⟨R + 1, 0, none⟩ (.int .i64 (y + x * x)) → w3.cell? ⟨R, 0, none⟩ = some (.int .i64 f) ∧ w3.cell? ⟨R, 1, none⟩ = some (.int .i64 L) ∧ w3.cell? ⟨R + 1, 0, none⟩ = some (.int .i64 (y + x * x)) ∧ w3.frozen? ⟨R + 1, 0, none⟩ = false ∧ R + 2 ≤ w3.heap.size ∧ Below w.heap.size w w3) := Lib.hid (by
        rintro w3 rfl
        refine ⟨?_, ?_, ?_, ?_, ?_, ?_⟩
        · rw [World.cell?_setCell_other _ _ _ _ (by intro e; simp only [Addr.mk.injEq] at e; omega), hbA.cell (p := ⟨R, 0, none⟩) (by simp; omega)]; exact c0'
        · rw [World.cell?_setCell_other _ _ _ _ (by intro e; simp only [Addr.mk.injEq] at e; omega), hbA.cell (p := ⟨R, 1, none⟩) (by simp; omega)]; exact c1'
        · exact World.cell?_setCell_same _ _ _ ((hbA.cell (p := ⟨R + 1, 0, none⟩) (by simp; omega)).trans d0')
        · rw [World.frozen?_setCell]; exact (hbA.frozen (p := ⟨R + 1, 0, none⟩) (by simp; omega)).trans e0'
        · simp; omega
        · have h1 : Below w.heap.size w w2 := HW.out.trans (hb2.mono HW.out.size)
          exact (h1.alloc h1.size _).setCell (by have := HRR.out; simp; omega) _)
      clear c0 c1 d0 e0 c0' c1' d0' e0' hbA hb2 s0 s1
      go_wp2_with (refine HPO.out.mono ?_; rintro e w3 ⟨rfl, hw3⟩; obtain ⟨c0, c1, d0, e0, z3, hb3⟩ := HFIN.out w3 hw3; have HB3 := Lib.hid hb3; clear hw3 hb3)
      go_roundw
      case rel => exact ⟨k + 1, hlt, by rw [HX.out]; go_num, c0, c1, by rw [HST.out]; exact d0, e0, z3, HB3⟩
      case measure => have := HX.out; simp [intOf]; omega
    · obtain rfl : k = L := by omega
      have hnd : decide (f + (k : Int) ≤ f + (k : Int) - 1) = false := by simp; omega
      have HY := Lib.hid hy
      rw [← hy] at d0
      clear hy s0 s1
      go_wp2_with fail
      refine (HLB.out _).mono ?_
      rintro e w2 ⟨rfl, hb2⟩
      have d0' := (hb2.cell (p := ⟨R + 1, 0, none⟩) (by simp; omega)).trans d0
      have HPN := Lib.hid (pileNone_any (R + 1) y w2 d0')
      have hbF : Below w.heap.size w w2 := HW.out.trans (hb2.mono HW.out.size)
      clear c0 c1 d0 e0 d0' hb2
      go_wp2_with (refine HPN.out.mono ?_; rintro e w3 ⟨rfl, rfl⟩)
      go_ret2
      exact ⟨by rw [HY.out]; rfl, hbF⟩
theorem spec_SumOfSquaresRun_no (f l : Int) (w : World) (h : (f < -1000 ∨ 1000 < f) ∨ (l < 0 ∨ 1000 < l)) :
    Calls Tryz.prog 26 #[.agg #[.int .i64 f, .int .i64 l]] w fun e w' => e = .returned (.tuple #[.int .i64 0, .bool false]) ∧ Below w.heap.size w w' := by
  by_cases hs : f < -1000 ∨ 1000 < f
  · have HA := Lib.hid (betr_no hs)
    clear h hs
    go_enter Tryz.func26, Tryz.ntmps26
    go_wp2_with (go_at_call 46; refine (rin_any _ _ _ _).mono ?_; rw [HA.out]; rintro e w' ⟨rfl, rfl⟩)
    go_ret2
    exact ⟨rfl, (Below.refl _ _).alloc (Nat.le_refl _) _⟩
  · have HA := Lib.hid (betr_yes (x := f) (lo := -1000) (hi := 1000) (by omega) (by omega))
    have HB := Lib.hid (betr_no (x := l) (lo := 0) (hi := 1000) (by omega))
    clear h hs
    go_enter Tryz.func26, Tryz.ntmps26
    go_wp2_with (go_at_call 46; refine (rin_any _ _ _ _).mono ?_; (first | rw [HA.out] | rw [HB.out]); rintro e w' ⟨rfl, rfl⟩)
    go_ret2
    exact ⟨rfl, (Below.refl _ _).alloc (Nat.le_refl _) _⟩
theorem impl_SumOfSquaresRun_no (f l : Int) (w : World) (h : (f < -1000 ∨ 1000 < f) ∨ (l < 0 ∨ 1000 < l)) :
    Calls Tryz.prog 25 #[.agg #[.int .i64 f, .int .i64 l]] w fun e w' => e = .returned (.tuple #[.int .i64 0, .bool false]) ∧ Below w.heap.size w w' := by
  by_cases hs : f < -1000 ∨ 1000 < f
  · have HA := Lib.hid (betr_no hs)
    clear h hs
    go_enter Tryz.func25, Tryz.ntmps25
    go_wp2_with (go_at_call 42; refine (rofSize_any _ _ _ (by omega) (by omega)).mono ?_; rw [HA.out]; rintro e w' ⟨rfl, rfl⟩)
    go_ret2
    exact ⟨rfl, (Below.refl _ _).alloc (Nat.le_refl _) _⟩
  · have HA := Lib.hid (betr_yes (x := f) (lo := -1000) (hi := 1000) (by omega) (by omega))
    have HB := Lib.hid (betr_no (x := l) (lo := 0) (hi := 1000) (by omega))
    clear h hs
    go_enter Tryz.func25, Tryz.ntmps25
    go_wp2_with (first
      | (go_at_call 42; refine (rofSize_any _ _ _ (by omega) (by omega)).mono ?_; rw [HA.out]; rintro e w' ⟨rfl, rfl⟩)
      | (go_at_call 43; refine (rwithin_any _ _ _ _).mono ?_; rw [HB.out]; rintro e w' ⟨rfl, rfl⟩))
    go_ret2
    exact ⟨rfl, (Below.refl _ _).alloc (Nat.le_refl _) _⟩

end Go.Proofs.YtcfpdlkkniilpaaGreatDoor
