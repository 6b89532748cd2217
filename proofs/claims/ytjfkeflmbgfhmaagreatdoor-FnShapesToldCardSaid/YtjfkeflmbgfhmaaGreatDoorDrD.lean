/- The drawings of chapters 1 and 3: whatever the bytes (a million at most), numbers come out, and no old memory changes. -/
import Derived.Test.YtjfkeflmbgfhmaaGreatDoorDrC
import Derived.Test.YtjfkeflmbgfhmaaGreatDoorSoA
import Derived.Test.YtjfkeflmbgfhmaaGreatDoorSoD
namespace Go.Proofs.YtjfkeflmbgfhmaaGreatDoor
open Go.ChangeShapes Go.WideShapes Go.ChangeAt Go.RowKit

/-- Bytes that can be read. -/
def Bys (w : World) (A : Option Addr) (n : Nat) : Prop := ∀ j, j < n → ∃ (a : Addr) (b : Int), A = some a ∧ a.block < w.heap.size ∧ 0 ≤ b ∧ b ≤ 255 ∧ w.cell? (a.add j) = some (.int .u8 b)
theorem Bys.below {w w' : World} {A : Option Addr} {n B : Nat} (h : Bys w A n) (hb : Below B w w') (hB : w.heap.size ≤ B) : Bys w' A n := fun j hj => by
  obtain ⟨a, b, e, hg, b0, b1, hc⟩ := h j hj
  exact ⟨a, b, e, Nat.lt_of_lt_of_le hg hb.size, b0, b1, by rw [hb.cell (p := a.add j) (by rw [addr_blk]; exact Nat.lt_of_lt_of_le hg hB)]; exact hc⟩
theorem cur_new (w : World) (A : Option Addr) (n c : Nat) (T : TypeId) (h : Bys w A n) : Cur (w.alloc (.cells #[.slice A n c, .int .i64 0, .int .u64 0] T)) w.heap.size w.heap.size A n c 0 := by
  refine ⟨Nat.le_refl _, by simp, by simp [go_sem], ⟨0, Nat.le_refl _, by simp [go_sem]⟩, ⟨0, by omega, by omega, by simp [go_sem]⟩, by simp [go_sem], by simp [go_sem], fun j hj => ?_⟩
  obtain ⟨a, b, e, hg, b0, b1, hc⟩ := h j hj
  exact ⟨a, b, e, hg, b0, b1, by rw [((Below.refl w.heap.size w).alloc (Nat.le_refl _) _).cell (p := a.add j) (by rw [addr_blk]; exact hg)]; exact hc⟩
theorem drew_below {w w' : World} {o : Obj} (h : (w.alloc o).grownBy w' (some w.heap.size)) : Below w.heap.size w w' :=
  ((Below.refl w.heap.size w).alloc (Nat.le_refl _) o).grown h (by simp) (fun k e => by cases e; exact Nat.le_refl _)
/-- A []byte argument, opened. -/
theorem view_bytes {H : Type} {enc : TypeId × Value → H} {W : World} {t e : TypeId} {A : Option Addr} {n c : Nat} {d : DataW H} {p : List MemPlace}
    (ht : Tryz.prog.underlying t = some (.slice e)) (he : Tryz.prog.underlying e = some (.int .u8)) (hc : Tryz.prog.cellsOf e = 1)
    (hf : DataW.Trod enc Tryz.prog W 0 (fun _ => true) true t (.slice A n c) d p) : n ≤ 9223372036854775807 ∧ Bys W A n := by
  obtain ⟨fuel, hf⟩ := hf
  rcases open_ints ht he hc hf with ⟨hcs, hx⟩ | ⟨a, len', cap', zs, hcs, _, hl, hm, hz, hx, hcell, hwz⟩
  · simp [Value.cells] at hcs
    obtain ⟨rfl, rfl, rfl⟩ := hcs
    exact ⟨by omega, fun j h => absurd h (by omega)⟩
  · simp [Value.cells] at hcs
    obtain ⟨rfl, rfl, rfl⟩ := hcs
    simp only [if_true] at hz
    unfold maxLen at hm
    refine ⟨by omega, fun j hj => ⟨a, zs.getD j 0, rfl, ?_, ?_, ?_, hcell j (by omega)⟩⟩
    · have h2 := hcell 0 (by omega)
      have h3 : (a.add 0) = a := rfl
      rw [h3] at h2
      rcases Nat.lt_or_ge a.block W.heap.size with h4 | h4
      · exact h4
      · simp [World.cell?, Array.getElem?_eq_none h4] at h2
    · have hw := hwz (zs.getD j 0) (by simp [List.getD, List.getElem?_eq_getElem (show j < zs.length by omega)])
      generalize zs.getD j 0 = b at hw ⊢
      simp [Lit.wf, IntKind.min, IntKind.max, IntKind.bits, IntKind.signed] at hw
      omega
    · have hw := hwz (zs.getD j 0) (by simp [List.getD, List.getElem?_eq_getElem (show j < zs.length by omega)])
      generalize zs.getD j 0 = b at hw ⊢
      simp [Lit.wf, IntKind.min, IntKind.max, IntKind.bits, IntKind.signed] at hw
      omega
def bgB (n m : Nat) : Bool := decide (1048576 < n) || decide (1048576 - (n : Int) < (m : Int))
set_option maxHeartbeats 800000 in
theorem big_any (A B : Option Addr) (n c m d : Nat) (w : World) (hn : n ≤ 9223372036854775807) (_hm : m ≤ 9223372036854775807) :
    Calls Tryz.prog 4 #[.slice A n c, .slice B m d] w fun e w' => e = .returned (.bool (bgB n m)) ∧ w = w' := by
  rcases Nat.lt_or_ge 1048576 n with h | h
  · have h1 : (1048576 : Int) < (n : Int) := by omega
    have HE : Hid (bgB n m = true) := Lib.hid (by simp [bgB, h])
    go_enter Tryz.func4, Tryz.ntmps4
    go_wp2
    go_ret
    exact ⟨by rw [HE.out]; rfl, rfl⟩
  · have h1 : ¬ (1048576 : Int) < (n : Int) := by omega
    have h2 : decide ((1048576 : Int) < (n : Int)) = false := by simp; omega
    have HE : Hid (bgB n m = decide (1048576 - (n : Int) < (m : Int))) := Lib.hid (by simp [bgB]; omega)
    go_enter Tryz.func4, Tryz.ntmps4
    go_wp2
    go_ret
    exact ⟨by rw [HE.out]; rfl, rfl⟩
theorem bg_no {n m : Nat} (h : bgB n m = false) : n ≤ 1048576 ∧ m ≤ 1048576 := by
  simp [bgB] at h
  omega
set_option maxHeartbeats 3200000 in
set_option maxRecDepth 4000 in
theorem DrawPolygonNumber_any (A : Option Addr) (n c : Nat) (w : World) (h : Bys w A n) (hn : n ≤ 1000000000000) :
    Calls Tryz.prog 50 #[.slice A n c] w fun e w' => (∃ x y : Int, e = .returned (.tuple #[.int .i64 x, .int .i64 y])) ∧ Below w.heap.size w w' := by
  have HC := cur_new w A n c 49 h
  have HG : (w.alloc (.cells #[.slice A n c, .int .i64 0, .int .u64 0] 49)).grownBy (w.alloc (.cells #[.slice A n c, .int .i64 0, .int .u64 0] 49)) (some w.heap.size) := World.grownBy.refl _ _
  go_enter Tryz.func50, Tryz.ntmps50
  go_upto_region 2 with (fail)
  generalize hw0 : w.alloc (.cells #[.slice A n c, .int .i64 0, .int .u64 0] 49) = w0 at HC HG ⊢
  have HW := Lib.hid hw0
  clear hw0
  go_wp2_with fail
  refine (sides_any _ _ _ _ _ _ _ HC (by omega) hn).mono ?_
  rintro e w1 ⟨x, ⟨rfl, x0, x1⟩, hd⟩
  replace HC := hd.cur
  replace HG := grown_trans HG hd.grown
  clear hd
  go_wp2_with fail
  refine (place_any _ _ _ _ _ _ _ HC (by omega) hn).mono ?_
  rintro e w1 ⟨y, rfl, hd⟩
  replace HC := hd.cur
  replace HG := grown_trans HG hd.grown
  clear hd
  go_wp2
  go_ret2
  exact ⟨⟨x, y, rfl⟩, drew_below (by rw [HW.out]; exact HG)⟩

end Go.Proofs.YtjfkeflmbgfhmaaGreatDoor
