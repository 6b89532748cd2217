/- Chapter 7: the program's sets of dots: drop, and the library's Copy of a map into another one. -/
import Derived.Test.YtmcdmacpgjkelaaDoorDuA
namespace Go.Proofs.YtmcdmacpgjkelaaDoor
open Go.ChangeShapes Go.WideShapes Go.ChangeAt Go.RowKit Go.Maps

/-- The dots that stay where those of T that are no longer to come are dropped; those that are there where those are laid in. -/
def dlS (S T L : Int → Int → Bool) (x y : Int) : Bool := S x y && !(T x y && !L x y)
def ulS (S T L : Int → Int → Bool) (x y : Int) : Bool := S x y || (T x y && !L x y)
theorem pick_at {x y u v : Int} (h : ¬ (u = x ∧ v = y)) : (decide (u = x) && decide (v = y)) = false := by
  by_cases a : u = x
  · have : ¬ v = y := fun b => h ⟨a, b⟩
    simp [this]
  · simp [a]
theorem dl_start (S T : Int → Int → Bool) (u v : Int) : S u v = dlS S T T u v := by unfold dlS; cases T u v <;> simp
theorem dl_end {S T L : Int → Int → Bool} (h : ∀ x y, L x y = false) (u v : Int) : dlS S T L u v = dS S T u v := by unfold dlS dS; rw [h]; simp
theorem dl_step {S T L : Int → Int → Bool} {x y : Int} (hT : T x y = true) (u v : Int) : rS (dlS S T L) x y u v = dlS S T (rS L x y) u v := by
  unfold dlS rS
  by_cases e : u = x ∧ v = y
  · obtain ⟨rfl, rfl⟩ := e
    simp [hT]
  · rw [pick_at e]
    simp
theorem ul_start (S T : Int → Int → Bool) (u v : Int) : S u v = ulS S T T u v := by unfold ulS; cases T u v <;> simp
theorem ul_end {S T L : Int → Int → Bool} (h : ∀ x y, L x y = false) (u v : Int) : ulS S T L u v = uS S T u v := by unfold ulS uS; rw [h]; simp
theorem ul_step {S T L : Int → Int → Bool} {x y : Int} (hT : T x y = true) (u v : Int) : aS (ulS S T L) x y u v = ulS S T (rS L x y) u v := by
  unfold ulS rS aS
  by_cases e : u = x ∧ v = y
  · obtain ⟨rfl, rfl⟩ := e
    simp [hT]
  · rw [pick_at e]
    simp
theorem copy_any (b c : Nat) (S T : Int → Int → Bool) (w : World) (h : Ds w b S) (g : Ds w c T) (hne : b ≠ c) :
    Calls Tryd.prog 64 #[.map (some b), .map (some c)] w fun e w' => e = .returned (.tuple #[]) ∧ Ds w' b (uS S T) ∧ w.grownBy w' (some b) := by
  have hbl := h.lt
  have hS := h.congr (ul_start S T)
  have HS := Lib.hid hS
  clear hS h
  go_enter Tryd.func64, Tryd.ntmps64
  go_wp2_with (at_range; refine dots_range vkey _ rfl _ 40 84 rfl Tryd.underlying40 c T rfl g ?_; intro w0 hr0 hg0 hs0)
  go_frame
  have HR0 := Lib.hid hr0
  have HD0 := Lib.hid (HS.out.kept hg0 (by simp))
  have HG0 := Lib.hid (hg0.but (some b))
  clear hr0 hg0 hs0 g HS
  go_loopw [4] (fun _ wr => ∃ L, Hid (Rs wr c w.heap.size T L) ∧ Hid (Ds wr b (ulS S T L)) ∧ Hid (w.grownBy wr (some b))) (fun _ wr => wr.rangeLeft c w.heap.size)
  case atStart => exact ⟨T, HR0, HD0, HG0⟩
  case round =>
    obtain ⟨L, HR, HD, HG⟩ := hrel
    go_wp2_with (at_next; refine dots_next vkey _ rfl _ rfl c w.heap.size T L rfl HR.out ?_ ?_)
    · intro h0
      have HE := Lib.hid (HD.out.congr (ul_end h0))
      clear h0
      go_wp2
      go_end0
      exact ⟨rfl, HE.out, HG.out⟩
    · intro x y w2 hL hr2 hlt hg2 hs2 hen
      have hT := HR.out.sub hL
      have hbd := HR.out.dots.bd x y hT
      have HR2 := Lib.hid hr2
      have HD2 := Lib.hid (((HD.out.kept hg2 (by simp; omega)).alloc (.cells #[.int .i64 x, .int .i64 y] 68)).alloc (.cells #[] 84))
      have HG2 := Lib.hid (HG.out.andThen hg2 (by intro j hj; cases hj; exact Or.inl (Nat.le_refl _)))
      have HLT := Lib.hid hlt
      have HT := Lib.hid hT
      clear hr2 hlt hL hT hg2
      go_wp2_with (at_mapUpdate; refine dots_add vkey _ rfl _ _ _ 40 84 rfl Tryd.underlying40 b _ rfl HD2.out x y rfl rfl (by omega) ?_; intro w3 hd3 hg3)
      go_frame
      have hga := World.grownBy_alloc w2 (.cells #[.int .i64 x, .int .i64 y] 68) none
      have hgb := World.grownBy_alloc (w2.alloc (.cells #[.int .i64 x, .int .i64 y] 68)) (.cells #[] 84) none
      have hR3 : Rs w3 c w.heap.size T (rS L x y) := ((HR2.out.alloc _).alloc _).kept hg3 (by simp; omega) (by simp; omega)
      have hl3 : w3.rangeLeft c w.heap.size = w2.rangeLeft c w.heap.size := by
        rw [((HR2.out.alloc (.cells #[.int .i64 x, .int .i64 y] 68)).alloc (.cells #[] 84)).left hg3 (by simp; omega) (by simp; omega), (HR2.out.alloc (.cells #[.int .i64 x, .int .i64 y] 68)).left hgb (by simp) (by simp), HR2.out.left hga (by simp) (by simp)]
      have HD3 := Lib.hid (hd3.congr (ul_step HT.out))
      have HG3 := Lib.hid (((HG2.out.andThen hga (by simp)).andThen hgb (by simp)).andThen hg3 (by intro j hj; exact Or.inr (by rw [hj])))
      have HR3 := Lib.hid hR3
      have HL3 := Lib.hid hl3
      clear hd3 hR3 hl3 hga hgb hg3
      go_roundw
      case rel => exact ⟨_, HR3, HD3, HG3⟩
      case measure => rw [HL3.out]; exact HLT.out
end Go.Proofs.YtmcdmacpgjkelaaDoor
