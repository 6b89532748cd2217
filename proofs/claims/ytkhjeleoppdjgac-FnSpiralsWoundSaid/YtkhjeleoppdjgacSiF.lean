/- Chapter 6: the specification's side: BesideNumbers. -/
import Derived.Test.YtkhjeleoppdjgacSiE
import Derived.Deep.RegionHeld3
namespace Go.Proofs.Ytkhjeleoppdjgac
open Go.ChangeShapes Go.WideShapes Go.ChangeAt Go.RowKit

/-- A box of two numbers. -/
structure Two (W : World) (R : Nat) (x y : Int) : Prop where
  c0 : W.cell? ⟨R, 0, none⟩ = some (.int .i64 x)
  c1 : W.cell? ⟨R, 1, none⟩ = some (.int .i64 y)
  z : R < W.heap.size
theorem two_below {W W' : World} {R : Nat} {x y : Int} (hb : Below W.heap.size W W') (c0 : W.cell? ⟨R, 0, none⟩ = some (.int .i64 x)) (c1 : W.cell? ⟨R, 1, none⟩ = some (.int .i64 y)) (z : R < W.heap.size) : Two W' R x y :=
  ⟨(hb.cell (p := ⟨R, 0, none⟩) z).trans c0, (hb.cell (p := ⟨R, 1, none⟩) z).trans c1, Nat.lt_of_lt_of_le z hb.size⟩
/-- The numbers beside a spot. -/
def bes (x y : Int) : List Int := [nu (x + 1) y, nu x (y + 1), nu (x - 1) y, nu x (y - 1)]
theorem spec_BesideNumbers_no (n : Int) (w : World) (h : n < 0 ∨ 1000000 < n) :
    Calls Try.prog 16 #[.int .i64 n] w (ResI false [] w) := by
  have HA := Lib.hid (betr_no h)
  clear h
  go_enter Try.func16, Try.ntmps16
  go_wp2_with (go_at_call 87; refine (spGood_any _ _).mono ?_; rw [HA.out]; rintro e w' ⟨rfl, rfl⟩)
  go_ret2
  exact resI_nil (Below.refl _ _)
set_option maxHeartbeats 1600000 in
theorem spec_BesideNumbers_yes (n : Int) (w : World) (h0 : 0 ≤ n) (h1 : n ≤ 1000000) :
    Calls Try.prog 16 #[.int .i64 n] w (ResI true (bes (sp n).1 (sp n).2) w) := by
  have HA := Lib.hid (betr_yes h0 h1)
  have hbd := sp_bds n h0
  have hr := rg_le5 n h0 (by omega)
  have HS := Lib.hid fun W => spSpot_any n W h0 (by omega)
  have hx : -500 ≤ (sp n).1 ∧ (sp n).1 ≤ 500 ∧ -500 ≤ (sp n).2 ∧ (sp n).2 ≤ 500 := by omega
  clear hbd hr
  generalize (sp n).1 = x at *
  generalize (sp n).2 = y at *
  obtain ⟨x0, x1, y0, y1⟩ := hx
  obtain ⟨l, hl⟩ : ∃ l, l = bes x y := ⟨_, rfl⟩
  rw [← hl]
  unfold bes at hl
  obtain ⟨a, ha⟩ : ∃ a, nu (x + 1) y = a := ⟨_, rfl⟩
  obtain ⟨b, hb⟩ : ∃ b, nu x (y + 1) = b := ⟨_, rfl⟩
  obtain ⟨c, hc⟩ : ∃ c, nu (x - 1) y = c := ⟨_, rfl⟩
  obtain ⟨d, hd⟩ : ∃ d, nu x (y - 1) = d := ⟨_, rfl⟩
  rw [ha, hb, hc, hd] at hl
  have HL := Lib.hid hl
  clear hl
  have Ha := Lib.hid ha
  have Hb := Lib.hid hb
  have Hc := Lib.hid hc
  have Hd := Lib.hid hd
  clear ha hb hc hd
  go_enter Try.func16, Try.ntmps16
  go_wp2_with (first
    | (go_at_call 87; refine (spGood_any _ _).mono ?_; rw [HA.out]; rintro e w' ⟨rfl, rfl⟩)
    | (go_at_call 88; refine (HS.out _).mono ?_; rintro e w1 ⟨rfl, hb1⟩))
  have HB := Lib.hid (hb1.alloc hb1.size (.cells #[.int .i64 x, .int .i64 y] 26))
  have hk : Two (w1.alloc (.cells #[.int .i64 x, .int .i64 y] 26)) w1.heap.size x y := ⟨by simp [go_sem], by simp [go_sem], by simp⟩
  generalize w1.alloc (.cells #[.int .i64 x, .int .i64 y] 26) = w2 at *
  have HZ : Hid (w.heap.size ≤ w1.heap.size) := Lib.hid hb1.size
  generalize w1.heap.size = R at *
  clear hb1
  have HK := Lib.hid hk
  clear hk
  have e1 : IntKind.i64.wrap (x + 1) = x + 1 := IntWalk.i64_in _ (by omega)
  have e2 : IntKind.i64.wrap (y + 1) = y + 1 := IntWalk.i64_in _ (by omega)
  have e3 : IntKind.i64.wrap (x - 1) = x - 1 := IntWalk.i64_in _ (by omega)
  have e4 : IntKind.i64.wrap (y - 1) = y - 1 := IntWalk.i64_in _ (by omega)
  go_region_held3 (fun w' => w'.cell? ⟨R, 0, none⟩ = some (.int .i64 x) ∧ w'.cell? ⟨R, 1, none⟩ = some (.int .i64 y))
    (first | exact ⟨HK.out.c0, HK.out.c1⟩ | exact ⟨(((Below.refl _ _).alloc (Nat.le_refl _) _).cell (p := ⟨R, 0, none⟩) HK.out.z).trans HK.out.c0, (((Below.refl _ _).alloc (Nat.le_refl _) _).cell (p := ⟨R, 1, none⟩) HK.out.z).trans HK.out.c1⟩)
    (first
      | (go_at_call 93; refine (spNumber_any _ _ _ (by omega) (by omega) (by omega) (by omega)).mono ?_; (first | rw [Ha.out] | rw [Hb.out] | rw [Hc.out] | rw [Hd.out]); rintro e wn ⟨rfl, hbn⟩; have HB := Lib.hid (show Below w.heap.size w wn from (by first | exact HB.out.trans (hbn.mono HB.out.size) | exact HB.out.drew.trans (hbn.mono HB.out.size))); have HK := Lib.hid (two_below hbn HK.out.c0 HK.out.c1 HK.out.z); clear hbn))
  go_wp2
  go_ret2
  rw [HL.out]
  exact ⟨some ⟨wn.heap.size, 0, none⟩, 4, rfl, own_of_row (World.ownsRow_lit wn (base := w.heap.size) (e := 3) (size := 1) #[.int .i64 a, .int .i64 b, .int .i64 c, .int .i64 d] 4 HB.out.size (by unfold maxLen; omega) rfl), HB.out.alloc HB.out.size _⟩
end Go.Proofs.Ytkhjeleoppdjgac
