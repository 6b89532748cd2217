/- Chapter 6: the specification's sides: DiagonalOf, BesideNumbers. -/
import Derived.Test.YtkhjeleoppdjgacSiD
import Derived.Deep.RegionHeld3
namespace Go.Proofs.Ytkhjeleoppdjgac
open Go.ChangeShapes Go.WideShapes Go.ChangeAt Go.RowKit

theorem infoInt6 : (Try.prog.info? 3).map (fun i => (i.zero, i.size, i.bytes)) = some (some (.int .i64 0), 1, 8) := by kernel_rfl
/-- The numbers of the first k spots of a diagonal. -/
def dgs (dx dy : Int) (k : Nat) : List Int := (List.range k).map fun (j : Nat) => nu (j * dx) (j * dy)
theorem dgs_len (dx dy : Int) (k : Nat) : (dgs dx dy k).length = k := by simp [dgs]
theorem dgs_succ (dx dy : Int) (k : Nat) : dgs dx dy (k + 1) = dgs dx dy k ++ [nu (k * dx) (k * dy)] := by simp [dgs, List.range_succ]
theorem dgs_app (dx dy : Int) (k : Nat) : i64s (dgs dx dy k) ++ [.int .i64 (nu (k * dx) (k * dy))] = i64s (dgs dx dy (k + 1)) := by simp [dgs_succ]
/-- What the arguments of a diagonal ask. -/
def dgOk (dx dy n : Int) : Bool := betr dx (-1) 1 && betr dy (-1) 1 && betr n 0 400
theorem dgOk_bds {dx dy n : Int} (h : dgOk dx dy n = true) : -1 ≤ dx ∧ dx ≤ 1 ∧ -1 ≤ dy ∧ dy ≤ 1 ∧ 0 ≤ n ∧ n ≤ 400 := by
  simp [dgOk, betr] at h
  omega
theorem dg_prod (k : Nat) (d : Int) (h0 : -1 ≤ d) (h1 : d ≤ 1) (hk : k ≤ 400) : -400 ≤ (k : Int) * d ∧ (k : Int) * d ≤ 400 := by
  have h : d = -1 ∨ d = 0 ∨ d = 1 := by omega
  rcases h with rfl | rfl | rfl <;> omega
theorem spec_DiagonalOf_no (dx dy n : Int) (w : World) (h : dgOk dx dy n = false) :
    Calls Try.prog 31 #[.int .i64 dx, .int .i64 dy, .int .i64 n] w (ResI false [] w) := by
  cases hx : betr dx (-1) 1
  · have HX := Lib.hid hx
    clear h hx
    go_enter Try.func31, Try.ntmps31
    go_wp2_with (go_at_call 104; refine (rin_any _ _ _ _).mono ?_; rw [HX.out]; rintro e w' ⟨rfl, rfl⟩)
    go_ret2
    exact resI_nil (Below.refl _ _)
  · cases hy : betr dy (-1) 1
    · have HX := Lib.hid hx
      have HY := Lib.hid hy
      clear h hx hy
      go_enter Try.func31, Try.ntmps31
      go_wp2_with (go_at_call 104; refine (rin_any _ _ _ _).mono ?_; (first | rw [HX.out] | rw [HY.out]); rintro e w' ⟨rfl, rfl⟩)
      go_ret2
      exact resI_nil (Below.refl _ _)
    · have HN : Hid (betr n 0 400 = false) := Lib.hid (by simpa [dgOk, hx, hy] using h)
      have HX := Lib.hid hx
      have HY := Lib.hid hy
      clear h hx hy
      go_enter Try.func31, Try.ntmps31
      go_wp2_with (go_at_call 104; refine (rin_any _ _ _ _).mono ?_; (first | rw [HX.out] | rw [HY.out] | rw [HN.out]); rintro e w' ⟨rfl, rfl⟩)
      go_ret2
      exact resI_nil (Below.refl _ _)
set_option maxHeartbeats 1600000 in
theorem spec_DiagonalOf_yes (dx dy n : Int) (w : World) (h : dgOk dx dy n = true) :
    Calls Try.prog 31 #[.int .i64 dx, .int .i64 dy, .int .i64 n] w (ResI true (dgs dx dy n.toNat) w) := by
  obtain ⟨i0, hi0, hz0, hz1, hz2⟩ := info_parts infoInt6
  obtain ⟨x0, x1, y0, y1, n0, n1⟩ := dgOk_bds h
  have HX := Lib.hid (betr_yes x0 x1)
  have HY := Lib.hid (betr_yes y0 y1)
  have HN := Lib.hid (betr_yes n0 n1)
  clear h
  go_enter Try.func31, Try.ntmps31
  go_wp2_with (go_at_call 104; refine (rin_any _ _ _ _).mono ?_; (first | rw [HX.out] | rw [HY.out] | rw [HN.out]); rintro e w' ⟨rfl, rfl⟩)
  go_loopw [8, 9] (fun v i wr => ∃ k : Nat, (k : Int) ≤ n ∧ i = .int .i64 (k : Int) ∧ Hid (wr.ownsRow w.heap.size 3 1 v k (i64s (dgs dx dy k))) ∧ Below w.heap.size w wr) (fun _ i _ => (n - intOf i).toNat)
  case atStart => exact ⟨0, n0, by simp, Lib.hid (World.ownsRow_nil _ _ _ _), Below.refl _ _⟩
  case round =>
    obtain ⟨k, hk, rfl, hown, hb⟩ := hrel
    by_cases hlt : (k : Int) < n
    · obtain ⟨p0, p1⟩ := dg_prod k dx x0 x1 (by omega)
      obtain ⟨q0, q1⟩ := dg_prod k dy y0 y1 (by omega)
      have HS := Lib.hid fun W => spNumber_any ((k : Int) * dx) ((k : Int) * dy) W (by omega) (by omega) (by omega) (by omega)
      have HE := Lib.hid (dgs_app dx dy k)
      generalize nu ((k : Int) * dx) ((k : Int) * dy) = u at *
      go_wp2_with (first
        | (go_at_call 93; refine (HS.out _).mono ?_; rintro e w1 ⟨rfl, hb8⟩; have hown1 := Lib.hid (row_below hown.out hb8 (Nat.le_refl _)); have hb9 := hb.trans (hb8.mono hb.size); clear hown hb)
        | (at_builtin; refine wpList_append_own _ rfl _ _ 31 rfl w.heap.size 3 i0 (.int .i64 0) 1 8 Try.underlying31 hi0 hz0 hz1 hz2 rfl (by decide) _ _ _ rfl (hown1.out.alloc _) ⟨w1.heap.size, 0, none⟩ 1 1 [.int .i64 u] rfl rfl ?c1 ?c2 ?c3 ?c4 ?c5 ?_))
      case c1 =>
        intro j u hj
        match j, hj with
        | 0, hj => simp at hj; subst hj; simp [Addr.add]
      case c2 => intro u hu; simp at hu; subst hu; rfl
      case c3 => unfold maxLen; omega
      case c4 => omega
      case c5 => have := hb9.size; simp; omega
      · intro v' w2 hown' hgrow _
        rw [HE.out] at hown'
        have hb1 : Below w.heap.size w w2 := (hb9.alloc hb9.size _).grown hgrow (by have := hb9.size; simp; omega) fun g hg => (hown1.out.lt g hg).1
        have HO := Lib.hid hown'
        clear hown' hown1 hgrow hb9
        go_wp2
        go_roundw
        case rel => exact ⟨k + 1, by omega, by go_num, HO, hb1⟩
        case measure => simp [intOf]; omega
    · have hke : n.toNat = k := by omega
      have HK := Lib.hid hke
      clear hke
      obtain ⟨A, c, rfl⟩ := row_form hown.out
      go_wp2
      go_ret2
      rw [HK.out]
      exact ⟨A, c, by rw [dgs_len]; rfl, (own_of_row hown.out), hb⟩
end Go.Proofs.Ytkhjeleoppdjgac
