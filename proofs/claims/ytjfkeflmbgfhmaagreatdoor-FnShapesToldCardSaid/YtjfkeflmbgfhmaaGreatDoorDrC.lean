/- The cursor's calls of chapters 1 and 3: sides, places, numbers, layers. Whatever the bytes, some numbers come out, and nothing but the cursor's box changes. -/
import Derived.Test.YtjfkeflmbgfhmaaGreatDoorDrB
import Derived.Test.YtjfkeflmbgfhmaaGreatDoorSpA
import Derived.Deep.Cut
namespace Go.Proofs.YtjfkeflmbgfhmaaGreatDoor
open Go.RowKit

theorem Cur.alloc {w : World} {B r : Nat} {A : Option Addr} {n c k : Nat} (h : Cur w B r A n c k) (hB : ∀ g, g < B → g < w.heap.size) (o : Obj) : Cur (w.alloc o) B r A n c k := by
  obtain ⟨lo, lt, c0, ⟨i, hi, c1⟩, ⟨s, s0, s1, c2⟩, f1, f2, bs⟩ := h
  have hb := (Below.refl w.heap.size w).alloc (Nat.le_refl _) o
  refine ⟨lo, Nat.lt_of_lt_of_le lt hb.size, ?_, ⟨i, hi, ?_⟩, ⟨s, s0, s1, ?_⟩, ?_, ?_, fun j hj => ?_⟩
  · rw [hb.cell (p := ⟨r, 0, none⟩) lt]; exact c0
  · rw [hb.cell (p := ⟨r, 1, none⟩) lt]; exact c1
  · rw [hb.cell (p := ⟨r, 2, none⟩) lt]; exact c2
  · rw [hb.frozen (p := ⟨r, 1, none⟩) lt]; exact f1
  · rw [hb.frozen (p := ⟨r, 2, none⟩) lt]; exact f2
  · obtain ⟨a, b, e, hg, b0, b1, hc⟩ := bs j hj
    exact ⟨a, b, e, hg, b0, b1, by rw [hb.cell (p := a.add j) (by rw [addr_blk]; exact hB _ hg)]; exact hc⟩
theorem Cur.alloc' {w : World} {B r : Nat} {A : Option Addr} {n c k : Nat} (h : Cur w B r A n c k) (o : Obj) : Cur (w.alloc o) B r A n c k :=
  h.alloc (fun g hg => by have := h.lo; have := h.lt; omega) o
/-- A list that has just been made. -/
theorem own_new (w : World) (xs : List Int) (t : TypeId) : Own (w.alloc (.cells (i64s xs).toArray t)) w.heap.size (w.alloc (.cells (i64s xs).toArray t)).heap.size (some ⟨w.heap.size, 0, none⟩) (i64s xs) := fun hn => by
  refine ⟨w.heap.size, 0, rfl, Nat.le_refl _, by simp, fun j u hu => ?_⟩
  have hj : j < (i64s xs).length := (List.getElem?_eq_some_iff.1 hu).1
  constructor
  · simp [go_sem]
    simpa using hu
  · simp [go_sem]
theorem drawn_trans {w w1 w2 : World} {B r : Nat} {A : Option Addr} {n c k k' : Nat} (h1 : w.grownBy w1 (some r)) (h2 : Drawn w1 w2 B r A n c k) (hk : k ≤ k') : Drawn w w2 B r A n c k' :=
  ⟨h2.cur.up hk, grown_trans h1 h2.grown⟩
theorem grown_alloc {w w1 : World} {r : Nat} (h : w.grownBy w1 (some r)) (o : Obj) : w.grownBy (w1.alloc o) (some r) := grown_trans h (World.grownBy_alloc w1 o _)

theorem half_bds (y z : Int) (y0 : 0 ≤ y) (y1 : y < 3) (z0 : 0 ≤ z) (z1 : z < 20) : 0 ≤ y / 2 * z ∧ y / 2 * z ≤ 19 := by
  rcases (show y / 2 = 0 ∨ y / 2 = 1 by omega) with h | h <;> rw [h] <;> omega
theorem num_mid (s k : Int) (h1 : 3 ≤ s) (h2 : s ≤ 24) (h3 : -3000000 ≤ k) (h4 : k ≤ 3000000) : 0 ≤ num s k ∧ num s k ≤ 400000000000000 := by
  have a := num_nn s k h1
  have b := num_twice s k
  obtain ⟨c0, c1, c2, c3, c4, c5, c6⟩ := num_bds s k h1 h2 h3 h4
  omega

set_option maxHeartbeats 3200000 in
set_option maxRecDepth 4000 in
theorem sides_any (B r : Nat) (A : Option Addr) (n c k : Nat) (w : World) (h : Cur w B r A n c k) (hk : k ≤ 800000) (hn : n ≤ 1000000000000) :
    Calls Tryz.prog 47 #[.pointer (some ⟨r, 0, none⟩)] w fun e w' => ∃ x : Int, (e = .returned (.int .i64 x) ∧ 2 ≤ x ∧ x ≤ 25) ∧ Drawn w w' B r A n c (k + 4) := by
  have HC := h
  have HG : w.grownBy w (some r) := World.grownBy.refl _ _
  clear h
  go_enter Tryz.func47, Tryz.ntmps47
  go_wp2_with (first
      | (go_at_call 34; refine (among_any _ _ _ _ _ _ _ 13 _ [3, 4, 5, 6, 7, 8, 3, 4, 5, 12, 24, 25, 2] _ _ _ (HC.alloc' _) (by omega) hn rfl (by omega) (by omega) (own_new _ [3, 4, 5, 6, 7, 8, 3, 4, 5, 12, 24, 25, 2] _) (Or.inl HC.lt) (Nat.le_refl _)).mono ?_; rintro e w1 ⟨x, rfl, xm, hd⟩; replace HC := hd.cur; replace HG := grown_trans (grown_alloc HG _) hd.grown; clear hd))
  go_ret
  have hx : 2 ≤ x ∧ x ≤ 25 := by simp at xm; omega
  exact ⟨_, ⟨rfl, hx.1, hx.2⟩, HC.up (by omega), HG⟩

set_option maxHeartbeats 3200000 in
set_option maxRecDepth 4000 in
theorem place_any (B r : Nat) (A : Option Addr) (n c k : Nat) (w : World) (h : Cur w B r A n c k) (hk : k ≤ 800000) (hn : n ≤ 1000000000000) :
    Calls Tryz.prog 58 #[.pointer (some ⟨r, 0, none⟩)] w fun e w' => ∃ x : Int, e = .returned (.int .i64 x) ∧ Drawn w w' B r A n c (k + 8) := by
  have HC := h
  have HG : w.grownBy w (some r) := World.grownBy.refl _ _
  clear h
  go_enter Tryz.func58, Tryz.ntmps58
  go_wp2_with (first
      | (go_at_call 33; refine (one_any _ _ _ _ _ _ _ _ HC (by omega) hn (by omega) (by omega)).mono ?_; rintro e w1 ⟨b, rfl, hd⟩; replace HC := hd.cur; replace HG := grown_trans HG hd.grown; clear hd)
      | (go_at_call 36; refine (pick_any _ _ _ _ _ _ _ _ HC (by omega) hn (by omega) (by omega)).mono ?_; rintro e w1 ⟨x, rfl, x0, x1, hd⟩; replace HC := hd.cur; replace HG := grown_trans HG hd.grown; clear hd)
      | (go_at_call 34; refine (among_any _ _ _ _ _ _ _ 7 _ [-1, 0, 1, 99999, 100000, 100001, 4611686018427387904] _ _ _ (HC.alloc' _) (by omega) hn rfl (by omega) (by omega) (own_new _ [-1, 0, 1, 99999, 100000, 100001, 4611686018427387904] _) (Or.inl HC.lt) (Nat.le_refl _)).mono ?_; rintro e w1 ⟨x, rfl, xm, hd⟩; replace HC := hd.cur; replace HG := grown_trans (grown_alloc HG _) hd.grown; clear hd))
  all_goals go_ret
  all_goals exact ⟨_, rfl, HC.up (by omega), HG⟩

set_option maxHeartbeats 3200000 in
set_option maxRecDepth 4000 in
theorem number_any (B r : Nat) (A : Option Addr) (n c k : Nat) (s : Int) (s0 : 2 ≤ s) (s1 : s ≤ 25) (w : World) (h : Cur w B r A n c k) (hk : k ≤ 800000) (hn : n ≤ 1000000000000) :
    Calls Tryz.prog 54 #[.pointer (some ⟨r, 0, none⟩), .int .i64 s] w fun e w' => ∃ x : Int, e = .returned (.int .i64 x) ∧ Drawn w w' B r A n c (k + 40) := by
  have HC := h
  have HG : w.grownBy w (some r) := World.grownBy.refl _ _
  clear h
  by_cases hs : 3 ≤ s ∧ s ≤ 24
  · obtain ⟨h1, h2⟩ := hs
    go_enter Tryz.func54, Tryz.ntmps54
    go_upto_region 4 with (first
      | (go_at_call 33; refine (one_any _ _ _ _ _ _ _ _ HC (by omega) hn (by omega) (by omega)).mono ?_; rintro e w1 ⟨b, rfl, hd⟩; replace HC := hd.cur; replace HG := grown_trans HG hd.grown; clear hd)
      | (go_at_call 39; refine (in_yes _ _ _ _ h1 h2).mono ?_; rintro e w' ⟨rfl, rfl⟩))
    · refine (among_any _ _ _ _ _ _ _ 7 _ [-1, 0, 1, 1000000000000, 1000000000001, 999999999999, 4611686018427387904] _ _ _ (HC.alloc' _) (by omega) hn rfl (by omega) (by omega) (own_new _ [-1, 0, 1, 1000000000000, 1000000000001, 999999999999, 4611686018427387904] _) (Or.inl HC.lt) (Nat.le_refl _)).mono ?_
      rintro e w1 ⟨x, rfl, xm, hd⟩
      go_wp2
      go_ret
      exact ⟨_, rfl, hd.cur.up (by omega), grown_trans (grown_alloc HG _) hd.grown⟩
    · go_wp2_with fail
      refine (pick_any _ _ _ _ _ _ _ _ HC (by omega) hn (by omega) (by omega)).mono ?_
      rintro e w1 ⟨u, rfl, u0, u1, hd⟩
      replace HC := hd.cur
      replace HG := grown_trans HG hd.grown
      clear hd
      go_wp2_with fail
      refine (pick_any _ _ _ _ _ _ _ _ HC (by omega) hn (by omega) (by omega)).mono ?_
      rintro e w1 ⟨y, rfl, y0, y1, hd⟩
      replace HC := hd.cur
      replace HG := grown_trans HG hd.grown
      clear hd
      go_wp2_with fail
      refine (pick_any _ _ _ _ _ _ _ _ HC (by omega) hn (by omega) (by omega)).mono ?_
      rintro e w1 ⟨z, rfl, z0, z1, hd⟩
      replace HC := hd.cur
      replace HG := grown_trans HG hd.grown
      clear hd
      obtain ⟨p0, p1⟩ := half_bds y z y0 y1 z0 z1
      go_wp2_with fail
      refine (shNumber_any _ _ _ h1 h2 (by omega) (by omega)).mono ?_
      rintro e w' ⟨rfl, rfl⟩
      obtain ⟨v0, v1⟩ := num_mid s (u - y / 2 * z) h1 h2 (by omega) (by omega)
      go_wp2_with fail
      refine (pick_any _ _ _ _ _ _ _ _ HC (by omega) hn (by omega) (by omega)).mono ?_
      rintro e w1 ⟨v, rfl, v0, v1, hd⟩
      replace HC := hd.cur
      replace HG := grown_trans HG hd.grown
      clear hd
      go_wp2
      go_ret
      exact ⟨_, rfl, HC.up (by omega), HG⟩
    · refine (pick_any _ _ _ _ _ _ _ _ HC (by omega) hn (by omega) (by omega)).mono ?_
      rintro e w1 ⟨t, rfl, t0, t1, hd⟩
      replace HC := hd.cur
      replace HG := grown_trans HG hd.grown
      clear hd
      go_wp2
      go_ret
      exact ⟨_, rfl, HC.up (by omega), HG⟩
  · have HS : Hid (s < 3 ∨ 24 < s) := Lib.hid (by omega)
    clear hs
    go_enter Tryz.func54, Tryz.ntmps54
    go_upto_region 4 with (first
      | (go_at_call 33; refine (one_any _ _ _ _ _ _ _ _ HC (by omega) hn (by omega) (by omega)).mono ?_; rintro e w1 ⟨b, rfl, hd⟩; replace HC := hd.cur; replace HG := grown_trans HG hd.grown; clear hd)
      | (go_at_call 39; refine (in_no _ _ _ _ HS.out).mono ?_; rintro e w' ⟨rfl, rfl⟩))
    · refine (among_any _ _ _ _ _ _ _ 7 _ [-1, 0, 1, 1000000000000, 1000000000001, 999999999999, 4611686018427387904] _ _ _ (HC.alloc' _) (by omega) hn rfl (by omega) (by omega) (own_new _ [-1, 0, 1, 1000000000000, 1000000000001, 999999999999, 4611686018427387904] _) (Or.inl HC.lt) (Nat.le_refl _)).mono ?_
      rintro e w1 ⟨x, rfl, xm, hd⟩
      go_wp2
      go_ret
      exact ⟨_, rfl, hd.cur.up (by omega), grown_trans (grown_alloc HG _) hd.grown⟩
    · refine (pick_any _ _ _ _ _ _ _ _ HC (by omega) hn (by omega) (by omega)).mono ?_
      rintro e w1 ⟨t, rfl, t0, t1, hd⟩
      replace HC := hd.cur
      replace HG := grown_trans HG hd.grown
      clear hd
      go_wp2
      go_ret
      exact ⟨_, rfl, HC.up (by omega), HG⟩

end Go.Proofs.YtjfkeflmbgfhmaaGreatDoor
