/- Chapter 8, the program: the numbers of a row, or none if one is too great. -/
import Derived.Test.YtmjgjdebcmbjeaaTcI
import Derived.Test.YtmjgjdebcmbjeaaTcB
import Derived.Deep.RegionLaw
namespace Go.Proofs.Ytmjgjdebcmbjeaa
open Go.RowKit

/-- The numbers, or none. -/
def ans8 (b : Bool) (xs : List Int) : List Int := if b = true then xs else []
/-- The door's two variables: the numbers, and whether all is well. -/
structure Door (w : World) (B : Nat) (v : Value) (b : Bool) : Prop where
  c0 : w.cell? ⟨B, 0, none⟩ = some v
  c1 : w.cell? ⟨B + 1, 0, none⟩ = some (.bool b)
  z0 : w.frozen? ⟨B, 0, none⟩ = false
  z1 : w.frozen? ⟨B + 1, 0, none⟩ = false
theorem Door.below {w w' : World} {B : Nat} {v : Value} {b : Bool} {H : Nat} (h : Door w B v b) (hb : Below H w w') (hH : B + 1 < H) : Door w' B v b :=
  ⟨(hb.cell (p := ⟨B, 0, none⟩) (by show B < H; omega)).trans h.c0, (hb.cell (p := ⟨B + 1, 0, none⟩) hH).trans h.c1, (hb.frozen (p := ⟨B, 0, none⟩) (by show B < H; omega)).trans h.z0, (hb.frozen (p := ⟨B + 1, 0, none⟩) hH).trans h.z1⟩
theorem Door.grown {w w' : World} {B : Nat} {v : Value} {b : Bool} {row : Option Nat} (h : Door w B v b) (hg : w.grownBy w' row) (hB : B + 1 < w.heap.size) (hr : ∀ j, row = some j → B + 1 < j) : Door w' B v b := by
  have n0 : some B ≠ row := fun e => by have := hr B e.symm; omega
  have n1 : some (B + 1) ≠ row := fun e => by have := hr (B + 1) e.symm; omega
  exact ⟨(hg.cell_far ⟨B, 0, none⟩ (by show B < _; omega) n0).trans h.c0, (hg.cell_far ⟨B + 1, 0, none⟩ hB n1).trans h.c1, (hg.frozen_far ⟨B, 0, none⟩ (by show B < _; omega) n0).trans h.z0, (hg.frozen_far ⟨B + 1, 0, none⟩ hB n1).trans h.z1⟩
theorem Door.set0 {w : World} {B : Nat} {v : Value} {b : Bool} (h : Door w B v b) (u : Value) : Door (w.setCell ⟨B, 0, none⟩ u) B u b :=
  ⟨World.cell?_setCell_same w _ _ h.c0, (World.cell?_setCell_other w _ _ _ (by simp)).trans h.c1, (World.frozen?_setCell _ _ _ _).trans h.z0, (World.frozen?_setCell _ _ _ _).trans h.z1⟩
theorem Door.set1 {w : World} {B : Nat} {v : Value} {b : Bool} (h : Door w B v b) (b' : Bool) : Door (w.setCell ⟨B + 1, 0, none⟩ (.bool b')) B v b' :=
  ⟨(World.cell?_setCell_other w _ _ _ (by simp)).trans h.c0, World.cell?_setCell_same w _ _ h.c1, (World.frozen?_setCell _ _ _ _).trans h.z0, (World.frozen?_setCell _ _ _ _).trans h.z1⟩
/-- What is told at the door when a number has been raised. -/
def Raised8 (chain : List PanicEntry) (D : List Deferred) (p0 p1 : Value) (F : World → Prop) : Exit → Act → World → Prop
  | .panic c, a, w => c = chain ∧ a.defers = D ∧ a.tmps[4]? = some p0 ∧ a.tmps[5]? = some p1 ∧ F w
  | _, _, _ => False
theorem Raised8.put {chain : List PanicEntry} {D : List Deferred} {p0 p1 : Value} {F : World → Prop} {d : Nat} {v : Value} (h4 : d ≠ 4) (h5 : d ≠ 5) :
    ∀ c a w, Raised8 chain D p0 p1 F (.panic c) (a.put (some d) v) w → Raised8 chain D p0 p1 F (.panic c) a w := by
  intro c a w h
  unfold Raised8 Act.put at *
  simp only [Array.getElem?_setIfInBounds_ne h4, Array.getElem?_setIfInBounds_ne h5] at h
  exact h
theorem leaves_raised (w0 w : World) (tmps : Array Value) (x : Int) (v : Value) (b : Bool) (h4 : tmps[4]? = some (.pointer (some ⟨w0.heap.size, 0, none⟩))) (h5 : tmps[5]? = some (.pointer (some ⟨w0.heap.size + 1, 0, none⟩)))
    (hD : Door w w0.heap.size v b) (hb : Below w0.heap.size w0 w) :
    Leaves Try.prog Try.f63 tmps (ResI false [] w0) [{ target := Target.fn (Fn.func 100) #[.pointer (some ⟨w0.heap.size, 0, none⟩), .pointer (some ⟨w0.heap.size + 1, 0, none⟩)], args := #[] }] (.panicking [{ v := .iface 59 (lng x), recovered := false }]) w := by
  refine leaves_cons (f := 100) (args := #[.pointer (some ⟨w0.heap.size, 0, none⟩), .pointer (some ⟨w0.heap.size + 1, 0, none⟩)]) (by simp) (by simp [go_sem]) ?_
  refine (door_raised _ x _ _ w hD.c0 hD.c1 hD.z0 hD.z1).mono ?_
  rintro e u' w'' ⟨rfl, rfl, rfl⟩
  have hb0 : w0.heap.size ≠ w.heap.size := Nat.ne_of_lt (World.block_lt_of_cell? _ _ hD.c0)
  have hb1 : w0.heap.size + 1 ≠ w.heap.size := Nat.ne_of_lt (World.block_lt_of_cell? _ _ hD.c1)
  have k0 := (World.cell?_alloc_old w (.cells #[.int .u64 (hi8 x), .int .u64 (lo8 x)] 59) ⟨w0.heap.size, 0, none⟩ hb0).trans hD.c0
  have k1 := (World.cell?_alloc_old w (.cells #[.int .u64 (hi8 x), .int .u64 (lo8 x)] 59) ⟨w0.heap.size + 1, 0, none⟩ hb1).trans hD.c1
  have hbz : Below w0.heap.size w0 (((w.alloc (.cells #[.int .u64 (hi8 x), .int .u64 (lo8 x)] 59)).setCell ⟨w0.heap.size, 0, none⟩ (.slice none 0 0)).setCell ⟨w0.heap.size + 1, 0, none⟩ (.bool false)) := ((hb.alloc hb.size _).setCell (Nat.le_refl _) _).setCell (Nat.le_succ _) _
  generalize w.alloc (.cells #[.int .u64 (hi8 x), .int .u64 (lo8 x)] 59) = w1 at *
  have j1 : ((w1.setCell ⟨w0.heap.size, 0, none⟩ (.slice none 0 0)).setCell ⟨w0.heap.size + 1, 0, none⟩ (.bool false)).cell? ⟨w0.heap.size + 1, 0, none⟩ = some (.bool false) := World.cell?_setCell_same _ _ _ ((World.cell?_setCell_other _ _ _ _ (by simp)).trans k1)
  have j0 : ((w1.setCell ⟨w0.heap.size, 0, none⟩ (.slice none 0 0)).setCell ⟨w0.heap.size + 1, 0, none⟩ (.bool false)).cell? ⟨w0.heap.size, 0, none⟩ = some (.slice none 0 0) := (World.cell?_setCell_other _ _ _ _ (by simp)).trans (World.cell?_setCell_same _ _ _ k0)
  generalize (w1.setCell ⟨w0.heap.size, 0, none⟩ (.slice none 0 0)).setCell ⟨w0.heap.size + 1, 0, none⟩ (.bool false) = w2 at *
  simp [Leaves, settle, results, Try.results63, go_sem, h4, h5, j0, j1]
  exact resI_nil hbz
theorem leaves_fine (w0 w : World) (tmps : Array Value) (xs : List Int) (A : Option Addr) (n c lo hi : Nat) (hn : xs.length = n) (h4 : tmps[4]? = some (.pointer (some ⟨w0.heap.size, 0, none⟩))) (h5 : tmps[5]? = some (.pointer (some ⟨w0.heap.size + 1, 0, none⟩)))
    (hD : Door w w0.heap.size (.slice A n c) true) (hO : Own w lo hi A (i64s xs)) (hlo : w0.heap.size ≤ lo) (hhi : hi ≤ w.heap.size) (hb : Below w0.heap.size w0 w) :
    Leaves Try.prog Try.f63 tmps (ResI true xs w0) [{ target := Target.fn (Fn.func 100) #[.pointer (some ⟨w0.heap.size, 0, none⟩), .pointer (some ⟨w0.heap.size + 1, 0, none⟩)], args := #[] }] .returning w := by
  refine leaves_cons (f := 100) (args := #[.pointer (some ⟨w0.heap.size, 0, none⟩), .pointer (some ⟨w0.heap.size + 1, 0, none⟩)]) (by simp) (by simp [go_sem]) ?_
  refine (door_quiet _ w).mono ?_
  rintro e u' w'' ⟨rfl, rfl, rfl⟩
  have hb0 : w0.heap.size ≠ w.heap.size := Nat.ne_of_lt (World.block_lt_of_cell? _ _ hD.c0)
  have hb1 : w0.heap.size + 1 ≠ w.heap.size := Nat.ne_of_lt (World.block_lt_of_cell? _ _ hD.c1)
  have k0 := (World.cell?_alloc_old w (.cells #[.int .u64 0, .int .u64 0] 59) ⟨w0.heap.size, 0, none⟩ hb0).trans hD.c0
  have k1 := (World.cell?_alloc_old w (.cells #[.int .u64 0, .int .u64 0] 59) ⟨w0.heap.size + 1, 0, none⟩ hb1).trans hD.c1
  have hba := (Below.refl w.heap.size w).alloc (Nat.le_refl _) (.cells #[.int .u64 0, .int .u64 0] 59)
  have hO2 := (hO.below hba hhi).wide hlo (Nat.le_trans hhi hba.size)
  have hbz := hb.alloc hb.size (.cells #[.int .u64 0, .int .u64 0] 59)
  generalize w.alloc (.cells #[.int .u64 0, .int .u64 0] 59) = w1 at *
  simp [Leaves, settle, results, Try.results63, go_sem, h4, h5, k0, k1]
  exact ⟨A, c, by rw [hn], hO2, hbz⟩
theorem grown_set8 (w : World) (g o : Nat) (u : Value) : w.grownBy (w.setCell ⟨g, o, none⟩ u) (some g) := by
  have hb : Below g w (w.setCell ⟨g, o, none⟩ u) := (Below.refl g w).setCell (Nat.le_refl _) u
  exact ⟨hb.os, hb.tape, hb.output, hb.size, fun i hi hne => Below.heap_setCell _ _ _ i (fun e => hne (by rw [e]))⟩
theorem row_set8 {w : World} {base g o n s : Nat} {t : TypeId} {v : Value} {cs : List Value} (h : w.ownsRow base t s v n cs) (hg : g < base) (u : Value) : (w.setCell ⟨g, o, none⟩ u).ownsRow base t s v n cs := by
  refine h.kept (grown_set8 w g o u) ?_
  cases hv : v.ownBlock with
  | none => exact .inl rfl
  | some j =>
    refine .inr fun e => ?_
    have := (h.lt j hv).1
    injection e with e
    omega
set_option maxRecDepth 8000 in
set_option maxHeartbeats 3200000 in
theorem numbers_any (g : Int) (A : Option Addr) (n c lo hi : Nat) (xs : List Int) (w : World) (hn : xs.length = n) (hm : n ≤ 1000) (hX : Sm xs) (g0 : 0 ≤ g) (g1 : g ≤ 1000000000000000) (ha : Own w lo hi A (l64s xs)) (hh : hi ≤ w.heap.size) :
    Calls Try.prog 63 #[.slice A n c, .int .i64 g] w (ResI (allIn xs (-g) g) (ans8 (allIn xs (-g) g) xs) w) := by
  have HA := Lib.hid ha
  have HN := Lib.hid hn
  have HX := Lib.hid hX
  obtain ⟨r, hr⟩ : ∃ r, r = allIn xs (-g) g := ⟨_, rfl⟩
  rw [← hr]
  obtain ⟨ys, hys⟩ : ∃ ys : List Int, ys = ans8 r xs := ⟨_, rfl⟩
  rw [← hys]
  have HY := Lib.hid hys
  have HR := Lib.hid hr
  have HT := Lib.hid (show ∀ k, k < n → xs.take (k + 1) = xs.take k ++ [xs.getD k 0] from fun k hk => by
    rw [List.take_succ_eq_append_getElem (by omega)]
    simp [List.getD_eq_getElem?_getD, hn, hk])
  have HLT : Hid (∀ k, k ≤ n → (xs.take k).length = k) := Lib.hid fun k hk => by rw [List.length_take, hn]; omega
  have HAll : Hid (xs.take n = xs) := Lib.hid (List.take_of_length_le (by omega))
  have hmf : ∀ (fn : Fn) (first cap : Array Value) (w : World), (Instr.makeFunc fn first cap).run Try.prog w = .ok (.func fn first cap) w := fun _ _ _ _ => rfl
  have HD0 : Hid (Door ((w.alloc (.cells #[.slice none 0 0] 22)).alloc (.cells #[.bool false] 4)) w.heap.size (.slice none 0 0) false) := Lib.hid ⟨by simp [go_sem], by simp [go_sem], by simp [go_sem], by simp [go_sem]⟩
  have HB0 : Hid (Below w.heap.size w ((w.alloc (.cells #[.slice none 0 0] 22)).alloc (.cells #[.bool false] 4))) := Lib.hid (((Below.refl _ _).alloc (Nat.le_refl _) _).alloc (by simp) _)
  have HS0 : Hid (w.heap.size + 2 = ((w.alloc (.cells #[.slice none 0 0] 22)).alloc (.cells #[.bool false] 4)).heap.size) := Lib.hid (by simp)
  clear ha hn hX hr hys
  go_enter_defers Try.func63, Try.ntmps63
  go_wp2
  generalize ((w.alloc (.cells #[.slice none 0 0] 22)).alloc (.cells #[.bool false] 4)) = w0 at *
  go_loopw [11] (fun i wr => ∃ (k : Nat) (v : Value), k ≤ n ∧ i = .int .i64 (k : Int) ∧ Hid (allIn (xs.take k) (-g) g = true) ∧ Hid (Door wr w.heap.size v false) ∧ Hid (wr.ownsRow (w.heap.size + 2) 3 1 v k (i64s (xs.take k))) ∧ Hid (Below w.heap.size w wr ∧ w.heap.size + 2 ≤ wr.heap.size)) (fun i _ => n - (intOf i).toNat)
  case atStart => exact ⟨0, .slice none 0 0, by omega, by simp, Lib.hid (by rw [List.take_zero]; rfl), HD0, Lib.hid (by rw [List.take_zero]; exact World.ownsRow_nil _ _ _ _), Lib.hid ⟨HB0.out, Nat.le_of_eq HS0.out⟩⟩
  case round =>
    obtain ⟨k, v, hk, rfl, hP, hD, hR, hbl⟩ := hrel
    by_cases hlt : k < n
    · have hki : (k : Int) < (n : Int) := by omega
      have hk0 : (0 : Int) ≤ (k : Int) := by omega
      obtain ⟨b, o, rfl, hg0, hg1, s0, s1⟩ := (HA.out.below hbl.out.1 hh).lng (k := k) (by rw [HN.out]; omega)
      have HK := Lib.hid (HT.out k hlt)
      have HLk := Lib.hid (HLT.out k hk)
      have hxb := HX.out k
      have hin1 := allIn_take xs (-g) g k (by rw [HN.out]; exact hlt) hP.out
      have hin2 := allIn_out xs (-g) g k (by rw [HN.out]; exact hlt)
      rw [← HR.out] at hin2
      generalize xs.getD k 0 = x at *
      have q0 : (wr.alloc (.cells #[.int .u64 (hi8 x), .int .u64 (lo8 x)] 59)).cell? ⟨wr.heap.size, 0, none⟩ = some (.int .u64 (hi8 x)) ∧ (wr.alloc (.cells #[.int .u64 (hi8 x), .int .u64 (lo8 x)] 59)).cell? ⟨wr.heap.size, 1, none⟩ = some (.int .u64 (lo8 x)) := ⟨by simp [go_sem], by simp [go_sem]⟩
      have hb1 := (Below.refl wr.heap.size wr).alloc (Nat.le_refl _) (.cells #[.int .u64 (hi8 x), .int .u64 (lo8 x)] 59)
      have HD1 := Lib.hid (hD.out.below hb1 (by have := hbl.out.2; omega))
      have HR1 := Lib.hid (row_below hR.out hb1 (Nat.le_refl _))
      have HB1 := Lib.hid (hbl.out.1.alloc hbl.out.1.size (.cells #[.int .u64 (hi8 x), .int .u64 (lo8 x)] 59))
      have hzz : wr.heap.size < (wr.alloc (.cells #[.int .u64 (hi8 x), .int .u64 (lo8 x)] 59)).heap.size := by simp
      have hwz := hbl.out.2
      clear hb1
      by_cases hx : x < -g ∨ g < x
      · have HF : Hid (r = false) := Lib.hid (hin2 hx)
        have HO := Lib.hid fun W => ofSize_bad x g W g0 g1 hx hxb.1 hxb.2
        clear hin1 hin2 hx hxb
        unfold raised8 lng at HO
        obtain ⟨x1, hx1⟩ : ∃ x1, x1 = hi8 x := ⟨_, rfl⟩
        obtain ⟨x2, hx2⟩ : ∃ x2, x2 = lo8 x := ⟨_, rfl⟩
        rw [← hx1, ← hx2] at HO q0 HB1 HD1 hzz HR1
        rw [← hx1] at s0
        rw [← hx2] at s1
        have HX1e := Lib.hid hx1
        have HX2e := Lib.hid hx2
        clear hx1 hx2
        go_wp2
        have hbl1 := HB1.out
        generalize (wr.alloc (.cells #[.int .u64 x1, .int .u64 x2] 59)) = w1 at *
        have hd1 : w.heap.size + 1 < w1.heap.size := Nat.lt_of_le_of_lt (Nat.le_trans (by omega) hwz) hzz
        refine Code.wp_mono (Q := Raised8 [{ v := .iface 59 (.agg #[.int .u64 x1, .int .u64 x2]), recovered := false }] [{ target := Target.fn (Fn.func 100) #[.pointer (some ⟨w.heap.size, 0, none⟩), .pointer (some ⟨w.heap.size + 1, 0, none⟩)], args := #[] }] (.pointer (some ⟨w.heap.size, 0, none⟩)) (.pointer (some ⟨w.heap.size + 1, 0, none⟩)) (fun w' => Door w' w.heap.size v false ∧ Below w.heap.size w w')) ?imp ?main
        case imp =>
          intro e a w' h
          cases e with
          | panic ch =>
            obtain ⟨rfl, hdf, h4, h5, hDr, hbr⟩ := h
            obtain rfl := HX1e.out
            obtain rfl := HX2e.out
            have HL := leaves_raised w w' a.tmps x v false h4 h5 hDr hbr
            rw [← hdf] at HL
            have hyl : ys = [] := by rw [HY.out, HF.out]; rfl
            have e : ResI r ys w = ResI false [] w := by rw [hyl, HF.out]
            rw [← e] at HL
            exact HL
          | _ => exact (h : False).elim
        case main =>
          refine wp_region_held_drew (S := (fun w' => w'.cell? ⟨w.heap.size, 0, none⟩ = some v ∧ w'.cell? ⟨wr.heap.size, 0, none⟩ = some (.int .u64 x1) ∧ w'.cell? ⟨wr.heap.size, 1, none⟩ = some (.int .u64 x2))) (by kernel_rfl) ?_ (fun hHeld => ?_)
          · exact ⟨HD1.out.c0, q0.1, q0.2⟩
          refine wpAnyH_take (i := 0) (v := ?_) rfl (by kernel_rfl) (by kernel_rfl) (by kernel_rfl) (Raised8.put (by decide) (by decide)) (Or.inl ⟨by rfl, ?_⟩) (by assumption) ?_
          rotate_left
          · intro wx hSw
            (try dsimp only at hSw)
            go_simp
            (try with_reducible rfl)
          (try simp only [Act.put, List.setIfInBounds_toArray])
          refine wpAnyH_take (i := 1) (v := ?_) rfl (by kernel_rfl) (by kernel_rfl) (by kernel_rfl) (Raised8.put (by decide) (by decide)) (Or.inl ⟨by rfl, ?_⟩) (by assumption) ?_
          rotate_left
          · intro wx hSw
            (try dsimp only at hSw)
            go_simp
            (try with_reducible rfl)
          (try simp only [Act.put])
          refine wpAnyH_take (i := 2) (v := ?_) rfl (by kernel_rfl) (by kernel_rfl) (by kernel_rfl) (Raised8.put (by decide) (by decide)) (Or.inl ⟨by rfl, ?_⟩) (by assumption) ?_
          rotate_left
          · intro wx hSw
            (try dsimp only at hSw)
            go_simp
            (try with_reducible rfl)
          (try simp only [Act.put])
          refine wpAnyH_ready (rs := [3]) (by kernel_rfl) (by simp) ?_
          refine AllReadyH.cons rfl (fun K hK => ?_) AllReadyH.nil
          go_simp
          refine (HO.out _).mono ?_
          rintro e w2 ⟨rfl, hb2⟩
          exact ⟨rfl, rfl, rfl, rfl, Door.below (w := w1.drew) ⟨HD1.out.c0, HD1.out.c1, HD1.out.z0, HD1.out.z1⟩ hb2 hd1, hbl1.drew.trans (hb2.mono hbl1.size)⟩
      · have HP1 : Hid (allIn (xs.take (k + 1)) (-g) g = true) := Lib.hid (hin1 (by omega) (by omega))
        have HO := Lib.hid fun W => ofSize_yes x g W g0 g1 (by omega) (by omega)
        clear hin1 hin2 hx hxb
        unfold lng at HO
        generalize hi8 x = x1 at *
        generalize lo8 x = x2 at *
        obtain ⟨A', cc', rfl⟩ := row_form hR.out
        have HX1 : Hid (∀ j, Value.ownBlock (.slice A' k cc') = some j → w.heap.size + 2 ≤ j ∧ j < wr.heap.size) := Lib.hid fun j hj => hR.out.lt j hj
        go_wp2
        generalize (wr.alloc (.cells #[.int .u64 x1, .int .u64 x2] 59)) = w1 at *
        obtain ⟨q0a, q0b⟩ := q0
        have r0 := HD1.out.c0
        refine wp_region_noPanic ?_
        go_region_law (first
          | (go_simp; go_at_call 101; refine (HO.out _).mono ?_; rintro e w2 ⟨rfl, hb2⟩; have HD2 := Lib.hid (Door.below (w := w1.drew) ⟨HD1.out.c0, HD1.out.c1, HD1.out.z0, HD1.out.z1⟩ hb2 (Nat.lt_of_le_of_lt (Nat.le_trans (by omega) hwz) hzz)); have HR2 := Lib.hid (row_below HR1.out.drew hb2 (Nat.le_refl _)); have HB2 := Lib.hid (HB1.out.drew.trans (hb2.mono HB1.out.size)); have r2 := HD2.out.c0; have hz2 := Nat.lt_of_lt_of_le hzz hb2.size; have HD3 := Lib.hid (HD2.out.below ((Below.refl w2.heap.size w2).alloc (Nat.le_refl _) (.cells #[.int .i64 x] 3)) (Nat.lt_of_le_of_lt (Nat.le_trans (by omega) hwz) hz2)); have r3 := HD3.out.c0; clear hb2)
          | (refine step_app_int (w := w2) (z := x) (w.heap.size + 2) rfl (.tmp 15) (.tmp 19) rfl (.slice A' k cc') k _ (by simp [Act.eval]) HLk.out HR2.out (Nat.le_trans hwz (Nat.le_of_lt hz2)) (by simp [Act.eval]) (by omega) ?_; intro v' wf hOf hgf; obtain ⟨A2, c2, rfl⟩ := row_form hOf; have HDf := Lib.hid (HD2.out.grown hgf (Nat.lt_of_le_of_lt (Nat.le_trans (by omega) hwz) hz2) (fun j hj => Nat.lt_of_lt_of_le (by omega) (HX1.out j hj).1)); have HOf := Lib.hid hOf; have HGf := Lib.hid hgf; have rf := HDf.out.c0; have zf := HDf.out.z0; clear hOf hgf)
          | fail)
        all_goals (
          refine NoPanic.normal ?_
          have HD5 := Lib.hid (HDf.out.set0 (.slice A2 (k + 1) c2))
          have HBf : Hid (Below w.heap.size w wf) := Lib.hid (HB2.out.grown HGf.out HB2.out.size (fun j hj => Nat.le_trans (by omega) (HX1.out j hj).1))
          have HR5 : Hid ((wf.setCell ⟨w.heap.size, 0, none⟩ (.slice A2 (k + 1) c2)).ownsRow (w.heap.size + 2) 3 1 (.slice A2 (k + 1) c2) (k + 1) (i64s (xs.take (k + 1)))) := Lib.hid (by
            rw [HK.out]
            exact row_set8 HOf.out (by omega) _)
          have HB5 : Hid (Below w.heap.size w (wf.setCell ⟨w.heap.size, 0, none⟩ (.slice A2 (k + 1) c2)) ∧ w.heap.size + 2 ≤ (wf.setCell ⟨w.heap.size, 0, none⟩ (.slice A2 (k + 1) c2)).heap.size) := Lib.hid (by
            have hB := HBf.out.setCell (p := ⟨w.heap.size, 0, none⟩) (Nat.le_refl _) (.slice A2 (k + 1) c2)
            refine ⟨hB, ?_⟩
            have h1 : wf.heap.size ≤ (wf.setCell ⟨w.heap.size, 0, none⟩ (.slice A2 (k + 1) c2)).heap.size := ((Below.refl 0 wf).setCell (p := ⟨w.heap.size, 0, none⟩) (Nat.zero_le _) (.slice A2 (k + 1) c2)).size
            exact Nat.le_trans hwz (Nat.le_trans (Nat.le_of_lt hz2) (Nat.le_trans HGf.out.size h1)))
          generalize wf.setCell ⟨w.heap.size, 0, none⟩ (.slice A2 (k + 1) c2) = w5 at *
          clear r0 r2 r3 rf zf q0a q0b s0 s1
          go_wp2
          go_roundw
          case rel => exact ⟨k + 1, .slice A2 (k + 1) c2, by omega, by go_num, HP1, HD5, HR5, HB5⟩
          case measure => simp [intOf]; omega)
    · obtain rfl : k = n := by omega
      obtain ⟨A', cc', rfl⟩ := row_form hR.out
      have c0 := hD.out.c0
      have c1 := hD.out.c1
      have z0 := hD.out.z0
      have z1 := hD.out.z1
      have hrt : r = true := by
        have := hP.out
        rw [HAll.out] at this
        rw [HR.out, this]
      have hyx : ys = xs := by rw [HY.out, hrt]; rfl
      subst hrt hyx
      have HDe := Lib.hid ((hD.out.set0 (.slice A' k cc')).set1 true)
      have HRe : Hid (((wr.setCell ⟨w.heap.size, 0, none⟩ (.slice A' k cc')).setCell ⟨w.heap.size + 1, 0, none⟩ (.bool true)).ownsRow (w.heap.size + 2) 3 1 (.slice A' k cc') k (i64s (ys.take k))) := Lib.hid (row_set8 (row_set8 hR.out (by omega) _) (by omega) _)
      have HBe : Hid (Below w.heap.size w ((wr.setCell ⟨w.heap.size, 0, none⟩ (.slice A' k cc')).setCell ⟨w.heap.size + 1, 0, none⟩ (.bool true))) := Lib.hid ((hbl.out.1.setCell (p := ⟨w.heap.size, 0, none⟩) (Nat.le_refl _) _).setCell (p := ⟨w.heap.size + 1, 0, none⟩) (Nat.le_succ _) _)
      clear hlt
      go_wp2
      have hRe := own_of_row HRe.out
      rw [HAll.out] at hRe
      exact leaves_fine w _ _ ys A' k cc' (w.heap.size + 2) _ HN.out rfl rfl HDe.out hRe (by omega) (Nat.le_refl _) HBe.out
end Go.Proofs.Ytmjgjdebcmbjeaa
