/- The texts XTcH XTcI XTcJ XTcK XTcG XTcL joined. -/
import Derived.Test.YtjfpnecnmdclfaaMc
import Derived.Test.YtjfpnecnmdclfaaTcB
import Derived.Recover
import Derived.Laws.Pointers
import Derived.Deep.RegionLaw
import Derived.Test.YtjfpnecnmdclfaaMb
/- Chapter 8, the program: zeros cut off; values of forms. -/
namespace Go.Proofs.Ytjfpnecnmdclfaa
open Go.RowKit

/-- Not greater than 2^126, either sign. -/
def Sm (xs : List Int) : Prop := ∀ j, -85070591730234615865843651857942052864 ≤ xs.getD j 0 ∧ xs.getD j 0 ≤ 85070591730234615865843651857942052864
theorem eq_zero8 (x : Int) (h1 : -85070591730234615865843651857942052864 ≤ x) (h2 : x ≤ 85070591730234615865843651857942052864) : (hi8 x == 0 && lo8 x == 0) = decide (x = 0) := by
  by_cases h : x = 0
  · subst h
    rfl
  · rw [decide_eq_false h]
    cases e : (hi8 x == 0 && lo8 x == 0) with
    | false => rfl
    | true =>
      simp only [Bool.and_eq_true, beq_iff_eq] at e
      have := long_eq x 0 h1 h2 (by omega) (by omega) e.1.symm e.2.symm
      omega
theorem l64s_take : ∀ (xs : List Int) (k : Nat), (l64s xs).take (k * 2) = l64s (xs.take k)
  | [], k => by simp [l64s]
  | v :: l, 0 => by simp [l64s]
  | v :: l, k + 1 => by
    rw [show (k + 1) * 2 = k * 2 + 2 by omega, List.take_succ_cons]
    simp only [l64s, List.take_succ_cons]
    rw [l64s_take l k]
theorem l64s_drop : ∀ (xs : List Int) (k : Nat), (l64s xs).drop (k * 2) = l64s (xs.drop k)
  | [], k => by simp [l64s]
  | v :: l, 0 => by simp [l64s]
  | v :: l, k + 1 => by
    rw [show (k + 1) * 2 = k * 2 + 2 by omega, List.drop_succ_cons]
    simp only [l64s, List.drop_succ_cons]
    rw [l64s_drop l k]
theorem own_take {w : World} {lo hi : Nat} {A : Option Addr} {cs : List Value} (h : Own w lo hi A cs) (k : Nat) : Own w lo hi A (cs.take k) := fun hn => by
  have hl : (cs.take k).length ≤ cs.length := by rw [List.length_take]; omega
  obtain ⟨g, o, e, h1, h2, hc⟩ := h (by omega)
  refine ⟨g, o, e, h1, h2, fun j u hu => hc j u ?_⟩
  rw [List.getElem?_take] at hu
  split at hu
  · exact hu
  · cases hu
theorem own_drop {w : World} {lo hi g o : Nat} {cs : List Value} (h : Own w lo hi (some ⟨g, o, none⟩) cs) (k : Nat) : Own w lo hi (some ⟨g, o + k, none⟩) (cs.drop k) := fun hn => by
  rw [List.length_drop] at hn
  obtain ⟨g', o', e, h1, h2, hc⟩ := h (by omega)
  injection e with e
  injection e with e1 e2 _
  subst e1 e2
  refine ⟨g, o + k, rfl, h1, h2, fun j u hu => ?_⟩
  rw [List.getElem?_drop] at hu
  have := hc (k + j) u hu
  rw [← Nat.add_assoc] at this
  exact this
set_option maxRecDepth 8000 in
set_option maxHeartbeats 800000 in
theorem trim_any (A : Option Addr) (n c lo hi : Nat) (xs : List Int) (w : World) (hn : xs.length = n) (hm : n ≤ 100000) (hc : n ≤ c) (hX : Sm xs) (ha : Own w lo hi A (l64s xs)) (hh : hi ≤ w.heap.size) :
    Calls Try.prog 34 #[.slice A n c] w fun e w' => (∃ B d, e = .returned (.slice B (trm8 xs).length d) ∧ Own w' lo hi B (l64s (trm8 xs))) ∧ Below w.heap.size w w' := by
  have HA := Lib.hid ha
  have HN := Lib.hid hn
  have HX := Lib.hid hX
  have HT := Lib.hid (show ∀ k, tln8 xs (k + 1) = if xs.getD k 0 = 0 then tln8 xs k else k + 1 from fun k => rfl)
  have HL : Hid ((trm8 xs).length = tln8 xs n) := Lib.hid (by rw [trm8_len, hn])
  have HTr : Hid (trm8 xs = xs.take (tln8 xs n)) := Lib.hid (by rw [trm8, hn])
  have H0 : Hid (tln8 xs 0 = 0) := Lib.hid rfl
  clear ha hn hX
  go_enter Try.func34, Try.ntmps34
  go_wp2
  go_loopw [3] (fun i wr => ∃ k : Nat, k ≤ n ∧ i = .int .i64 (k : Int) ∧ Hid (tln8 xs k = tln8 xs n) ∧ wr = w) (fun i _ => (intOf i).toNat)
  case atStart => exact ⟨n, Nat.le_refl _, by simp, Lib.hid rfl, rfl⟩
  case round =>
    obtain ⟨k, hk, rfl, hT, rfl⟩ := hrel
    by_cases h0 : k = 0
    · subst h0
      have HZ : Hid ((trm8 xs).length = 0 ∧ l64s (trm8 xs) = []) := by
        have h1 := hT.out
        rw [H0.out] at h1
        have h2 : (trm8 xs).length = 0 := by rw [HL.out, ← h1]
        exact Lib.hid ⟨h2, by rw [List.eq_nil_of_length_eq_zero h2]; rfl⟩
      have hc0 : (0 : Int) ≤ (c : Int) := by omega
      cases A with
      | none =>
        go_wp2
        go_ret
        exact ⟨⟨none, 0, by rw [HZ.out.1]; rfl, by rw [HZ.out.2]; exact Own.nil_⟩, Below.refl _ _⟩
      | some ad =>
        go_wp2
        go_ret
        exact ⟨⟨some ad, 0, by rw [HZ.out.1]; rfl, by rw [HZ.out.2]; exact Own.nil_⟩, Below.refl _ _⟩
    · obtain ⟨m, hkm⟩ : ∃ m, m + 1 = k := ⟨k - 1, by omega⟩
      have hmn : (m : Int) < (n : Int) := by omega
      have hm0 : (0 : Int) ≤ (m : Int) := by omega
      have hk1 : (k : Int) > 0 := by omega
      have e1 : IntKind.i64.wrap ((k : Int) - 1) = (m : Int) := by rw [IntWalk.i64_in _ (by omega)]; omega
      obtain ⟨g, o, rfl, hg0, hg1, s0, s1⟩ := HA.out.lng (k := m) (by rw [HN.out]; omega)
      have hxb := HX.out m
      have HTk := Lib.hid (HT.out m)
      have hq : ∀ W, (Op.equalIn 10000 64 (.agg #[.int .u64 (hi8 (xs.getD m 0)), .int .u64 (lo8 (xs.getD m 0))]) (.agg #[.int .u64 0, .int .u64 0])).run Try.prog W = .ok (decide (xs.getD m 0 = 0)) W := fun W => by
        rw [eq_lng, eq_zero8 _ hxb.1 hxb.2]
      generalize xs.getD m 0 = x at *
      generalize hi8 x = x1 at *
      generalize lo8 x = x2 at *
      by_cases hx : x = 0
      · rw [decide_eq_true hx] at hq
        have HX2 := Lib.hid hx
        have HKM := Lib.hid hkm
        clear hx hkm
        go_wp2
        exact ⟨⟨m, by omega, rfl, Lib.hid (by rw [← hT.out, ← HKM.out, HTk.out, if_pos HX2.out]), trivial⟩, by have := HKM.out; simp [intOf]; omega⟩
      · rw [decide_eq_false hx] at hq
        have HE : Hid ((trm8 xs).length = k ∧ Own wr lo hi (some ⟨g, o, none⟩) (l64s (trm8 xs))) := by
          have h1 : tln8 xs n = k := by rw [← hT.out, ← hkm, HTk.out, if_neg hx]
          exact Lib.hid ⟨by rw [HL.out, h1], by rw [HTr.out, h1, ← l64s_take]; exact own_take HA.out _⟩
        clear hx hkm
        go_wp2
        go_ret
        exact ⟨⟨some ⟨g, o, none⟩, k, by rw [HE.out.1]; rfl, HE.out.2⟩, Below.refl _ _⟩
set_option maxRecDepth 8000 in
set_option maxHeartbeats 800000 in
theorem values_any (A : Option Addr) (n c lo hi f k : Nat) (xs : List Int) (w : World) (hn : xs.length = n) (hm : n ≤ 100000) (hf : f + k ≤ 100000) (hk : 1 ≤ k) (ha : Own w lo hi A (l64s xs)) (hh : hi ≤ w.heap.size) :
    Calls Try.prog 43 #[.slice A n c, .int .i64 (f : Int), .int .i64 (k : Int)] w (ResR ((fst8 stp8 (f + k) xs).drop f) w) := by
  have HF := Lib.hid fun W => firsts_any 38 stp8 leads_behind A n c lo hi (f + k) xs W hn hm hf
  have HA := Lib.hid ha
  have HL : Hid ((fst8 stp8 (f + k) xs).length = f + k) := Lib.hid (fst8_len _ _ _)
  have HD : Hid (((fst8 stp8 (f + k) xs).drop f).length = k) := Lib.hid (by rw [List.length_drop, fst8_len]; omega)
  obtain ⟨s, hs⟩ : ∃ s, s = f + k := ⟨_, rfl⟩
  rw [← hs] at HF HL HD
  have HS := Lib.hid hs
  have e1 : IntKind.i64.wrap ((f : Int) + (k : Int)) = (s : Int) := by rw [IntWalk.i64_in _ (by omega)]; omega
  have g1 : (f : Int) ≤ (s : Int) := by omega
  have g0 : (0 : Int) ≤ (f : Int) := by omega
  have e2 : (s : Int) - (f : Int) = (k : Int) := by omega
  rw [← hs]
  clear ha hn hs
  go_enter Try.func43, Try.ntmps43
  go_wp2_with (go_at_call 72; refine (HF.out _ HA.out hh).mono ?_; rintro e w2 ⟨B, d, hd, rfl, hO, hb⟩; rw [HL.out] at hd ⊢; obtain ⟨g, o, rfl, hg⟩ : ∃ g o, B = some ⟨g, o, none⟩ ∧ True := (by obtain ⟨g, o, e, _⟩ := hO (by rw [l64s_len, HL.out]; omega); exact ⟨g, o, e, trivial⟩); have gd : (s : Int) ≤ (d : Int) := (by omega))
  go_ret
  have hsf : s - f = k := by omega
  refine ⟨some ⟨g, o + f * 2, none⟩, k, by rw [HD.out]; exact Nat.le_refl _, by rw [HD.out, ← hsf]; rfl, ?_, hb⟩
  rw [← l64s_drop]
  exact own_drop hO (f * 2)
set_option maxHeartbeats 400000 in
theorem fullForm_any (A : Option Addr) (n c lo hi : Nat) (xs : List Int) (w : World) (hn : xs.length = n) (hm : n ≤ 100000) (ha : Own w lo hi A (l64s xs)) (hh : hi ≤ w.heap.size) :
    Calls Try.prog 49 #[.slice A n c] w (ResR (fst8 dif8 n xs) w) := by
  have HF := Lib.hid (firsts_any 75 dif8 leads_differences A n c lo hi n xs w hn hm hm ha hh)
  clear ha hn hh
  go_enter Try.func49, Try.ntmps49
  go_wp2_with (go_at_call 72; refine HF.out.mono ?_; rintro e w2 ⟨B, d, hd, rfl, hO, hb⟩)
  go_ret
  exact ⟨B, d, hd, rfl, hO, hb⟩
set_option maxHeartbeats 400000 in
theorem form_any (A : Option Addr) (n c lo hi : Nat) (xs : List Int) (w : World) (hn : xs.length = n) (hm : n ≤ 100000) (hX : Sm (fst8 dif8 n xs)) (ha : Own w lo hi A (l64s xs)) (hh : hi ≤ w.heap.size) :
    Calls Try.prog 50 #[.slice A n c] w fun e w' => (∃ B d, e = .returned (.slice B (trm8 (fst8 dif8 n xs)).length d) ∧ Own w' w.heap.size w'.heap.size B (l64s (trm8 (fst8 dif8 n xs)))) ∧ Below w.heap.size w w' := by
  have HF := Lib.hid (fullForm_any A n c lo hi xs w hn hm ha hh)
  have HT := Lib.hid fun B d l h W (h1 : _ ≤ d) h2 h3 => trim_any B (fst8 dif8 n xs).length d l h (fst8 dif8 n xs) W rfl (by rw [fst8_len]; exact hm) h1 hX h2 h3
  clear ha hn hh hX
  generalize fst8 dif8 n xs = ys at *
  go_enter Try.func50, Try.ntmps50
  go_wp2_with (first
    | (go_at_call 49; refine HF.out.mono ?_; rintro e w2 ⟨B, d, hd, rfl, hO, hb⟩; have HO := Lib.hid hO; have HB := Lib.hid hb; clear hO hb)
    | (go_at_call 34; refine (HT.out _ _ _ _ _ hd HO.out (Nat.le_refl _)).mono ?_; rintro e w3 ⟨⟨C, q, rfl, hO3⟩, hb3⟩))
  go_ret
  exact ⟨⟨C, q, rfl, hO3.wide (Nat.le_refl _) hb3.size⟩, HB.out.trans (hb3.mono HB.out.size)⟩
end Go.Proofs.Ytjfpnecnmdclfaa

/- Chapter 8, the program: the door through which the numbers of a row come out. -/
namespace Go.Proofs.Ytjfpnecnmdclfaa
open Go.RowKit

theorem assert_long (a b : Int) (w : World) : (Instr.typeAssert (.iface 64 (.agg #[.int .u64 a, .int .u64 b])) 20 64 true).run Try.prog w = .ok (.tuple #[.agg #[.int .u64 a, .int .u64 b], .bool true]) w := by kernel_rfl
theorem assert_none (w : World) : (Instr.typeAssert .nilIface 20 64 true).run Try.prog w = .ok (.tuple #[.agg #[.int .u64 0, .int .u64 0], .bool false]) w := by kernel_rfl
set_option maxRecDepth 8000 in
set_option maxHeartbeats 1600000 in
/-- The closure of the door where a number was raised: what is handed back is nothing. -/
theorem door_raised (B : Nat) (v : Int) (x y : Value) (w : World) (c0 : w.cell? ⟨B, 0, none⟩ = some x) (c1 : w.cell? ⟨B + 1, 0, none⟩ = some y)
    (z0 : w.frozen? ⟨B, 0, none⟩ = false) (z1 : w.frozen? ⟨B + 1, 0, none⟩ = false) :
    CallsD Try.prog 73 #[.pointer (some ⟨B, 0, none⟩), .pointer (some ⟨B + 1, 0, none⟩)] (.panicking ({ v := .iface 64 (lng v), recovered := false } :: [])) w fun e u' w' =>
      e = .returned (.tuple #[]) ∧ u' = .panicking ({ v := .iface 64 (lng v), recovered := true } :: []) ∧ w' = ((w.alloc (.cells #[.int .u64 (hi8 v), .int .u64 (lo8 v)] 64)).setCell ⟨B, 0, none⟩ (.slice none 0 0)).setCell ⟨B + 1, 0, none⟩ (.bool false) := by
  refine callsD_of_wpS Try.func73 rfl fun c₀ cs hu => ?_
  unfold lng at *
  generalize hi8 v = a at *
  generalize lo8 v = b at *
  have ht := assert_long a b
  have hb0 : B ≠ w.heap.size := Nat.ne_of_lt (World.block_lt_of_cell? _ _ c0)
  have hb1 : B + 1 ≠ w.heap.size := Nat.ne_of_lt (World.block_lt_of_cell? _ _ c1)
  have k0 := (World.cell?_alloc_old w (.cells #[.int .u64 a, .int .u64 b] 64) ⟨B, 0, none⟩ hb0).trans c0
  have k1 := (World.cell?_alloc_old w (.cells #[.int .u64 a, .int .u64 b] 64) ⟨B + 1, 0, none⟩ hb1).trans c1
  have j0 := (World.frozen?_alloc_old w (.cells #[.int .u64 a, .int .u64 b] 64) ⟨B, 0, none⟩ hb0).trans z0
  have j1 := (World.frozen?_alloc_old w (.cells #[.int .u64 a, .int .u64 b] 64) ⟨B + 1, 0, none⟩ hb1).trans z1
  apply wpS_seq
  apply wpS_region
  simp [wpOpsS, go_sem, recoverD, hu, Try.ntmps73, Exit.thenS, ht, Array.replicate]
  generalize (w.alloc (.cells #[.int .u64 a, .int .u64 b] 64)) = w1 at *
  apply wpS_seq
  apply wpS_region
  simp [wpOpsS, go_sem, Exit.thenS]
  refine wpS_cond (t := true) (by simp [Act.eval]) ?_
  simp only [if_true]
  apply wpS_region
  simp [wpOpsS, go_sem, k0, k1, j0, j1, bodyPostS, results, Try.results73]
theorem door_quiet (B : Nat) (w : World) :
    CallsD Try.prog 73 #[.pointer (some ⟨B, 0, none⟩), .pointer (some ⟨B + 1, 0, none⟩)] .returning w fun e u' w' =>
      e = .returned (.tuple #[]) ∧ u' = .returning ∧ w' = w.alloc (.cells #[.int .u64 0, .int .u64 0] 64) := by
  refine callsD_of_wpS Try.func73 rfl fun c₀ cs hu => ?_
  have ht := assert_none
  apply wpS_seq
  apply wpS_region
  simp [wpOpsS, go_sem, recoverD, hu, Try.ntmps73, Exit.thenS, ht, Array.replicate]
  apply wpS_seq
  apply wpS_region
  simp [wpOpsS, go_sem, Exit.thenS]
  refine wpS_cond (t := false) (by simp [Act.eval]) ?_
  simp only [Bool.false_eq_true, if_false]
  refine wpS_of_wp (wp_skip ?_)
  cases c₀
  simp_all [bodyPostS, results, Try.results73]
end Go.Proofs.Ytjfpnecnmdclfaa

/- Chapter 8, the program: the numbers of a row, or none if one is too great. -/
namespace Go.Proofs.Ytjfpnecnmdclfaa
open Go.RowKit

/-- The numbers, or none. -/
def ans8 (b : Bool) (xs : List Int) : List Int := if b = true then xs else []
/-- The door's two variables: the numbers, and whether all is well. -/
structure Door (w : World) (B : Nat) (v : Value) (b : Bool) : Prop where
  c0 : w.cell? ⟨B, 0, none⟩ = some v
  c1 : w.cell? ⟨B + 1, 0, none⟩ = some (.bool b)
  z0 : w.frozen? ⟨B, 0, none⟩ = false
  z1 : w.frozen? ⟨B + 1, 0, none⟩ = false
theorem Door.below {w w' : World} {B : Nat} {v : Value} {b : Bool} {H : Nat} (h : Door w B v b) (hb : Below H w w') (hH : B + 1 < H) : Door w' B v b :=
  ⟨(hb.cell (p := ⟨B, 0, none⟩) (by show B < H; omega)).trans h.c0, (hb.cell (p := ⟨B + 1, 0, none⟩) hH).trans h.c1, (hb.frozen (p := ⟨B, 0, none⟩) (by show B < H; omega)).trans h.z0, (hb.frozen (p := ⟨B + 1, 0, none⟩) hH).trans h.z1⟩
theorem Door.grown {w w' : World} {B : Nat} {v : Value} {b : Bool} {row : Option Nat} (h : Door w B v b) (hg : w.grownBy w' row) (hB : B + 1 < w.heap.size) (hr : ∀ j, row = some j → B + 1 < j) : Door w' B v b := by
  have n0 : some B ≠ row := fun e => by have := hr B e.symm; omega
  have n1 : some (B + 1) ≠ row := fun e => by have := hr (B + 1) e.symm; omega
  exact ⟨(hg.cell_far ⟨B, 0, none⟩ (by show B < _; omega) n0).trans h.c0, (hg.cell_far ⟨B + 1, 0, none⟩ hB n1).trans h.c1, (hg.frozen_far ⟨B, 0, none⟩ (by show B < _; omega) n0).trans h.z0, (hg.frozen_far ⟨B + 1, 0, none⟩ hB n1).trans h.z1⟩
theorem Door.set0 {w : World} {B : Nat} {v : Value} {b : Bool} (h : Door w B v b) (u : Value) : Door (w.setCell ⟨B, 0, none⟩ u) B u b :=
  ⟨World.cell?_setCell_same w _ _ h.c0, (World.cell?_setCell_other w _ _ _ (by simp)).trans h.c1, (World.frozen?_setCell _ _ _ _).trans h.z0, (World.frozen?_setCell _ _ _ _).trans h.z1⟩
theorem Door.set1 {w : World} {B : Nat} {v : Value} {b : Bool} (h : Door w B v b) (b' : Bool) : Door (w.setCell ⟨B + 1, 0, none⟩ (.bool b')) B v b' :=
  ⟨(World.cell?_setCell_other w _ _ _ (by simp)).trans h.c0, World.cell?_setCell_same w _ _ h.c1, (World.frozen?_setCell _ _ _ _).trans h.z0, (World.frozen?_setCell _ _ _ _).trans h.z1⟩
/-- What is told at the door when a number has been raised. -/
def Raised8 (chain : List PanicEntry) (D : List Deferred) (p0 p1 : Value) (F : World → Prop) : Exit → Act → World → Prop
  | .panic c, a, w => c = chain ∧ a.defers = D ∧ a.tmps[4]? = some p0 ∧ a.tmps[5]? = some p1 ∧ F w
  | _, _, _ => False
theorem Raised8.put {chain : List PanicEntry} {D : List Deferred} {p0 p1 : Value} {F : World → Prop} {d : Nat} {v : Value} (h4 : d ≠ 4) (h5 : d ≠ 5) :
    ∀ c a w, Raised8 chain D p0 p1 F (.panic c) (a.put (some d) v) w → Raised8 chain D p0 p1 F (.panic c) a w := by
  intro c a w h
  unfold Raised8 Act.put at *
  simp only [Array.getElem?_setIfInBounds_ne h4, Array.getElem?_setIfInBounds_ne h5] at h
  exact h
theorem leaves_raised (w0 w : World) (tmps : Array Value) (x : Int) (v : Value) (b : Bool) (h4 : tmps[4]? = some (.pointer (some ⟨w0.heap.size, 0, none⟩))) (h5 : tmps[5]? = some (.pointer (some ⟨w0.heap.size + 1, 0, none⟩)))
    (hD : Door w w0.heap.size v b) (hb : Below w0.heap.size w0 w) :
    Leaves Try.prog Try.f44 tmps (ResI false [] w0) [{ target := Target.fn (Fn.func 73) #[.pointer (some ⟨w0.heap.size, 0, none⟩), .pointer (some ⟨w0.heap.size + 1, 0, none⟩)], args := #[] }] (.panicking [{ v := .iface 64 (lng x), recovered := false }]) w := by
  refine leaves_cons (f := 73) (args := #[.pointer (some ⟨w0.heap.size, 0, none⟩), .pointer (some ⟨w0.heap.size + 1, 0, none⟩)]) (by simp) (by simp [go_sem]) ?_
  refine (door_raised _ x _ _ w hD.c0 hD.c1 hD.z0 hD.z1).mono ?_
  rintro e u' w'' ⟨rfl, rfl, rfl⟩
  have hb0 : w0.heap.size ≠ w.heap.size := Nat.ne_of_lt (World.block_lt_of_cell? _ _ hD.c0)
  have hb1 : w0.heap.size + 1 ≠ w.heap.size := Nat.ne_of_lt (World.block_lt_of_cell? _ _ hD.c1)
  have k0 := (World.cell?_alloc_old w (.cells #[.int .u64 (hi8 x), .int .u64 (lo8 x)] 64) ⟨w0.heap.size, 0, none⟩ hb0).trans hD.c0
  have k1 := (World.cell?_alloc_old w (.cells #[.int .u64 (hi8 x), .int .u64 (lo8 x)] 64) ⟨w0.heap.size + 1, 0, none⟩ hb1).trans hD.c1
  have hbz : Below w0.heap.size w0 (((w.alloc (.cells #[.int .u64 (hi8 x), .int .u64 (lo8 x)] 64)).setCell ⟨w0.heap.size, 0, none⟩ (.slice none 0 0)).setCell ⟨w0.heap.size + 1, 0, none⟩ (.bool false)) := ((hb.alloc hb.size _).setCell (Nat.le_refl _) _).setCell (Nat.le_succ _) _
  generalize w.alloc (.cells #[.int .u64 (hi8 x), .int .u64 (lo8 x)] 64) = w1 at *
  have j1 : ((w1.setCell ⟨w0.heap.size, 0, none⟩ (.slice none 0 0)).setCell ⟨w0.heap.size + 1, 0, none⟩ (.bool false)).cell? ⟨w0.heap.size + 1, 0, none⟩ = some (.bool false) := World.cell?_setCell_same _ _ _ ((World.cell?_setCell_other _ _ _ _ (by simp)).trans k1)
  have j0 : ((w1.setCell ⟨w0.heap.size, 0, none⟩ (.slice none 0 0)).setCell ⟨w0.heap.size + 1, 0, none⟩ (.bool false)).cell? ⟨w0.heap.size, 0, none⟩ = some (.slice none 0 0) := (World.cell?_setCell_other _ _ _ _ (by simp)).trans (World.cell?_setCell_same _ _ _ k0)
  generalize (w1.setCell ⟨w0.heap.size, 0, none⟩ (.slice none 0 0)).setCell ⟨w0.heap.size + 1, 0, none⟩ (.bool false) = w2 at *
  simp [Leaves, settle, results, Try.results44, go_sem, h4, h5, j0, j1]
  exact resI_nil hbz
theorem leaves_fine (w0 w : World) (tmps : Array Value) (xs : List Int) (A : Option Addr) (n c lo hi : Nat) (hn : xs.length = n) (h4 : tmps[4]? = some (.pointer (some ⟨w0.heap.size, 0, none⟩))) (h5 : tmps[5]? = some (.pointer (some ⟨w0.heap.size + 1, 0, none⟩)))
    (hD : Door w w0.heap.size (.slice A n c) true) (hO : Own w lo hi A (i64s xs)) (hlo : w0.heap.size ≤ lo) (hhi : hi ≤ w.heap.size) (hb : Below w0.heap.size w0 w) :
    Leaves Try.prog Try.f44 tmps (ResI true xs w0) [{ target := Target.fn (Fn.func 73) #[.pointer (some ⟨w0.heap.size, 0, none⟩), .pointer (some ⟨w0.heap.size + 1, 0, none⟩)], args := #[] }] .returning w := by
  refine leaves_cons (f := 73) (args := #[.pointer (some ⟨w0.heap.size, 0, none⟩), .pointer (some ⟨w0.heap.size + 1, 0, none⟩)]) (by simp) (by simp [go_sem]) ?_
  refine (door_quiet _ w).mono ?_
  rintro e u' w'' ⟨rfl, rfl, rfl⟩
  have hb0 : w0.heap.size ≠ w.heap.size := Nat.ne_of_lt (World.block_lt_of_cell? _ _ hD.c0)
  have hb1 : w0.heap.size + 1 ≠ w.heap.size := Nat.ne_of_lt (World.block_lt_of_cell? _ _ hD.c1)
  have k0 := (World.cell?_alloc_old w (.cells #[.int .u64 0, .int .u64 0] 64) ⟨w0.heap.size, 0, none⟩ hb0).trans hD.c0
  have k1 := (World.cell?_alloc_old w (.cells #[.int .u64 0, .int .u64 0] 64) ⟨w0.heap.size + 1, 0, none⟩ hb1).trans hD.c1
  have hba := (Below.refl w.heap.size w).alloc (Nat.le_refl _) (.cells #[.int .u64 0, .int .u64 0] 64)
  have hO2 := (hO.below hba hhi).wide hlo (Nat.le_trans hhi hba.size)
  have hbz := hb.alloc hb.size (.cells #[.int .u64 0, .int .u64 0] 64)
  generalize w.alloc (.cells #[.int .u64 0, .int .u64 0] 64) = w1 at *
  simp [Leaves, settle, results, Try.results44, go_sem, h4, h5, k0, k1]
  exact ⟨A, c, by rw [hn], hO2, hbz⟩
theorem grown_set8 (w : World) (g o : Nat) (u : Value) : w.grownBy (w.setCell ⟨g, o, none⟩ u) (some g) := by
  have hb : Below g w (w.setCell ⟨g, o, none⟩ u) := (Below.refl g w).setCell (Nat.le_refl _) u
  exact ⟨hb.os, hb.tape, hb.output, hb.size, fun i hi hne => Below.heap_setCell _ _ _ i (fun e => hne (by rw [e]))⟩
theorem row_set8 {w : World} {base g o n s : Nat} {t : TypeId} {v : Value} {cs : List Value} (h : w.ownsRow base t s v n cs) (hg : g < base) (u : Value) : (w.setCell ⟨g, o, none⟩ u).ownsRow base t s v n cs := by
  refine h.kept (grown_set8 w g o u) ?_
  cases hv : v.ownBlock with
  | none => exact .inl rfl
  | some j =>
    refine .inr fun e => ?_
    have := (h.lt j hv).1
    injection e with e
    omega
set_option maxRecDepth 8000 in
set_option maxHeartbeats 3200000 in
theorem numbers_any (g : Int) (A : Option Addr) (n c lo hi : Nat) (xs : List Int) (w : World) (hn : xs.length = n) (hm : n ≤ 1000) (hX : Sm xs) (g0 : 0 ≤ g) (g1 : g ≤ 1000000000000000) (ha : Own w lo hi A (l64s xs)) (hh : hi ≤ w.heap.size) :
    Calls Try.prog 44 #[.slice A n c, .int .i64 g] w (ResI (allIn xs (-g) g) (ans8 (allIn xs (-g) g) xs) w) := by
  have HA := Lib.hid ha
  have HN := Lib.hid hn
  have HX := Lib.hid hX
  obtain ⟨r, hr⟩ : ∃ r, r = allIn xs (-g) g := ⟨_, rfl⟩
  rw [← hr]
  obtain ⟨ys, hys⟩ : ∃ ys : List Int, ys = ans8 r xs := ⟨_, rfl⟩
  rw [← hys]
  have HY := Lib.hid hys
  have HR := Lib.hid hr
  have HT := Lib.hid (show ∀ k, k < n → xs.take (k + 1) = xs.take k ++ [xs.getD k 0] from fun k hk => by
    rw [List.take_succ_eq_append_getElem (by omega)]
    simp [List.getD_eq_getElem?_getD, hn, hk])
  have HLT : Hid (∀ k, k ≤ n → (xs.take k).length = k) := Lib.hid fun k hk => by rw [List.length_take, hn]; omega
  have HAll : Hid (xs.take n = xs) := Lib.hid (List.take_of_length_le (by omega))
  have hmf : ∀ (fn : Fn) (first cap : Array Value) (w : World), (Instr.makeFunc fn first cap).run Try.prog w = .ok (.func fn first cap) w := fun _ _ _ _ => rfl
  have HD0 : Hid (Door ((w.alloc (.cells #[.slice none 0 0] 24)).alloc (.cells #[.bool false] 4)) w.heap.size (.slice none 0 0) false) := Lib.hid ⟨by simp [go_sem], by simp [go_sem], by simp [go_sem], by simp [go_sem]⟩
  have HB0 : Hid (Below w.heap.size w ((w.alloc (.cells #[.slice none 0 0] 24)).alloc (.cells #[.bool false] 4))) := Lib.hid (((Below.refl _ _).alloc (Nat.le_refl _) _).alloc (by simp) _)
  have HS0 : Hid (w.heap.size + 2 = ((w.alloc (.cells #[.slice none 0 0] 24)).alloc (.cells #[.bool false] 4)).heap.size) := Lib.hid (by simp)
  clear ha hn hX hr hys
  go_enter_defers Try.func44, Try.ntmps44
  go_wp2
  generalize ((w.alloc (.cells #[.slice none 0 0] 24)).alloc (.cells #[.bool false] 4)) = w0 at *
  go_loopw [11] (fun i wr => ∃ (k : Nat) (v : Value), k ≤ n ∧ i = .int .i64 (k : Int) ∧ Hid (allIn (xs.take k) (-g) g = true) ∧ Hid (Door wr w.heap.size v false) ∧ Hid (wr.ownsRow (w.heap.size + 2) 3 1 v k (i64s (xs.take k))) ∧ Hid (Below w.heap.size w wr ∧ w.heap.size + 2 ≤ wr.heap.size)) (fun i _ => n - (intOf i).toNat)
  case atStart => exact ⟨0, .slice none 0 0, by omega, by simp, Lib.hid (by rw [List.take_zero]; rfl), HD0, Lib.hid (by rw [List.take_zero]; exact World.ownsRow_nil _ _ _ _), Lib.hid ⟨HB0.out, Nat.le_of_eq HS0.out⟩⟩
  case round =>
    obtain ⟨k, v, hk, rfl, hP, hD, hR, hbl⟩ := hrel
    by_cases hlt : k < n
    · have hki : (k : Int) < (n : Int) := by omega
      have hk0 : (0 : Int) ≤ (k : Int) := by omega
      obtain ⟨b, o, rfl, hg0, hg1, s0, s1⟩ := (HA.out.below hbl.out.1 hh).lng (k := k) (by rw [HN.out]; omega)
      have HK := Lib.hid (HT.out k hlt)
      have HLk := Lib.hid (HLT.out k hk)
      have hxb := HX.out k
      have hin1 := allIn_take xs (-g) g k (by rw [HN.out]; exact hlt) hP.out
      have hin2 := allIn_out xs (-g) g k (by rw [HN.out]; exact hlt)
      rw [← HR.out] at hin2
      generalize xs.getD k 0 = x at *
      have q0 : (wr.alloc (.cells #[.int .u64 (hi8 x), .int .u64 (lo8 x)] 64)).cell? ⟨wr.heap.size, 0, none⟩ = some (.int .u64 (hi8 x)) ∧ (wr.alloc (.cells #[.int .u64 (hi8 x), .int .u64 (lo8 x)] 64)).cell? ⟨wr.heap.size, 1, none⟩ = some (.int .u64 (lo8 x)) := ⟨by simp [go_sem], by simp [go_sem]⟩
      have hb1 := (Below.refl wr.heap.size wr).alloc (Nat.le_refl _) (.cells #[.int .u64 (hi8 x), .int .u64 (lo8 x)] 64)
      have HD1 := Lib.hid (hD.out.below hb1 (by have := hbl.out.2; omega))
      have HR1 := Lib.hid (row_below hR.out hb1 (Nat.le_refl _))
      have HB1 := Lib.hid (hbl.out.1.alloc hbl.out.1.size (.cells #[.int .u64 (hi8 x), .int .u64 (lo8 x)] 64))
      have hzz : wr.heap.size < (wr.alloc (.cells #[.int .u64 (hi8 x), .int .u64 (lo8 x)] 64)).heap.size := by simp
      have hwz := hbl.out.2
      clear hb1
      by_cases hx : x < -g ∨ g < x
      · have HF : Hid (r = false) := Lib.hid (hin2 hx)
        have HO := Lib.hid fun W => ofSize_bad x g W g0 g1 hx hxb.1 hxb.2
        clear hin1 hin2 hx hxb
        unfold raised8 lng at HO
        obtain ⟨x1, hx1⟩ : ∃ x1, x1 = hi8 x := ⟨_, rfl⟩
        obtain ⟨x2, hx2⟩ : ∃ x2, x2 = lo8 x := ⟨_, rfl⟩
        rw [← hx1, ← hx2] at HO q0 HB1 HD1 hzz HR1
        rw [← hx1] at s0
        rw [← hx2] at s1
        have HX1e := Lib.hid hx1
        have HX2e := Lib.hid hx2
        clear hx1 hx2
        go_wp2
        have hbl1 := HB1.out
        generalize (wr.alloc (.cells #[.int .u64 x1, .int .u64 x2] 64)) = w1 at *
        have hd1 : w.heap.size + 1 < w1.heap.size := Nat.lt_of_le_of_lt (Nat.le_trans (by omega) hwz) hzz
        refine Code.wp_mono (Q := Raised8 [{ v := .iface 64 (.agg #[.int .u64 x1, .int .u64 x2]), recovered := false }] [{ target := Target.fn (Fn.func 73) #[.pointer (some ⟨w.heap.size, 0, none⟩), .pointer (some ⟨w.heap.size + 1, 0, none⟩)], args := #[] }] (.pointer (some ⟨w.heap.size, 0, none⟩)) (.pointer (some ⟨w.heap.size + 1, 0, none⟩)) (fun w' => Door w' w.heap.size v false ∧ Below w.heap.size w w')) ?imp ?main
        case imp =>
          intro e a w' h
          cases e with
          | panic ch =>
            obtain ⟨rfl, hdf, h4, h5, hDr, hbr⟩ := h
            obtain rfl := HX1e.out
            obtain rfl := HX2e.out
            have HL := leaves_raised w w' a.tmps x v false h4 h5 hDr hbr
            rw [← hdf] at HL
            have hyl : ys = [] := by rw [HY.out, HF.out]; rfl
            have e : ResI r ys w = ResI false [] w := by rw [hyl, HF.out]
            rw [← e] at HL
            exact HL
          | _ => exact (h : False).elim
        case main =>
          refine wp_region_held_drew (S := (fun w' => w'.cell? ⟨w.heap.size, 0, none⟩ = some v ∧ w'.cell? ⟨wr.heap.size, 0, none⟩ = some (.int .u64 x1) ∧ w'.cell? ⟨wr.heap.size, 1, none⟩ = some (.int .u64 x2))) (by kernel_rfl) ?_ (fun hHeld => ?_)
          · exact ⟨HD1.out.c0, q0.1, q0.2⟩
          refine wpAnyH_take (i := 0) (v := ?_) rfl (by kernel_rfl) (by kernel_rfl) (by kernel_rfl) (Raised8.put (by decide) (by decide)) (Or.inl ⟨by rfl, ?_⟩) (by assumption) ?_
          rotate_left
          · intro wx hSw
            (try dsimp only at hSw)
            go_simp
            (try with_reducible rfl)
          (try simp only [Act.put, List.setIfInBounds_toArray])
          refine wpAnyH_take (i := 1) (v := ?_) rfl (by kernel_rfl) (by kernel_rfl) (by kernel_rfl) (Raised8.put (by decide) (by decide)) (Or.inl ⟨by rfl, ?_⟩) (by assumption) ?_
          rotate_left
          · intro wx hSw
            (try dsimp only at hSw)
            go_simp
            (try with_reducible rfl)
          (try simp only [Act.put])
          refine wpAnyH_take (i := 2) (v := ?_) rfl (by kernel_rfl) (by kernel_rfl) (by kernel_rfl) (Raised8.put (by decide) (by decide)) (Or.inl ⟨by rfl, ?_⟩) (by assumption) ?_
          rotate_left
          · intro wx hSw
            (try dsimp only at hSw)
            go_simp
            (try with_reducible rfl)
          (try simp only [Act.put])
          refine wpAnyH_ready (rs := [3]) (by kernel_rfl) (by simp) ?_
          refine AllReadyH.cons rfl (fun K hK => ?_) AllReadyH.nil
          go_simp
          refine (HO.out _).mono ?_
          rintro e w2 ⟨rfl, hb2⟩
          exact ⟨rfl, rfl, rfl, rfl, Door.below (w := w1.drew) ⟨HD1.out.c0, HD1.out.c1, HD1.out.z0, HD1.out.z1⟩ hb2 hd1, hbl1.drew.trans (hb2.mono hbl1.size)⟩
      · have HP1 : Hid (allIn (xs.take (k + 1)) (-g) g = true) := Lib.hid (hin1 (by omega) (by omega))
        have HO := Lib.hid fun W => ofSize_yes x g W g0 g1 (by omega) (by omega)
        clear hin1 hin2 hx hxb
        unfold lng at HO
        generalize hi8 x = x1 at *
        generalize lo8 x = x2 at *
        obtain ⟨A', cc', rfl⟩ := row_form hR.out
        have HX1 : Hid (∀ j, Value.ownBlock (.slice A' k cc') = some j → w.heap.size + 2 ≤ j ∧ j < wr.heap.size) := Lib.hid fun j hj => hR.out.lt j hj
        go_wp2
        generalize (wr.alloc (.cells #[.int .u64 x1, .int .u64 x2] 64)) = w1 at *
        obtain ⟨q0a, q0b⟩ := q0
        have r0 := HD1.out.c0
        refine wp_region_noPanic ?_
        go_region_law (first
          | (go_simp; go_at_call 74; refine (HO.out _).mono ?_; rintro e w2 ⟨rfl, hb2⟩; have HD2 := Lib.hid (Door.below (w := w1.drew) ⟨HD1.out.c0, HD1.out.c1, HD1.out.z0, HD1.out.z1⟩ hb2 (Nat.lt_of_le_of_lt (Nat.le_trans (by omega) hwz) hzz)); have HR2 := Lib.hid (row_below HR1.out.drew hb2 (Nat.le_refl _)); have HB2 := Lib.hid (HB1.out.drew.trans (hb2.mono HB1.out.size)); have r2 := HD2.out.c0; have hz2 := Nat.lt_of_lt_of_le hzz hb2.size; have HD3 := Lib.hid (HD2.out.below ((Below.refl w2.heap.size w2).alloc (Nat.le_refl _) (.cells #[.int .i64 x] 3)) (Nat.lt_of_le_of_lt (Nat.le_trans (by omega) hwz) hz2)); have r3 := HD3.out.c0; clear hb2)
          | (refine step_app_int (w := w2) (z := x) (w.heap.size + 2) rfl (.tmp 15) (.tmp 19) rfl (.slice A' k cc') k _ (by simp [Act.eval]) HLk.out HR2.out (Nat.le_trans hwz (Nat.le_of_lt hz2)) (by simp [Act.eval]) (by omega) ?_; intro v' wf hOf hgf; obtain ⟨A2, c2, rfl⟩ := row_form hOf; have HDf := Lib.hid (HD2.out.grown hgf (Nat.lt_of_le_of_lt (Nat.le_trans (by omega) hwz) hz2) (fun j hj => Nat.lt_of_lt_of_le (by omega) (HX1.out j hj).1)); have HOf := Lib.hid hOf; have HGf := Lib.hid hgf; have rf := HDf.out.c0; have zf := HDf.out.z0; clear hOf hgf)
          | fail)
        all_goals (
          refine NoPanic.normal ?_
          have HD5 := Lib.hid (HDf.out.set0 (.slice A2 (k + 1) c2))
          have HBf : Hid (Below w.heap.size w wf) := Lib.hid (HB2.out.grown HGf.out HB2.out.size (fun j hj => Nat.le_trans (by omega) (HX1.out j hj).1))
          have HR5 : Hid ((wf.setCell ⟨w.heap.size, 0, none⟩ (.slice A2 (k + 1) c2)).ownsRow (w.heap.size + 2) 3 1 (.slice A2 (k + 1) c2) (k + 1) (i64s (xs.take (k + 1)))) := Lib.hid (by
            rw [HK.out]
            exact row_set8 HOf.out (by omega) _)
          have HB5 : Hid (Below w.heap.size w (wf.setCell ⟨w.heap.size, 0, none⟩ (.slice A2 (k + 1) c2)) ∧ w.heap.size + 2 ≤ (wf.setCell ⟨w.heap.size, 0, none⟩ (.slice A2 (k + 1) c2)).heap.size) := Lib.hid (by
            have hB := HBf.out.setCell (p := ⟨w.heap.size, 0, none⟩) (Nat.le_refl _) (.slice A2 (k + 1) c2)
            refine ⟨hB, ?_⟩
            have h1 : wf.heap.size ≤ (wf.setCell ⟨w.heap.size, 0, none⟩ (.slice A2 (k + 1) c2)).heap.size := ((Below.refl 0 wf).setCell (p := ⟨w.heap.size, 0, none⟩) (Nat.zero_le _) (.slice A2 (k + 1) c2)).size
            exact Nat.le_trans hwz (Nat.le_trans (Nat.le_of_lt hz2) (Nat.le_trans HGf.out.size h1)))
          generalize wf.setCell ⟨w.heap.size, 0, none⟩ (.slice A2 (k + 1) c2) = w5 at *
          clear r0 r2 r3 rf zf q0a q0b s0 s1
          go_wp2
          go_roundw
          case rel => exact ⟨k + 1, .slice A2 (k + 1) c2, by omega, by go_num, HP1, HD5, HR5, HB5⟩
          case measure => simp [intOf]; omega)
    · obtain rfl : k = n := by omega
      obtain ⟨A', cc', rfl⟩ := row_form hR.out
      have c0 := hD.out.c0
      have c1 := hD.out.c1
      have z0 := hD.out.z0
      have z1 := hD.out.z1
      have hrt : r = true := by
        have := hP.out
        rw [HAll.out] at this
        rw [HR.out, this]
      have hyx : ys = xs := by rw [HY.out, hrt]; rfl
      subst hrt hyx
      have HDe := Lib.hid ((hD.out.set0 (.slice A' k cc')).set1 true)
      have HRe : Hid (((wr.setCell ⟨w.heap.size, 0, none⟩ (.slice A' k cc')).setCell ⟨w.heap.size + 1, 0, none⟩ (.bool true)).ownsRow (w.heap.size + 2) 3 1 (.slice A' k cc') k (i64s (ys.take k))) := Lib.hid (row_set8 (row_set8 hR.out (by omega) _) (by omega) _)
      have HBe : Hid (Below w.heap.size w ((wr.setCell ⟨w.heap.size, 0, none⟩ (.slice A' k cc')).setCell ⟨w.heap.size + 1, 0, none⟩ (.bool true))) := Lib.hid ((hbl.out.1.setCell (p := ⟨w.heap.size, 0, none⟩) (Nat.le_refl _) _).setCell (p := ⟨w.heap.size + 1, 0, none⟩) (Nat.le_succ _) _)
      clear hlt
      go_wp2
      have hRe := own_of_row HRe.out
      rw [HAll.out] at hRe
      exact leaves_fine w _ _ ys A' k cc' (w.heap.size + 2) _ HN.out rfl rfl HDe.out hRe (by omega) (Nat.le_refl _) HBe.out
end Go.Proofs.Ytjfpnecnmdclfaa

/- Chapter 8, the program: lists and forms tested; entries. -/
namespace Go.Proofs.Ytjfpnecnmdclfaa
open Go.RowKit

/-- A row that may be a list or a form as to its length and its numbers. -/
def ent8 (xs : List Int) : Bool := decide (xs.length ≤ 12) && allIn xs (-1000000) 1000000
theorem ent8_len {xs : List Int} (h : ent8 xs = true) : xs.length ≤ 12 := by
  unfold ent8 at h
  rw [Bool.and_eq_true, decide_eq_true_iff] at h
  exact h.1
theorem gd8_ent (xs : List Int) : gd8 xs = (decide (0 < xs.length) && ent8 xs) := by
  unfold gd8 ent8
  by_cases h1 : 0 < xs.length
  · by_cases h2 : xs.length ≤ 12
    · rw [decide_eq_true h1, decide_eq_true h2, decide_eq_true ⟨h1, h2⟩]
      simp
    · rw [decide_eq_true h1, decide_eq_false h2, decide_eq_false (by omega)]
      simp
  · rw [decide_eq_false h1, decide_eq_false (by omega)]
    simp
theorem fm8_ent (xs : List Int) : fm8 xs = (ent8 xs && (decide (xs.length = 0) || decide (xs.getD (xs.length - 1) 0 ≠ 0))) := rfl
theorem isEntry8_any (x : Int) (w : World) : Calls Try.prog 79 #[.int .i64 x] w fun e w' => e = .returned (.bool (decide (-1000000 ≤ x ∧ x ≤ 1000000))) ∧ w = w' := by
  have HS := Lib.hid fun W => ofSize8_any x 1000000 W (by omega) (by omega)
  generalize decide (-1000000 ≤ x ∧ x ≤ 1000000) = r at *
  go_enter Try.func79, Try.ntmps79
  go_wp2_with (go_at_call 82; refine (HS.out _).mono ?_; rintro e w' ⟨rfl, rfl⟩)
  go_ret
  exact ⟨rfl, rfl⟩
set_option maxHeartbeats 800000 in
theorem areEntries_any (A : Option Addr) (n c lo hi : Nat) (xs : List Int) (w : World) (hn : xs.length = n) (hm : n ≤ 1048576) (ha : Own w lo hi A (i64s xs)) :
    Calls Try.prog 67 #[.slice A n c] w fun e w' => e = .returned (.bool (ent8 xs)) ∧ w = w' := by
  have HA := Lib.hid ha
  have HN := Lib.hid hn
  obtain ⟨r, hr⟩ : ∃ r, r = ent8 xs := ⟨_, rfl⟩
  rw [← hr]
  by_cases h12 : 12 < n
  · have hF : r = false := by rw [hr, ent8, decide_eq_false (by omega), Bool.false_and]
    subst hF
    have hi12 : (n : Int) > 12 := by omega
    clear ha hn hr h12
    go_enter Try.func67, Try.ntmps67
    go_wp2
    go_ret
    exact ⟨rfl, rfl⟩
  · have hi12 : ¬ (n : Int) > 12 := by omega
    have hr2 : r = allIn xs (-1000000) 1000000 := by rw [hr, ent8, decide_eq_true (by omega), Bool.true_and]
    have HR := Lib.hid hr2
    have HG := Lib.hid (show ∀ k, k < n → (i64s xs)[k]? = some (.int .i64 (xs.getD k 0)) from fun k hk => by simp [List.getD_eq_getElem?_getD, hn, hk])
    have HIL : Hid ((i64s xs).length = n) := Lib.hid (by simp [hn])
    clear ha hn hr hr2 h12
    go_enter Try.func67, Try.ntmps67
    go_wp2
    go_loopw [10] (fun i wr => ∃ k : Nat, k ≤ n ∧ i = .int .i64 (k : Int) ∧ Hid (allIn (xs.take k) (-1000000) 1000000 = true) ∧ wr = w) (fun i _ => n - (intOf i).toNat)
    case atStart => exact ⟨0, Nat.zero_le _, by simp, Lib.hid (by simp [allIn]), rfl⟩
    case round =>
      obtain ⟨k, hk, rfl, HP, rfl⟩ := hrel
      by_cases hlt : k < n
      · obtain ⟨g, o, rfl, hg0, hg1, hcs⟩ := HA.out (by rw [HIL.out]; omega)
        have hcx := (hcs _ _ (HG.out k hlt)).1
        have ho := allIn_out xs (-1000000) 1000000 k (by rw [HN.out]; exact hlt)
        have ht := allIn_take xs (-1000000) 1000000 k (by rw [HN.out]; exact hlt) HP.out
        generalize xs.getD k 0 = x at *
        have hki : (k : Int) < (n : Int) := by omega
        have HE := Lib.hid fun W => isEntry8_any x W
        clear hcs
        by_cases hin : x < -1000000 ∨ 1000000 < x
        · have hF : r = false := by rw [HR.out]; exact ho hin
          subst hF
          rw [decide_eq_false (by omega)] at HE
          clear hin ho ht
          go_wp2_with (go_at_call 79; refine (HE.out _).mono ?_; rintro e w' ⟨rfl, rfl⟩)
          first | (rw [Exit.noGoto_ret]; go_ret) | go_ret
          exact ⟨rfl, rfl⟩
        · have HP2 := Lib.hid (ht (by omega) (by omega))
          rw [decide_eq_true (by omega)] at HE
          clear hin ho ht
          go_wp2_with (go_at_call 79; refine (HE.out _).mono ?_; rintro e w' ⟨rfl, rfl⟩)
          go_roundw
          case rel => exact ⟨k + 1, by omega, by go_num, HP2, by trivial⟩
          case measure => simp [intOf]; omega
      · obtain rfl : k = n := by omega
        have hT : r = true := by rw [HR.out, ← HP.out, ← HN.out, List.take_length]
        subst hT
        go_wp2
        go_ret
        exact ⟨rfl, rfl⟩
theorem isList8_any (A : Option Addr) (n c lo hi : Nat) (xs : List Int) (w : World) (hn : xs.length = n) (hm : n ≤ 1048576) (ha : Own w lo hi A (i64s xs)) :
    Calls Try.prog 46 #[.slice A n c] w fun e w' => e = .returned (.bool (gd8 xs)) ∧ w = w' := by
  have HE := Lib.hid (areEntries_any A n c lo hi xs w hn hm ha)
  rw [gd8_ent, hn]
  generalize ent8 xs = r at *
  by_cases h0 : 0 < n
  · rw [decide_eq_true h0, Bool.true_and]
    have hi0 : (n : Int) > 0 := by omega
    clear ha hn h0
    go_enter Try.func46, Try.ntmps46
    go_wp2_with (go_at_call 67; refine HE.out.mono ?_; rintro e w' ⟨rfl, rfl⟩)
    go_ret
    exact ⟨by simp, rfl⟩
  · rw [decide_eq_false h0, Bool.false_and]
    have hi0 : ¬ (n : Int) > 0 := by omega
    clear ha hn h0
    go_enter Try.func46, Try.ntmps46
    go_wp2
    go_ret
    exact ⟨rfl, rfl⟩
theorem lastInt_any (A : Option Addr) (n c lo hi : Nat) (xs : List Int) (w : World) (hn : xs.length = n + 1) (hm : n ≤ 1048576) (ha : Own w lo hi A (i64s xs)) :
    Calls Try.prog 68 #[.slice A (n + 1) c] w fun e w' => e = .returned (.int .i64 (xs.getD n 0)) ∧ w = w' := by
  obtain ⟨g, o, rfl, hg1, hg2, hcs⟩ := ha (by simp [hn])
  have hcx := (hcs n (.int .i64 (xs.getD n 0)) (by simp [List.getD_eq_getElem?_getD, hn])).1
  obtain ⟨m, hmn⟩ : ∃ m, m = n + 1 := ⟨_, rfl⟩
  rw [← hmn]
  have e1 : IntKind.i64.wrap ((m : Int) - 1) = (n : Int) := by rw [IntWalk.i64_in _ (by omega)]; omega
  have h1 : (n : Int) < (m : Int) := by omega
  have h0 : (0 : Int) ≤ (n : Int) := by omega
  generalize xs.getD n 0 = x at *
  clear ha hcs hn hmn
  go_enter Try.func68, Try.ntmps68
  go_wp2
  go_ret
  exact ⟨rfl, rfl⟩
set_option maxHeartbeats 800000 in
theorem isForm8_any (A : Option Addr) (n c lo hi : Nat) (xs : List Int) (w : World) (hn : xs.length = n) (hm : n ≤ 1048576) (ha : Own w lo hi A (i64s xs)) :
    Calls Try.prog 32 #[.slice A n c] w fun e w' => e = .returned (.bool (fm8 xs)) ∧ w = w' := by
  have HE := Lib.hid (areEntries_any A n c lo hi xs w hn hm ha)
  rw [fm8_ent, hn]
  cases n with
  | zero =>
    rw [decide_eq_true rfl, Bool.true_or, Bool.and_true]
    generalize ent8 xs = r at *
    clear ha hn
    cases r with
    | false =>
      go_enter Try.func32, Try.ntmps32
      go_wp2_with (go_at_call 67; refine HE.out.mono ?_; rintro e w' ⟨rfl, rfl⟩)
      go_ret
      exact ⟨rfl, rfl⟩
    | true =>
      go_enter Try.func32, Try.ntmps32
      go_wp2_with (go_at_call 67; refine HE.out.mono ?_; rintro e w' ⟨rfl, rfl⟩)
      go_ret
      exact ⟨rfl, rfl⟩
  | succ m =>
    have HL := Lib.hid (lastInt_any A m c lo hi xs w hn (by omega) ha)
    rw [decide_eq_false (by omega), Bool.false_or, Nat.add_sub_cancel]
    have h0 : ¬ ((m + 1 : Nat) : Int) = 0 := by omega
    obtain ⟨q, hq⟩ : ∃ q, q = m + 1 := ⟨_, rfl⟩
    rw [← hq] at HE HL h0 ⊢
    generalize ent8 xs = r at *
    generalize xs.getD m 0 = x at *
    clear ha hn hq
    cases r with
    | false =>
      go_enter Try.func32, Try.ntmps32
      go_wp2_with (go_at_call 67; refine HE.out.mono ?_; rintro e w' ⟨rfl, rfl⟩)
      go_ret
      exact ⟨rfl, rfl⟩
    | true =>
      have hz1 : ((q : Int) == 0) = false := by simp; omega
      go_enter Try.func32, Try.ntmps32
      go_wp2_with (first
        | (go_at_call 67; refine HE.out.mono ?_; rintro e w' ⟨rfl, rfl⟩)
        | (go_at_call 68; refine HL.out.mono ?_; rintro e w' ⟨rfl, rfl⟩))
      go_ret
      exact ⟨by cases hz : decide (x = 0) <;> simp_all [], rfl⟩
theorem entries_any (A : Option Addr) (n c lo hi : Nat) (xs : List Int) (w : World) (hn : xs.length = n) (hm : n ≤ 1000) (hX : Sm xs) (ha : Own w lo hi A (l64s xs)) (hh : hi ≤ w.heap.size) :
    Calls Try.prog 35 #[.slice A n c] w (ResI (ent8 xs) (ans8 (ent8 xs) xs) w) := by
  have HE := Lib.hid (numbers_any 1000000 A n c lo hi xs w hn hm hX (by omega) (by omega) ha hh)
  by_cases h12 : 12 < n
  · have hF : ent8 xs = false := by rw [ent8, decide_eq_false (by omega), Bool.false_and]
    rw [hF, show ans8 false xs = [] from rfl]
    have hi12 : (n : Int) > 12 := by omega
    clear ha hn hX hh h12 HE
    go_enter Try.func35, Try.ntmps35
    go_wp2
    go_ret2
    exact resI_nil (Below.refl _ _)
  · have hr : ent8 xs = allIn xs (-1000000) 1000000 := by rw [ent8, decide_eq_true (by omega), Bool.true_and]
    have hi12 : ¬ (n : Int) > 12 := by omega
    rw [hr]
    rw [show -(1000000 : Int) = -1000000 from rfl] at HE
    generalize allIn xs (-1000000) 1000000 = r at *
    generalize ans8 r xs = ys at *
    clear ha hn hX hh h12 hr
    go_enter Try.func35, Try.ntmps35
    go_wp2_with (go_at_call 44; refine HE.out.mono ?_; rintro e w2 ⟨B, d, rfl, hO, hb⟩)
    go_ret2
    exact ⟨B, d, rfl, hO, hb⟩
theorem ans8_len {r : Bool} {xs : List Int} (h : xs.length ≤ 1000000000) : (ans8 r xs).length ≤ 1000000000 := by
  cases r
  · exact Nat.zero_le _
  · exact h
end Go.Proofs.Ytjfpnecnmdclfaa

/- Chapter 8, the program: sums from a first number. -/
namespace Go.Proofs.Ytjfpnecnmdclfaa
open Go.RowKit

/-- A first number, and behind it each sum. -/
def sms8 (a : Int) : List Int → List Int
  | [] => [a]
  | x :: l => a :: sms8 (a + x) l
theorem sms8_len : ∀ (l : List Int) (a : Int), (sms8 a l).length = l.length + 1
  | [], _ => rfl
  | x :: l, a => by rw [sms8, List.length_cons, sms8_len l]; rfl
theorem sms8_snoc : ∀ (l : List Int) (a x : Int), sms8 a (l ++ [x]) = sms8 a l ++ [(sms8 a l).getD l.length 0 + x]
  | [], a, x => rfl
  | y :: l, a, x => by
    show a :: sms8 (a + y) (l ++ [x]) = _
    rw [sms8_snoc l (a + y) x]
    show _ = a :: (sms8 (a + y) l ++ [(a :: sms8 (a + y) l).getD (l.length + 1) 0 + x])
    rw [List.getD_cons_succ]
end Go.Proofs.Ytjfpnecnmdclfaa

/- Chapter 8, the program: the functions that hand back a list or a form. -/
namespace Go.Proofs.Ytjfpnecnmdclfaa
open Go.RowKit

theorem gd8_bd {xs : List Int} (h : gd8 xs = true) : Bd 1000000 xs := fun j => gd8_at h j
theorem ent8_bd {xs : List Int} (h : ent8 xs = true) : Bd 1000000 xs := fun j => by
  unfold ent8 at h
  rw [Bool.and_eq_true] at h
  by_cases hj : j < xs.length
  · have e : xs.getD j 0 = xs[j] := by simp [List.getD_eq_getElem?_getD, hj]
    have := List.all_eq_true.1 h.2 xs[j] (List.getElem_mem hj)
    rw [decide_eq_true_iff] at this
    rw [e]
    exact this
  · have e : xs.getD j 0 = 0 := by simp [List.getD_eq_getElem?_getD, Nat.le_of_not_lt hj]
    rw [e]
    omega
theorem fm8_enty {xs : List Int} (h : fm8 xs = true) : ent8 xs = true := by
  rw [fm8_ent, Bool.and_eq_true] at h
  exact h.1
theorem fm8_len {xs : List Int} (h : fm8 xs = true) : xs.length ≤ 12 := ent8_len (fm8_enty h)
theorem fm8_bd {xs : List Int} (h : fm8 xs = true) : Bd 1000000 xs := ent8_bd (fm8_enty h)
theorem Bd.sm {M : Int} {xs : List Int} (h : Bd M xs) (hM : M ≤ 85070591730234615865843651857942052864) : Sm xs := fun j => h.mono hM j
theorem two12 : ∀ n : Nat, n ≤ 12 → (2 : Int) ^ n * 1000000 ≤ 4096000000 := by decide
theorem Bd.i64 {M : Int} {xs : List Int} (h : Bd M xs) (hM : M ≤ 9223372036854775807) : ∀ j, -9223372036854775808 ≤ xs.getD j 0 ∧ xs.getD j 0 ≤ 9223372036854775807 := fun j => by
  have := h j
  omega
theorem impl_FormBehind_no (A : Option Addr) (n c lo : Nat) (xs : List Int) (w : World) (hn : xs.length = n) (hm : n ≤ 1048576) (ha : Own w lo w.heap.size A (i64s xs)) (h : fm8 xs = false) :
    Calls Try.prog 9 #[.slice A n c] w (ResI false [] w) := by
  have HG := Lib.hid (isForm8_any A n c lo w.heap.size xs w hn hm ha)
  rw [h] at HG
  clear ha hn h
  go_enter Try.func9, Try.ntmps9
  go_wp2_with (go_at_call 32; refine HG.out.mono ?_; rintro e w' ⟨rfl, rfl⟩)
  go_ret2
  exact resI_nil (Below.refl _ _)
set_option maxRecDepth 8000 in
set_option maxHeartbeats 1600000 in
theorem impl_FormBehind_yes (A : Option Addr) (n c lo : Nat) (xs : List Int) (w : World) (hn : xs.length = n) (ha : Own w lo w.heap.size A (i64s xs)) (h : fm8 xs = true) :
    Calls Try.prog 9 #[.slice A n c] w (ResI (ent8 (stp8 xs)) (ans8 (ent8 (stp8 xs)) (stp8 xs)) w) := by
  subst hn
  have hl : xs.length ≤ 12 := fm8_len h
  have hbd : Bd 1000000 xs := fm8_bd h
  have HG := Lib.hid (isForm8_any A xs.length c lo w.heap.size xs w rfl (by omega) ha)
  rw [h] at HG
  have HR := Lib.hid (rowOf_any A xs.length c lo w.heap.size xs w rfl (by omega) ha (Nat.le_refl _) (hbd.i64 (by omega)))
  have H0 := Lib.hid fun B d l W (hd : (xs).length ≤ d) (h : Own W l W.heap.size B (l64s (xs))) => behind_any B xs.length d l W.heap.size xs W rfl (by omega) h (Nat.le_refl _)
  have HE := Lib.hid fun B d l W (h : Own W l W.heap.size B (l64s (stp8 xs))) => entries_any B (stp8 xs).length d l W.heap.size (stp8 xs) W rfl (by rw [stp8_len]; omega) ((hbd.stp).sm (by omega)) h (Nat.le_refl _)
  clear hbd h
  generalize ent8 (stp8 xs) = r at *
  generalize ans8 r (stp8 xs) = zs at *
  clear ha
  go_enter Try.func9, Try.ntmps9
  go_wp2_with (first
    | (go_at_call 32; refine HG.out.mono ?_; rintro e w' ⟨rfl, rfl⟩)
    | (go_at_call 33; refine HR.out.mono ?_; rintro e v0 ⟨B0, d0, hd0, rfl, hO0, hb0⟩; have HO0 := Lib.hid hO0; have HB0 := Lib.hid hb0; clear hO0 hb0)
    | (go_at_call 38; refine (H0.out _ _ _ _ hd0 HO0.out).mono ?_; rintro e v1 ⟨B1, d1, hd1, rfl, hO1, hb1⟩; have HO1 := Lib.hid hO1; have HB1 := Lib.hid (HB0.out.trans (hb1.mono HB0.out.size)); clear hO1 hb1)
    | (go_at_call 35; refine (HE.out _ _ _ _ HO1.out).mono ?_; rintro e v9 ⟨B9, d9, rfl, hO9, hb9⟩))
  go_ret2
  exact ⟨B9, d9, rfl, hO9.wide HB1.out.size (Nat.le_refl _), HB1.out.trans (hb9.mono HB1.out.size)⟩
theorem impl_UndoTransform_no (A : Option Addr) (n c lo : Nat) (xs : List Int) (w : World) (hn : xs.length = n) (hm : n ≤ 1048576) (ha : Own w lo w.heap.size A (i64s xs)) (h : gd8 xs = false) :
    Calls Try.prog 18 #[.slice A n c] w (ResI false [] w) := by
  have HG := Lib.hid (isList8_any A n c lo w.heap.size xs w hn hm ha)
  rw [h] at HG
  clear ha hn h
  go_enter Try.func18, Try.ntmps18
  go_wp2_with (go_at_call 46; refine HG.out.mono ?_; rintro e w' ⟨rfl, rfl⟩)
  go_ret2
  exact resI_nil (Below.refl _ _)
set_option maxRecDepth 8000 in
set_option maxHeartbeats 1600000 in
theorem impl_UndoTransform_yes (A : Option Addr) (n c lo : Nat) (xs : List Int) (w : World) (hn : xs.length = n) (ha : Own w lo w.heap.size A (i64s xs)) (h : gd8 xs = true) :
    Calls Try.prog 18 #[.slice A n c] w (ResI (ent8 (fst8 dif8 n xs)) (ans8 (ent8 (fst8 dif8 n xs)) (fst8 dif8 n xs)) w) := by
  subst hn
  have hl : xs.length ≤ 12 := (gd8_len h).2
  have hbd : Bd 1000000 xs := gd8_bd h
  have HG := Lib.hid (isList8_any A xs.length c lo w.heap.size xs w rfl (by omega) ha)
  rw [h] at HG
  have HR := Lib.hid (rowOf_any A xs.length c lo w.heap.size xs w rfl (by omega) ha (Nat.le_refl _) (hbd.i64 (by omega)))
  have H0 := Lib.hid fun B d l W (hd : (xs).length ≤ d) (h : Own W l W.heap.size B (l64s (xs))) => fullForm_any B xs.length d l W.heap.size xs W rfl (by omega) h (Nat.le_refl _)
  have HE := Lib.hid fun B d l W (h : Own W l W.heap.size B (l64s (fst8 dif8 xs.length xs))) => entries_any B (fst8 dif8 xs.length xs).length d l W.heap.size (fst8 dif8 xs.length xs) W rfl (by rw [fst8_len]; omega) ((((hbd.fst (fun M xs h => h.dif) xs.length).mono (two12 xs.length hl))).sm (by omega)) h (Nat.le_refl _)
  clear hbd h
  generalize ent8 (fst8 dif8 xs.length xs) = r at *
  generalize ans8 r (fst8 dif8 xs.length xs) = zs at *
  clear ha
  go_enter Try.func18, Try.ntmps18
  go_wp2_with (first
    | (go_at_call 46; refine HG.out.mono ?_; rintro e w' ⟨rfl, rfl⟩)
    | (go_at_call 33; refine HR.out.mono ?_; rintro e v0 ⟨B0, d0, hd0, rfl, hO0, hb0⟩; have HO0 := Lib.hid hO0; have HB0 := Lib.hid hb0; clear hO0 hb0)
    | (go_at_call 49; refine (H0.out _ _ _ _ hd0 HO0.out).mono ?_; rintro e v1 ⟨B1, d1, hd1, rfl, hO1, hb1⟩; have HO1 := Lib.hid hO1; have HB1 := Lib.hid (HB0.out.trans (hb1.mono HB0.out.size)); clear hO1 hb1)
    | (go_at_call 35; refine (HE.out _ _ _ _ HO1.out).mono ?_; rintro e v9 ⟨B9, d9, rfl, hO9, hb9⟩))
  go_ret2
  exact ⟨B9, d9, rfl, hO9.wide HB1.out.size (Nat.le_refl _), HB1.out.trans (hb9.mono HB1.out.size)⟩
theorem impl_TransformOf_no (A : Option Addr) (n c lo : Nat) (xs : List Int) (w : World) (hn : xs.length = n) (hm : n ≤ 1048576) (ha : Own w lo w.heap.size A (i64s xs)) (h : gd8 xs = false) :
    Calls Try.prog 16 #[.slice A n c] w (ResI false [] w) := by
  have HG := Lib.hid (isList8_any A n c lo w.heap.size xs w hn hm ha)
  rw [h] at HG
  clear ha hn h
  go_enter Try.func16, Try.ntmps16
  go_wp2_with (go_at_call 46; refine HG.out.mono ?_; rintro e w' ⟨rfl, rfl⟩)
  go_ret2
  exact resI_nil (Below.refl _ _)
set_option maxRecDepth 8000 in
set_option maxHeartbeats 1600000 in
theorem impl_TransformOf_yes (A : Option Addr) (n c lo : Nat) (xs : List Int) (w : World) (hn : xs.length = n) (ha : Own w lo w.heap.size A (i64s xs)) (h : gd8 xs = true) :
    Calls Try.prog 16 #[.slice A n c] w (ResI (ent8 (fst8 stp8 n xs)) (ans8 (ent8 (fst8 stp8 n xs)) (fst8 stp8 n xs)) w) := by
  subst hn
  have hl : xs.length ≤ 12 := (gd8_len h).2
  have hbd : Bd 1000000 xs := gd8_bd h
  have HG := Lib.hid (isList8_any A xs.length c lo w.heap.size xs w rfl (by omega) ha)
  rw [h] at HG
  have hg := h
  have HR := Lib.hid (rowOf_any A xs.length c lo w.heap.size xs w rfl (by omega) ha (Nat.le_refl _) (hbd.i64 (by omega)))
  have H0 := Lib.hid fun B d l W (hd : (xs).length ≤ d) (h : Own W l W.heap.size B (l64s (xs))) => (by have := values_any B xs.length d l W.heap.size 0 xs.length xs W rfl (by omega) (by omega) (gd8_len hg).1 h (Nat.le_refl _); rw [Nat.zero_add, List.drop_zero] at this; exact this)
  have HE := Lib.hid fun B d l W (h : Own W l W.heap.size B (l64s (fst8 stp8 xs.length xs))) => entries_any B (fst8 stp8 xs.length xs).length d l W.heap.size (fst8 stp8 xs.length xs) W rfl (by rw [fst8_len]; omega) ((((hbd.fst (fun M xs h => h.stp) xs.length).mono (two12 xs.length hl))).sm (by omega)) h (Nat.le_refl _)
  clear hbd h hg
  generalize ent8 (fst8 stp8 xs.length xs) = r at *
  generalize ans8 r (fst8 stp8 xs.length xs) = zs at *
  clear ha
  go_enter Try.func16, Try.ntmps16
  go_wp2_with (first
    | (go_at_call 46; refine HG.out.mono ?_; rintro e w' ⟨rfl, rfl⟩)
    | (go_at_call 33; refine HR.out.mono ?_; rintro e v0 ⟨B0, d0, hd0, rfl, hO0, hb0⟩; have HO0 := Lib.hid hO0; have HB0 := Lib.hid hb0; clear hO0 hb0)
    | (go_at_call 43; refine (H0.out _ _ _ _ hd0 HO0.out).mono ?_; rintro e v1 ⟨B1, d1, hd1, rfl, hO1, hb1⟩; have HO1 := Lib.hid hO1; have HB1 := Lib.hid (HB0.out.trans (hb1.mono HB0.out.size)); clear hO1 hb1)
    | (go_at_call 35; refine (HE.out _ _ _ _ HO1.out).mono ?_; rintro e v9 ⟨B9, d9, rfl, hO9, hb9⟩))
  go_ret2
  exact ⟨B9, d9, rfl, hO9.wide HB1.out.size (Nat.le_refl _), HB1.out.trans (hb9.mono HB1.out.size)⟩
theorem impl_FormOf_no (A : Option Addr) (n c lo : Nat) (xs : List Int) (w : World) (hn : xs.length = n) (hm : n ≤ 1048576) (ha : Own w lo w.heap.size A (i64s xs)) (h : gd8 xs = false) :
    Calls Try.prog 20 #[.slice A n c] w (ResI false [] w) := by
  have HG := Lib.hid (isList8_any A n c lo w.heap.size xs w hn hm ha)
  rw [h] at HG
  clear ha hn h
  go_enter Try.func20, Try.ntmps20
  go_wp2_with (go_at_call 46; refine HG.out.mono ?_; rintro e w' ⟨rfl, rfl⟩)
  go_ret2
  exact resI_nil (Below.refl _ _)
set_option maxRecDepth 8000 in
set_option maxHeartbeats 1600000 in
theorem impl_FormOf_yes (A : Option Addr) (n c lo : Nat) (xs : List Int) (w : World) (hn : xs.length = n) (ha : Own w lo w.heap.size A (i64s xs)) (h : gd8 xs = true) :
    Calls Try.prog 20 #[.slice A n c] w (ResI (ent8 (trm8 (fst8 dif8 n xs))) (ans8 (ent8 (trm8 (fst8 dif8 n xs))) (trm8 (fst8 dif8 n xs))) w) := by
  subst hn
  have hl : xs.length ≤ 12 := (gd8_len h).2
  have hbd : Bd 1000000 xs := gd8_bd h
  have HG := Lib.hid (isList8_any A xs.length c lo w.heap.size xs w rfl (by omega) ha)
  rw [h] at HG
  have HR := Lib.hid (rowOf_any A xs.length c lo w.heap.size xs w rfl (by omega) ha (Nat.le_refl _) (hbd.i64 (by omega)))
  have H0 := Lib.hid fun B d l W (hd : (xs).length ≤ d) (h : Own W l W.heap.size B (l64s (xs))) => form_any B xs.length d l W.heap.size xs W rfl (by omega) (((hbd.fst (fun M xs h => h.dif) xs.length).mono (two12 xs.length hl)).sm (by omega)) h (Nat.le_refl _)
  have HE := Lib.hid fun B d l W (h : Own W l W.heap.size B (l64s (trm8 (fst8 dif8 xs.length xs)))) => entries_any B (trm8 (fst8 dif8 xs.length xs)).length d l W.heap.size (trm8 (fst8 dif8 xs.length xs)) W rfl (by rw [trm8_len]; exact Nat.le_trans (tln8_le _ _) (by rw [fst8_len]; omega)) ((((hbd.fst (fun M xs h => h.dif) xs.length).mono (two12 xs.length hl)).trm).sm (by omega)) h (Nat.le_refl _)
  clear hbd h
  generalize ent8 (trm8 (fst8 dif8 xs.length xs)) = r at *
  generalize ans8 r (trm8 (fst8 dif8 xs.length xs)) = zs at *
  clear ha
  go_enter Try.func20, Try.ntmps20
  go_wp2_with (first
    | (go_at_call 46; refine HG.out.mono ?_; rintro e w' ⟨rfl, rfl⟩)
    | (go_at_call 33; refine HR.out.mono ?_; rintro e v0 ⟨B0, d0, hd0, rfl, hO0, hb0⟩; have HO0 := Lib.hid hO0; have HB0 := Lib.hid hb0; clear hO0 hb0)
    | (go_at_call 50; refine (H0.out _ _ _ _ hd0 HO0.out).mono ?_; rintro e v1 ⟨⟨B1, d1, rfl, hO1⟩, hb1⟩; have HO1 := Lib.hid (hO1.wide (Nat.le_refl _) (by first | exact Nat.le_refl _ | exact hb1.size)); have HB1 := Lib.hid (HB0.out.trans (hb1.mono HB0.out.size)); clear hO1 hb1)
    | (go_at_call 35; refine (HE.out _ _ _ _ HO1.out).mono ?_; rintro e v9 ⟨B9, d9, rfl, hO9, hb9⟩))
  go_ret2
  exact ⟨B9, d9, rfl, hO9.wide HB1.out.size (Nat.le_refl _), HB1.out.trans (hb9.mono HB1.out.size)⟩
end Go.Proofs.Ytjfpnecnmdclfaa
