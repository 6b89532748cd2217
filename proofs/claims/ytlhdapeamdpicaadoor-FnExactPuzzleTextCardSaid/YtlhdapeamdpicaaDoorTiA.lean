/- Chapter 9: the text of a puzzle, plainly and by the specification. -/
import Derived.Test.YtlhdapeamdpicaaDoorDoA
import Derived.Test.YtlhdapeamdpicaaDoorTfG
import Derived.Deep.RegionHeld3
import Derived.Lib.Join
import Derived.Deep.DeepCutAuto
namespace Go.Proofs.YtlhdapeamdpicaaDoor
open Go.ChangeShapes Go.WideShapes Go.ChangeAt Go.RowKit

/-- A number's text. -/
def dT (n : Int) : ByteArray := ⟨(Lib.decDigits n.toNat).toArray⟩
theorem dT_size (n : Int) (h : n ≤ 1000) : (dT n).size ≤ 11 := by
  have := dec_len n.toNat (by omega)
  unfold dT
  simpa [ByteArray.size] using this
/-- A clue's text. -/
def clT (q : Clu) : ByteArray := (((dT q.k ++ ⟨#[46]⟩) ++ dT q.a) ++ ⟨#[46]⟩) ++ dT q.b
theorem okc9_bds {q : Clu} (h : okc9 q = true) : (0 ≤ q.k ∧ q.k ≤ 5) ∧ (0 ≤ q.a ∧ q.a ≤ 100) ∧ (0 ≤ q.b ∧ q.b ≤ 100) := by
  unfold okc9 at h
  split at h
  · have := of_decide_eq_true h; omega
  · split at h
    · have := of_decide_eq_true h; omega
    · split at h
      · have := of_decide_eq_true h; omega
      · split at h
        · have := of_decide_eq_true h; omega
        · cases h
theorem cat_size (x y : ByteArray) : (x ++ y).size = x.size + y.size := by simp [ByteArray.size_append]
theorem one_size (b : UInt8) : (⟨#[b]⟩ : ByteArray).size = 1 := rfl
theorem clT_size {q : Clu} (h : okc9 q = true) : (clT q).size ≤ 35 := by
  obtain ⟨⟨_, h1⟩, ⟨_, h2⟩, ⟨_, h3⟩⟩ := okc9_bds h
  have a1 := dT_size q.k (by omega)
  have a2 := dT_size q.a (by omega)
  have a3 := dT_size q.b (by omega)
  unfold clT
  rw [cat_size, cat_size, cat_size, cat_size, one_size]
  omega
/-- The text of a puzzle with the first clues, as the specification writes it. -/
def pzR (m : Int) (xs : List Clu) : Nat → ByteArray
  | 0 => dT m ++ ⟨#[58]⟩
  | k + 1 => (if 0 < k then pzR m xs k ++ ⟨#[44]⟩ else pzR m xs k) ++ clT (xs.getD k clu0)
theorem pzR_first (m : Int) (xs : List Clu) : pzR m xs (0 + 1) = pzR m xs 0 ++ clT (xs.getD 0 clu0) := by
  show (if 0 < 0 then pzR m xs 0 ++ ⟨#[44]⟩ else pzR m xs 0) ++ clT (xs.getD 0 clu0) = _
  rw [if_neg (by omega)]
theorem pzR_next (m : Int) (xs : List Clu) (j : Nat) : pzR m xs (j + 1 + 1) = (pzR m xs (j + 1) ++ ⟨#[44]⟩) ++ clT (xs.getD (j + 1) clu0) := by
  show (if 0 < j + 1 then pzR m xs (j + 1) ++ ⟨#[44]⟩ else pzR m xs (j + 1)) ++ clT (xs.getD (j + 1) clu0) = _
  rw [if_pos (by omega)]
theorem pzR_size {m : Int} {xs : List Clu} (hm : m ≤ 1000) (hx : xs.all okc9 = true) : ∀ k, k ≤ xs.length → (pzR m xs k).size ≤ 12 + 36 * k
  | 0, _ => by
    have := dT_size m hm
    unfold pzR
    rw [cat_size, one_size]
    omega
  | k + 1, hk => by
    have ih := pzR_size hm hx k (by omega)
    have hq : okc9 (xs.getD k clu0) = true := by
      rw [List.getD_eq_getElem?_getD, List.getElem?_eq_getElem (by omega), Option.getD_some]
      exact List.all_eq_true.1 hx _ (List.getElem_mem _)
    have hc := clT_size hq
    unfold pzR
    split
    · rw [cat_size, cat_size, one_size]; omega
    · rw [cat_size]; omega
/-- .. and as Join writes it. -/
theorem pzR_join (m : Int) (xs : List Clu) : ∀ k, k ≤ xs.length → (pzR m xs k).data.toList = (dT m ++ ⟨#[58]⟩).data.toList ++ Lib.join ((xs.take k).map fun q => (clT q).data.toList) [44]
  | 0, _ => by simp [pzR, Lib.join_nil]
  | k + 1, hk => by
    have ih := pzR_join m xs k (by omega)
    have ht := take_succ9 xs k (by omega)
    match xs, hk, ih, ht with
    | x :: r, hk, ih, ht =>
      unfold pzR
      match k, ih, ht, hk with
      | 0, ih, ht, hk =>
        rw [if_neg (by omega)]
        simp only [ByteArray.data_append, Array.toList_append] at ih ⊢
        rw [ih]
        simp [Lib.join_nil, Lib.join_one]
      | j + 1, ih, ht, hk =>
        rw [if_pos (by omega)]
        simp only [ByteArray.data_append, Array.toList_append] at ih ⊢
        rw [ih]
        simp only [List.take_succ_cons, List.map_cons, Lib.join_cons]
        have hj : j < r.length := by simp at hk; omega
        have hg : (r.map fun q => (clT q).data.toList)[j]? = some (clT (r.getD j clu0)).data.toList := by
          rw [List.getElem?_map, List.getElem?_eq_getElem hj, Option.map_some, List.getD_eq_getElem?_getD, List.getElem?_eq_getElem hj, Option.getD_some]
        have := Lib.joinTail_take_succ [44] (r.map fun q => (clT q).data.toList) j _ hg
        rw [← List.map_take, ← List.map_take] at this
        rw [this]
        simp [List.append_assoc]
theorem cat_run9 (x y : ByteArray) (h : x.size + y.size ≤ 1000000) (W : World) : (Op.stringOp .add x y).run Tryd.prog W = .ok (.string (x ++ y)) W := run_string_add_sum W x y (by omega)
theorem num9 (n : Int) (w : World) (h0 : 0 ≤ n) (h1 : n ≤ 1000) : Calls Tryd.prog 16 #[.int .i64 n] w fun e w' => e = .returned (.string (dT n)) ∧ Below w.heap.size w w' := l1Num_dec n w h0 (by omega)
/-- Three ints in a box. -/
def Bt (w : World) (Q : Nat) (x y z : Int) : Prop := w.cell? ⟨Q, 0, none⟩ = some (.int .i64 x) ∧ w.cell? ⟨Q, 1, none⟩ = some (.int .i64 y) ∧ w.cell? ⟨Q, 2, none⟩ = some (.int .i64 z)
theorem Bt.below {w w' : World} {Q : Nat} {x y z : Int} (h : Bt w Q x y z) (hQ : Q < w.heap.size) (hb : Below w.heap.size w w') : Bt w' Q x y z :=
  ⟨(hb.cell (p := ⟨Q, 0, none⟩) hQ).trans h.1, (hb.cell (p := ⟨Q, 1, none⟩) hQ).trans h.2.1, (hb.cell (p := ⟨Q, 2, none⟩) hQ).trans h.2.2⟩
theorem Bt.all {w : World} {Q : Nat} {x y z : Int} (h : Bt w Q x y z) : w.cell? ⟨Q, 0, none⟩ = some (.int .i64 x) ∧ w.cell? ⟨Q, 1, none⟩ = some (.int .i64 y) ∧ w.cell? ⟨Q, 2, none⟩ = some (.int .i64 z) := h
theorem Bt.drew {w : World} {Q : Nat} {x y z : Int} (h : Bt w Q x y z) : Bt w.drew Q x y z := h
theorem Bt.new (w : World) (x y z : Int) (t : TypeId) : Bt (w.alloc (.cells #[.int .i64 x, .int .i64 y, .int .i64 z] t)) w.heap.size x y z := ⟨by simp [go_sem], by simp [go_sem], by simp [go_sem]⟩
set_option maxRecDepth 4000 in
theorem spec_PuzzleText_no (m : Int) (A : Option Addr) (n c lo : Nat) (xs : List Clu) (w : World) (hn : xs.length = n) (hm : n ≤ 1048576) (ha : Own w lo w.heap.size A (c64 xs)) (hno : okp9 m xs = false) :
    Calls Tryd.prog 6 #[.agg #[.int .i64 m, .slice A n c]] w fun e w' => e = .returned (.tuple #[.string ⟨#[]⟩, .bool false]) ∧ Below w.heap.size w w' := by
  have b0 : Below w.heap.size w (w.alloc (.cells #[.int .i64 m, .slice A n c] 30)) := (Below.refl _ _).alloc (Nat.le_refl _) _
  have HP := Lib.hid (pzGood_any m A n c _ _ xs _ hn hm (ha.below b0 (Nat.le_refl _)) b0.size)
  rw [hno] at HP
  have HB0 := Lib.hid b0
  clear ha b0 hno
  go_enter Tryd.func6, Tryd.ntmps6
  go_wp2_with (go_at_call 15; refine HP.out.mono ?_; rintro e w1 ⟨rfl, b1⟩; have HB1 := Lib.hid b1; clear b1)
  go_ret2
  exact ⟨rfl, HB0.out.trans (HB1.out.mono HB0.out.size)⟩
set_option maxRecDepth 4000 in
set_option maxHeartbeats 3200000 in
theorem spec_PuzzleText_yes (m : Int) (A : Option Addr) (n c lo : Nat) (xs : List Clu) (w : World) (hn : xs.length = n) (ha : Own w lo w.heap.size A (c64 xs)) (hok : okp9 m xs = true) :
    Calls Tryd.prog 6 #[.agg #[.int .i64 m, .slice A n c]] w fun e w' => e = .returned (.tuple #[.string (pzR m xs n), .bool true]) ∧ Below w.heap.size w w' := by
  have hok' := hok
  unfold okp9 at hok'
  simp only [Bool.and_eq_true, decide_eq_true_iff] at hok'
  obtain ⟨⟨hm1, h6⟩, hall⟩ := hok'
  rw [hn] at h6
  obtain ⟨m0, m5⟩ := hm1
  have q0 : (w.alloc (.cells #[.int .i64 m, .slice A n c] 30)).cell? ⟨w.heap.size, 0, none⟩ = some (.int .i64 m) ∧ (w.alloc (.cells #[.int .i64 m, .slice A n c] 30)).cell? ⟨w.heap.size, 1, none⟩ = some (.slice A n c) := ⟨by simp [go_sem], by simp [go_sem]⟩
  have b0 : Below w.heap.size w (w.alloc (.cells #[.int .i64 m, .slice A n c] 30)) := (Below.refl _ _).alloc (Nat.le_refl _) _
  have z0 : w.heap.size < (w.alloc (.cells #[.int .i64 m, .slice A n c] 30)).heap.size := by simp
  have HP := Lib.hid (pzGood_any m A n c _ _ xs _ hn (by omega) (ha.below b0 (Nat.le_refl _)) b0.size)
  rw [hok] at HP
  have HB0 := Lib.hid b0
  have HQ0 := Lib.hid q0
  have HA := Lib.hid ha
  have HN := Lib.hid hn
  have HAL := Lib.hid hall
  have HS : Hid (∀ k, k ≤ n → (pzR m xs k).size ≤ 228) := Lib.hid fun k hk => by have := pzR_size (m := m) (xs := xs) (by omega) hall k (by omega); omega
  have e0 := cat_run9 (dT m) ⟨#[58]⟩ (by have := dT_size m (by omega); rw [one_size]; omega)
  clear ha b0 hok hn hall q0
  go_enter Tryd.func6, Tryd.ntmps6
  go_wp2_with (first
    | (go_at_call 15; refine HP.out.mono ?_; rintro e w1 ⟨rfl, b1⟩; have HB1 := Lib.hid (HB0.out.trans (b1.mono HB0.out.size)); have c0 := (b1.cell (p := ⟨w.heap.size, 0, none⟩) z0).trans HQ0.out.1; have c1 := (b1.cell (p := ⟨w.heap.size, 1, none⟩) z0).trans HQ0.out.2; have z1 := Nat.lt_of_lt_of_le z0 b1.size; clear b1)
    | (go_at_call 16; refine (num9 m _ (by omega) (by omega)).mono ?_; rintro e w2 ⟨rfl, b2⟩; have HB2 := Lib.hid (HB1.out.trans (b2.mono HB1.out.size)); have d1 := (b2.cell (p := ⟨w.heap.size, 1, none⟩) z1).trans c1; clear b2))
  go_loopw [4, 17] (fun v i wr => ∃ k : Nat, k ≤ n ∧ i = .int .i64 (k : Int) ∧ v = .string (pzR m xs k) ∧ Below w.heap.size w wr) (fun _ i _ => n - (intOf i).toNat)
  case atStart => exact ⟨0, by omega, rfl, rfl, HB2.out⟩
  case round =>
    obtain ⟨k, hk, rfl, rfl, hb⟩ := hrel
    by_cases hlt : k < n
    · have hki : (k : Int) < (n : Int) := by omega
      match k, hk, hlt, hki, hb with
      | 0, hk, hlt, hki, hb =>
        have hlx : 0 < xs.length := by rw [HN.out]; exact hlt
        obtain ⟨g, o, rfl, _, hg, c0, c1, c2⟩ := (HA.out.below hb (Nat.le_refl _)).clue_ hlx
        have hoq : okc9 (xs.getD 0 clu0) = true := by
          rw [List.getD_eq_getElem?_getD, List.getElem?_eq_getElem hlx, Option.getD_some]
          exact List.all_eq_true.1 HAL.out _ (List.getElem_mem _)
        have hst := pzR_first m xs
        have hsz := HS.out 0 (by omega)
        obtain ⟨⟨qk, qa, qb⟩, hq⟩ : ∃ q, q = xs.getD 0 clu0 := ⟨_, rfl⟩
        rw [← hq] at c0 c1 c2 hoq hst
        obtain ⟨⟨v0, v1⟩, ⟨v2, v3⟩, ⟨v4, v5⟩⟩ := okc9_bds hoq
        simp only [Nat.zero_mul, Nat.add_zero, Nat.zero_add] at c0 c1 c2 v0 v1 v2 v3 v4 v5
        have l1 := dT_size qk (by omega)
        have l2 := dT_size qa (by omega)
        have l3 := dT_size qb (by omega)
        have HST := Lib.hid hst
        clear hq hoq hst
        generalize pzR m xs 0 = out at *
        have k1 := cat_run9 (dT qk) ⟨#[46]⟩ (by rw [one_size]; omega)
        have k2 := cat_run9 (dT qk ++ ⟨#[46]⟩) (dT qa) (by simp only [cat_size, one_size]; omega)
        have k3 := cat_run9 ((dT qk ++ ⟨#[46]⟩) ++ dT qa) ⟨#[46]⟩ (by simp only [cat_size, one_size]; omega)
        have k4 := cat_run9 (((dT qk ++ ⟨#[46]⟩) ++ dT qa) ++ ⟨#[46]⟩) (dT qb) (by simp only [cat_size, one_size]; omega)
        have k6 := cat_run9 out ((((dT qk ++ ⟨#[46]⟩) ++ dT qa) ++ ⟨#[46]⟩) ++ dT qb) (by simp only [cat_size, one_size]; omega)
        clear l1 l2 l3 hsz
        have HBT := Lib.hid (Bt.new wr qk qa qb 42)
        have HBW := Lib.hid ((Below.refl wr.heap.size wr).alloc (Nat.le_refl _) (.cells #[.int .i64 qk, .int .i64 qa, .int .i64 qb] 42))
        have HZT : Hid (wr.heap.size < (wr.alloc (.cells #[.int .i64 qk, .int .i64 qa, .int .i64 qb] 42)).heap.size) := Lib.hid (by simp)
        have HIN := Lib.hid hb
        go_upto_region 9 with fail
        clear c0 c1 c2
        go_region_held3 (fun W => W.cell? ⟨wr.heap.size, 0, none⟩ = some (.int .i64 qk) ∧ W.cell? ⟨wr.heap.size, 1, none⟩ = some (.int .i64 qa) ∧ W.cell? ⟨wr.heap.size, 2, none⟩ = some (.int .i64 qb))
          (first | with_reducible exact HBT.out.all | with_reducible exact HBT.out.drew.all)
          (first
            | (go_at_call_of 16 qk; refine (num9 qk _ (by omega) (by omega)).mono ?_; rintro e w5 ⟨rfl, b3⟩; have HBT := Lib.hid (show Bt w5 wr.heap.size qk qa qb from (by first | exact HBT.out.below HZT.out b3 | exact HBT.out.drew.below HZT.out b3)); have HBW := Lib.hid (show Below wr.heap.size wr w5 from (by first | exact HBW.out.trans (b3.mono HBW.out.size) | exact HBW.out.drew.trans (b3.mono HBW.out.size))); have HZT := Lib.hid (Nat.lt_of_lt_of_le HZT.out b3.size); clear b3)
            | (go_at_call_of 16 qa; refine (num9 qa _ (by omega) (by omega)).mono ?_; rintro e w6 ⟨rfl, b3⟩; have HBT := Lib.hid (show Bt w6 wr.heap.size qk qa qb from (by first | exact HBT.out.below HZT.out b3 | exact HBT.out.drew.below HZT.out b3)); have HBW := Lib.hid (show Below wr.heap.size wr w6 from (by first | exact HBW.out.trans (b3.mono HBW.out.size) | exact HBW.out.drew.trans (b3.mono HBW.out.size))); have HZT := Lib.hid (Nat.lt_of_lt_of_le HZT.out b3.size); clear b3)
            | (go_at_call_of 16 qb; refine (num9 qb _ (by omega) (by omega)).mono ?_; rintro e w7 ⟨rfl, b3⟩; have HBT := Lib.hid (show Bt w7 wr.heap.size qk qa qb from (by first | exact HBT.out.below HZT.out b3 | exact HBT.out.drew.below HZT.out b3)); have HBW := Lib.hid (show Below wr.heap.size wr w7 from (by first | exact HBW.out.trans (b3.mono HBW.out.size) | exact HBW.out.drew.trans (b3.mono HBW.out.size))); have HZT := Lib.hid (Nat.lt_of_lt_of_le HZT.out b3.size); clear b3))
        go_wp2_with fail
        go_roundw
        case rel => exact ⟨0 + 1, by omega, by go_num, by rw [HST.out]; rfl, HIN.out.trans (HBW.out.mono HIN.out.size)⟩
        case measure => simp [intOf]; omega
      | j + 1, hk, hlt, hki, hb =>
        have hj0 : (0 : Int) < ((j + 1 : Nat) : Int) := by omega
        have hlx : (j + 1) < xs.length := by rw [HN.out]; exact hlt
        obtain ⟨g, o, rfl, _, hg, c0, c1, c2⟩ := (HA.out.below hb (Nat.le_refl _)).clue_ hlx
        have hoq : okc9 (xs.getD (j + 1) clu0) = true := by
          rw [List.getD_eq_getElem?_getD, List.getElem?_eq_getElem hlx, Option.getD_some]
          exact List.all_eq_true.1 HAL.out _ (List.getElem_mem _)
        have hst := pzR_next m xs j
        have hsz := HS.out (j + 1) (by omega)
        obtain ⟨⟨qk, qa, qb⟩, hq⟩ : ∃ q, q = xs.getD (j + 1) clu0 := ⟨_, rfl⟩
        rw [← hq] at c0 c1 c2 hoq hst
        obtain ⟨⟨v0, v1⟩, ⟨v2, v3⟩, ⟨v4, v5⟩⟩ := okc9_bds hoq
        simp only at c0 c1 c2 v0 v1 v2 v3 v4 v5
        have l1 := dT_size qk (by omega)
        have l2 := dT_size qa (by omega)
        have l3 := dT_size qb (by omega)
        have HST := Lib.hid hst
        clear hq hoq hst
        generalize pzR m xs (j + 1) = out at *
        have k1 := cat_run9 (dT qk) ⟨#[46]⟩ (by rw [one_size]; omega)
        have k2 := cat_run9 (dT qk ++ ⟨#[46]⟩) (dT qa) (by simp only [cat_size, one_size]; omega)
        have k3 := cat_run9 ((dT qk ++ ⟨#[46]⟩) ++ dT qa) ⟨#[46]⟩ (by simp only [cat_size, one_size]; omega)
        have k4 := cat_run9 (((dT qk ++ ⟨#[46]⟩) ++ dT qa) ++ ⟨#[46]⟩) (dT qb) (by simp only [cat_size, one_size]; omega)
        have k5 := cat_run9 out ⟨#[44]⟩ (by rw [one_size]; omega)
        have k6 := cat_run9 (out ++ ⟨#[44]⟩) ((((dT qk ++ ⟨#[46]⟩) ++ dT qa) ++ ⟨#[46]⟩) ++ dT qb) (by simp only [cat_size, one_size]; omega)
        clear l1 l2 l3 hsz
        have HBT := Lib.hid (Bt.new wr qk qa qb 42)
        have HBW := Lib.hid ((Below.refl wr.heap.size wr).alloc (Nat.le_refl _) (.cells #[.int .i64 qk, .int .i64 qa, .int .i64 qb] 42))
        have HZT : Hid (wr.heap.size < (wr.alloc (.cells #[.int .i64 qk, .int .i64 qa, .int .i64 qb] 42)).heap.size) := Lib.hid (by simp)
        have HIN := Lib.hid hb
        go_upto_region 9 with fail
        clear c0 c1 c2
        go_region_held3 (fun W => W.cell? ⟨wr.heap.size, 0, none⟩ = some (.int .i64 qk) ∧ W.cell? ⟨wr.heap.size, 1, none⟩ = some (.int .i64 qa) ∧ W.cell? ⟨wr.heap.size, 2, none⟩ = some (.int .i64 qb))
          (first | with_reducible exact HBT.out.all | with_reducible exact HBT.out.drew.all)
          (first
            | (go_at_call_of 16 qk; refine (num9 qk _ (by omega) (by omega)).mono ?_; rintro e w5 ⟨rfl, b3⟩; have HBT := Lib.hid (show Bt w5 wr.heap.size qk qa qb from (by first | exact HBT.out.below HZT.out b3 | exact HBT.out.drew.below HZT.out b3)); have HBW := Lib.hid (show Below wr.heap.size wr w5 from (by first | exact HBW.out.trans (b3.mono HBW.out.size) | exact HBW.out.drew.trans (b3.mono HBW.out.size))); have HZT := Lib.hid (Nat.lt_of_lt_of_le HZT.out b3.size); clear b3)
            | (go_at_call_of 16 qa; refine (num9 qa _ (by omega) (by omega)).mono ?_; rintro e w6 ⟨rfl, b3⟩; have HBT := Lib.hid (show Bt w6 wr.heap.size qk qa qb from (by first | exact HBT.out.below HZT.out b3 | exact HBT.out.drew.below HZT.out b3)); have HBW := Lib.hid (show Below wr.heap.size wr w6 from (by first | exact HBW.out.trans (b3.mono HBW.out.size) | exact HBW.out.drew.trans (b3.mono HBW.out.size))); have HZT := Lib.hid (Nat.lt_of_lt_of_le HZT.out b3.size); clear b3)
            | (go_at_call_of 16 qb; refine (num9 qb _ (by omega) (by omega)).mono ?_; rintro e w7 ⟨rfl, b3⟩; have HBT := Lib.hid (show Bt w7 wr.heap.size qk qa qb from (by first | exact HBT.out.below HZT.out b3 | exact HBT.out.drew.below HZT.out b3)); have HBW := Lib.hid (show Below wr.heap.size wr w7 from (by first | exact HBW.out.trans (b3.mono HBW.out.size) | exact HBW.out.drew.trans (b3.mono HBW.out.size))); have HZT := Lib.hid (Nat.lt_of_lt_of_le HZT.out b3.size); clear b3))
        go_wp2_with fail
        go_roundw
        case rel => exact ⟨(j + 1) + 1, by omega, by go_num, by rw [HST.out]; rfl, HIN.out.trans (HBW.out.mono HIN.out.size)⟩
        case measure => simp [intOf]; omega
    · obtain rfl : k = n := by omega
      go_wp2
      go_ret2
      exact ⟨rfl, hb⟩
end Go.Proofs.YtlhdapeamdpicaaDoor
