/- The texts XDtH XDtI XDtJ XDtK XDtL XDtR XDtS XDtT XDtU XDvM joined. -/
import Derived.Test.YtbabkcjnfdpafaaGreatDoorMb
import Derived.Laws.OwnMore
import Derived.Laws.AppendOwnNone
import Derived.Deep.RegionHeld3
import Derived.Test.YtbabkcjnfdpafaaGreatDoorMa
/- Chapter 7: rows of marks in memory; the specification's marks of a picture. -/
namespace Go.Proofs.YtbabkcjnfdpafaaGreatDoor
open Go.ChangeShapes Go.WideShapes Go.ChangeAt Go.RowKit

theorem infoBool : (Tryz.prog.info? 4).map (fun i => (i.zero, i.size, i.bytes)) = some (some (.bool false), 1, 1) := by kernel_rfl
/-- The marks d 0, .., d (n - 1). -/
def tbs (d : Nat → Bool) (n : Nat) : List Value := (List.range n).map fun i => Value.bool (d i)
theorem tbs_len (d : Nat → Bool) (n : Nat) : (tbs d n).length = n := by simp [tbs]
theorem tbs_get (d : Nat → Bool) (n j : Nat) (h : j < n) : (tbs d n)[j]? = some (.bool (d j)) := by simp [tbs, h]
theorem tbs_succ (d : Nat → Bool) (n : Nat) : tbs d (n + 1) = tbs d n ++ [.bool (d n)] := by simp [tbs, List.range_succ]
/-- d, but b at j. -/
def updB (d : Nat → Bool) (j : Nat) (b : Bool) : Nat → Bool := fun m => if m = j then b else d m
theorem tbs_set (d : Nat → Bool) (n j : Nat) (b : Bool) : (tbs d n).set j (.bool b) = tbs (updB d j b) n := by
  apply List.ext_getElem?
  intro i
  by_cases hi : i < n
  · rw [tbs_get _ _ _ hi, List.getElem?_set]
    by_cases e : j = i
    · subst e; simp [tbs_len, hi, updB]
    · have e2 : ¬ i = j := fun h => e h.symm
      rw [if_neg e, tbs_get _ _ _ hi]
      simp [updB, e2]
  · rw [List.getElem?_eq_none (by simp [tbs_len]; omega), List.getElem?_eq_none (by simp [tbs_len]; omega)]
theorem tbs_congr {d e : Nat → Bool} {n : Nat} (h : ∀ m, m < n → d m = e m) : tbs d n = tbs e n := by
  unfold tbs
  exact List.map_congr_left fun i hi => by rw [h i (List.mem_range.1 hi)]
/-- Block g is a row of the call's own that has the marks d 0, .., d (n - 1). -/
def Marks (w : World) (base g n c : Nat) (d : Nat → Bool) : Prop := w.ownsRow base 4 1 (.slice (some ⟨g, 0, none⟩) n c) n (tbs d n)
section
variable {w w' : World} {base g n c : Nat} {d e : Nat → Bool}
theorem Marks.cell (h : Marks w base g n c d) {j : Nat} (hj : j < n) : w.cell? ⟨g, j, none⟩ = some (.bool (d j)) := by
  rw [World.ownsRow.cellAt h j (by omega)]
  simp [tbs_get d n j hj]
theorem Marks.frozen (h : Marks w base g n c d) (j : Nat) : w.frozen? ⟨g, j, none⟩ = false := World.ownsRow.frozenAt h j
theorem Marks.set (h : Marks w base g n c d) (j : Nat) (b : Bool) : Marks (w.setCell ⟨g, j, none⟩ (.bool b)) base g n c (updB d j b) := by
  have h1 := (World.ownsRow.stored h j (.bool b)).1
  rw [tbs_set] at h1
  exact h1
theorem Marks.congr (h : Marks w base g n c d) (he : ∀ m, m < n → d m = e m) : Marks w base g n c e := by
  unfold Marks at h ⊢
  rwa [tbs_congr he] at h
theorem Marks.lt (h : Marks w base g n c d) : base ≤ g ∧ g < w.heap.size := World.ownsRow.lt h g rfl
theorem Marks.below {B : Nat} (h : Marks w base g n c d) (hb : Below B w w') (hB : w.heap.size ≤ B) : Marks w' base g n c d := row_below h hb hB
theorem Marks.mono {lo : Nat} (h : Marks w base g n c d) (hb : lo ≤ base) : Marks w lo g n c d := by
  refine ⟨h.1, ?_⟩
  rcases h.2 with h2 | ⟨a, b, u, q, r, s⟩
  · exact .inl h2
  · exact .inr ⟨a, b, u, q, by omega, s⟩
theorem marks_made (h : w.ownsRow base 4 1 (.slice (some ⟨g, 0, none⟩) n c) n (madeCells (Value.bool false).cells (n * 1)).toList) : Marks w base g n c (fun _ => false) := by
  unfold Marks
  have e : (madeCells (Value.bool false).cells (n * 1)).toList = tbs (fun _ => false) n := by
    rw [Nat.mul_one]
    show (madeCells #[Value.bool false] n).toList = _
    rw [toList_madeCells_one]
    apply List.ext_getElem?
    intro j
    by_cases hj : j < n
    · simp [tbs_get _ n j hj, hj]
    · rw [List.getElem?_eq_none (by simp; omega), List.getElem?_eq_none (by simp [tbs_len]; omega)]
  rwa [e] at h
end
theorem marks_of_row {w : World} {lo n : Nat} {V : Value} {d : Nat → Bool} (h : w.ownsRow lo 4 1 V n (tbs d n)) (h1 : 1 ≤ n) : ∃ g c, V = .slice (some ⟨g, 0, none⟩) n c ∧ n ≤ c ∧ c ≤ maxLen ∧ Marks w lo g n c d := by
  have hh := h
  rcases h.2 with ⟨_, h0⟩ | ⟨g, c, cur, rfl, hlo, hcell, hc, hmax, hsz, htk⟩
  · omega
  · exact ⟨g, c, rfl, hc, hmax, hh⟩
/-- A string's iterator moved on leaves a row a row. -/
theorem own_iterAt {w : World} {base : Nat} {e : TypeId} {size : Nat} {v : Value} {n : Nat} {xs : List Value} (h : w.ownsRow base e size v n xs) {k : Nat} {s : ByteArray} {pos : Nat} (hk : w.heap[k]? = some (.stringIter s pos)) (p : Nat) : (w.iterAt k s p).ownsRow base e size v n xs := by
  refine ⟨h.1, ?_⟩
  rcases h.2 with h2 | ⟨g, cap, cur, a, b, c, d⟩
  · exact .inl h2
  · refine .inr ⟨g, cap, cur, a, b, ?_, d⟩
    have hne : g ≠ k := by
      intro e1
      rw [e1, hk] at c
      cases c
    rw [Lib.iterAt_other _ _ _ _ _ hne]
    exact c
theorem iter_grown {w w' : World} {base : Nat} {e : TypeId} {size : Nat} {v : Value} {n : Nat} {xs : List Value} (h : w.ownsRow base e size v n xs) (hg : w.grownBy w' v.ownBlock) {k : Nat} {s : ByteArray} {pos : Nat} (hk : w.heap[k]? = some (.stringIter s pos)) : w'.heap[k]? = some (.stringIter s pos) := by
  have hlt : k < w.heap.size := (Array.getElem?_eq_some_iff.1 hk).1
  rw [hg.block k hlt ?_]
  · exact hk
  · intro e1
    rcases h.2 with ⟨h2, _⟩ | ⟨g, cap, cur, a, b, c, d⟩
    · rw [h2] at e1; cases e1
    · rw [a] at e1
      have e2 : k = g := by simpa [Value.ownBlock] using e1
      rw [← e2, hk] at c
      cases c
theorem iter_alloc {w : World} {k : Nat} {s : ByteArray} {pos : Nat} (hk : w.heap[k]? = some (.stringIter s pos)) (o : Obj) : (w.alloc o).heap[k]? = some (.stringIter s pos) := by
  have hlt : k < w.heap.size := (Array.getElem?_eq_some_iff.1 hk).1
  rw [(World.grownBy_alloc w o none).block k hlt (by simp)]
  exact hk
set_option maxRecDepth 4000 in
set_option maxHeartbeats 1600000 in
theorem doMarks_any (g W H c lo : Nat) (d : Nat → Bool) (w : World) (w0 : 1 ≤ W) (w1 : W ≤ 50) (h0 : 1 ≤ H) (h1 : H ≤ 50) (hnc : H ≤ c) (hr : RowsAt w lo g H (gRows W H d)) :
    Calls Tryz.prog 65 #[.slice (some ⟨g, 0, none⟩) H c] w fun e w' => ∃ g' c', e = .returned (.tuple #[.int .i64 (W : Int), .int .i64 (H : Int), .slice (some ⟨g', 0, none⟩) (W * H) c']) ∧ W * H ≤ c' ∧ Marks w' w.heap.size g' (W * H) c' d ∧ Below w.heap.size w w' := by
  obtain ⟨i0, hi0, hz0, hz1, hz2⟩ := info_parts infoBool
  have HC : Hid (∀ y, y < H → w.cell? ⟨g, y, none⟩ = some (.string (bt (gRow W d y)))) := Lib.hid fun y hy => by rw [hr.cell y hy, gRows_at W H d y hy]
  have hg := hr.hi
  have hh : (0 : Int) < (H : Int) := by omega
  have HTL := Lib.hid fun n => tbs_len d n
  have HTS := Lib.hid fun n => tbs_succ d n
  have HWH : Hid (W * H ≤ 2500) := Lib.hid (Nat.mul_le_mul (n₁ := W) (n₂ := 50) (m₁ := H) (m₂ := 50) w1 h1)
  clear hr
  go_enter Tryz.func65, Tryz.ntmps65
  go_wp2
  go_loopw [5, 11] (fun v i wr => ∃ y : Nat, y ≤ H ∧ i = .int .i64 (y : Int) ∧ Hid (wr.ownsRow w.heap.size 4 1 v (y * W) (tbs d (y * W))) ∧ Hid (Below w.heap.size w wr)) (fun _ i _ => H - (intOf i).toNat)
  case atStart => exact ⟨0, by omega, by simp, Lib.hid (by rw [Nat.zero_mul]; exact World.ownsRow_nil _ _ _ _), Lib.hid (Below.refl _ _)⟩
  case round =>
    obtain ⟨y, hy, rfl, hown, hb⟩ := hrel
    by_cases hlt : y < H
    · have hlt2 : (y : Int) < (H : Int) := by omega
      have c0 : wr.cell? ⟨g, y, none⟩ = some (.string (bt (gRow W d y))) := (hb.out.cell (p := ⟨g, y, none⟩) hg).trans (HC.out y hlt)
      have hM : Hid ((y + 1) * W = y * W + W) := Lib.hid (Nat.succ_mul y W)
      have hM2 : y * W + W ≤ 2500 := by
        rw [← hM.out]
        exact Nat.le_trans (Nat.mul_le_mul_right W hlt) (by rw [Nat.mul_comm]; exact HWH.out)
      have H128 := Lib.hid fun x h => gRow_128 W d y x h
      have HAT : Hid (∀ x (h : x < (bt (gRow W d y)).size), (bt (gRow W d y))[x]'h = sgn (d (y * W + x))) := Lib.hid fun x h => by
        rw [bt_at, gRow_at _ _ _ _ (by rw [bt_size, gRow_len] at h; exact h)]
      have hsz : (bt (gRow W d y)).size = W := by rw [bt_size, gRow_len]
      generalize bt (gRow W d y) = s at *
      generalize y * W = M at *
      have hk0 : Hid ((wr.iter s 0).heap[wr.heap.size]? = some (.stringIter s 0)) := Lib.hid (by
        have h5 := World.iter_heap wr s 0
        simpa using h5)
      have hb0 : Hid (Below w.heap.size w (wr.iter s 0)) := Lib.hid (hb.out.alloc hb.out.size _)
      have ho0 : Hid ((wr.iter s 0).ownsRow w.heap.size 4 1 u5 M (tbs d M)) := Lib.hid (hown.out.alloc _)
      have hwk : Hid (w.heap.size ≤ wr.heap.size) := Lib.hid hb.out.size
      go_wp2
      generalize wr.heap.size = k at *
      go_loopw [5] (fun v w2 => ∃ x : Nat, x ≤ W ∧ Hid (w2.heap[k]? = some (.stringIter s x)) ∧ Hid (w2.ownsRow w.heap.size 4 1 v (M + x) (tbs d (M + x))) ∧ Hid (Below w.heap.size w w2)) (fun _ w2 => W - w2.iterPos k)
      case atStart => exact ⟨0, by omega, hk0, ho0, hb0⟩
      case round =>
        obtain ⟨x, hx, hk, hown2, hb2⟩ := hrel
        clear hk0 ho0 hb0
        by_cases hxl : x < W
        · have hxs : x < s.size := by omega
          have h128 := H128.out x hxs
          have hat := HAT.out x hxs
          have hnext : ∀ ty, (Instr.next (.pointer (some ⟨k, 0, none⟩)) true ty).run Tryz.prog wr = _ := fun ty => Lib.run_next_ascii_at wr k s x ty hk.out hxs h128
          have hk1 := Lib.hid (Lib.iterAt_heap wr k s x (x + 1) hk.out)
          have hb1 := Lib.hid (Lib.below_iterAt hb2.out hwk.out s (x + 1))
          have hown1 := Lib.hid (own_iterAt hown2.out hk.out (x + 1))
          have hmu : wr.iterPos k = x := by simp [World.iterPos, hk.out]
          generalize wr.iterAt k s (x + 1) = W1 at hnext hk1 hb1 hown1
          have hbq : ((s[x].toNat : Int) == 111) = d (M + x) := by
            rw [hat]
            cases d (M + x) <;> decide
          have hts := HTS.out (M + x)
          have hM3 : M + x < 2500 := by omega
          have HMU := Lib.hid hmu
          clear hat hmu
          go_wp2_with (at_builtin; refine wpList_append_own _ rfl _ _ 74 rfl w.heap.size 4 i0 (.bool false) 1 1 Tryz.underlying74 hi0 hz0 hz1 hz2 rfl (by decide) _ _ _ rfl (hown1.out.alloc _) ⟨W1.heap.size, 0, none⟩ 1 1 [.bool (d (M + x))] rfl rfl ?c1 ?c2 ?c3 ?c4 ?c5 ?_)
          case c1 =>
            intro j u hj
            match j, hj with
            | 0, hj => simp at hj; subst hj; simp [Addr.add]
          case c2 => intro u hu; simp at hu; subst hu; rfl
          case c3 => unfold maxLen; omega
          case c4 => omega
          case c5 => have := hb1.out.size; simp; omega
          · intro v' w4 hown' hgrow _
            have HO4 : Hid (w4.ownsRow w.heap.size 4 1 v' (M + (x + 1)) (tbs d (M + (x + 1)))) := Lib.hid (by
              rw [← Nat.add_assoc, hts]
              exact hown')
            have HB4 : Hid (Below w.heap.size w w4) := Lib.hid ((hb1.out.alloc hb1.out.size _).grown hgrow (by have := hb1.out.size; simp; omega) fun g hg => (hown1.out.lt g hg).1)
            have HK4 : Hid (w4.heap[k]? = some (.stringIter s (x + 1))) := Lib.hid (iter_grown (hown1.out.alloc _) hgrow (iter_alloc hk1.out _))
            have hmu2 : w4.iterPos k = x + 1 := by simp [World.iterPos, HK4.out]
            have HMU2 := Lib.hid hmu2
            clear hmu2 hown' hgrow hown1 hb1 hown2 hb2 hk hk1 hnext hts hbq
            go_wp2
            go_roundw
            case rel => exact ⟨x + 1, by omega, HK4, HO4, HB4⟩
            case measure => rw [HMU.out, HMU2.out]; omega
        · obtain rfl : x = W := by omega
          have hnext : ∀ ty, (Instr.next (.pointer (some ⟨k, 0, none⟩)) true ty).run Tryz.prog wr = _ := fun ty => Lib.run_next_end_at wr k s x ty hk.out (by omega)
          have HO4 : Hid (wr.ownsRow w.heap.size 4 1 u5 ((y + 1) * x) (tbs d ((y + 1) * x))) := Lib.hid (by rw [hM.out]; exact hown2.out)
          clear hown2 hk
          go_wp2
          go_roundw
          case rel => exact ⟨y + 1, by omega, by go_num, HO4, hb2⟩
          case measure => simp [intOf]; omega
    · obtain rfl : y = H := by omega
      have c0 : wr.cell? ⟨g, 0, none⟩ = some (.string (bt (gRow W d 0))) := (hb.out.cell (p := ⟨g, 0, none⟩) hg).trans (HC.out 0 (by omega))
      have hsz : (bt (gRow W d 0)).size = W := by rw [bt_size, gRow_len]
      generalize bt (gRow W d 0) = s at *
      have hmul : y * W = W * y := Nat.mul_comm _ _
      have hpos : 1 ≤ W * y := Nat.mul_pos (by omega) (by omega)
      have hown2 : wr.ownsRow w.heap.size 4 1 u5 (W * y) (tbs d (W * y)) := by rw [← hmul]; exact hown.out
      obtain ⟨g2, c2, rfl, hc2, hcm, hr⟩ := marks_of_row hown2 hpos
      have HR2 := Lib.hid hr
      have HC2 := Lib.hid hc2
      clear hown hown2 hr hmul hpos hc2 hcm
      go_wp2
      go_ret3
      exact ⟨g2, c2, rfl, HC2.out, HR2.out, hb.out⟩
end Go.Proofs.YtbabkcjnfdpafaaGreatDoor

/- Chapter 7: the specification's places beside one. -/
namespace Go.Proofs.YtbabkcjnfdpafaaGreatDoor
open Go.ChangeShapes Go.WideShapes Go.ChangeAt Go.RowKit

theorem infoInt7 : (Tryz.prog.info? 3).map (fun i => (i.zero, i.size, i.bytes)) = some (some (.int .i64 0), 1, 8) := by kernel_rfl
/-- Places as numbers. -/
def ofN (xs : List Nat) : List Int := xs.map fun (x : Nat) => (x : Int)
/-- A row of the call's own that grows number by number. -/
structure Grw (w0 w : World) (v : Value) (xs : List Int) : Prop where
  row : w.ownsRow w0.heap.size 3 1 v xs.length (i64s xs)
  below : Below w0.heap.size w0 w
theorem Grw.cast {w0 w : World} {v : Value} {xs ys : List Int} (h : Grw w0 w v xs) (e : xs = ys) : Grw w0 w v ys := e ▸ h
theorem grw_nil (w : World) : Grw w w (.slice none 0 0) [] := ⟨World.ownsRow_nil _ _ _ _, Below.refl _ _⟩
theorem app_int {ops : Array Oper} {rest : List Oper} {o : Oper} {a : Act} {Q : Exit → Act → World → Prop} (w0 w : World) (hgd : o.guard = none) (s x : Operand)
    (ho : o.op = .call { callee := .builtin .append, args := #[s, x], argTypes := #[33, 33] }) (v : Value) (xs : List Int) (hs : a.eval s = v) (hG : Grw w0 w v xs) (z : Int)
    (hx : a.eval x = .slice (some ⟨w.heap.size, 0, none⟩) 1 1) (hl : xs.length ≤ 100000)
    (h : ∀ v' w', Grw w0 w' v' (xs ++ [z]) → wpList Tryz.prog ops Q rest (a.put o.dst v') w') : wpList Tryz.prog ops Q (o :: rest) a (w.alloc (.cells #[.int .i64 z] 3)) := by
  obtain ⟨i0, hi0, hz0, hz1, hz2⟩ := info_parts infoInt7
  refine wpList_append_own _ hgd s x 33 ho w0.heap.size 3 i0 (.int .i64 0) 1 8 Tryz.underlying33 hi0 hz0 hz1 hz2 rfl (by decide) v _ _ hs (hG.row.alloc _) ⟨w.heap.size, 0, none⟩ 1 1 [.int .i64 z] hx rfl ?c1 ?c2 ?c3 ?c4 ?c5 ?_
  case c1 =>
    intro j u hj
    match j, hj with
    | 0, hj => simp at hj; subst hj; simp [Addr.add]
  case c2 => intro u hu; simp at hu; subst hu; rfl
  case c3 => unfold maxLen; omega
  case c4 => omega
  case c5 => have := hG.below.size; simp; omega
  · intro v' w4 hown' hgrow _
    refine h v' w4 ⟨?_, (hG.below.alloc hG.below.size _).grown hgrow (by have := hG.below.size; simp; omega) fun g hg => (hG.row.lt g hg).1⟩
    rw [List.length_append]
    rw [show i64s (xs ++ [z]) = i64s xs ++ [.int .i64 z] by simp [i64s]]
    exact hown'
set_option maxRecDepth 4000 in
set_option maxHeartbeats 1600000 in
theorem doBeside_any (W H i : Nat) (w : World) (w0 : 1 ≤ W) (w1 : W ≤ 50) (h0 : 1 ≤ H) (h1 : H ≤ 50) (hi : i < W * H) :
    Calls Tryz.prog 76 #[.int .i64 (W : Int), .int .i64 (H : Int), .int .i64 (i : Int)] w fun e w' => ∃ v, e = .returned v ∧ Grw w w' v (ofN (nbs W H i)) := by
  have HWH : W * H ≤ 2500 := Nat.mul_le_mul (n₁ := W) (n₂ := 50) (m₁ := H) (m₂ := 50) w1 h1
  have hm : IntKind.i64.wrap ((W : Int) * ((H : Int) - 1)) = ((W * (H - 1) : Nat) : Int) := by
    have : ((W * (H - 1) : Nat) : Int) = (W : Int) * ((H : Int) - 1) := by
      rw [Int.natCast_mul, Int.natCast_sub h0]
      rfl
    rw [← this, IntWalk.i64_in]
    have hle : W * (H - 1) ≤ W * H := Nat.mul_le_mul_left W (by omega)
    omega
  have ht : (i : Int).tmod (W : Int) = ((i % W : Nat) : Int) := by
    rw [Int.tmod_eq_emod_of_nonneg (by omega)]
    rfl
  have hiw : i + W ≤ 2550 := by omega
  have HN : Hid (nbs W H i = (if 0 < i % W then [i - 1] else []) ++ (if i % W < W - 1 then [i + 1] else []) ++ (if W ≤ i then [i - W] else []) ++ (if i < W * (H - 1) then [i + W] else [])) := Lib.hid rfl
  have hmi : i % W ≤ i := Nat.mod_le _ _
  have hW0 : ¬ (W : Int) = 0 := by omega
  generalize W * (H - 1) = T at *
  generalize i % W = m at *
  generalize nbs W H i = N at *
  have HG := grw_nil w
  clear hi HWH
  go_enter Tryz.func76, Tryz.ntmps76
  go_wp2_with (at_builtin; refine app_int _ _ rfl _ _ rfl _ _ rfl HG _ rfl (by simp) ?_; clear HG; intro v' w' HG)
  all_goals
    go_ret
    refine ⟨_, rfl, HG.cast ?_⟩
    rw [HN.out]
    unfold ofN
    (repeat' split) <;> (first | (exfalso; omega) | (simp <;> omega))
end Go.Proofs.YtbabkcjnfdpafaaGreatDoor

/- Chapter 7: the specification's border. -/
namespace Go.Proofs.YtbabkcjnfdpafaaGreatDoor
open Go.ChangeShapes Go.WideShapes Go.ChangeAt Go.RowKit

/-- The border among the first a places. -/
def pbr (W H : Nat) (d : Nat → Bool) (a : Nat) (i : Nat) : Bool := decide (i < a) && brd W H d i
theorem pbr_zero (W H : Nat) (d : Nat → Bool) (i : Nat) : pbr W H d 0 i = false := by simp [pbr]
theorem pbr_succ (W H : Nat) (d : Nat → Bool) (a i : Nat) : updB (pbr W H d a) a (brd W H d a) i = pbr W H d (a + 1) i := by
  unfold updB pbr
  by_cases h : i = a
  · subst h
    simp
  · rw [if_neg h]
    have : (i < a) ↔ (i < a + 1) := by omega
    simp only [this]
theorem pbr_all (W H : Nat) (d : Nat → Bool) (n i : Nat) (h : i < n) : pbr W H d n i = brd W H d i := by simp [pbr, h]
/-- Whether a place is open by its first k places beside. -/
def opn (W H : Nat) (d : Nat → Bool) (i k : Nat) : Bool := decide ((nbs W H i).length < 4) || ((nbs W H i).take k).any fun j => !d j
theorem opn_succ (W H : Nat) (d : Nat → Bool) (i k : Nat) (h : k < (nbs W H i).length) : opn W H d i (k + 1) = (opn W H d i k || !d ((nbs W H i)[k])) := by
  unfold opn
  rw [List.take_succ_eq_append_getElem h, List.any_append]
  simp [Bool.or_assoc]
theorem opn_all (W H : Nat) (d : Nat → Bool) (i : Nat) : brd W H d i = (d i && opn W H d i (nbs W H i).length) := by
  unfold brd opn
  rw [List.take_length]
set_option maxRecDepth 4000 in
set_option maxHeartbeats 1600000 in
theorem doBorder_any (g W H n c lo : Nat) (d : Nat → Bool) (w : World) (hn : n = W * H) (w0 : 1 ≤ W) (w1 : W ≤ 50) (h0 : 1 ≤ H) (h1 : H ≤ 50) (hm : Marks w lo g n c d) :
    Calls Tryz.prog 69 #[.int .i64 (W : Int), .int .i64 (H : Int), .slice (some ⟨g, 0, none⟩) n c] w fun e w' => ∃ g' c', e = .returned (.slice (some ⟨g', 0, none⟩) n c') ∧ Marks w' w.heap.size g' n c' (brd W H d) ∧ Below w.heap.size w w' := by
  obtain ⟨i0, hi0, hz0, hz1, hz2⟩ := info_parts infoBool
  have hn2 : n ≤ 2500 := by
    rw [hn]
    exact Nat.mul_le_mul (n₁ := W) (n₂ := 50) (m₁ := H) (m₂ := 50) w1 h1
  have HN := Lib.hid hn
  have hg := hm.lt.2
  have HC : Hid (∀ j, j < n → w.cell? ⟨g, j, none⟩ = some (.bool (d j))) := Lib.hid fun j hj => hm.cell hj
  have HBE := Lib.hid fun i W' (h : i < n) => doBeside_any W H i W' w0 w1 h0 h1 (by rw [← hn]; exact h)
  have HNB : Hid (∀ i j, i < n → j ∈ nbs W H i → j < n) := Lib.hid fun i j hi hj => by rw [hn] at hi ⊢; exact nbs_lt hi hj
  clear hm hn
  obtain ⟨B, hB⟩ : ∃ B, w.heap.size = B := ⟨_, rfl⟩
  have HBB := Lib.hid hB
  have hgB : Hid (g < B) := Lib.hid (by rw [← hB]; exact hg)
  go_enter Tryz.func69, Tryz.ntmps69
  go_wp2_with (at_make; refine wpList_make_full _ rfl _ _ 74 rfl w.heap.size 4 i0 (.bool false) 1 Tryz.underlying74 hi0 hz0 hz1 _ _ _ _ n rfl rfl rfl rfl (by rw [hz2]; omega) (by unfold maxLen; omega) (Nat.le_refl _) ?_; intro w1 hown1 hgrow1)
  have hb1 : Hid (Below B w w1) := Lib.hid (by rw [← hB]; exact (Below.refl _ _).grown hgrow1 (Nat.le_refl _) (fun g hg => by cases hg))
  rw [hB] at hown1
  have HR1 : Hid (Marks w1 B B n n (pbr W H d 0)) := Lib.hid ((marks_made hown1).congr fun m _ => (pbr_zero W H d m).symm)
  clear hown1 hgrow1 hB hg
  go_wp2
  go_loopw [19] (fun i wr => ∃ a : Nat, a ≤ n ∧ i = .int .i64 (a : Int) ∧ Hid (Marks wr B B n n (pbr W H d a)) ∧ Hid (Below B w wr)) (fun i _ => n - (intOf i).toNat)
  case atStart => exact ⟨0, by omega, by simp, HR1, hb1⟩
  case round =>
    obtain ⟨a, ha, rfl, hr, hb⟩ := hrel
    clear HR1 hb1
    by_cases hlt : a < n
    · have hlt2 : (a : Int) < (n : Int) := by omega
      have c0 : wr.cell? ⟨g, a, none⟩ = some (.bool (d a)) := (hb.out.cell (p := ⟨g, a, none⟩) hgB.out).trans (HC.out a hlt)
      have HBA := Lib.hid (HBE.out a wr hlt)
      go_wp2_with (go_at_call 76; refine HBA.out.mono ?_; rintro e w2 ⟨v, rfl, HG⟩; obtain ⟨A, cc, rfl⟩ := row_form HG.row)
      have HB2 : Hid (Below B w w2) := Lib.hid (hb.out.trans ⟨HG.below.os, HG.below.tape, HG.below.output, HG.below.size, fun k hk => HG.below.block k (by have := hr.out.lt; omega)⟩)
      have HR2 : Hid (Marks w2 B B n n (pbr W H d a)) := Lib.hid (hr.out.below HG.below (Nat.le_refl _))
      have HO := Lib.hid (own_of_row HG.row)
      have HX : Hid (∀ k, k < (nbs W H a).length → ∃ g3 o3, A = some ⟨g3, o3, none⟩ ∧ w2.cell? ⟨g3, o3 + k, none⟩ = some (.int .i64 ((nbs W H a).getD k 0 : Nat)) ∧ (nbs W H a).getD k 0 < n ∧ w2.cell? ⟨g, (nbs W H a).getD k 0, none⟩ = some (.bool (d ((nbs W H a).getD k 0))) ∧ opn W H d a (k + 1) = (opn W H d a k || !d ((nbs W H a).getD k 0))) := Lib.hid fun k hk => by
        obtain ⟨g3, o3, hA, _, _, q, _⟩ := HO.out.at_ (k := k) (by simp [ofN]; exact hk)
        have e0 : (nbs W H a).getD k 0 = (nbs W H a)[k] := by simp [List.getD, hk]
        have hj : (nbs W H a).getD k 0 < n := HNB.out a _ hlt (by rw [e0]; exact List.getElem_mem hk)
        refine ⟨g3, o3, hA, ?_, hj, (HB2.out.cell (p := ⟨g, _, none⟩) hgB.out).trans (HC.out _ hj), ?_⟩
        · rw [q, e0]
          simp [ofN]
        · rw [e0]
          exact opn_succ W H d a k hk
      have HL : Hid ((ofN (nbs W H a)).length = (nbs W H a).length) := Lib.hid (by simp [ofN])
      have HOA := Lib.hid (opn_all W H d a)
      have HO0 : Hid (opn W H d a 0 = decide ((nbs W H a).length < 4)) := Lib.hid (by simp [opn])
      have hl4 : (nbs W H a).length ≤ 4 := by
        unfold nbs
        simp only [List.length_append]
        (repeat' split) <;> simp
      have hll := HL.out
      clear HG hr hb HO HBA
      generalize (ofN (nbs W H a)).length = l2 at *
      subst hll
      generalize nbs W H a = N at *
      generalize hL : N.length = L at *
      have HLL := Lib.hid hL
      clear hL
      generalize hop : opn W H d a = op at *
      have HOP := Lib.hid hop
      clear hop
      go_wp2
      go_loopw [11, 33] (fun o k w3 => w3 = w2 ∧ ∃ j : Nat, j ≤ L ∧ k = .int .i64 (j : Int) ∧ o = .bool (op j)) (fun _ k _ => L - (intOf k).toNat)
      case atStart => exact ⟨rfl, 0, by omega, by simp, by rw [HO0.out]; congr 1; rw [decide_eq_decide]; omega⟩
      case round =>
        obtain ⟨rfl, j, hj, rfl, rfl⟩ := hrel
        by_cases hjl : j < L
        · have hjl2 : (j : Int) < (L : Int) := by omega
          obtain ⟨g3, o3, rfl, q1, q2, q3, q4⟩ := HX.out j hjl
          generalize N.getD j 0 = x at *
          have hx0 : (0 : Int) ≤ (x : Int) := by omega
          have hx1 : (x : Int) < (n : Int) := by omega
          have HQ4 := Lib.hid q4
          clear q4
          cases hoj : op j
          · rw [hoj] at HQ4
            clear hoj
            go_wp2
            go_roundw
            case rel => exact ⟨trivial, j + 1, by omega, by go_num, by rw [HQ4.out]; simp⟩
            case measure => simp [intOf]; omega
          · rw [hoj] at HQ4
            clear hoj
            go_wp2
            go_roundw
            case rel => exact ⟨trivial, j + 1, by omega, by go_num, by rw [HQ4.out]; simp⟩
            case measure => simp [intOf]; omega
        · obtain rfl : j = L := by omega
          have cr := HR2.out.cell hlt
          have fr := HR2.out.frozen a
          have hset := (HR2.out.set a (d a && op j)).congr (e := pbr W H d (a + 1)) (fun m _ => by
            rw [← pbr_succ]
            unfold updB
            split
            · rw [HOA.out]
            · rfl)
          have HS := Lib.hid hset
          have HB3 := Lib.hid (HB2.out.setCell (p := ⟨B, a, none⟩) (Nat.le_refl _) (.bool (d a && op j)))
          clear hset HR2 HB2 HX
          generalize op j = oj at *
          cases hda : d a
          · rw [hda] at c0 HS HB3
            go_wp2
            go_roundw
            case rel => exact ⟨a + 1, by omega, by go_num, HS, HB3⟩
            case measure => simp [intOf]; omega
          · rw [hda] at c0 HS HB3
            go_wp2
            go_roundw
            case rel => exact ⟨a + 1, by omega, by go_num, HS, HB3⟩
            case measure => simp [intOf]; omega
    · obtain rfl : a = n := by omega
      have HF : Hid (Marks wr B B a a (brd W H d)) := Lib.hid (hr.out.congr fun m hm => pbr_all W H d a m hm)
      clear hr
      go_wp2
      go_ret
      exact ⟨B, a, rfl, by rw [HBB.out]; exact HF.out, by rw [HBB.out]; exact hb.out⟩
end Go.Proofs.YtbabkcjnfdpafaaGreatDoor

/- Chapter 7: the specification's border taken away. -/
namespace Go.Proofs.YtbabkcjnfdpafaaGreatDoor
open Go.ChangeShapes Go.WideShapes Go.ChangeAt Go.RowKit

/-- The dots left when the first a places are taken. -/
def ptk (W H : Nat) (d : Nat → Bool) (a : Nat) (i : Nat) : Bool := if i < a then tkn W H d i else d i
theorem ptk_zero (W H : Nat) (d : Nat → Bool) (i : Nat) : d i = ptk W H d 0 i := by simp [ptk]
theorem ptk_yes (W H : Nat) (d : Nat → Bool) (a i : Nat) (h : brd W H d a = true) : updB (ptk W H d a) a false i = ptk W H d (a + 1) i := by
  unfold updB ptk
  by_cases e : i = a
  · subst e
    rw [if_pos rfl, if_pos (by omega)]
    simp [tkn, h]
  · rw [if_neg e]
    have : (i < a) ↔ (i < a + 1) := by omega
    simp only [this]
theorem ptk_no (W H : Nat) (d : Nat → Bool) (a i : Nat) (h : brd W H d a = false) : ptk W H d a i = ptk W H d (a + 1) i := by
  unfold ptk
  by_cases e : i = a
  · subst e
    rw [if_neg (by omega), if_pos (by omega)]
    simp [tkn, h]
  · have : (i < a) ↔ (i < a + 1) := by omega
    simp only [this]
theorem ptk_all (W H : Nat) (d : Nat → Bool) (n i : Nat) (h : i < n) : ptk W H d n i = tkn W H d i := by simp [ptk, h]
theorem Marks.put {w : World} {base g n c b j : Nat} {d : Nat → Bool} (h : Marks w base g n c d) (hb : b < base) (v : Value) : Marks (w.setCell ⟨b, j, none⟩ v) base g n c d :=
  ownsRow_setCell_below h hb v
theorem grownBy_of_below {w w' : World} (h : Below w.heap.size w w') (row : Option Nat) : w.grownBy w' row := ⟨h.os, h.tape, h.output, h.size, fun k hk _ => h.block k hk⟩
theorem grownBy_trans {w w1 w2 : World} {row : Option Nat} (h : w.grownBy w1 row) (k : w1.grownBy w2 row) : w.grownBy w2 row :=
  ⟨k.os.trans h.os, k.tape.trans h.tape, k.output.trans h.output, Nat.le_trans h.size k.size, fun i hi hr => (k.block i (Nat.lt_of_lt_of_le hi h.size) hr).trans (h.block i hi hr)⟩
theorem grownBy_set {w w1 : World} {g j : Nat} (h : w.grownBy w1 (some g)) (v : Value) : w.grownBy (w1.setCell ⟨g, j, none⟩ v) (some g) := by
  have hb := (Below.refl g w1).setCell (p := ⟨g, j, none⟩) (Nat.le_refl _) v
  refine grownBy_trans h ⟨hb.os, hb.tape, hb.output, hb.size, fun i hi hr => ?_⟩
  have hne : ¬ i = g := fun e => hr (by rw [e])
  simp only [World.setCell]
  rw [Array.getElem?_modify, if_neg (fun e => hne e.symm)]
set_option maxRecDepth 4000 in
set_option maxHeartbeats 1600000 in
theorem doTake_any (g W H n c lo : Nat) (d : Nat → Bool) (w : World) (hn : n = W * H) (w0 : 1 ≤ W) (w1 : W ≤ 50) (h0 : 1 ≤ H) (h1 : H ≤ 50) (hm : Marks w lo g n c d) :
    Calls Tryz.prog 66 #[.int .i64 (W : Int), .int .i64 (H : Int), .slice (some ⟨g, 0, none⟩) n c] w fun e w' => e = .returned (.int .i64 (cnt (brd W H d) n : Int)) ∧ Marks w' lo g n c (tkn W H d) ∧ Below lo w w' ∧ w.heap.size ≤ w'.heap.size ∧ w.grownBy w' (some g) := by
  have hn2 : n ≤ 2500 := by
    rw [hn]
    exact Nat.mul_le_mul (n₁ := W) (n₂ := 50) (m₁ := H) (m₂ := 50) w1 h1
  have hg := Lib.hid hm.lt
  have HB := Lib.hid (doBorder_any g W H n c lo d w hn w0 w1 h0 h1 hm)
  have HM := Lib.hid hm
  have HCS := Lib.hid fun a => cnt_succ (brd W H d) a
  have HCL := Lib.hid fun a => cnt_le (brd W H d) a
  have HPY := Lib.hid fun a i => ptk_yes W H d a i
  have HPN := Lib.hid fun a i => ptk_no W H d a i
  have HPA := Lib.hid fun i => ptk_all W H d n i
  have HP0 := Lib.hid fun i => ptk_zero W H d i
  clear hm hn
  generalize brd W H d = b at *
  generalize ptk W H d = p at *
  generalize tkn W H d = t at *
  obtain ⟨B, hB⟩ : ∃ B, w.heap.size = B := ⟨_, rfl⟩
  have HBB := Lib.hid hB
  rw [hB] at HB hg
  clear hB
  go_enter Tryz.func66, Tryz.ntmps66
  go_wp2_with (go_at_call 69; refine HB.out.mono ?_; rintro e w1 ⟨g2, c2, rfl, hr2, hb2⟩)
  have HM1 : Hid (Marks w1 lo g n c (p 0)) := Lib.hid ((HM.out.below hb2 (by rw [HBB.out]; exact Nat.le_refl _)).congr fun m _ => HP0.out m)
  have HR2 := Lib.hid hr2
  have HB2 : Hid (w.grownBy w1 (some g)) := Lib.hid (grownBy_of_below (by rw [HBB.out]; exact hb2) _)
  clear hb2 hr2 HM HP0
  go_wp2
  go_loopw [7, 15] (fun v i wr => ∃ a : Nat, a ≤ n ∧ i = .int .i64 (a : Int) ∧ v = .int .i64 (cnt b a : Int) ∧ Hid (Marks wr lo g n c (p a)) ∧ Hid (Marks wr B g2 n c2 b) ∧ Hid (w.grownBy wr (some g))) (fun _ i _ => n - (intOf i).toNat)
  case atStart => exact ⟨0, by omega, by simp, by simp [cnt], HM1, HR2, HB2⟩
  case round =>
    obtain ⟨a, ha, rfl, rfl, hm, hr, hb⟩ := hrel
    clear HM1 HR2 HB2
    by_cases hlt : a < n
    · have hlt2 : (a : Int) < (n : Int) := by omega
      have ha0 : (0 : Int) ≤ (a : Int) := by omega
      have c0 := hr.out.cell hlt
      have cd := hm.out.cell hlt
      have fd := hm.out.frozen a
      have hcs := HCS.out a
      have hcl := HCL.out a
      generalize cnt b a = q at *
      generalize hq1 : cnt b (a + 1) = q1 at *
      cases hba : b a
      · rw [hba] at c0 hcs
        have HM2 : Hid (Marks wr lo g n c (p (a + 1))) := Lib.hid (hm.out.congr fun m _ => HPN.out a m hba)
        have HQ := Lib.hid hcs
        have HQ1 := Lib.hid hq1
        clear hba hm hcs hq1
        go_wp2
        go_roundw
        case rel => exact ⟨a + 1, by omega, by go_num, by rw [HQ1.out, HQ.out]; simp, HM2, hr, hb⟩
        case measure => simp [intOf]; omega
      · rw [hba] at c0 hcs
        have HM2 : Hid (Marks (wr.setCell ⟨g, a, none⟩ (.bool false)) lo g n c (p (a + 1))) := Lib.hid ((hm.out.set a false).congr fun m _ => HPY.out a m hba)
        have HR2 : Hid (Marks (wr.setCell ⟨g, a, none⟩ (.bool false)) B g2 n c2 b) := Lib.hid (hr.out.put hg.out.2 _)
        have HB2 : Hid (w.grownBy (wr.setCell ⟨g, a, none⟩ (.bool false)) (some g)) := Lib.hid (grownBy_set hb.out _)
        have HQ := Lib.hid hcs
        have HQ1 := Lib.hid hq1
        clear hba hm hcs hq1 hr hb
        go_wp2
        go_roundw
        case rel => exact ⟨a + 1, by omega, by go_num, by rw [HQ1.out, HQ.out]; go_num, HM2, HR2, HB2⟩
        case measure => simp [intOf]; omega
    · obtain rfl : a = n := by omega
      have HF : Hid (Marks wr lo g a c t) := Lib.hid (hm.out.congr fun m hm => HPA.out m hm)
      clear hm
      go_wp2
      go_ret
      exact ⟨rfl, HF.out, (Below.refl lo w).grown hb.out (by rw [HBB.out]; have := hg.out; omega) (fun k hk => by cases hk; exact hg.out.1), hb.out.size, hb.out⟩
end Go.Proofs.YtbabkcjnfdpafaaGreatDoor

/- Chapter 7: the specification's pictures turned, mirrored, with other dots, their borders. -/
namespace Go.Proofs.YtbabkcjnfdpafaaGreatDoor
open Go.ChangeShapes Go.WideShapes Go.ChangeAt Go.RowKit

theorem below_weak {j k : Nat} {a b : World} (h : Below k a b) (hj : j ≤ k) : Below j a b := ⟨h.os, h.tape, h.output, h.size, fun i hi => h.block i (by omega)⟩
/-- A text is the picture of W columns and H rows with the dots d. -/
structure IsP (s : ByteArray) (W H n : Nat) (d : Nat → Bool) : Prop where
  w0 : 1 ≤ W
  w1 : W ≤ 24
  h0 : 1 ≤ H
  h1 : H ≤ 24
  n : n = W * H
  rows : ∀ w : World, Calls Tryz.prog 64 #[.string s] w fun e w' => ∃ g c, e = .returned (.tuple #[.slice (some ⟨g, 0, none⟩) H c, .bool true]) ∧ H ≤ c ∧ RowsAt w' w.heap.size g H (gRows W H d) ∧ Below w.heap.size w w'
theorem isP_of (s : ByteArray) (hs : s.size ≤ 2000000) (h : isPic s.data.toList = true) : IsP s (pW s.data.toList) (pH s.data.toList) (pW s.data.toList * pH s.data.toList) (pD s.data.toList) := by
  have hb := pic_b h
  refine ⟨hb.w0, hb.w1, hb.h0, hb.h1, rfl, fun w => ?_⟩
  rw [pic_rows h]
  exact doRows_yes s w (by omega) h
theorem doMarks_n (g W H n c lo : Nat) (d : Nat → Bool) (w : World) (hn : n = W * H) (w0 : 1 ≤ W) (w1 : W ≤ 50) (h0 : 1 ≤ H) (h1 : H ≤ 50) (hnc : H ≤ c) (hr : RowsAt w lo g H (gRows W H d)) :
    Calls Tryz.prog 65 #[.slice (some ⟨g, 0, none⟩) H c] w fun e w' => ∃ g' c', e = .returned (.tuple #[.int .i64 (W : Int), .int .i64 (H : Int), .slice (some ⟨g', 0, none⟩) n c']) ∧ Marks w' w.heap.size g' n c' d ∧ Below w.heap.size w w' := by
  subst hn
  refine (doMarks_any g W H c lo d w w0 w1 h0 h1 hnc hr).mono ?_
  rintro e w' ⟨g', c', rfl, _, hm, hb⟩
  exact ⟨g', c', rfl, hm, hb⟩
theorem make_of {W H n c g lo : Nat} {d : Nat → Bool} {w : World} (hm : Marks w lo g n c d) (hn : n = W * H) (w0 : 1 ≤ W) (w1 : W ≤ 24) (h0 : 1 ≤ H) (h1 : H ≤ 24) :
    Calls Tryz.prog 68 #[.int .i64 (W : Int), .int .i64 (H : Int), .slice (some ⟨g, 0, none⟩) n c] w fun e w' => e = .returned (.string (bt (gText W H d))) ∧ Below w.heap.size w w' :=
  doMake_any W H n c g d w hn w0 (by omega) h0 (by omega) hm.lt.2 fun i hi => hm.cell hi
theorem text_of {W H c g lo : Nat} {d : Nat → Bool} {w : World} (hr : RowsAt w lo g H (gRows W H d)) (hc : H ≤ c) (w1 : W ≤ 24) (h0 : 1 ≤ H) (h1 : H ≤ 50) :
    Calls Tryz.prog 96 #[.slice (some ⟨g, 0, none⟩) H c] w fun e w' => e = .returned (.string (bt (gText W H d))) ∧ w = w' :=
  doText_any g 0 H c (gRows W H d) w (gRows_len W H d).symm h0 (by omega) hc (fun r hr => by obtain ⟨y, _, rfl⟩ := List.mem_map.1 hr; rw [gRow_len]; omega) (fun j hj => by rw [Nat.zero_add]; exact hr.cell j hj)
theorem spec_BorderDots_no (s : ByteArray) (w : World) (hs : s.size ≤ 2000000) (h : isPic s.data.toList = false) :
    Calls Tryz.prog 27 #[.string s] w fun e w' => e = .returned (.tuple #[.string ⟨#[]⟩, .bool false]) ∧ Below w.heap.size w w' := by
  have HR := Lib.hid fun W => doRows_no s W (by omega) h
  clear h
  go_enter Tryz.func27, Tryz.ntmps27
  go_wp2_with (go_at_call 64; refine (HR.out _).mono ?_; rintro e w1 ⟨rfl, hb1⟩)
  go_ret2
  exact ⟨rfl, hb1⟩
theorem spec_TakeBorder_no (s : ByteArray) (w : World) (hs : s.size ≤ 2000000) (h : isPic s.data.toList = false) :
    Calls Tryz.prog 29 #[.string s] w fun e w' => e = .returned (.tuple #[.string ⟨#[]⟩, .bool false]) ∧ Below w.heap.size w w' := by
  have HR := Lib.hid fun W => doRows_no s W (by omega) h
  clear h
  go_enter Tryz.func29, Tryz.ntmps29
  go_wp2_with (go_at_call 64; refine (HR.out _).mono ?_; rintro e w1 ⟨rfl, hb1⟩)
  go_ret2
  exact ⟨rfl, hb1⟩
theorem spec_PiecesOfPicture_no (s : ByteArray) (w : World) (hs : s.size ≤ 2000000) (h : isPic s.data.toList = false) :
    Calls Tryz.prog 31 #[.string s] w fun e w' => e = .returned (.tuple #[.slice none 0 0, .bool false]) ∧ Below w.heap.size w w' := by
  have HR := Lib.hid fun W => doRows_no s W (by omega) h
  clear h
  go_enter Tryz.func31, Tryz.ntmps31
  go_wp2_with (go_at_call 64; refine (HR.out _).mono ?_; rintro e w1 ⟨rfl, hb1⟩)
  go_ret2
  exact ⟨rfl, hb1⟩
theorem spec_LayersOfPicture_no (s : ByteArray) (w : World) (hs : s.size ≤ 2000000) (h : isPic s.data.toList = false) :
    Calls Tryz.prog 25 #[.string s] w fun e w' => e = .returned (.tuple #[.slice none 0 0, .bool false]) ∧ Below w.heap.size w w' := by
  have HR := Lib.hid fun W => doRows_no s W (by omega) h
  clear h
  go_enter Tryz.func25, Tryz.ntmps25
  go_wp2_with (go_at_call 64; refine (HR.out _).mono ?_; rintro e w1 ⟨rfl, hb1⟩)
  go_ret2
  exact ⟨rfl, hb1⟩
theorem rows_rev (W H : Nat) (d : Nat → Bool) (j : Nat) : ((gRows W H d).getD j []).length ≤ 100 ∨ 100 < W := by
  by_cases h : j < H
  · rw [gRows_at W H d j h, gRow_len]
    omega
  · left
    rw [List.getD, List.getElem?_eq_none (by rw [gRows_len]; omega)]
    simp
theorem spec_BorderDots_yes (s : ByteArray) (W H n : Nat) (d : Nat → Bool) (w : World) (hp : IsP s W H n d) :
    Calls Tryz.prog 27 #[.string s] w fun e w' => e = .returned (.tuple #[.string (bt (gText W H (brd W H d))), .bool true]) ∧ Below w.heap.size w w' := by
  obtain ⟨w0, w1, h0, h1, hn, HR⟩ := hp
  have HMK := Lib.hid fun g c lo w' d' (b : Marks w' lo g n c d') => make_of b hn w0 w1 h0 h1
  have HRR := Lib.hid HR
  have HMM := Lib.hid fun g c lo w' (a : H ≤ c) (b : RowsAt w' lo g H (gRows W H d)) => doMarks_n g W H n c lo d w' hn w0 (by omega) h0 (by omega) a b
  generalize gRows W H d = R at *
  have HBO := Lib.hid fun g c lo w' (b : Marks w' lo g n c d) => doBorder_any g W H n c lo d w' hn w0 (by omega) h0 (by omega) b
  clear HR hn
  generalize brd W H d = b at *
  go_enter Tryz.func27, Tryz.ntmps27
  go_wp2_with (first
    | (go_at_call 64; refine (HRR.out _).mono ?_; rintro e w1 ⟨g, c, rfl, hc, hr, hb1⟩)
    | (go_at_call 65; refine (HMM.out g c _ _ hc hr).mono ?_; rintro e w2 ⟨g2, c2, rfl, hm, hb2⟩)
    | (go_at_call 69; refine (HBO.out g2 c2 _ _ hm).mono ?_; rintro e w3 ⟨g3, c3, rfl, hm3, hb3⟩)
    | (go_at_call 68; refine (HMK.out g3 c3 _ _ _ hm3).mono ?_; rintro e w4 ⟨rfl, hb4⟩))
  go_ret2
  refine ⟨rfl, hb1.trans (below_weak (hb2.trans (below_weak (hb3.trans (below_weak hb4 hb3.size)) hb2.size)) hb1.size)⟩
theorem spec_TakeBorder_yes (s : ByteArray) (W H n : Nat) (d : Nat → Bool) (w : World) (hp : IsP s W H n d) :
    Calls Tryz.prog 29 #[.string s] w fun e w' => e = .returned (.tuple #[.string (bt (gText W H (tkn W H d))), .bool true]) ∧ Below w.heap.size w w' := by
  obtain ⟨w0, w1, h0, h1, hn, HR⟩ := hp
  have HMK := Lib.hid fun g c lo w' d' (b : Marks w' lo g n c d') => make_of b hn w0 w1 h0 h1
  have HRR := Lib.hid HR
  have HMM := Lib.hid fun g c lo w' (a : H ≤ c) (b : RowsAt w' lo g H (gRows W H d)) => doMarks_n g W H n c lo d w' hn w0 (by omega) h0 (by omega) a b
  generalize gRows W H d = R at *
  have HBO := Lib.hid fun g c lo w' (b : Marks w' lo g n c d) => doTake_any g W H n c lo d w' hn w0 (by omega) h0 (by omega) b
  clear HR hn
  generalize tkn W H d = b at *
  go_enter Tryz.func29, Tryz.ntmps29
  go_wp2_with (first
    | (go_at_call 64; refine (HRR.out _).mono ?_; rintro e w1 ⟨g, c, rfl, hc, hr, hb1⟩)
    | (go_at_call 65; refine (HMM.out g c _ _ hc hr).mono ?_; rintro e w2 ⟨g2, c2, rfl, hm, hb2⟩)
    | (go_at_call 66; refine (HBO.out g2 c2 _ _ hm).mono ?_; rintro e w3 ⟨rfl, hm3, hb3, hz3, _⟩)
    | (go_at_call 68; refine (HMK.out g2 c2 _ _ _ hm3).mono ?_; rintro e w4 ⟨rfl, hb4⟩))
  go_ret2
  refine ⟨rfl, hb1.trans (below_weak (hb2.trans (below_weak (hb3.trans (below_weak hb4 (Nat.le_trans hb2.size hz3))) (Nat.le_refl _))) hb1.size)⟩
/-- The other dots among the first a places. -/
def pod (d : Nat → Bool) (a : Nat) (i : Nat) : Bool := if i < a then !d i else d i
theorem pod_zero (d : Nat → Bool) (i : Nat) : d i = pod d 0 i := by simp [pod]
theorem pod_at (d : Nat → Bool) (a : Nat) : pod d a a = d a := by simp [pod]
theorem pod_succ (d : Nat → Bool) (a i : Nat) : updB (pod d a) a (!d a) i = pod d (a + 1) i := by
  unfold updB pod
  by_cases e : i = a
  · subst e
    rw [if_pos rfl, if_pos (by omega)]
  · rw [if_neg e]
    have : (i < a) ↔ (i < a + 1) := by omega
    simp only [this]
theorem pod_all (d : Nat → Bool) (n i : Nat) (h : i < n) : pod d n i = oD d i := by simp [pod, oD, h]
end Go.Proofs.YtbabkcjnfdpafaaGreatDoor

/- Chapter 7: the specification's layers. -/
namespace Go.Proofs.YtbabkcjnfdpafaaGreatDoor
open Go.ChangeShapes Go.WideShapes Go.ChangeAt Go.RowKit

theorem lys_end (W H f : Nat) (d : Nat → Bool) (h : cnt (brd W H d) (W * H) = 0) : lys W H f d = [] := by
  cases f with
  | zero => rfl
  | succ f => simp [lys, h]
theorem lys_more (W H f : Nat) (d : Nat → Bool) (h : ¬ cnt (brd W H d) (W * H) = 0) : lys W H (f + 1) d = (cnt (brd W H d) (W * H) : Int) :: lys W H f (tkn W H d) := by
  simp [lys, h]
/-- How long a slice is. -/
def lenV : Value → Nat
  | .slice _ n _ => n
  | _ => 0
theorem lenV_slice (A : Option Addr) (n c : Nat) : lenV (.slice A n c) = n := rfl
theorem resI_of {w w' : World} {v : Value} {xs : List Int} {base : Nat} (h : w'.ownsRow base 3 1 v xs.length (i64s xs)) (hB : w.heap.size ≤ base) (hb : Below w.heap.size w w') : ResI true xs w (.returned (.tuple #[v, .bool true])) w' := by
  obtain ⟨A, c, rfl⟩ := row_form h
  exact ⟨A, c, rfl, (own_of_row h).wide hB (Nat.le_refl _), hb⟩
theorem app_num {ops : Array Oper} {rest : List Oper} {o : Oper} {a : Act} {Q : Exit → Act → World → Prop} (base : Nat) (w : World) (hgd : o.guard = none) (s x : Operand)
    (ho : o.op = .call { callee := .builtin .append, args := #[s, x], argTypes := #[33, 33] }) (v : Value) (xs : List Int) (hs : a.eval s = v) (hG : w.ownsRow base 3 1 v xs.length (i64s xs)) (hB : base ≤ w.heap.size) (z : Int)
    (hx : a.eval x = .slice (some ⟨w.heap.size, 0, none⟩) 1 1) (hl : xs.length ≤ 100000)
    (h : ∀ v' w', w'.ownsRow base 3 1 v' (xs ++ [z]).length (i64s (xs ++ [z])) → w.grownBy w' v.ownBlock → wpList Tryz.prog ops Q rest (a.put o.dst v') w') : wpList Tryz.prog ops Q (o :: rest) a (w.alloc (.cells #[.int .i64 z] 3)) := by
  obtain ⟨i0, hi0, hz0, hz1, hz2⟩ := info_parts infoInt7
  refine wpList_append_own _ hgd s x 33 ho base 3 i0 (.int .i64 0) 1 8 Tryz.underlying33 hi0 hz0 hz1 hz2 rfl (by decide) v _ _ hs (hG.alloc _) ⟨w.heap.size, 0, none⟩ 1 1 [.int .i64 z] hx rfl ?c1 ?c2 ?c3 ?c4 ?c5 ?_
  case c1 =>
    intro j u hj
    match j, hj with
    | 0, hj => simp at hj; subst hj; simp [Addr.add]
  case c2 => intro u hu; simp at hu; subst hu; rfl
  case c3 => unfold maxLen; omega
  case c4 => omega
  case c5 => simp; omega
  · intro v' w4 hown' hgrow _
    refine h v' w4 ?_ (grownBy_trans (World.grownBy_alloc w _ _) hgrow)
    rw [List.length_append]
    rw [show i64s (xs ++ [z]) = i64s xs ++ [.int .i64 z] by simp [i64s]]
    exact hown'
theorem Marks.kept {w w' : World} {base g n c : Nat} {d : Nat → Bool} {row : Option Nat} (h : Marks w base g n c d) (hg : w.grownBy w' row) (hne : row ≠ some g) : Marks w' base g n c d :=
  World.ownsRow.kept h hg (.inr fun e => hne (by rw [← e]; rfl))
set_option maxRecDepth 4000 in
set_option maxHeartbeats 1600000 in
theorem spec_LayersOfPicture_yes (s : ByteArray) (W H n : Nat) (d : Nat → Bool) (w : World) (hp : IsP s W H n d) :
    Calls Tryz.prog 25 #[.string s] w (ResI true (lys W H (n + 1) d) w) := by
  obtain ⟨w0, w1, h0, h1, hn, HR⟩ := hp
  have HRR := Lib.hid HR
  have HMM := Lib.hid fun g c lo w' (a : H ≤ c) (b : RowsAt w' lo g H (gRows W H d)) => doMarks_n g W H n c lo d w' hn w0 (by omega) h0 (by omega) a b
  have HBO := Lib.hid fun g c lo w' d (b : Marks w' lo g n c d) => doTake_any g W H n c lo d w' hn w0 (by omega) h0 (by omega) b
  have hn2 : n ≤ 2500 := by
    rw [hn]
    exact Nat.mul_le_mul (n₁ := W) (n₂ := 50) (m₁ := H) (m₂ := 50) (by omega) (by omega)
  have HLE := Lib.hid fun f d (h : cnt (brd W H d) n = 0) => lys_end W H f d (by rw [← hn]; exact h)
  have HLM : Hid (∀ f d, ¬ cnt (brd W H d) n = 0 → lys W H (f + 1) d = (cnt (brd W H d) n : Int) :: lys W H f (tkn W H d)) := Lib.hid fun f d h => by
    have := lys_more W H f d (by rw [← hn]; exact h)
    rw [this, ← hn]
  have HCT := Lib.hid fun d => cnt_tkn W H d n
  have HCN := Lib.hid fun d => cnt_le d n
  obtain ⟨L, hL⟩ : ∃ L, L = lys W H (n + 1) d := ⟨_, rfl⟩
  rw [← hL]
  have HL := Lib.hid hL
  clear HR hn hL
  generalize gRows W H d = R at *
  go_enter Tryz.func25, Tryz.ntmps25
  go_wp2_with (first
    | (go_at_call 64; refine (HRR.out _).mono ?_; rintro e w1 ⟨g, c, rfl, hc, hr, hb1⟩)
    | (go_at_call 65; refine (HMM.out g c _ _ hc hr).mono ?_; rintro e w2 ⟨g2, c2, rfl, hm, hb2⟩))
  have HG : Hid (w2.ownsRow w2.heap.size 3 1 (.slice none 0 0) ([] : List Int).length (i64s [])) := Lib.hid (World.ownsRow_nil _ _ _ _)
  have HM := Lib.hid hm
  have HB : Hid (Below w.heap.size w w2) := Lib.hid (hb1.trans (below_weak hb2 hb1.size))
  have HZ : Hid (w.heap.size ≤ w1.heap.size ∧ w1.heap.size ≤ g2 ∧ g2 < w2.heap.size) := Lib.hid ⟨hb1.size, hm.lt.1, hm.lt.2⟩
  have HS0 : Hid (w2.heap.size ≤ w2.heap.size) := Lib.hid (Nat.le_refl _)
  clear hm hb1 hb2 hr
  generalize w1.heap.size = B at *
  generalize hB2 : w2.heap.size = C at *
  have HB2 := Lib.hid hB2
  clear hB2
  go_loopw [9] (fun v wr => ∃ (xs : List Int) (f : Nat) (e : Nat → Bool), L = xs ++ lys W H f e ∧ xs.length + f = n + 1 ∧ cnt e n < f ∧ Hid (Marks wr B g2 n c2 e) ∧ Hid (wr.ownsRow C 3 1 v xs.length (i64s xs)) ∧ Hid (Below w.heap.size w wr) ∧ Hid (C ≤ wr.heap.size)) (fun v _ => n + 1 - lenV v)
  case atStart => exact ⟨[], n + 1, d, by rw [HL.out]; rfl, by simp, by have := HCN.out d; omega, HM, HG, HB, Lib.hid (by rw [HB2.out]; exact Nat.le_refl _)⟩
  case round =>
    obtain ⟨xs, f, e, hL, hlen, hcf, hm, hG, hb, hS⟩ := hrel
    clear HM HG HB HS0
    have hT := Lib.hid (HBO.out g2 c2 B wr e hm.out)
    have HQL := Lib.hid fun h => HLE.out f e h
    have HCE := Lib.hid (HCT.out e)
    obtain ⟨f, rfl⟩ : ∃ f', f = f' + 1 := ⟨f - 1, by omega⟩
    have HQM := Lib.hid fun h => HLM.out f e h
    have hq2 := HCN.out (brd W H e)
    have HL2 := Lib.hid hL
    have hxl : xs.length ≤ 100000 := by omega
    generalize cnt (brd W H e) n = q at *
    generalize tkn W H e = e2 at *
    obtain ⟨A, cc, rfl⟩ := row_form hG.out
    clear hL hm
    by_cases hq0 : q = 0
    · have hqi : (q : Int) = 0 := by omega
      have HF : Hid (L = xs) := Lib.hid (by rw [HL2.out, HQL.out hq0, List.append_nil])
      rw [hqi] at hT
      clear HQL HQM
      go_wp2_with (go_at_call 66; refine hT.out.mono ?_; rintro e w3 ⟨rfl, hm3, hb3, hz3, hg3⟩)
      go_ret2
      rw [HF.out]
      exact resI_of (hG.out.kept hg3 (.inr fun e => by have h1 := hG.out.lt _ e; have := HZ.out; omega)) (by have := HZ.out; omega) (hb.out.trans (below_weak hb3 HZ.out.1))
    · have hqi : ¬ (q : Int) = 0 := by omega
      have HF : Hid (L = (xs ++ [(q : Int)]) ++ lys W H f e2) := Lib.hid (by rw [HL2.out, HQM.out hq0]; simp)
      have HCQ : Hid (cnt e2 n < f) := Lib.hid (by have := HCE.out; omega)
      clear HQL HQM
      go_wp2_with (first
        | (go_at_call 66; refine hT.out.mono ?_; rintro e w3 ⟨rfl, hm3, hb3, hz3, hg3⟩)
        | (at_builtin; refine app_num C _ rfl _ _ rfl _ _ rfl (hG.out.kept hg3 (.inr fun e => by have h1 := hG.out.lt _ e; have := HZ.out; omega)) (Nat.le_trans hS.out hz3) _ rfl hxl ?_; intro v' w4 hG4 hg4))
      have HX : Hid (∀ k, Value.ownBlock (.slice A xs.length cc) = some k → C ≤ k) := Lib.hid fun k hk => (hG.out.lt k hk).1
      have HM4 : Hid (Marks w4 B g2 n c2 e2) := Lib.hid (hm3.kept hg4 fun e => by have := HX.out _ e; have := HZ.out; omega)
      have HB4 : Hid (Below w.heap.size w w4) := Lib.hid ((hb.out.trans (below_weak hb3 HZ.out.1)).grown hg4 (by have := HZ.out; have := hS.out; omega) fun k hk => by have := HX.out k hk; have := HZ.out; omega)
      have HS4 : Hid (C ≤ w4.heap.size) := Lib.hid (Nat.le_trans (Nat.le_trans hS.out hz3) hg4.size)
      have HG4 := Lib.hid hG4
      obtain ⟨A', cc', rfl⟩ := row_form hG4
      clear hm3 hb3 hz3 hg3 hg4 hG4 hG hS hb HX hT
      go_wp2
      go_roundw
      case rel => exact ⟨xs ++ [(q : Int)], f, e2, HF.out, by simp; omega, HCQ.out, HM4, HG4, HB4, HS4⟩
      case measure =>
        simp [lenV]
        omega
end Go.Proofs.YtbabkcjnfdpafaaGreatDoor

/- Chapter 7: the specification's pictures of shapes. -/
namespace Go.Proofs.YtbabkcjnfdpafaaGreatDoor
open Go.ChangeShapes Go.WideShapes Go.ChangeAt Go.RowKit

theorem dtMost_any (a b : Int) (w : World) :
    Calls Tryz.prog 103 #[.int .i64 a, .int .i64 b] w fun e w' => e = .returned (.int .i64 (max a b)) ∧ w = w' := by
  by_cases h : b < a
  · have hq : max a b = a := by omega
    rw [hq]
    go_enter Tryz.func103, Tryz.ntmps103
    go_wp2
    go_ret
    exact ⟨rfl, rfl⟩
  · have hq : max a b = b := by omega
    rw [hq]
    go_enter Tryz.func103, Tryz.ntmps103
    go_wp2
    go_ret
    exact ⟨rfl, rfl⟩
/-- How far from 0. -/
def far0 (a : Int) : Int := max a (-a)
theorem dtAbs_any (a : Int) (w : World) (h0 : -1000 ≤ a) (h1 : a ≤ 1000) :
    Calls Tryz.prog 81 #[.int .i64 a] w fun e w' => e = .returned (.int .i64 (far0 a)) ∧ w = w' := by
  go_enter Tryz.func81, Tryz.ntmps81
  go_wp2_with (go_at_call 103; refine (dtMost_any _ _ _).mono ?_; rintro e w' ⟨rfl, rfl⟩)
  go_ret
  exact ⟨rfl, rfl⟩
theorem far0_bds (a : Int) (h0 : -1000 ≤ a) (h1 : a ≤ 1000) : 0 ≤ far0 a ∧ far0 a ≤ 1000 := by unfold far0; omega
/-- Whether a place of a shape has a dot, by its kind. -/
def shp (kind : Nat) (k : Nat) (x y : Int) : Bool :=
  if kind = 116 then decide (x ≤ y)
  else if kind = 103 then decide (x = (k : Int) - 1) || decide (y = (k : Int) - 1)
  else if kind = 100 then decide (far0 (x - (k : Int) / 2) + far0 (y - (k : Int) / 2) ≤ (k : Int) / 2)
  else if kind = 104 then decide (far0 (x - (k : Int) / 2 + y - (k : Int) / 2) ≤ (k : Int) / 2)
  else true
def shD (kind k i : Nat) : Bool := shp kind k ((i % k : Nat) : Int) ((i / k : Nat) : Int)
theorem shD_at (kind k x y : Nat) (h : x < k) : shD kind k (y * k + x) = shp kind k (x : Int) (y : Int) := by
  unfold shD
  rw [Nat.mul_comm, Nat.mul_add_mod, Nat.mod_eq_of_lt h, Nat.mul_add_div (by omega), Nat.div_eq_of_lt h, Nat.add_zero]
theorem app_bool {ops : Array Oper} {rest : List Oper} {o : Oper} {a : Act} {Q : Exit → Act → World → Prop} (base : Nat) (w : World) (hgd : o.guard = none) (s x : Operand)
    (ho : o.op = .call { callee := .builtin .append, args := #[s, x], argTypes := #[74, 74] }) (v : Value) (d : Nat → Bool) (n : Nat) (hs : a.eval s = v) (hG : w.ownsRow base 4 1 v n (tbs d n)) (hB : base ≤ w.heap.size) (z : Bool)
    (hx : a.eval x = .slice (some ⟨w.heap.size, 0, none⟩) 1 1) (hz : z = d n) (hl : n ≤ 100000)
    (h : ∀ v' w', w'.ownsRow base 4 1 v' (n + 1) (tbs d (n + 1)) → w.grownBy w' v.ownBlock → wpList Tryz.prog ops Q rest (a.put o.dst v') w') : wpList Tryz.prog ops Q (o :: rest) a (w.alloc (.cells #[.bool z] 4)) := by
  obtain ⟨i0, hi0, hz0, hz1, hz2⟩ := info_parts infoBool
  refine wpList_append_own _ hgd s x 74 ho base 4 i0 (.bool false) 1 1 Tryz.underlying74 hi0 hz0 hz1 hz2 rfl (by decide) v _ _ hs (hG.alloc _) ⟨w.heap.size, 0, none⟩ 1 1 [.bool z] hx rfl ?c1 ?c2 ?c3 ?c4 ?c5 ?_
  case c1 =>
    intro j u hj
    match j, hj with
    | 0, hj => simp at hj; subst hj; simp [Addr.add]
  case c2 => intro u hu; simp at hu; subst hu; rfl
  case c3 => unfold maxLen; omega
  case c4 => omega
  case c5 => simp; omega
  · intro v' w4 hown' hgrow _
    refine h v' w4 ?_ (grownBy_trans (World.grownBy_alloc w _ _) hgrow)
    rw [tbs_succ, ← hz]
    exact hown'
set_option maxRecDepth 4000 in
set_option maxHeartbeats 1600000 in
theorem doShape_t (k n : Nat) (w : World) (hn : n = k * k) (h0 : 1 ≤ k) (h1 : k ≤ 24) :
    Calls Tryz.prog 43 #[.int .i64 (k : Int), .int .u8 116] w fun e w' => e = .returned (.string (bt (gText k k (shD 116 k)))) ∧ Below w.heap.size w w' := by
  have hn2 : n ≤ 576 := by
    rw [hn]
    exact Nat.mul_le_mul (n₁ := k) (n₂ := 24) (m₁ := k) (m₂ := 24) h1 h1
  have hn0 : 1 ≤ n := by
    rw [hn]
    exact Nat.mul_pos h0 h0
  have HA := Lib.hid fun x y (h : x < k) => shD_at 116 k x y h
  have HMK := Lib.hid fun g c lo w' (b : Marks w' lo g n c (shD 116 k)) => make_of b hn h0 h1 h0 h1
  have HS : Hid (∀ x y, shp 116 k x y = _) := Lib.hid fun x y => rfl
  have HSM := Lib.hid fun y => Nat.succ_mul y k
  have HLE : Hid (∀ y, y < k → y * k + k ≤ n) := Lib.hid fun y hy => by rw [hn, ← Nat.succ_mul]; exact Nat.mul_le_mul_right k hy
  have HN := Lib.hid hn
  clear hn
  generalize shD 116 k = d at *
  go_enter Tryz.func43, Tryz.ntmps43
  go_wp2
  go_loopw [5, 7] (fun v i wr => ∃ y : Nat, y ≤ k ∧ i = .int .i64 (y : Int) ∧ Hid (wr.ownsRow w.heap.size 4 1 v (y * k) (tbs d (y * k))) ∧ Hid (Below w.heap.size w wr)) (fun _ i _ => k - (intOf i).toNat)
  case atStart => exact ⟨0, by omega, by simp, Lib.hid (by rw [Nat.zero_mul]; exact World.ownsRow_nil _ _ _ _), Lib.hid (Below.refl _ _)⟩
  case round =>
    obtain ⟨y, hy, rfl, hown, hb⟩ := hrel
    by_cases hlt : y < k
    · have hlt2 : (y : Int) < (k : Int) := by omega
      have hle := HLE.out y hlt
      have hsm := Lib.hid (HSM.out y)
      have HAY := Lib.hid fun x h => HA.out x y h
      generalize y * k = M at *
      go_wp2
      go_loopw [5, 8] (fun v i w2 => ∃ x : Nat, x ≤ k ∧ i = .int .i64 (x : Int) ∧ Hid (w2.ownsRow w.heap.size 4 1 v (M + x) (tbs d (M + x))) ∧ Hid (Below w.heap.size w w2)) (fun _ i _ => k - (intOf i).toNat)
      case atStart => exact ⟨0, by omega, by simp, hown, hb⟩
      case round =>
        clear hown hb
        obtain ⟨x, hx, rfl, hown, hb⟩ := hrel
        by_cases hxl : x < k
        · have hxl2 : (x : Int) < (k : Int) := by omega
          have hda := Lib.hid (HAY.out x hxl)
          have hMx : M + x ≤ 100000 := by omega
          have hS := hb.out.size
          go_wp2_with (first
            | (at_builtin; refine app_bool w.heap.size _ rfl _ _ rfl _ d (M + x) rfl hown.out hS _ rfl ?hz hMx ?_; rotate_left; intro v' w4 hG4 hg4))
          case hz =>
            rw [hda.out]
            simp [shp]
          all_goals
            have HB4 : Hid (Below w.heap.size w w4) := Lib.hid (hb.out.grown hg4 hS fun g hg => (hown.out.lt g hg).1)
            have HG4 : Hid (w4.ownsRow w.heap.size 4 1 v' (M + (x + 1)) (tbs d (M + (x + 1)))) := Lib.hid hG4
            clear hown hb hG4 hg4 hS
            go_wp2
            go_roundw
            case rel => exact ⟨x + 1, by omega, by go_num, HG4, HB4⟩
            case measure => simp [intOf]; omega
        · obtain rfl : x = k := by omega
          have HO : Hid (wr.ownsRow w.heap.size 4 1 u5 ((y + 1) * x) (tbs d ((y + 1) * x))) := Lib.hid (by rw [hsm.out]; exact hown.out)
          clear hown
          go_wp2
          go_roundw
          case rel => exact ⟨y + 1, by omega, by go_num, HO, hb⟩
          case measure => simp [intOf]; omega
    · obtain rfl : y = k := by omega
      have hown2 : wr.ownsRow w.heap.size 4 1 u5 n (tbs d n) := by rw [HN.out]; exact hown.out
      obtain ⟨g2, c2, rfl, hc2, hcm, hr⟩ := marks_of_row hown2 hn0
      have HK := Lib.hid (HMK.out g2 c2 _ _ hr)
      clear hown hown2 hr hc2 hcm
      go_wp2_with (go_at_call 68; refine HK.out.mono ?_; rintro e w4 ⟨rfl, hb4⟩)
      go_ret
      exact ⟨rfl, hb.out.trans (below_weak hb4 hb.out.size)⟩
set_option maxRecDepth 4000 in
set_option maxHeartbeats 1600000 in
theorem doShape_s (k n : Nat) (w : World) (hn : n = k * k) (h0 : 1 ≤ k) (h1 : k ≤ 24) :
    Calls Tryz.prog 43 #[.int .i64 (k : Int), .int .u8 115] w fun e w' => e = .returned (.string (bt (gText k k (shD 115 k)))) ∧ Below w.heap.size w w' := by
  have hn2 : n ≤ 576 := by
    rw [hn]
    exact Nat.mul_le_mul (n₁ := k) (n₂ := 24) (m₁ := k) (m₂ := 24) h1 h1
  have hn0 : 1 ≤ n := by
    rw [hn]
    exact Nat.mul_pos h0 h0
  have HA := Lib.hid fun x y (h : x < k) => shD_at 115 k x y h
  have HMK := Lib.hid fun g c lo w' (b : Marks w' lo g n c (shD 115 k)) => make_of b hn h0 h1 h0 h1
  have HS : Hid (∀ x y, shp 115 k x y = _) := Lib.hid fun x y => rfl
  have HSM := Lib.hid fun y => Nat.succ_mul y k
  have HLE : Hid (∀ y, y < k → y * k + k ≤ n) := Lib.hid fun y hy => by rw [hn, ← Nat.succ_mul]; exact Nat.mul_le_mul_right k hy
  have HN := Lib.hid hn
  clear hn
  generalize shD 115 k = d at *
  go_enter Tryz.func43, Tryz.ntmps43
  go_wp2
  go_loopw [5, 7] (fun v i wr => ∃ y : Nat, y ≤ k ∧ i = .int .i64 (y : Int) ∧ Hid (wr.ownsRow w.heap.size 4 1 v (y * k) (tbs d (y * k))) ∧ Hid (Below w.heap.size w wr)) (fun _ i _ => k - (intOf i).toNat)
  case atStart => exact ⟨0, by omega, by simp, Lib.hid (by rw [Nat.zero_mul]; exact World.ownsRow_nil _ _ _ _), Lib.hid (Below.refl _ _)⟩
  case round =>
    obtain ⟨y, hy, rfl, hown, hb⟩ := hrel
    by_cases hlt : y < k
    · have hlt2 : (y : Int) < (k : Int) := by omega
      have hle := HLE.out y hlt
      have hsm := Lib.hid (HSM.out y)
      have HAY := Lib.hid fun x h => HA.out x y h
      generalize y * k = M at *
      go_wp2
      go_loopw [5, 8] (fun v i w2 => ∃ x : Nat, x ≤ k ∧ i = .int .i64 (x : Int) ∧ Hid (w2.ownsRow w.heap.size 4 1 v (M + x) (tbs d (M + x))) ∧ Hid (Below w.heap.size w w2)) (fun _ i _ => k - (intOf i).toNat)
      case atStart => exact ⟨0, by omega, by simp, hown, hb⟩
      case round =>
        clear hown hb
        obtain ⟨x, hx, rfl, hown, hb⟩ := hrel
        by_cases hxl : x < k
        · have hxl2 : (x : Int) < (k : Int) := by omega
          have hda := Lib.hid (HAY.out x hxl)
          have hMx : M + x ≤ 100000 := by omega
          have hS := hb.out.size
          go_wp2_with (first
            | (at_builtin; refine app_bool w.heap.size _ rfl _ _ rfl _ d (M + x) rfl hown.out hS _ rfl ?hz hMx ?_; rotate_left; intro v' w4 hG4 hg4))
          case hz =>
            rw [hda.out]
            simp [shp]
          all_goals
            have HB4 : Hid (Below w.heap.size w w4) := Lib.hid (hb.out.grown hg4 hS fun g hg => (hown.out.lt g hg).1)
            have HG4 : Hid (w4.ownsRow w.heap.size 4 1 v' (M + (x + 1)) (tbs d (M + (x + 1)))) := Lib.hid hG4
            clear hown hb hG4 hg4 hS
            go_wp2
            go_roundw
            case rel => exact ⟨x + 1, by omega, by go_num, HG4, HB4⟩
            case measure => simp [intOf]; omega
        · obtain rfl : x = k := by omega
          have HO : Hid (wr.ownsRow w.heap.size 4 1 u5 ((y + 1) * x) (tbs d ((y + 1) * x))) := Lib.hid (by rw [hsm.out]; exact hown.out)
          clear hown
          go_wp2
          go_roundw
          case rel => exact ⟨y + 1, by omega, by go_num, HO, hb⟩
          case measure => simp [intOf]; omega
    · obtain rfl : y = k := by omega
      have hown2 : wr.ownsRow w.heap.size 4 1 u5 n (tbs d n) := by rw [HN.out]; exact hown.out
      obtain ⟨g2, c2, rfl, hc2, hcm, hr⟩ := marks_of_row hown2 hn0
      have HK := Lib.hid (HMK.out g2 c2 _ _ hr)
      clear hown hown2 hr hc2 hcm
      go_wp2_with (go_at_call 68; refine HK.out.mono ?_; rintro e w4 ⟨rfl, hb4⟩)
      go_ret
      exact ⟨rfl, hb.out.trans (below_weak hb4 hb.out.size)⟩
set_option maxRecDepth 4000 in
set_option maxHeartbeats 1600000 in
theorem doShape_g (k n : Nat) (w : World) (hn : n = k * k) (h0 : 1 ≤ k) (h1 : k ≤ 24) :
    Calls Tryz.prog 43 #[.int .i64 (k : Int), .int .u8 103] w fun e w' => e = .returned (.string (bt (gText k k (shD 103 k)))) ∧ Below w.heap.size w w' := by
  have hn2 : n ≤ 576 := by
    rw [hn]
    exact Nat.mul_le_mul (n₁ := k) (n₂ := 24) (m₁ := k) (m₂ := 24) h1 h1
  have hn0 : 1 ≤ n := by
    rw [hn]
    exact Nat.mul_pos h0 h0
  have HA := Lib.hid fun x y (h : x < k) => shD_at 103 k x y h
  have HMK := Lib.hid fun g c lo w' (b : Marks w' lo g n c (shD 103 k)) => make_of b hn h0 h1 h0 h1
  have HS : Hid (∀ x y, shp 103 k x y = _) := Lib.hid fun x y => rfl
  have HSM := Lib.hid fun y => Nat.succ_mul y k
  have HLE : Hid (∀ y, y < k → y * k + k ≤ n) := Lib.hid fun y hy => by rw [hn, ← Nat.succ_mul]; exact Nat.mul_le_mul_right k hy
  have HN := Lib.hid hn
  clear hn
  generalize shD 103 k = d at *
  go_enter Tryz.func43, Tryz.ntmps43
  go_wp2
  go_loopw [5, 7] (fun v i wr => ∃ y : Nat, y ≤ k ∧ i = .int .i64 (y : Int) ∧ Hid (wr.ownsRow w.heap.size 4 1 v (y * k) (tbs d (y * k))) ∧ Hid (Below w.heap.size w wr)) (fun _ i _ => k - (intOf i).toNat)
  case atStart => exact ⟨0, by omega, by simp, Lib.hid (by rw [Nat.zero_mul]; exact World.ownsRow_nil _ _ _ _), Lib.hid (Below.refl _ _)⟩
  case round =>
    obtain ⟨y, hy, rfl, hown, hb⟩ := hrel
    by_cases hlt : y < k
    · have hlt2 : (y : Int) < (k : Int) := by omega
      have hle := HLE.out y hlt
      have hsm := Lib.hid (HSM.out y)
      have HAY := Lib.hid fun x h => HA.out x y h
      generalize y * k = M at *
      go_wp2
      go_loopw [5, 8] (fun v i w2 => ∃ x : Nat, x ≤ k ∧ i = .int .i64 (x : Int) ∧ Hid (w2.ownsRow w.heap.size 4 1 v (M + x) (tbs d (M + x))) ∧ Hid (Below w.heap.size w w2)) (fun _ i _ => k - (intOf i).toNat)
      case atStart => exact ⟨0, by omega, by simp, hown, hb⟩
      case round =>
        clear hown hb
        obtain ⟨x, hx, rfl, hown, hb⟩ := hrel
        by_cases hxl : x < k
        · have hxl2 : (x : Int) < (k : Int) := by omega
          have hda := Lib.hid (HAY.out x hxl)
          have hMx : M + x ≤ 100000 := by omega
          by_cases hxk : (x : Int) = (k : Int) - 1
          · have hS := hb.out.size
            go_wp2_with (first
              | (at_builtin; refine app_bool w.heap.size _ rfl _ _ rfl _ d (M + x) rfl hown.out hS _ rfl ?hz hMx ?_; rotate_left; intro v' w4 hG4 hg4))
            case hz =>
              first | (rw [hda.out]; simp [shp, hxk]; done) | (rw [hda.out]; unfold shp; rw [if_neg (by decide), if_pos rfl]; rfl)
            all_goals
              have HB4 : Hid (Below w.heap.size w w4) := Lib.hid (hb.out.grown hg4 hS fun g hg => (hown.out.lt g hg).1)
              have HG4 : Hid (w4.ownsRow w.heap.size 4 1 v' (M + (x + 1)) (tbs d (M + (x + 1)))) := Lib.hid hG4
              clear hown hb hG4 hg4 hS
              go_wp2
              go_roundw
              case rel => exact ⟨x + 1, by omega, by go_num, HG4, HB4⟩
              case measure => simp [intOf]; omega
          · have hS := hb.out.size
            go_wp2_with (first
              | (at_builtin; refine app_bool w.heap.size _ rfl _ _ rfl _ d (M + x) rfl hown.out hS _ rfl ?hz hMx ?_; rotate_left; intro v' w4 hG4 hg4))
            case hz =>
              first | (rw [hda.out]; simp [shp, hxk]; done) | (rw [hda.out]; unfold shp; rw [if_neg (by decide), if_pos rfl]; rfl)
            all_goals
              have HB4 : Hid (Below w.heap.size w w4) := Lib.hid (hb.out.grown hg4 hS fun g hg => (hown.out.lt g hg).1)
              have HG4 : Hid (w4.ownsRow w.heap.size 4 1 v' (M + (x + 1)) (tbs d (M + (x + 1)))) := Lib.hid hG4
              clear hown hb hG4 hg4 hS
              go_wp2
              go_roundw
              case rel => exact ⟨x + 1, by omega, by go_num, HG4, HB4⟩
              case measure => simp [intOf]; omega
        · obtain rfl : x = k := by omega
          have HO : Hid (wr.ownsRow w.heap.size 4 1 u5 ((y + 1) * x) (tbs d ((y + 1) * x))) := Lib.hid (by rw [hsm.out]; exact hown.out)
          clear hown
          go_wp2
          go_roundw
          case rel => exact ⟨y + 1, by omega, by go_num, HO, hb⟩
          case measure => simp [intOf]; omega
    · obtain rfl : y = k := by omega
      have hown2 : wr.ownsRow w.heap.size 4 1 u5 n (tbs d n) := by rw [HN.out]; exact hown.out
      obtain ⟨g2, c2, rfl, hc2, hcm, hr⟩ := marks_of_row hown2 hn0
      have HK := Lib.hid (HMK.out g2 c2 _ _ hr)
      clear hown hown2 hr hc2 hcm
      go_wp2_with (go_at_call 68; refine HK.out.mono ?_; rintro e w4 ⟨rfl, hb4⟩)
      go_ret
      exact ⟨rfl, hb.out.trans (below_weak hb4 hb.out.size)⟩
set_option maxRecDepth 4000 in
set_option maxHeartbeats 1600000 in
theorem doShape_d (k n : Nat) (w : World) (hn : n = k * k) (h0 : 1 ≤ k) (h1 : k ≤ 24) :
    Calls Tryz.prog 43 #[.int .i64 (k : Int), .int .u8 100] w fun e w' => e = .returned (.string (bt (gText k k (shD 100 k)))) ∧ Below w.heap.size w w' := by
  have hn2 : n ≤ 576 := by
    rw [hn]
    exact Nat.mul_le_mul (n₁ := k) (n₂ := 24) (m₁ := k) (m₂ := 24) h1 h1
  have hn0 : 1 ≤ n := by
    rw [hn]
    exact Nat.mul_pos h0 h0
  have HA := Lib.hid fun x y (h : x < k) => shD_at 100 k x y h
  have HMK := Lib.hid fun g c lo w' (b : Marks w' lo g n c (shD 100 k)) => make_of b hn h0 h1 h0 h1
  have HS : Hid (∀ x y, shp 100 k x y = _) := Lib.hid fun x y => rfl
  have HSM := Lib.hid fun y => Nat.succ_mul y k
  have HLE : Hid (∀ y, y < k → y * k + k ≤ n) := Lib.hid fun y hy => by rw [hn, ← Nat.succ_mul]; exact Nat.mul_le_mul_right k hy
  have HN := Lib.hid hn
  clear hn
  generalize shD 100 k = d at *
  go_enter Tryz.func43, Tryz.ntmps43
  go_wp2
  go_loopw [5, 7] (fun v i wr => ∃ y : Nat, y ≤ k ∧ i = .int .i64 (y : Int) ∧ Hid (wr.ownsRow w.heap.size 4 1 v (y * k) (tbs d (y * k))) ∧ Hid (Below w.heap.size w wr)) (fun _ i _ => k - (intOf i).toNat)
  case atStart => exact ⟨0, by omega, by simp, Lib.hid (by rw [Nat.zero_mul]; exact World.ownsRow_nil _ _ _ _), Lib.hid (Below.refl _ _)⟩
  case round =>
    obtain ⟨y, hy, rfl, hown, hb⟩ := hrel
    by_cases hlt : y < k
    · have hlt2 : (y : Int) < (k : Int) := by omega
      have hle := HLE.out y hlt
      have hsm := Lib.hid (HSM.out y)
      have HAY := Lib.hid fun x h => HA.out x y h
      generalize y * k = M at *
      go_wp2
      go_loopw [5, 8] (fun v i w2 => ∃ x : Nat, x ≤ k ∧ i = .int .i64 (x : Int) ∧ Hid (w2.ownsRow w.heap.size 4 1 v (M + x) (tbs d (M + x))) ∧ Hid (Below w.heap.size w w2)) (fun _ i _ => k - (intOf i).toNat)
      case atStart => exact ⟨0, by omega, by simp, hown, hb⟩
      case round =>
        clear hown hb
        obtain ⟨x, hx, rfl, hown, hb⟩ := hrel
        by_cases hxl : x < k
        · have hxl2 : (x : Int) < (k : Int) := by omega
          have hda := Lib.hid (HAY.out x hxl)
          have hMx : M + x ≤ 100000 := by omega
          have f1 := far0_bds ((x : Int) - (k : Int) / 2) (by omega) (by omega)
          have f2 := far0_bds ((y : Int) - (k : Int) / 2) (by omega) (by omega)
          have hS := hb.out.size
          go_wp2_with (first
            | (at_builtin; refine app_bool w.heap.size _ rfl _ _ rfl _ d (M + x) rfl hown.out hS _ rfl ?hz hMx ?_; rotate_left; intro v' w4 hG4 hg4)
            | (go_at_call 81; refine (dtAbs_any _ _ (by omega) (by omega)).mono ?_; rintro e w3 ⟨rfl, rfl⟩))
          case hz =>
            rw [hda.out]
            simp [shp]
          all_goals
            have HB4 : Hid (Below w.heap.size w w4) := Lib.hid (hb.out.grown hg4 hS fun g hg => (hown.out.lt g hg).1)
            have HG4 : Hid (w4.ownsRow w.heap.size 4 1 v' (M + (x + 1)) (tbs d (M + (x + 1)))) := Lib.hid hG4
            clear hown hb hG4 hg4 hS
            go_wp2
            go_roundw
            case rel => exact ⟨x + 1, by omega, by go_num, HG4, HB4⟩
            case measure => simp [intOf]; omega
        · obtain rfl : x = k := by omega
          have HO : Hid (wr.ownsRow w.heap.size 4 1 u5 ((y + 1) * x) (tbs d ((y + 1) * x))) := Lib.hid (by rw [hsm.out]; exact hown.out)
          clear hown
          go_wp2
          go_roundw
          case rel => exact ⟨y + 1, by omega, by go_num, HO, hb⟩
          case measure => simp [intOf]; omega
    · obtain rfl : y = k := by omega
      have hown2 : wr.ownsRow w.heap.size 4 1 u5 n (tbs d n) := by rw [HN.out]; exact hown.out
      obtain ⟨g2, c2, rfl, hc2, hcm, hr⟩ := marks_of_row hown2 hn0
      have HK := Lib.hid (HMK.out g2 c2 _ _ hr)
      clear hown hown2 hr hc2 hcm
      go_wp2_with (go_at_call 68; refine HK.out.mono ?_; rintro e w4 ⟨rfl, hb4⟩)
      go_ret
      exact ⟨rfl, hb.out.trans (below_weak hb4 hb.out.size)⟩
set_option maxRecDepth 4000 in
set_option maxHeartbeats 1600000 in
theorem doShape_h (k n : Nat) (w : World) (hn : n = k * k) (h0 : 1 ≤ k) (h1 : k ≤ 24) :
    Calls Tryz.prog 43 #[.int .i64 (k : Int), .int .u8 104] w fun e w' => e = .returned (.string (bt (gText k k (shD 104 k)))) ∧ Below w.heap.size w w' := by
  have hn2 : n ≤ 576 := by
    rw [hn]
    exact Nat.mul_le_mul (n₁ := k) (n₂ := 24) (m₁ := k) (m₂ := 24) h1 h1
  have hn0 : 1 ≤ n := by
    rw [hn]
    exact Nat.mul_pos h0 h0
  have HA := Lib.hid fun x y (h : x < k) => shD_at 104 k x y h
  have HMK := Lib.hid fun g c lo w' (b : Marks w' lo g n c (shD 104 k)) => make_of b hn h0 h1 h0 h1
  have HS : Hid (∀ x y, shp 104 k x y = _) := Lib.hid fun x y => rfl
  have HSM := Lib.hid fun y => Nat.succ_mul y k
  have HLE : Hid (∀ y, y < k → y * k + k ≤ n) := Lib.hid fun y hy => by rw [hn, ← Nat.succ_mul]; exact Nat.mul_le_mul_right k hy
  have HN := Lib.hid hn
  clear hn
  generalize shD 104 k = d at *
  go_enter Tryz.func43, Tryz.ntmps43
  go_wp2
  go_loopw [5, 7] (fun v i wr => ∃ y : Nat, y ≤ k ∧ i = .int .i64 (y : Int) ∧ Hid (wr.ownsRow w.heap.size 4 1 v (y * k) (tbs d (y * k))) ∧ Hid (Below w.heap.size w wr)) (fun _ i _ => k - (intOf i).toNat)
  case atStart => exact ⟨0, by omega, by simp, Lib.hid (by rw [Nat.zero_mul]; exact World.ownsRow_nil _ _ _ _), Lib.hid (Below.refl _ _)⟩
  case round =>
    obtain ⟨y, hy, rfl, hown, hb⟩ := hrel
    by_cases hlt : y < k
    · have hlt2 : (y : Int) < (k : Int) := by omega
      have hle := HLE.out y hlt
      have hsm := Lib.hid (HSM.out y)
      have HAY := Lib.hid fun x h => HA.out x y h
      generalize y * k = M at *
      go_wp2
      go_loopw [5, 8] (fun v i w2 => ∃ x : Nat, x ≤ k ∧ i = .int .i64 (x : Int) ∧ Hid (w2.ownsRow w.heap.size 4 1 v (M + x) (tbs d (M + x))) ∧ Hid (Below w.heap.size w w2)) (fun _ i _ => k - (intOf i).toNat)
      case atStart => exact ⟨0, by omega, by simp, hown, hb⟩
      case round =>
        clear hown hb
        obtain ⟨x, hx, rfl, hown, hb⟩ := hrel
        by_cases hxl : x < k
        · have hxl2 : (x : Int) < (k : Int) := by omega
          have hda := Lib.hid (HAY.out x hxl)
          have hMx : M + x ≤ 100000 := by omega
          have hS := hb.out.size
          go_wp2_with (first
            | (at_builtin; refine app_bool w.heap.size _ rfl _ _ rfl _ d (M + x) rfl hown.out hS _ rfl ?hz hMx ?_; rotate_left; intro v' w4 hG4 hg4)
            | (go_at_call 81; refine (dtAbs_any _ _ (by omega) (by omega)).mono ?_; rintro e w3 ⟨rfl, rfl⟩))
          case hz =>
            rw [hda.out]
            simp [shp]
          all_goals
            have HB4 : Hid (Below w.heap.size w w4) := Lib.hid (hb.out.grown hg4 hS fun g hg => (hown.out.lt g hg).1)
            have HG4 : Hid (w4.ownsRow w.heap.size 4 1 v' (M + (x + 1)) (tbs d (M + (x + 1)))) := Lib.hid hG4
            clear hown hb hG4 hg4 hS
            go_wp2
            go_roundw
            case rel => exact ⟨x + 1, by omega, by go_num, HG4, HB4⟩
            case measure => simp [intOf]; omega
        · obtain rfl : x = k := by omega
          have HO : Hid (wr.ownsRow w.heap.size 4 1 u5 ((y + 1) * x) (tbs d ((y + 1) * x))) := Lib.hid (by rw [hsm.out]; exact hown.out)
          clear hown
          go_wp2
          go_roundw
          case rel => exact ⟨y + 1, by omega, by go_num, HO, hb⟩
          case measure => simp [intOf]; omega
    · obtain rfl : y = k := by omega
      have hown2 : wr.ownsRow w.heap.size 4 1 u5 n (tbs d n) := by rw [HN.out]; exact hown.out
      obtain ⟨g2, c2, rfl, hc2, hcm, hr⟩ := marks_of_row hown2 hn0
      have HK := Lib.hid (HMK.out g2 c2 _ _ hr)
      clear hown hown2 hr hc2 hcm
      go_wp2_with (go_at_call 68; refine HK.out.mono ?_; rintro e w4 ⟨rfl, hb4⟩)
      go_ret
      exact ⟨rfl, hb.out.trans (below_weak hb4 hb.out.size)⟩
theorem spec_TrianglePicture_no (k : Int) (w : World) (h : k < 1 ∨ 24 < k) :
    Calls Tryz.prog 8 #[.int .i64 k] w fun e w' => e = .returned (.tuple #[.string ⟨#[]⟩, .bool false]) ∧ Below w.heap.size w w' := by
  have HI := Lib.hid fun W => rin_any k 1 24 W
  have HB := Lib.hid (betr_no h)
  go_enter Tryz.func8, Tryz.ntmps8
  go_wp2_with (go_at_call 42; refine (HI.out _).mono ?_; rw [HB.out]; rintro e w' ⟨rfl, rfl⟩)
  go_ret2
  exact ⟨rfl, Below.refl _ _⟩
theorem spec_TrianglePicture_yes (k : Nat) (w : World) (h0 : 1 ≤ k) (h1 : k ≤ 24) :
    Calls Tryz.prog 8 #[.int .i64 (k : Int)] w fun e w' => e = .returned (.tuple #[.string (bt (gText k k (shD 116 k))), .bool true]) ∧ Below w.heap.size w w' := by
  have HI := Lib.hid fun W => rin_any (k : Int) 1 24 W
  have HB := Lib.hid (betr_yes (x := (k : Int)) (lo := 1) (hi := 24) (by omega) (by omega))
  have HS := Lib.hid fun W => doShape_t k _ W rfl (by omega) (by omega)
  go_enter Tryz.func8, Tryz.ntmps8
  go_wp2_with (first
    | (go_at_call 42; refine (HI.out _).mono ?_; rw [HB.out]; rintro e w' ⟨rfl, rfl⟩)
    | (go_at_call 43; refine (HS.out _).mono ?_; rintro e w2 ⟨rfl, hb2⟩))
  go_ret2
  exact ⟨rfl, hb2⟩
theorem spec_SquarePicture_no (k : Int) (w : World) (h : k < 1 ∨ 24 < k) :
    Calls Tryz.prog 10 #[.int .i64 k] w fun e w' => e = .returned (.tuple #[.string ⟨#[]⟩, .bool false]) ∧ Below w.heap.size w w' := by
  have HI := Lib.hid fun W => rin_any k 1 24 W
  have HB := Lib.hid (betr_no h)
  go_enter Tryz.func10, Tryz.ntmps10
  go_wp2_with (go_at_call 42; refine (HI.out _).mono ?_; rw [HB.out]; rintro e w' ⟨rfl, rfl⟩)
  go_ret2
  exact ⟨rfl, Below.refl _ _⟩
theorem spec_SquarePicture_yes (k : Nat) (w : World) (h0 : 1 ≤ k) (h1 : k ≤ 24) :
    Calls Tryz.prog 10 #[.int .i64 (k : Int)] w fun e w' => e = .returned (.tuple #[.string (bt (gText k k (shD 115 k))), .bool true]) ∧ Below w.heap.size w w' := by
  have HI := Lib.hid fun W => rin_any (k : Int) 1 24 W
  have HB := Lib.hid (betr_yes (x := (k : Int)) (lo := 1) (hi := 24) (by omega) (by omega))
  have HS := Lib.hid fun W => doShape_s k _ W rfl (by omega) (by omega)
  go_enter Tryz.func10, Tryz.ntmps10
  go_wp2_with (first
    | (go_at_call 42; refine (HI.out _).mono ?_; rw [HB.out]; rintro e w' ⟨rfl, rfl⟩)
    | (go_at_call 43; refine (HS.out _).mono ?_; rintro e w2 ⟨rfl, hb2⟩))
  go_ret2
  exact ⟨rfl, hb2⟩
theorem spec_GnomonPicture_no (k : Int) (w : World) (h : k < 1 ∨ 24 < k) :
    Calls Tryz.prog 16 #[.int .i64 k] w fun e w' => e = .returned (.tuple #[.string ⟨#[]⟩, .bool false]) ∧ Below w.heap.size w w' := by
  have HI := Lib.hid fun W => rin_any k 1 24 W
  have HB := Lib.hid (betr_no h)
  go_enter Tryz.func16, Tryz.ntmps16
  go_wp2_with (go_at_call 42; refine (HI.out _).mono ?_; rw [HB.out]; rintro e w' ⟨rfl, rfl⟩)
  go_ret2
  exact ⟨rfl, Below.refl _ _⟩
theorem spec_GnomonPicture_yes (k : Nat) (w : World) (h0 : 1 ≤ k) (h1 : k ≤ 24) :
    Calls Tryz.prog 16 #[.int .i64 (k : Int)] w fun e w' => e = .returned (.tuple #[.string (bt (gText k k (shD 103 k))), .bool true]) ∧ Below w.heap.size w w' := by
  have HI := Lib.hid fun W => rin_any (k : Int) 1 24 W
  have HB := Lib.hid (betr_yes (x := (k : Int)) (lo := 1) (hi := 24) (by omega) (by omega))
  have HS := Lib.hid fun W => doShape_g k _ W rfl (by omega) (by omega)
  go_enter Tryz.func16, Tryz.ntmps16
  go_wp2_with (first
    | (go_at_call 42; refine (HI.out _).mono ?_; rw [HB.out]; rintro e w' ⟨rfl, rfl⟩)
    | (go_at_call 43; refine (HS.out _).mono ?_; rintro e w2 ⟨rfl, hb2⟩))
  go_ret2
  exact ⟨rfl, hb2⟩
theorem spec_DiamondPicture_no (k : Int) (w : World) (h : k < 1 ∨ 12 < k) :
    Calls Tryz.prog 12 #[.int .i64 k] w fun e w' => e = .returned (.tuple #[.string ⟨#[]⟩, .bool false]) ∧ Below w.heap.size w w' := by
  have HI := Lib.hid fun W => rin_any k 1 12 W
  have HB := Lib.hid (betr_no h)
  go_enter Tryz.func12, Tryz.ntmps12
  go_wp2_with (go_at_call 42; refine (HI.out _).mono ?_; rw [HB.out]; rintro e w' ⟨rfl, rfl⟩)
  go_ret2
  exact ⟨rfl, Below.refl _ _⟩
theorem spec_DiamondPicture_yes (k : Nat) (w : World) (h0 : 1 ≤ k) (h1 : k ≤ 12) :
    Calls Tryz.prog 12 #[.int .i64 (k : Int)] w fun e w' => e = .returned (.tuple #[.string (bt (gText (2 * k - 1) (2 * k - 1) (shD 100 (2 * k - 1)))), .bool true]) ∧ Below w.heap.size w w' := by
  have HI := Lib.hid fun W => rin_any (k : Int) 1 12 W
  have HB := Lib.hid (betr_yes (x := (k : Int)) (lo := 1) (hi := 12) (by omega) (by omega))
  have HS := Lib.hid fun W => doShape_d (2 * k - 1) _ W rfl (by omega) (by omega)
  obtain ⟨j, hj⟩ : ∃ j : Nat, j = 2 * k - 1 := ⟨_, rfl⟩
  rw [← hj] at HS ⊢
  have hj2 : (j : Int) = 2 * (k : Int) - 1 := by omega
  rw [hj2] at HS
  have HJ := Lib.hid hj
  clear hj hj2
  go_enter Tryz.func12, Tryz.ntmps12
  go_wp2_with (first
    | (go_at_call 42; refine (HI.out _).mono ?_; rw [HB.out]; rintro e w' ⟨rfl, rfl⟩)
    | (go_at_call 43; refine (HS.out _).mono ?_; rintro e w2 ⟨rfl, hb2⟩))
  go_ret2
  exact ⟨rfl, hb2⟩
theorem spec_HexagonPicture_no (k : Int) (w : World) (h : k < 1 ∨ 12 < k) :
    Calls Tryz.prog 14 #[.int .i64 k] w fun e w' => e = .returned (.tuple #[.string ⟨#[]⟩, .bool false]) ∧ Below w.heap.size w w' := by
  have HI := Lib.hid fun W => rin_any k 1 12 W
  have HB := Lib.hid (betr_no h)
  go_enter Tryz.func14, Tryz.ntmps14
  go_wp2_with (go_at_call 42; refine (HI.out _).mono ?_; rw [HB.out]; rintro e w' ⟨rfl, rfl⟩)
  go_ret2
  exact ⟨rfl, Below.refl _ _⟩
theorem spec_HexagonPicture_yes (k : Nat) (w : World) (h0 : 1 ≤ k) (h1 : k ≤ 12) :
    Calls Tryz.prog 14 #[.int .i64 (k : Int)] w fun e w' => e = .returned (.tuple #[.string (bt (gText (2 * k - 1) (2 * k - 1) (shD 104 (2 * k - 1)))), .bool true]) ∧ Below w.heap.size w w' := by
  have HI := Lib.hid fun W => rin_any (k : Int) 1 12 W
  have HB := Lib.hid (betr_yes (x := (k : Int)) (lo := 1) (hi := 12) (by omega) (by omega))
  have HS := Lib.hid fun W => doShape_h (2 * k - 1) _ W rfl (by omega) (by omega)
  obtain ⟨j, hj⟩ : ∃ j : Nat, j = 2 * k - 1 := ⟨_, rfl⟩
  rw [← hj] at HS ⊢
  have hj2 : (j : Int) = 2 * (k : Int) - 1 := by omega
  rw [hj2] at HS
  have HJ := Lib.hid hj
  clear hj hj2
  go_enter Tryz.func14, Tryz.ntmps14
  go_wp2_with (first
    | (go_at_call 42; refine (HI.out _).mono ?_; rw [HB.out]; rintro e w' ⟨rfl, rfl⟩)
    | (go_at_call 43; refine (HS.out _).mono ?_; rintro e w2 ⟨rfl, hb2⟩))
  go_ret2
  exact ⟨rfl, hb2⟩
end Go.Proofs.YtbabkcjnfdpafaaGreatDoor

/- Chapter 7: the specification's pictures beside and below each other. -/
namespace Go.Proofs.YtbabkcjnfdpafaaGreatDoor
open Go.ChangeShapes Go.WideShapes Go.ChangeAt Go.RowKit

theorem gText_len (W H : Nat) (d : Nat → Bool) (h : 1 ≤ H) : (gText W H d).length + 1 = H * (W + 1) := by
  have hr : ∀ r ∈ gRows W H d, r.length = W := by
    intro r hr
    obtain ⟨y, _, rfl⟩ := List.mem_map.1 hr
    exact gRow_len _ _ _
  have hn := gRows_len W H d
  unfold gText
  cases hg : gRows W H d with
  | nil => rw [hg] at hn; simp at hn; omega
  | cons r rs =>
    rw [hg] at hn hr
    simp only [joinP]
    rw [join_len 47 W rs r (fun x hx => hr x (by simp [hx])), hr r (by simp)]
    simp at hn
    rw [← hn, Nat.succ_mul]
    omega
theorem gText_no (W H : Nat) (d : Nat → Bool) (h0 : 1 ≤ H) (h : 24 < W ∨ 24 < H) : isPic (gText W H d) = false := by
  unfold isPic rowsOk
  rw [gText_parts W H d h0, gRows_head W H d h0, gRows_len, gRow_len]
  rcases h with h | h
  · rw [decide_eq_false (show ¬ W ≤ 24 by omega)]
    simp
  · rw [decide_eq_false (show ¬ H ≤ 24 by omega)]
    simp
theorem fold_app (b : UInt8) (xs : List (List UInt8)) : ∀ acc y : List UInt8, xs.foldl (fun acc x => acc ++ (b :: x)) (acc ++ y) = acc ++ xs.foldl (fun acc x => acc ++ (b :: x)) y := by
  induction xs with
  | nil => intro acc y; rfl
  | cons x xs ih =>
    intro acc y
    rw [List.foldl_cons, List.foldl_cons, List.append_assoc, ih]
theorem joinP_app (b : UInt8) (A B : List (List UInt8)) (ha : A ≠ []) (hb : B ≠ []) : joinP b (A ++ B) = joinP b A ++ (b :: joinP b B) := by
  cases A with
  | nil => exact absurd rfl ha
  | cons r rs =>
    cases B with
    | nil => exact absurd rfl hb
    | cons x xs =>
      simp only [List.cons_append, joinP, List.foldl_append, List.foldl_cons]
      rw [fold_app, show b :: x = [b] ++ x from rfl, fold_app]
      rfl
theorem gText_below (W H G : Nat) (d e : Nat → Bool) (h : 1 ≤ H) (g : 1 ≤ G) : gText W H d ++ (47 :: gText W G e) = gText W (H + G) (uD W H d e) := by
  unfold gText
  rw [← rows_below, joinP_app]
  · intro q
    have := gRows_len W H d
    rw [q] at this
    simp at this
    omega
  · intro q
    have := gRows_len W G e
    rw [q] at this
    simp at this
    omega
theorem doRows_gen (s : ByteArray) (w : World) (hs : s.size ≤ 2000000) :
    Calls Tryz.prog 64 #[.string s] w fun e w' => ∃ A n c, e = .returned (.tuple #[.slice A n c, .bool (isPic s.data.toList)]) ∧ Below w.heap.size w w' := by
  refine (doRows_any s w (by omega)).mono ?_
  rintro e w' ⟨⟨h, A, c, rfl, _⟩ | ⟨h, rfl⟩, hb⟩
  · exact ⟨A, _, c, by rw [show isPic s.data.toList = true from h], hb⟩
  · exact ⟨none, 0, 0, by rw [show isPic s.data.toList = false from h], hb⟩
theorem beside_at (W V H : Nat) (d e : Nat → Bool) (y : Nat) (h : y < H) : gRow W d y ++ gRow V e y = gRow (W + V) (bD W V d e) y := by
  have k : (List.zipWith (· ++ ·) (gRows W H d) (gRows V H e)).getD y [] = (gRows (W + V) H (bD W V d e)).getD y [] := by rw [rows_beside W V H d e]
  rw [gRows_at _ _ _ _ h] at k
  rw [← k]
  simp [List.getD, gRows, h]
theorem text_wide {W H c g lo : Nat} {d : Nat → Bool} {w : World} (hr : RowsAt w lo g H (gRows W H d)) (hc : H ≤ c) (w1 : W ≤ 50) (h0 : 1 ≤ H) (h1 : H ≤ 50) :
    Calls Tryz.prog 96 #[.slice (some ⟨g, 0, none⟩) H c] w fun e w' => e = .returned (.string (bt (gText W H d))) ∧ w = w' :=
  doText_any g 0 H c (gRows W H d) w (gRows_len W H d).symm h0 (by omega) hc (fun r hr => by obtain ⟨y, _, rfl⟩ := List.mem_map.1 hr; rw [gRow_len]; omega) (fun j hj => by rw [Nat.zero_add]; exact hr.cell j hj)
end Go.Proofs.YtbabkcjnfdpafaaGreatDoor

/- Chapter 7: the specification's pictures beside and below each other, 2. -/
namespace Go.Proofs.YtbabkcjnfdpafaaGreatDoor
open Go.ChangeShapes Go.WideShapes Go.ChangeAt Go.RowKit

theorem rows_pic (x : ByteArray) (w : World) (hs : x.size ≤ 2000000) (h : isPic x.data.toList = true) :
    Calls Tryz.prog 64 #[.string x] w fun e w' => ∃ g c, e = .returned (.tuple #[.slice (some ⟨g, 0, none⟩) (pH x.data.toList) c, .bool true]) ∧ pH x.data.toList ≤ c ∧ RowsAt w' w.heap.size g (pH x.data.toList) (gRows (pW x.data.toList) (pH x.data.toList) (pD x.data.toList)) ∧ Below w.heap.size w w' := by
  rw [pic_rows h]
  exact doRows_yes x w (by omega) h
theorem bt_self (s : ByteArray) : bt s.data.toList = s := by
  cases s
  simp [bt]
theorem below_text (s t : ByteArray) (a : isPic s.data.toList = true) (b : isPic t.data.toList = true) (h : pW s.data.toList = pW t.data.toList) :
    (s ++ ⟨#[47]⟩) ++ t = bt (gText (pW s.data.toList) (pH s.data.toList + pH t.data.toList) (uD (pW s.data.toList) (pH s.data.toList) (pD s.data.toList) (pD t.data.toList))) := by
  rw [← gText_below _ _ _ _ _ (pic_b a).h0 (pic_b b).h0, pic_text a, h, pic_text b]
  conv => lhs; rw [← bt_self s, ← bt_self t]
  rw [show (⟨#[47]⟩ : ByteArray) = bt [47] from rfl, bt_app, bt_app]
  simp
theorem pic_size (s : ByteArray) (a : isPic s.data.toList = true) : s.size ≤ 1000 := by
  have := pic_600 a
  have e : s.data.toList.length = s.size := by simp
  omega
end Go.Proofs.YtbabkcjnfdpafaaGreatDoor

/- Chapter 7: LeastPicture, by the specification. -/
namespace Go.Proofs.YtbabkcjnfdpafaaGreatDoor
open Go.ChangeShapes Go.WideShapes Go.ChangeAt Go.RowKit

theorem bt_toList (l : List UInt8) : (bt l).toList = l := by
  have h : (bt l).toList = (bt l).data.toList := ByteArray.toList_eq _
  rw [h]
  rfl
/-- What the two rounds begin with; what they come to. -/
def qOf (W H : Nat) (d : Nat → Bool) (j : Nat) : Gc := if j = 0 then (W, H, d) else (W, H, mD W d)
def lOf (L : List UInt8) (W H : Nat) (d : Nat → Bool) : Nat → List UInt8
  | 0 => L
  | j + 1 => bst (lOf L W H d j) (pcOf (qOf W H d j)) 4
theorem qOf_w (W H : Nat) (d : Nat → Bool) (j : Nat) : (qOf W H d j).1 = W ∧ (qOf W H d j).2.1 = H := by
  unfold qOf
  split <;> exact ⟨rfl, rfl⟩
end Go.Proofs.YtbabkcjnfdpafaaGreatDoor
