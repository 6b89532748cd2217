/- The texts XDtH XDtI XDtJ XDtK XDtL XDtR XDtS XDtT XDtU XDvM joined. -/
import Derived.Test.YtmcdmacpgjkelaaDoorMb
import Derived.Laws.OwnMore
import Derived.Laws.AppendOwnNone
import Derived.Deep.RegionHeld3
import Derived.Test.YtmcdmacpgjkelaaDoorMa
/- Chapter 7: rows of marks in memory; the specification's marks of a picture. -/
namespace Go.Proofs.YtmcdmacpgjkelaaDoor
open Go.ChangeShapes Go.WideShapes Go.ChangeAt Go.RowKit

theorem infoBool : (Tryd.prog.info? 4).map (fun i => (i.zero, i.size, i.bytes)) = some (some (.bool false), 1, 1) := by kernel_rfl
/-- The marks d 0, .., d (n - 1). -/
def tbs (d : Nat → Bool) (n : Nat) : List Value := (List.range n).map fun i => Value.bool (d i)
theorem tbs_len (d : Nat → Bool) (n : Nat) : (tbs d n).length = n := by simp [tbs]
theorem tbs_get (d : Nat → Bool) (n j : Nat) (h : j < n) : (tbs d n)[j]? = some (.bool (d j)) := by simp [tbs, h]
theorem tbs_succ (d : Nat → Bool) (n : Nat) : tbs d (n + 1) = tbs d n ++ [.bool (d n)] := by simp [tbs, List.range_succ]
/-- d, but b at j. -/
def updB (d : Nat → Bool) (j : Nat) (b : Bool) : Nat → Bool := fun m => if m = j then b else d m
theorem tbs_set (d : Nat → Bool) (n j : Nat) (b : Bool) : (tbs d n).set j (.bool b) = tbs (updB d j b) n := by
  apply List.ext_getElem?
  intro i
  by_cases hi : i < n
  · rw [tbs_get _ _ _ hi, List.getElem?_set]
    by_cases e : j = i
    · subst e; simp [tbs_len, hi, updB]
    · have e2 : ¬ i = j := fun h => e h.symm
      rw [if_neg e, tbs_get _ _ _ hi]
      simp [updB, e2]
  · rw [List.getElem?_eq_none (by simp [tbs_len]; omega), List.getElem?_eq_none (by simp [tbs_len]; omega)]
theorem tbs_congr {d e : Nat → Bool} {n : Nat} (h : ∀ m, m < n → d m = e m) : tbs d n = tbs e n := by
  unfold tbs
  exact List.map_congr_left fun i hi => by rw [h i (List.mem_range.1 hi)]
/-- Block g is a row of the call's own that has the marks d 0, .., d (n - 1). -/
def Marks (w : World) (base g n c : Nat) (d : Nat → Bool) : Prop := w.ownsRow base 4 1 (.slice (some ⟨g, 0, none⟩) n c) n (tbs d n)
section
variable {w w' : World} {base g n c : Nat} {d e : Nat → Bool}
theorem Marks.cell (h : Marks w base g n c d) {j : Nat} (hj : j < n) : w.cell? ⟨g, j, none⟩ = some (.bool (d j)) := by
  rw [World.ownsRow.cellAt h j (by omega)]
  simp [tbs_get d n j hj]
theorem Marks.frozen (h : Marks w base g n c d) (j : Nat) : w.frozen? ⟨g, j, none⟩ = false := World.ownsRow.frozenAt h j
theorem Marks.set (h : Marks w base g n c d) (j : Nat) (b : Bool) : Marks (w.setCell ⟨g, j, none⟩ (.bool b)) base g n c (updB d j b) := by
  have h1 := (World.ownsRow.stored h j (.bool b)).1
  rw [tbs_set] at h1
  exact h1
theorem Marks.congr (h : Marks w base g n c d) (he : ∀ m, m < n → d m = e m) : Marks w base g n c e := by
  unfold Marks at h ⊢
  rwa [tbs_congr he] at h
theorem Marks.lt (h : Marks w base g n c d) : base ≤ g ∧ g < w.heap.size := World.ownsRow.lt h g rfl
theorem Marks.below {B : Nat} (h : Marks w base g n c d) (hb : Below B w w') (hB : w.heap.size ≤ B) : Marks w' base g n c d := row_below h hb hB
theorem Marks.mono {lo : Nat} (h : Marks w base g n c d) (hb : lo ≤ base) : Marks w lo g n c d := by
  refine ⟨h.1, ?_⟩
  rcases h.2 with h2 | ⟨a, b, u, q, r, s⟩
  · exact .inl h2
  · exact .inr ⟨a, b, u, q, by omega, s⟩
theorem marks_made (h : w.ownsRow base 4 1 (.slice (some ⟨g, 0, none⟩) n c) n (madeCells (Value.bool false).cells (n * 1)).toList) : Marks w base g n c (fun _ => false) := by
  unfold Marks
  have e : (madeCells (Value.bool false).cells (n * 1)).toList = tbs (fun _ => false) n := by
    rw [Nat.mul_one]
    show (madeCells #[Value.bool false] n).toList = _
    rw [toList_madeCells_one]
    apply List.ext_getElem?
    intro j
    by_cases hj : j < n
    · simp [tbs_get _ n j hj, hj]
    · rw [List.getElem?_eq_none (by simp; omega), List.getElem?_eq_none (by simp [tbs_len]; omega)]
  rwa [e] at h
end
theorem marks_of_row {w : World} {lo n : Nat} {V : Value} {d : Nat → Bool} (h : w.ownsRow lo 4 1 V n (tbs d n)) (h1 : 1 ≤ n) : ∃ g c, V = .slice (some ⟨g, 0, none⟩) n c ∧ n ≤ c ∧ c ≤ maxLen ∧ Marks w lo g n c d := by
  have hh := h
  rcases h.2 with ⟨_, h0⟩ | ⟨g, c, cur, rfl, hlo, hcell, hc, hmax, hsz, htk⟩
  · omega
  · exact ⟨g, c, rfl, hc, hmax, hh⟩
/-- A string's iterator moved on leaves a row a row. -/
theorem own_iterAt {w : World} {base : Nat} {e : TypeId} {size : Nat} {v : Value} {n : Nat} {xs : List Value} (h : w.ownsRow base e size v n xs) {k : Nat} {s : ByteArray} {pos : Nat} (hk : w.heap[k]? = some (.stringIter s pos)) (p : Nat) : (w.iterAt k s p).ownsRow base e size v n xs := by
  refine ⟨h.1, ?_⟩
  rcases h.2 with h2 | ⟨g, cap, cur, a, b, c, d⟩
  · exact .inl h2
  · refine .inr ⟨g, cap, cur, a, b, ?_, d⟩
    have hne : g ≠ k := by
      intro e1
      rw [e1, hk] at c
      cases c
    rw [Lib.iterAt_other _ _ _ _ _ hne]
    exact c
theorem iter_grown {w w' : World} {base : Nat} {e : TypeId} {size : Nat} {v : Value} {n : Nat} {xs : List Value} (h : w.ownsRow base e size v n xs) (hg : w.grownBy w' v.ownBlock) {k : Nat} {s : ByteArray} {pos : Nat} (hk : w.heap[k]? = some (.stringIter s pos)) : w'.heap[k]? = some (.stringIter s pos) := by
  have hlt : k < w.heap.size := (Array.getElem?_eq_some_iff.1 hk).1
  rw [hg.block k hlt ?_]
  · exact hk
  · intro e1
    rcases h.2 with ⟨h2, _⟩ | ⟨g, cap, cur, a, b, c, d⟩
    · rw [h2] at e1; cases e1
    · rw [a] at e1
      have e2 : k = g := by simpa [Value.ownBlock] using e1
      rw [← e2, hk] at c
      cases c
theorem iter_alloc {w : World} {k : Nat} {s : ByteArray} {pos : Nat} (hk : w.heap[k]? = some (.stringIter s pos)) (o : Obj) : (w.alloc o).heap[k]? = some (.stringIter s pos) := by
  have hlt : k < w.heap.size := (Array.getElem?_eq_some_iff.1 hk).1
  rw [(World.grownBy_alloc w o none).block k hlt (by simp)]
  exact hk
set_option maxRecDepth 4000 in
set_option maxHeartbeats 1600000 in
theorem doMarks_any (g W H c lo : Nat) (d : Nat → Bool) (w : World) (w0 : 1 ≤ W) (w1 : W ≤ 50) (h0 : 1 ≤ H) (h1 : H ≤ 50) (hnc : H ≤ c) (hr : RowsAt w lo g H (gRows W H d)) :
    Calls Tryd.prog 33 #[.slice (some ⟨g, 0, none⟩) H c] w fun e w' => ∃ g' c', e = .returned (.tuple #[.int .i64 (W : Int), .int .i64 (H : Int), .slice (some ⟨g', 0, none⟩) (W * H) c']) ∧ W * H ≤ c' ∧ Marks w' w.heap.size g' (W * H) c' d ∧ Below w.heap.size w w' := by
  obtain ⟨i0, hi0, hz0, hz1, hz2⟩ := info_parts infoBool
  have HC : Hid (∀ y, y < H → w.cell? ⟨g, y, none⟩ = some (.string (bt (gRow W d y)))) := Lib.hid fun y hy => by rw [hr.cell y hy, gRows_at W H d y hy]
  have hg := hr.hi
  have hh : (0 : Int) < (H : Int) := by omega
  have HTL := Lib.hid fun n => tbs_len d n
  have HTS := Lib.hid fun n => tbs_succ d n
  have HWH : Hid (W * H ≤ 2500) := Lib.hid (Nat.mul_le_mul (n₁ := W) (n₂ := 50) (m₁ := H) (m₂ := 50) w1 h1)
  clear hr
  go_enter Tryd.func33, Tryd.ntmps33
  go_wp2
  go_loopw [5, 11] (fun v i wr => ∃ y : Nat, y ≤ H ∧ i = .int .i64 (y : Int) ∧ Hid (wr.ownsRow w.heap.size 4 1 v (y * W) (tbs d (y * W))) ∧ Hid (Below w.heap.size w wr)) (fun _ i _ => H - (intOf i).toNat)
  case atStart => exact ⟨0, by omega, by simp, Lib.hid (by rw [Nat.zero_mul]; exact World.ownsRow_nil _ _ _ _), Lib.hid (Below.refl _ _)⟩
  case round =>
    obtain ⟨y, hy, rfl, hown, hb⟩ := hrel
    by_cases hlt : y < H
    · have hlt2 : (y : Int) < (H : Int) := by omega
      have c0 : wr.cell? ⟨g, y, none⟩ = some (.string (bt (gRow W d y))) := (hb.out.cell (p := ⟨g, y, none⟩) hg).trans (HC.out y hlt)
      have hM : Hid ((y + 1) * W = y * W + W) := Lib.hid (Nat.succ_mul y W)
      have hM2 : y * W + W ≤ 2500 := by
        rw [← hM.out]
        exact Nat.le_trans (Nat.mul_le_mul_right W hlt) (by rw [Nat.mul_comm]; exact HWH.out)
      have H128 := Lib.hid fun x h => gRow_128 W d y x h
      have HAT : Hid (∀ x (h : x < (bt (gRow W d y)).size), (bt (gRow W d y))[x]'h = sgn (d (y * W + x))) := Lib.hid fun x h => by
        rw [bt_at, gRow_at _ _ _ _ (by rw [bt_size, gRow_len] at h; exact h)]
      have hsz : (bt (gRow W d y)).size = W := by rw [bt_size, gRow_len]
      generalize bt (gRow W d y) = s at *
      generalize y * W = M at *
      have hk0 : Hid ((wr.iter s 0).heap[wr.heap.size]? = some (.stringIter s 0)) := Lib.hid (by
        have h5 := World.iter_heap wr s 0
        simpa using h5)
      have hb0 : Hid (Below w.heap.size w (wr.iter s 0)) := Lib.hid (hb.out.alloc hb.out.size _)
      have ho0 : Hid ((wr.iter s 0).ownsRow w.heap.size 4 1 u5 M (tbs d M)) := Lib.hid (hown.out.alloc _)
      have hwk : Hid (w.heap.size ≤ wr.heap.size) := Lib.hid hb.out.size
      go_wp2
      generalize wr.heap.size = k at *
      go_loopw [5] (fun v w2 => ∃ x : Nat, x ≤ W ∧ Hid (w2.heap[k]? = some (.stringIter s x)) ∧ Hid (w2.ownsRow w.heap.size 4 1 v (M + x) (tbs d (M + x))) ∧ Hid (Below w.heap.size w w2)) (fun _ w2 => W - w2.iterPos k)
      case atStart => exact ⟨0, by omega, hk0, ho0, hb0⟩
      case round =>
        obtain ⟨x, hx, hk, hown2, hb2⟩ := hrel
        clear hk0 ho0 hb0
        by_cases hxl : x < W
        · have hxs : x < s.size := by omega
          have h128 := H128.out x hxs
          have hat := HAT.out x hxs
          have hnext : ∀ ty, (Instr.next (.pointer (some ⟨k, 0, none⟩)) true ty).run Tryd.prog wr = _ := fun ty => Lib.run_next_ascii_at wr k s x ty hk.out hxs h128
          have hk1 := Lib.hid (Lib.iterAt_heap wr k s x (x + 1) hk.out)
          have hb1 := Lib.hid (Lib.below_iterAt hb2.out hwk.out s (x + 1))
          have hown1 := Lib.hid (own_iterAt hown2.out hk.out (x + 1))
          have hmu : wr.iterPos k = x := by simp [World.iterPos, hk.out]
          generalize wr.iterAt k s (x + 1) = W1 at hnext hk1 hb1 hown1
          have hbq : ((s[x].toNat : Int) == 111) = d (M + x) := by
            rw [hat]
            cases d (M + x) <;> decide
          have hts := HTS.out (M + x)
          have hM3 : M + x < 2500 := by omega
          have HMU := Lib.hid hmu
          clear hat hmu
          go_wp2_with (at_builtin; refine wpList_append_own _ rfl _ _ 48 rfl w.heap.size 4 i0 (.bool false) 1 1 Tryd.underlying48 hi0 hz0 hz1 hz2 rfl (by decide) _ _ _ rfl (hown1.out.alloc _) ⟨W1.heap.size, 0, none⟩ 1 1 [.bool (d (M + x))] rfl rfl ?c1 ?c2 ?c3 ?c4 ?c5 ?_)
          case c1 =>
            intro j u hj
            match j, hj with
            | 0, hj => simp at hj; subst hj; simp [Addr.add]
          case c2 => intro u hu; simp at hu; subst hu; rfl
          case c3 => unfold maxLen; omega
          case c4 => omega
          case c5 => have := hb1.out.size; simp; omega
          · intro v' w4 hown' hgrow _
            have HO4 : Hid (w4.ownsRow w.heap.size 4 1 v' (M + (x + 1)) (tbs d (M + (x + 1)))) := Lib.hid (by
              rw [← Nat.add_assoc, hts]
              exact hown')
            have HB4 : Hid (Below w.heap.size w w4) := Lib.hid ((hb1.out.alloc hb1.out.size _).grown hgrow (by have := hb1.out.size; simp; omega) fun g hg => (hown1.out.lt g hg).1)
            have HK4 : Hid (w4.heap[k]? = some (.stringIter s (x + 1))) := Lib.hid (iter_grown (hown1.out.alloc _) hgrow (iter_alloc hk1.out _))
            have hmu2 : w4.iterPos k = x + 1 := by simp [World.iterPos, HK4.out]
            have HMU2 := Lib.hid hmu2
            clear hmu2 hown' hgrow hown1 hb1 hown2 hb2 hk hk1 hnext hts hbq
            go_wp2
            go_roundw
            case rel => exact ⟨x + 1, by omega, HK4, HO4, HB4⟩
            case measure => rw [HMU.out, HMU2.out]; omega
        · obtain rfl : x = W := by omega
          have hnext : ∀ ty, (Instr.next (.pointer (some ⟨k, 0, none⟩)) true ty).run Tryd.prog wr = _ := fun ty => Lib.run_next_end_at wr k s x ty hk.out (by omega)
          have HO4 : Hid (wr.ownsRow w.heap.size 4 1 u5 ((y + 1) * x) (tbs d ((y + 1) * x))) := Lib.hid (by rw [hM.out]; exact hown2.out)
          clear hown2 hk
          go_wp2
          go_roundw
          case rel => exact ⟨y + 1, by omega, by go_num, HO4, hb2⟩
          case measure => simp [intOf]; omega
    · obtain rfl : y = H := by omega
      have c0 : wr.cell? ⟨g, 0, none⟩ = some (.string (bt (gRow W d 0))) := (hb.out.cell (p := ⟨g, 0, none⟩) hg).trans (HC.out 0 (by omega))
      have hsz : (bt (gRow W d 0)).size = W := by rw [bt_size, gRow_len]
      generalize bt (gRow W d 0) = s at *
      have hmul : y * W = W * y := Nat.mul_comm _ _
      have hpos : 1 ≤ W * y := Nat.mul_pos (by omega) (by omega)
      have hown2 : wr.ownsRow w.heap.size 4 1 u5 (W * y) (tbs d (W * y)) := by rw [← hmul]; exact hown.out
      obtain ⟨g2, c2, rfl, hc2, hcm, hr⟩ := marks_of_row hown2 hpos
      have HR2 := Lib.hid hr
      have HC2 := Lib.hid hc2
      clear hown hown2 hr hmul hpos hc2 hcm
      go_wp2
      go_ret3
      exact ⟨g2, c2, rfl, HC2.out, HR2.out, hb.out⟩
end Go.Proofs.YtmcdmacpgjkelaaDoor

/- Chapter 7: the specification's places beside one. -/
namespace Go.Proofs.YtmcdmacpgjkelaaDoor
open Go.ChangeShapes Go.WideShapes Go.ChangeAt Go.RowKit

theorem infoInt7 : (Tryd.prog.info? 3).map (fun i => (i.zero, i.size, i.bytes)) = some (some (.int .i64 0), 1, 8) := by kernel_rfl
/-- Places as numbers. -/
def ofN (xs : List Nat) : List Int := xs.map fun (x : Nat) => (x : Int)
/-- A row of the call's own that grows number by number. -/
structure Grw (w0 w : World) (v : Value) (xs : List Int) : Prop where
  row : w.ownsRow w0.heap.size 3 1 v xs.length (i64s xs)
  below : Below w0.heap.size w0 w
theorem Grw.cast {w0 w : World} {v : Value} {xs ys : List Int} (h : Grw w0 w v xs) (e : xs = ys) : Grw w0 w v ys := e ▸ h
theorem grw_nil (w : World) : Grw w w (.slice none 0 0) [] := ⟨World.ownsRow_nil _ _ _ _, Below.refl _ _⟩
end Go.Proofs.YtmcdmacpgjkelaaDoor

/- Chapter 7: the specification's border. -/
namespace Go.Proofs.YtmcdmacpgjkelaaDoor
open Go.ChangeShapes Go.WideShapes Go.ChangeAt Go.RowKit

/-- The border among the first a places. -/
def pbr (W H : Nat) (d : Nat → Bool) (a : Nat) (i : Nat) : Bool := decide (i < a) && brd W H d i
theorem pbr_zero (W H : Nat) (d : Nat → Bool) (i : Nat) : pbr W H d 0 i = false := by simp [pbr]
theorem pbr_succ (W H : Nat) (d : Nat → Bool) (a i : Nat) : updB (pbr W H d a) a (brd W H d a) i = pbr W H d (a + 1) i := by
  unfold updB pbr
  by_cases h : i = a
  · subst h
    simp
  · rw [if_neg h]
    have : (i < a) ↔ (i < a + 1) := by omega
    simp only [this]
theorem pbr_all (W H : Nat) (d : Nat → Bool) (n i : Nat) (h : i < n) : pbr W H d n i = brd W H d i := by simp [pbr, h]
/-- Whether a place is open by its first k places beside. -/
def opn (W H : Nat) (d : Nat → Bool) (i k : Nat) : Bool := decide ((nbs W H i).length < 4) || ((nbs W H i).take k).any fun j => !d j
theorem opn_succ (W H : Nat) (d : Nat → Bool) (i k : Nat) (h : k < (nbs W H i).length) : opn W H d i (k + 1) = (opn W H d i k || !d ((nbs W H i)[k])) := by
  unfold opn
  rw [List.take_succ_eq_append_getElem h, List.any_append]
  simp [Bool.or_assoc]
theorem opn_all (W H : Nat) (d : Nat → Bool) (i : Nat) : brd W H d i = (d i && opn W H d i (nbs W H i).length) := by
  unfold brd opn
  rw [List.take_length]
end Go.Proofs.YtmcdmacpgjkelaaDoor

/- Chapter 7: the specification's border taken away. -/
namespace Go.Proofs.YtmcdmacpgjkelaaDoor
open Go.ChangeShapes Go.WideShapes Go.ChangeAt Go.RowKit

/-- The dots left when the first a places are taken. -/
def ptk (W H : Nat) (d : Nat → Bool) (a : Nat) (i : Nat) : Bool := if i < a then tkn W H d i else d i
theorem ptk_zero (W H : Nat) (d : Nat → Bool) (i : Nat) : d i = ptk W H d 0 i := by simp [ptk]
theorem ptk_yes (W H : Nat) (d : Nat → Bool) (a i : Nat) (h : brd W H d a = true) : updB (ptk W H d a) a false i = ptk W H d (a + 1) i := by
  unfold updB ptk
  by_cases e : i = a
  · subst e
    rw [if_pos rfl, if_pos (by omega)]
    simp [tkn, h]
  · rw [if_neg e]
    have : (i < a) ↔ (i < a + 1) := by omega
    simp only [this]
theorem ptk_no (W H : Nat) (d : Nat → Bool) (a i : Nat) (h : brd W H d a = false) : ptk W H d a i = ptk W H d (a + 1) i := by
  unfold ptk
  by_cases e : i = a
  · subst e
    rw [if_neg (by omega), if_pos (by omega)]
    simp [tkn, h]
  · have : (i < a) ↔ (i < a + 1) := by omega
    simp only [this]
theorem ptk_all (W H : Nat) (d : Nat → Bool) (n i : Nat) (h : i < n) : ptk W H d n i = tkn W H d i := by simp [ptk, h]
theorem Marks.put {w : World} {base g n c b j : Nat} {d : Nat → Bool} (h : Marks w base g n c d) (hb : b < base) (v : Value) : Marks (w.setCell ⟨b, j, none⟩ v) base g n c d :=
  ownsRow_setCell_below h hb v
theorem grownBy_of_below {w w' : World} (h : Below w.heap.size w w') (row : Option Nat) : w.grownBy w' row := ⟨h.os, h.tape, h.output, h.size, fun k hk _ => h.block k hk⟩
theorem grownBy_trans {w w1 w2 : World} {row : Option Nat} (h : w.grownBy w1 row) (k : w1.grownBy w2 row) : w.grownBy w2 row :=
  ⟨k.os.trans h.os, k.tape.trans h.tape, k.output.trans h.output, Nat.le_trans h.size k.size, fun i hi hr => (k.block i (Nat.lt_of_lt_of_le hi h.size) hr).trans (h.block i hi hr)⟩
theorem grownBy_set {w w1 : World} {g j : Nat} (h : w.grownBy w1 (some g)) (v : Value) : w.grownBy (w1.setCell ⟨g, j, none⟩ v) (some g) := by
  have hb := (Below.refl g w1).setCell (p := ⟨g, j, none⟩) (Nat.le_refl _) v
  refine grownBy_trans h ⟨hb.os, hb.tape, hb.output, hb.size, fun i hi hr => ?_⟩
  have hne : ¬ i = g := fun e => hr (by rw [e])
  simp only [World.setCell]
  rw [Array.getElem?_modify, if_neg (fun e => hne e.symm)]
end Go.Proofs.YtmcdmacpgjkelaaDoor

/- Chapter 7: the specification's pictures turned, mirrored, with other dots, their borders. -/
namespace Go.Proofs.YtmcdmacpgjkelaaDoor
open Go.ChangeShapes Go.WideShapes Go.ChangeAt Go.RowKit

theorem below_weak {j k : Nat} {a b : World} (h : Below k a b) (hj : j ≤ k) : Below j a b := ⟨h.os, h.tape, h.output, h.size, fun i hi => h.block i (by omega)⟩
/-- A text is the picture of W columns and H rows with the dots d. -/
structure IsP (s : ByteArray) (W H n : Nat) (d : Nat → Bool) : Prop where
  w0 : 1 ≤ W
  w1 : W ≤ 24
  h0 : 1 ≤ H
  h1 : H ≤ 24
  n : n = W * H
  rows : ∀ w : World, Calls Tryd.prog 27 #[.string s] w fun e w' => ∃ g c, e = .returned (.tuple #[.slice (some ⟨g, 0, none⟩) H c, .bool true]) ∧ H ≤ c ∧ RowsAt w' w.heap.size g H (gRows W H d) ∧ Below w.heap.size w w'
theorem isP_of (s : ByteArray) (hs : s.size ≤ 2000000) (h : isPic s.data.toList = true) : IsP s (pW s.data.toList) (pH s.data.toList) (pW s.data.toList * pH s.data.toList) (pD s.data.toList) := by
  have hb := pic_b h
  refine ⟨hb.w0, hb.w1, hb.h0, hb.h1, rfl, fun w => ?_⟩
  rw [pic_rows h]
  exact doRows_yes s w (by omega) h
theorem doMarks_n (g W H n c lo : Nat) (d : Nat → Bool) (w : World) (hn : n = W * H) (w0 : 1 ≤ W) (w1 : W ≤ 50) (h0 : 1 ≤ H) (h1 : H ≤ 50) (hnc : H ≤ c) (hr : RowsAt w lo g H (gRows W H d)) :
    Calls Tryd.prog 33 #[.slice (some ⟨g, 0, none⟩) H c] w fun e w' => ∃ g' c', e = .returned (.tuple #[.int .i64 (W : Int), .int .i64 (H : Int), .slice (some ⟨g', 0, none⟩) n c']) ∧ Marks w' w.heap.size g' n c' d ∧ Below w.heap.size w w' := by
  subst hn
  refine (doMarks_any g W H c lo d w w0 w1 h0 h1 hnc hr).mono ?_
  rintro e w' ⟨g', c', rfl, _, hm, hb⟩
  exact ⟨g', c', rfl, hm, hb⟩
theorem make_of {W H n c g lo : Nat} {d : Nat → Bool} {w : World} (hm : Marks w lo g n c d) (hn : n = W * H) (w0 : 1 ≤ W) (w1 : W ≤ 24) (h0 : 1 ≤ H) (h1 : H ≤ 24) :
    Calls Tryd.prog 34 #[.int .i64 (W : Int), .int .i64 (H : Int), .slice (some ⟨g, 0, none⟩) n c] w fun e w' => e = .returned (.string (bt (gText W H d))) ∧ Below w.heap.size w w' :=
  doMake_any W H n c g d w hn w0 (by omega) h0 (by omega) hm.lt.2 fun i hi => hm.cell hi
theorem text_of {W H c g lo : Nat} {d : Nat → Bool} {w : World} (hr : RowsAt w lo g H (gRows W H d)) (hc : H ≤ c) (w1 : W ≤ 24) (h0 : 1 ≤ H) (h1 : H ≤ 50) :
    Calls Tryd.prog 28 #[.slice (some ⟨g, 0, none⟩) H c] w fun e w' => e = .returned (.string (bt (gText W H d))) ∧ w = w' :=
  doText_any g 0 H c (gRows W H d) w (gRows_len W H d).symm h0 (by omega) hc (fun r hr => by obtain ⟨y, _, rfl⟩ := List.mem_map.1 hr; rw [gRow_len]; omega) (fun j hj => by rw [Nat.zero_add]; exact hr.cell j hj)
theorem spec_TurnPicture_no (s : ByteArray) (w : World) (hs : s.size ≤ 2000000) (h : isPic s.data.toList = false) :
    Calls Tryd.prog 8 #[.string s] w fun e w' => e = .returned (.tuple #[.string ⟨#[]⟩, .bool false]) ∧ Below w.heap.size w w' := by
  have HR := Lib.hid fun W => doRows_no s W (by omega) h
  clear h
  go_enter Tryd.func8, Tryd.ntmps8
  go_wp2_with (go_at_call 27; refine (HR.out _).mono ?_; rintro e w1 ⟨rfl, hb1⟩)
  go_ret2
  exact ⟨rfl, hb1⟩
theorem spec_MirrorPicture_no (s : ByteArray) (w : World) (hs : s.size ≤ 2000000) (h : isPic s.data.toList = false) :
    Calls Tryd.prog 10 #[.string s] w fun e w' => e = .returned (.tuple #[.string ⟨#[]⟩, .bool false]) ∧ Below w.heap.size w w' := by
  have HR := Lib.hid fun W => doRows_no s W (by omega) h
  clear h
  go_enter Tryd.func10, Tryd.ntmps10
  go_wp2_with (go_at_call 27; refine (HR.out _).mono ?_; rintro e w1 ⟨rfl, hb1⟩)
  go_ret2
  exact ⟨rfl, hb1⟩
theorem spec_OtherDots_no (s : ByteArray) (w : World) (hs : s.size ≤ 2000000) (h : isPic s.data.toList = false) :
    Calls Tryd.prog 12 #[.string s] w fun e w' => e = .returned (.tuple #[.string ⟨#[]⟩, .bool false]) ∧ Below w.heap.size w w' := by
  have HR := Lib.hid fun W => doRows_no s W (by omega) h
  clear h
  go_enter Tryd.func12, Tryd.ntmps12
  go_wp2_with (go_at_call 27; refine (HR.out _).mono ?_; rintro e w1 ⟨rfl, hb1⟩)
  go_ret2
  exact ⟨rfl, hb1⟩
theorem spec_TurnPicture_yes (s : ByteArray) (W H n : Nat) (d : Nat → Bool) (w : World) (hp : IsP s W H n d) :
    Calls Tryd.prog 8 #[.string s] w fun e w' => e = .returned (.tuple #[.string (bt (gText H W (tD W H d))), .bool true]) ∧ Below w.heap.size w w' := by
  obtain ⟨w0, w1, h0, h1, hn, HR⟩ := hp
  have HT := Lib.hid fun g c lo w' (a : H ≤ c) (b : RowsAt w' lo g H (gRows W H d)) => doTurn_any g W H c lo d w' w0 (by omega) h0 (by omega) a b
  have HX := Lib.hid fun g c lo w' (a : W ≤ c) (b : RowsAt w' lo g W (gRows H W (tD W H d))) => text_of b a (by omega) w0 (by omega)
  have HRR := Lib.hid HR
  clear HR
  generalize gText H W (tD W H d) = t at *
  generalize gRows H W (tD W H d) = R2 at *
  generalize gRows W H d = R at *
  go_enter Tryd.func8, Tryd.ntmps8
  go_wp2_with (first
    | (go_at_call 27; refine (HRR.out _).mono ?_; rintro e w1 ⟨g, c, rfl, hc, hr, hb1⟩)
    | (go_at_call 29; refine (HT.out g c _ _ hc hr).mono ?_; rintro e w2 ⟨g2, c2, rfl, hc2, hr2, hb2⟩)
    | (go_at_call 28; refine (HX.out g2 c2 _ _ hc2 hr2).mono ?_; rintro e w3 ⟨rfl, rfl⟩))
  go_ret2
  exact ⟨rfl, hb1.trans (below_weak hb2 hb1.size)⟩
theorem rows_rev (W H : Nat) (d : Nat → Bool) (j : Nat) : ((gRows W H d).getD j []).length ≤ 100 ∨ 100 < W := by
  by_cases h : j < H
  · rw [gRows_at W H d j h, gRow_len]
    omega
  · left
    rw [List.getD, List.getElem?_eq_none (by rw [gRows_len]; omega)]
    simp
theorem spec_MirrorPicture_yes (s : ByteArray) (W H n : Nat) (d : Nat → Bool) (w : World) (hp : IsP s W H n d) :
    Calls Tryd.prog 10 #[.string s] w fun e w' => e = .returned (.tuple #[.string (bt (gText W H (mD W d))), .bool true]) ∧ Below w.heap.size w w' := by
  obtain ⟨w0, w1, h0, h1, hn, HR⟩ := hp
  have HT := Lib.hid fun g c lo w' (a : H ≤ c) (b : RowsAt w' lo g H (gRows W H d)) => doMirror_any g H c (gRows W H d) w' lo b h0 (by omega) a (fun j => (rows_rev W H d j).resolve_right (by omega))
  rw [rows_mirror] at HT
  have HX := Lib.hid fun g c lo w' (a : H ≤ c) (b : RowsAt w' lo g H (gRows W H (mD W d))) => text_of b a (by omega) h0 (by omega)
  have HRR := Lib.hid HR
  clear HR
  generalize gText W H (mD W d) = t at *
  generalize gRows W H (mD W d) = R2 at *
  generalize gRows W H d = R at *
  go_enter Tryd.func10, Tryd.ntmps10
  go_wp2_with (first
    | (go_at_call 27; refine (HRR.out _).mono ?_; rintro e w1 ⟨g, c, rfl, hc, hr, hb1⟩)
    | (go_at_call 31; refine (HT.out g c _ _ hc hr).mono ?_; rintro e w2 ⟨g2, c2, rfl, hc2, hr2, hb2⟩)
    | (go_at_call 28; refine (HX.out g2 c2 _ _ hc2 hr2).mono ?_; rintro e w3 ⟨rfl, rfl⟩))
  go_ret2
  exact ⟨rfl, hb1.trans (below_weak hb2 hb1.size)⟩
/-- The other dots among the first a places. -/
def pod (d : Nat → Bool) (a : Nat) (i : Nat) : Bool := if i < a then !d i else d i
theorem pod_zero (d : Nat → Bool) (i : Nat) : d i = pod d 0 i := by simp [pod]
theorem pod_at (d : Nat → Bool) (a : Nat) : pod d a a = d a := by simp [pod]
theorem pod_succ (d : Nat → Bool) (a i : Nat) : updB (pod d a) a (!d a) i = pod d (a + 1) i := by
  unfold updB pod
  by_cases e : i = a
  · subst e
    rw [if_pos rfl, if_pos (by omega)]
  · rw [if_neg e]
    have : (i < a) ↔ (i < a + 1) := by omega
    simp only [this]
theorem pod_all (d : Nat → Bool) (n i : Nat) (h : i < n) : pod d n i = oD d i := by simp [pod, oD, h]
set_option maxHeartbeats 1600000 in
theorem spec_OtherDots_yes (s : ByteArray) (W H n : Nat) (d : Nat → Bool) (w : World) (hp : IsP s W H n d) :
    Calls Tryd.prog 12 #[.string s] w fun e w' => e = .returned (.tuple #[.string (bt (gText W H (oD d))), .bool true]) ∧ Below w.heap.size w w' := by
  obtain ⟨w0, w1, h0, h1, hn, HR⟩ := hp
  have HMK := Lib.hid fun g c lo w' d' (b : Marks w' lo g n c d') => make_of b hn w0 w1 h0 h1
  have HRR := Lib.hid HR
  have HMM := Lib.hid fun g c lo w' (a : H ≤ c) (b : RowsAt w' lo g H (gRows W H d)) => doMarks_n g W H n c lo d w' hn w0 (by omega) h0 (by omega) a b
  generalize gRows W H d = R at *
  have HP0 := Lib.hid fun i => pod_zero d i
  have HPS := Lib.hid fun a i => pod_succ d a i
  have HPT := Lib.hid fun a => pod_at d a
  have HPA := Lib.hid fun i => pod_all d n i
  have hn2 : n ≤ 2500 := by
    rw [hn]
    exact Nat.mul_le_mul (n₁ := W) (n₂ := 50) (m₁ := H) (m₂ := 50) (by omega) (by omega)
  clear HR hn
  generalize oD d = b at *
  generalize pod d = p at *
  go_enter Tryd.func12, Tryd.ntmps12
  go_wp2_with (first
    | (go_at_call 27; refine (HRR.out _).mono ?_; rintro e w1 ⟨g, c, rfl, hc, hr, hb1⟩)
    | (go_at_call 33; refine (HMM.out g c _ _ hc hr).mono ?_; rintro e w2 ⟨g2, c2, rfl, hm, hb2⟩))
  have HM1 : Hid (Marks w2 w1.heap.size g2 n c2 (p 0)) := Lib.hid (hm.congr fun m _ => HP0.out m)
  have HB1 := Lib.hid hb1
  have HB2 := Lib.hid hb2
  clear hm hb1 hb2 hr HP0
  go_loopw [26] (fun i wr => ∃ a : Nat, a ≤ n ∧ i = .int .i64 (a : Int) ∧ Hid (Marks wr w1.heap.size g2 n c2 (p a)) ∧ Hid (Below w1.heap.size w1 wr)) (fun i _ => n - (intOf i).toNat)
  case atStart => exact ⟨0, by omega, by simp, HM1, HB2⟩
  case round =>
    obtain ⟨a, ha, rfl, hm, hb⟩ := hrel
    clear HM1 HB2
    by_cases hlt : a < n
    · have hlt2 : (a : Int) < (n : Int) := by omega
      have ha0 : (0 : Int) ≤ (a : Int) := by omega
      have cd := hm.out.cell hlt
      rw [HPT.out] at cd
      have fd := hm.out.frozen a
      have HM2 : Hid (Marks (wr.setCell ⟨g2, a, none⟩ (.bool (!d a))) w1.heap.size g2 n c2 (p (a + 1))) := Lib.hid ((hm.out.set a (!d a)).congr fun m _ => HPS.out a m)
      have HB2 : Hid (Below w1.heap.size w1 (wr.setCell ⟨g2, a, none⟩ (.bool (!d a)))) := Lib.hid (hb.out.setCell (p := ⟨g2, a, none⟩) hm.out.lt.1 _)
      clear hm hb
      go_wp2
      go_roundw
      case rel => exact ⟨a + 1, by omega, by go_num, HM2, HB2⟩
      case measure => simp [intOf]; omega
    · obtain rfl : a = n := by omega
      have HF : Hid (Marks wr w1.heap.size g2 a c2 b) := Lib.hid (hm.out.congr fun m hm => HPA.out m hm)
      have HK := Lib.hid (HMK.out g2 c2 _ _ _ HF.out)
      clear hm
      go_wp2_with (go_at_call 34; refine HK.out.mono ?_; rintro e w4 ⟨rfl, hb4⟩)
      go_ret2
      exact ⟨rfl, HB1.out.trans (below_weak (hb.out.trans (below_weak hb4 hb.out.size)) HB1.out.size)⟩
end Go.Proofs.YtmcdmacpgjkelaaDoor

/- Chapter 7: the specification's layers. -/
namespace Go.Proofs.YtmcdmacpgjkelaaDoor
open Go.ChangeShapes Go.WideShapes Go.ChangeAt Go.RowKit

theorem lys_end (W H f : Nat) (d : Nat → Bool) (h : cnt (brd W H d) (W * H) = 0) : lys W H f d = [] := by
  cases f with
  | zero => rfl
  | succ f => simp [lys, h]
theorem lys_more (W H f : Nat) (d : Nat → Bool) (h : ¬ cnt (brd W H d) (W * H) = 0) : lys W H (f + 1) d = (cnt (brd W H d) (W * H) : Int) :: lys W H f (tkn W H d) := by
  simp [lys, h]
/-- How long a slice is. -/
def lenV : Value → Nat
  | .slice _ n _ => n
  | _ => 0
theorem lenV_slice (A : Option Addr) (n c : Nat) : lenV (.slice A n c) = n := rfl
theorem resI_of {w w' : World} {v : Value} {xs : List Int} {base : Nat} (h : w'.ownsRow base 3 1 v xs.length (i64s xs)) (hB : w.heap.size ≤ base) (hb : Below w.heap.size w w') : ResI true xs w (.returned (.tuple #[v, .bool true])) w' := by
  obtain ⟨A, c, rfl⟩ := row_form h
  exact ⟨A, c, rfl, (own_of_row h).wide hB (Nat.le_refl _), hb⟩
theorem Marks.kept {w w' : World} {base g n c : Nat} {d : Nat → Bool} {row : Option Nat} (h : Marks w base g n c d) (hg : w.grownBy w' row) (hne : row ≠ some g) : Marks w' base g n c d :=
  World.ownsRow.kept h hg (.inr fun e => hne (by rw [← e]; rfl))
end Go.Proofs.YtmcdmacpgjkelaaDoor

/- Chapter 7: the specification's pictures of shapes. -/
namespace Go.Proofs.YtmcdmacpgjkelaaDoor
open Go.ChangeShapes Go.WideShapes Go.ChangeAt Go.RowKit

theorem dtMost_any (a b : Int) (w : World) :
    Calls Tryd.prog 73 #[.int .i64 a, .int .i64 b] w fun e w' => e = .returned (.int .i64 (max a b)) ∧ w = w' := by
  by_cases h : b < a
  · have hq : max a b = a := by omega
    rw [hq]
    go_enter Tryd.func73, Tryd.ntmps73
    go_wp2
    go_ret
    exact ⟨rfl, rfl⟩
  · have hq : max a b = b := by omega
    rw [hq]
    go_enter Tryd.func73, Tryd.ntmps73
    go_wp2
    go_ret
    exact ⟨rfl, rfl⟩
/-- How far from 0. -/
def far0 (a : Int) : Int := max a (-a)
theorem dtAbs_any (a : Int) (w : World) (h0 : -1000 ≤ a) (h1 : a ≤ 1000) :
    Calls Tryd.prog 60 #[.int .i64 a] w fun e w' => e = .returned (.int .i64 (far0 a)) ∧ w = w' := by
  go_enter Tryd.func60, Tryd.ntmps60
  go_wp2_with (go_at_call 73; refine (dtMost_any _ _ _).mono ?_; rintro e w' ⟨rfl, rfl⟩)
  go_ret
  exact ⟨rfl, rfl⟩
theorem far0_bds (a : Int) (h0 : -1000 ≤ a) (h1 : a ≤ 1000) : 0 ≤ far0 a ∧ far0 a ≤ 1000 := by unfold far0; omega
/-- Whether a place of a shape has a dot, by its kind. -/
def shp (kind : Nat) (k : Nat) (x y : Int) : Bool :=
  if kind = 116 then decide (x ≤ y)
  else if kind = 103 then decide (x = (k : Int) - 1) || decide (y = (k : Int) - 1)
  else if kind = 100 then decide (far0 (x - (k : Int) / 2) + far0 (y - (k : Int) / 2) ≤ (k : Int) / 2)
  else if kind = 104 then decide (far0 (x - (k : Int) / 2 + y - (k : Int) / 2) ≤ (k : Int) / 2)
  else true
def shD (kind k i : Nat) : Bool := shp kind k ((i % k : Nat) : Int) ((i / k : Nat) : Int)
theorem shD_at (kind k x y : Nat) (h : x < k) : shD kind k (y * k + x) = shp kind k (x : Int) (y : Int) := by
  unfold shD
  rw [Nat.mul_comm, Nat.mul_add_mod, Nat.mod_eq_of_lt h, Nat.mul_add_div (by omega), Nat.div_eq_of_lt h, Nat.add_zero]
theorem app_bool {ops : Array Oper} {rest : List Oper} {o : Oper} {a : Act} {Q : Exit → Act → World → Prop} (base : Nat) (w : World) (hgd : o.guard = none) (s x : Operand)
    (ho : o.op = .call { callee := .builtin .append, args := #[s, x], argTypes := #[48, 48] }) (v : Value) (d : Nat → Bool) (n : Nat) (hs : a.eval s = v) (hG : w.ownsRow base 4 1 v n (tbs d n)) (hB : base ≤ w.heap.size) (z : Bool)
    (hx : a.eval x = .slice (some ⟨w.heap.size, 0, none⟩) 1 1) (hz : z = d n) (hl : n ≤ 100000)
    (h : ∀ v' w', w'.ownsRow base 4 1 v' (n + 1) (tbs d (n + 1)) → w.grownBy w' v.ownBlock → wpList Tryd.prog ops Q rest (a.put o.dst v') w') : wpList Tryd.prog ops Q (o :: rest) a (w.alloc (.cells #[.bool z] 4)) := by
  obtain ⟨i0, hi0, hz0, hz1, hz2⟩ := info_parts infoBool
  refine wpList_append_own _ hgd s x 48 ho base 4 i0 (.bool false) 1 1 Tryd.underlying48 hi0 hz0 hz1 hz2 rfl (by decide) v _ _ hs (hG.alloc _) ⟨w.heap.size, 0, none⟩ 1 1 [.bool z] hx rfl ?c1 ?c2 ?c3 ?c4 ?c5 ?_
  case c1 =>
    intro j u hj
    match j, hj with
    | 0, hj => simp at hj; subst hj; simp [Addr.add]
  case c2 => intro u hu; simp at hu; subst hu; rfl
  case c3 => unfold maxLen; omega
  case c4 => omega
  case c5 => simp; omega
  · intro v' w4 hown' hgrow _
    refine h v' w4 ?_ (grownBy_trans (World.grownBy_alloc w _ _) hgrow)
    rw [tbs_succ, ← hz]
    exact hown'
set_option maxRecDepth 4000 in
set_option maxHeartbeats 1600000 in
theorem doShape_t (k n : Nat) (w : World) (hn : n = k * k) (h0 : 1 ≤ k) (h1 : k ≤ 24) :
    Calls Tryd.prog 39 #[.int .i64 (k : Int), .int .u8 116] w fun e w' => e = .returned (.string (bt (gText k k (shD 116 k)))) ∧ Below w.heap.size w w' := by
  have hn2 : n ≤ 576 := by
    rw [hn]
    exact Nat.mul_le_mul (n₁ := k) (n₂ := 24) (m₁ := k) (m₂ := 24) h1 h1
  have hn0 : 1 ≤ n := by
    rw [hn]
    exact Nat.mul_pos h0 h0
  have HA := Lib.hid fun x y (h : x < k) => shD_at 116 k x y h
  have HMK := Lib.hid fun g c lo w' (b : Marks w' lo g n c (shD 116 k)) => make_of b hn h0 h1 h0 h1
  have HS : Hid (∀ x y, shp 116 k x y = _) := Lib.hid fun x y => rfl
  have HSM := Lib.hid fun y => Nat.succ_mul y k
  have HLE : Hid (∀ y, y < k → y * k + k ≤ n) := Lib.hid fun y hy => by rw [hn, ← Nat.succ_mul]; exact Nat.mul_le_mul_right k hy
  have HN := Lib.hid hn
  clear hn
  generalize shD 116 k = d at *
  go_enter Tryd.func39, Tryd.ntmps39
  go_wp2
  go_loopw [5, 7] (fun v i wr => ∃ y : Nat, y ≤ k ∧ i = .int .i64 (y : Int) ∧ Hid (wr.ownsRow w.heap.size 4 1 v (y * k) (tbs d (y * k))) ∧ Hid (Below w.heap.size w wr)) (fun _ i _ => k - (intOf i).toNat)
  case atStart => exact ⟨0, by omega, by simp, Lib.hid (by rw [Nat.zero_mul]; exact World.ownsRow_nil _ _ _ _), Lib.hid (Below.refl _ _)⟩
  case round =>
    obtain ⟨y, hy, rfl, hown, hb⟩ := hrel
    by_cases hlt : y < k
    · have hlt2 : (y : Int) < (k : Int) := by omega
      have hle := HLE.out y hlt
      have hsm := Lib.hid (HSM.out y)
      have HAY := Lib.hid fun x h => HA.out x y h
      generalize y * k = M at *
      go_wp2
      go_loopw [5, 8] (fun v i w2 => ∃ x : Nat, x ≤ k ∧ i = .int .i64 (x : Int) ∧ Hid (w2.ownsRow w.heap.size 4 1 v (M + x) (tbs d (M + x))) ∧ Hid (Below w.heap.size w w2)) (fun _ i _ => k - (intOf i).toNat)
      case atStart => exact ⟨0, by omega, by simp, hown, hb⟩
      case round =>
        clear hown hb
        obtain ⟨x, hx, rfl, hown, hb⟩ := hrel
        by_cases hxl : x < k
        · have hxl2 : (x : Int) < (k : Int) := by omega
          have hda := Lib.hid (HAY.out x hxl)
          have hMx : M + x ≤ 100000 := by omega
          have hS := hb.out.size
          go_wp2_with (first
            | (at_builtin; refine app_bool w.heap.size _ rfl _ _ rfl _ d (M + x) rfl hown.out hS _ rfl ?hz hMx ?_; rotate_left; intro v' w4 hG4 hg4))
          case hz =>
            rw [hda.out]
            simp [shp]
          all_goals
            have HB4 : Hid (Below w.heap.size w w4) := Lib.hid (hb.out.grown hg4 hS fun g hg => (hown.out.lt g hg).1)
            have HG4 : Hid (w4.ownsRow w.heap.size 4 1 v' (M + (x + 1)) (tbs d (M + (x + 1)))) := Lib.hid hG4
            clear hown hb hG4 hg4 hS
            go_wp2
            go_roundw
            case rel => exact ⟨x + 1, by omega, by go_num, HG4, HB4⟩
            case measure => simp [intOf]; omega
        · obtain rfl : x = k := by omega
          have HO : Hid (wr.ownsRow w.heap.size 4 1 u5 ((y + 1) * x) (tbs d ((y + 1) * x))) := Lib.hid (by rw [hsm.out]; exact hown.out)
          clear hown
          go_wp2
          go_roundw
          case rel => exact ⟨y + 1, by omega, by go_num, HO, hb⟩
          case measure => simp [intOf]; omega
    · obtain rfl : y = k := by omega
      have hown2 : wr.ownsRow w.heap.size 4 1 u5 n (tbs d n) := by rw [HN.out]; exact hown.out
      obtain ⟨g2, c2, rfl, hc2, hcm, hr⟩ := marks_of_row hown2 hn0
      have HK := Lib.hid (HMK.out g2 c2 _ _ hr)
      clear hown hown2 hr hc2 hcm
      go_wp2_with (go_at_call 34; refine HK.out.mono ?_; rintro e w4 ⟨rfl, hb4⟩)
      go_ret
      exact ⟨rfl, hb.out.trans (below_weak hb4 hb.out.size)⟩
set_option maxRecDepth 4000 in
set_option maxHeartbeats 1600000 in
theorem doShape_s (k n : Nat) (w : World) (hn : n = k * k) (h0 : 1 ≤ k) (h1 : k ≤ 24) :
    Calls Tryd.prog 39 #[.int .i64 (k : Int), .int .u8 115] w fun e w' => e = .returned (.string (bt (gText k k (shD 115 k)))) ∧ Below w.heap.size w w' := by
  have hn2 : n ≤ 576 := by
    rw [hn]
    exact Nat.mul_le_mul (n₁ := k) (n₂ := 24) (m₁ := k) (m₂ := 24) h1 h1
  have hn0 : 1 ≤ n := by
    rw [hn]
    exact Nat.mul_pos h0 h0
  have HA := Lib.hid fun x y (h : x < k) => shD_at 115 k x y h
  have HMK := Lib.hid fun g c lo w' (b : Marks w' lo g n c (shD 115 k)) => make_of b hn h0 h1 h0 h1
  have HS : Hid (∀ x y, shp 115 k x y = _) := Lib.hid fun x y => rfl
  have HSM := Lib.hid fun y => Nat.succ_mul y k
  have HLE : Hid (∀ y, y < k → y * k + k ≤ n) := Lib.hid fun y hy => by rw [hn, ← Nat.succ_mul]; exact Nat.mul_le_mul_right k hy
  have HN := Lib.hid hn
  clear hn
  generalize shD 115 k = d at *
  go_enter Tryd.func39, Tryd.ntmps39
  go_wp2
  go_loopw [5, 7] (fun v i wr => ∃ y : Nat, y ≤ k ∧ i = .int .i64 (y : Int) ∧ Hid (wr.ownsRow w.heap.size 4 1 v (y * k) (tbs d (y * k))) ∧ Hid (Below w.heap.size w wr)) (fun _ i _ => k - (intOf i).toNat)
  case atStart => exact ⟨0, by omega, by simp, Lib.hid (by rw [Nat.zero_mul]; exact World.ownsRow_nil _ _ _ _), Lib.hid (Below.refl _ _)⟩
  case round =>
    obtain ⟨y, hy, rfl, hown, hb⟩ := hrel
    by_cases hlt : y < k
    · have hlt2 : (y : Int) < (k : Int) := by omega
      have hle := HLE.out y hlt
      have hsm := Lib.hid (HSM.out y)
      have HAY := Lib.hid fun x h => HA.out x y h
      generalize y * k = M at *
      go_wp2
      go_loopw [5, 8] (fun v i w2 => ∃ x : Nat, x ≤ k ∧ i = .int .i64 (x : Int) ∧ Hid (w2.ownsRow w.heap.size 4 1 v (M + x) (tbs d (M + x))) ∧ Hid (Below w.heap.size w w2)) (fun _ i _ => k - (intOf i).toNat)
      case atStart => exact ⟨0, by omega, by simp, hown, hb⟩
      case round =>
        clear hown hb
        obtain ⟨x, hx, rfl, hown, hb⟩ := hrel
        by_cases hxl : x < k
        · have hxl2 : (x : Int) < (k : Int) := by omega
          have hda := Lib.hid (HAY.out x hxl)
          have hMx : M + x ≤ 100000 := by omega
          have hS := hb.out.size
          go_wp2_with (first
            | (at_builtin; refine app_bool w.heap.size _ rfl _ _ rfl _ d (M + x) rfl hown.out hS _ rfl ?hz hMx ?_; rotate_left; intro v' w4 hG4 hg4))
          case hz =>
            rw [hda.out]
            simp [shp]
          all_goals
            have HB4 : Hid (Below w.heap.size w w4) := Lib.hid (hb.out.grown hg4 hS fun g hg => (hown.out.lt g hg).1)
            have HG4 : Hid (w4.ownsRow w.heap.size 4 1 v' (M + (x + 1)) (tbs d (M + (x + 1)))) := Lib.hid hG4
            clear hown hb hG4 hg4 hS
            go_wp2
            go_roundw
            case rel => exact ⟨x + 1, by omega, by go_num, HG4, HB4⟩
            case measure => simp [intOf]; omega
        · obtain rfl : x = k := by omega
          have HO : Hid (wr.ownsRow w.heap.size 4 1 u5 ((y + 1) * x) (tbs d ((y + 1) * x))) := Lib.hid (by rw [hsm.out]; exact hown.out)
          clear hown
          go_wp2
          go_roundw
          case rel => exact ⟨y + 1, by omega, by go_num, HO, hb⟩
          case measure => simp [intOf]; omega
    · obtain rfl : y = k := by omega
      have hown2 : wr.ownsRow w.heap.size 4 1 u5 n (tbs d n) := by rw [HN.out]; exact hown.out
      obtain ⟨g2, c2, rfl, hc2, hcm, hr⟩ := marks_of_row hown2 hn0
      have HK := Lib.hid (HMK.out g2 c2 _ _ hr)
      clear hown hown2 hr hc2 hcm
      go_wp2_with (go_at_call 34; refine HK.out.mono ?_; rintro e w4 ⟨rfl, hb4⟩)
      go_ret
      exact ⟨rfl, hb.out.trans (below_weak hb4 hb.out.size)⟩
set_option maxRecDepth 4000 in
set_option maxHeartbeats 1600000 in
theorem doShape_g (k n : Nat) (w : World) (hn : n = k * k) (h0 : 1 ≤ k) (h1 : k ≤ 24) :
    Calls Tryd.prog 39 #[.int .i64 (k : Int), .int .u8 103] w fun e w' => e = .returned (.string (bt (gText k k (shD 103 k)))) ∧ Below w.heap.size w w' := by
  have hn2 : n ≤ 576 := by
    rw [hn]
    exact Nat.mul_le_mul (n₁ := k) (n₂ := 24) (m₁ := k) (m₂ := 24) h1 h1
  have hn0 : 1 ≤ n := by
    rw [hn]
    exact Nat.mul_pos h0 h0
  have HA := Lib.hid fun x y (h : x < k) => shD_at 103 k x y h
  have HMK := Lib.hid fun g c lo w' (b : Marks w' lo g n c (shD 103 k)) => make_of b hn h0 h1 h0 h1
  have HS : Hid (∀ x y, shp 103 k x y = _) := Lib.hid fun x y => rfl
  have HSM := Lib.hid fun y => Nat.succ_mul y k
  have HLE : Hid (∀ y, y < k → y * k + k ≤ n) := Lib.hid fun y hy => by rw [hn, ← Nat.succ_mul]; exact Nat.mul_le_mul_right k hy
  have HN := Lib.hid hn
  clear hn
  generalize shD 103 k = d at *
  go_enter Tryd.func39, Tryd.ntmps39
  go_wp2
  go_loopw [5, 7] (fun v i wr => ∃ y : Nat, y ≤ k ∧ i = .int .i64 (y : Int) ∧ Hid (wr.ownsRow w.heap.size 4 1 v (y * k) (tbs d (y * k))) ∧ Hid (Below w.heap.size w wr)) (fun _ i _ => k - (intOf i).toNat)
  case atStart => exact ⟨0, by omega, by simp, Lib.hid (by rw [Nat.zero_mul]; exact World.ownsRow_nil _ _ _ _), Lib.hid (Below.refl _ _)⟩
  case round =>
    obtain ⟨y, hy, rfl, hown, hb⟩ := hrel
    by_cases hlt : y < k
    · have hlt2 : (y : Int) < (k : Int) := by omega
      have hle := HLE.out y hlt
      have hsm := Lib.hid (HSM.out y)
      have HAY := Lib.hid fun x h => HA.out x y h
      generalize y * k = M at *
      go_wp2
      go_loopw [5, 8] (fun v i w2 => ∃ x : Nat, x ≤ k ∧ i = .int .i64 (x : Int) ∧ Hid (w2.ownsRow w.heap.size 4 1 v (M + x) (tbs d (M + x))) ∧ Hid (Below w.heap.size w w2)) (fun _ i _ => k - (intOf i).toNat)
      case atStart => exact ⟨0, by omega, by simp, hown, hb⟩
      case round =>
        clear hown hb
        obtain ⟨x, hx, rfl, hown, hb⟩ := hrel
        by_cases hxl : x < k
        · have hxl2 : (x : Int) < (k : Int) := by omega
          have hda := Lib.hid (HAY.out x hxl)
          have hMx : M + x ≤ 100000 := by omega
          by_cases hxk : (x : Int) = (k : Int) - 1
          · have hS := hb.out.size
            go_wp2_with (first
              | (at_builtin; refine app_bool w.heap.size _ rfl _ _ rfl _ d (M + x) rfl hown.out hS _ rfl ?hz hMx ?_; rotate_left; intro v' w4 hG4 hg4))
            case hz =>
              first | (rw [hda.out]; simp [shp, hxk]; done) | (rw [hda.out]; unfold shp; rw [if_neg (by decide), if_pos rfl]; rfl)
            all_goals
              have HB4 : Hid (Below w.heap.size w w4) := Lib.hid (hb.out.grown hg4 hS fun g hg => (hown.out.lt g hg).1)
              have HG4 : Hid (w4.ownsRow w.heap.size 4 1 v' (M + (x + 1)) (tbs d (M + (x + 1)))) := Lib.hid hG4
              clear hown hb hG4 hg4 hS
              go_wp2
              go_roundw
              case rel => exact ⟨x + 1, by omega, by go_num, HG4, HB4⟩
              case measure => simp [intOf]; omega
          · have hS := hb.out.size
            go_wp2_with (first
              | (at_builtin; refine app_bool w.heap.size _ rfl _ _ rfl _ d (M + x) rfl hown.out hS _ rfl ?hz hMx ?_; rotate_left; intro v' w4 hG4 hg4))
            case hz =>
              first | (rw [hda.out]; simp [shp, hxk]; done) | (rw [hda.out]; unfold shp; rw [if_neg (by decide), if_pos rfl]; rfl)
            all_goals
              have HB4 : Hid (Below w.heap.size w w4) := Lib.hid (hb.out.grown hg4 hS fun g hg => (hown.out.lt g hg).1)
              have HG4 : Hid (w4.ownsRow w.heap.size 4 1 v' (M + (x + 1)) (tbs d (M + (x + 1)))) := Lib.hid hG4
              clear hown hb hG4 hg4 hS
              go_wp2
              go_roundw
              case rel => exact ⟨x + 1, by omega, by go_num, HG4, HB4⟩
              case measure => simp [intOf]; omega
        · obtain rfl : x = k := by omega
          have HO : Hid (wr.ownsRow w.heap.size 4 1 u5 ((y + 1) * x) (tbs d ((y + 1) * x))) := Lib.hid (by rw [hsm.out]; exact hown.out)
          clear hown
          go_wp2
          go_roundw
          case rel => exact ⟨y + 1, by omega, by go_num, HO, hb⟩
          case measure => simp [intOf]; omega
    · obtain rfl : y = k := by omega
      have hown2 : wr.ownsRow w.heap.size 4 1 u5 n (tbs d n) := by rw [HN.out]; exact hown.out
      obtain ⟨g2, c2, rfl, hc2, hcm, hr⟩ := marks_of_row hown2 hn0
      have HK := Lib.hid (HMK.out g2 c2 _ _ hr)
      clear hown hown2 hr hc2 hcm
      go_wp2_with (go_at_call 34; refine HK.out.mono ?_; rintro e w4 ⟨rfl, hb4⟩)
      go_ret
      exact ⟨rfl, hb.out.trans (below_weak hb4 hb.out.size)⟩
set_option maxRecDepth 4000 in
set_option maxHeartbeats 1600000 in
theorem doShape_d (k n : Nat) (w : World) (hn : n = k * k) (h0 : 1 ≤ k) (h1 : k ≤ 24) :
    Calls Tryd.prog 39 #[.int .i64 (k : Int), .int .u8 100] w fun e w' => e = .returned (.string (bt (gText k k (shD 100 k)))) ∧ Below w.heap.size w w' := by
  have hn2 : n ≤ 576 := by
    rw [hn]
    exact Nat.mul_le_mul (n₁ := k) (n₂ := 24) (m₁ := k) (m₂ := 24) h1 h1
  have hn0 : 1 ≤ n := by
    rw [hn]
    exact Nat.mul_pos h0 h0
  have HA := Lib.hid fun x y (h : x < k) => shD_at 100 k x y h
  have HMK := Lib.hid fun g c lo w' (b : Marks w' lo g n c (shD 100 k)) => make_of b hn h0 h1 h0 h1
  have HS : Hid (∀ x y, shp 100 k x y = _) := Lib.hid fun x y => rfl
  have HSM := Lib.hid fun y => Nat.succ_mul y k
  have HLE : Hid (∀ y, y < k → y * k + k ≤ n) := Lib.hid fun y hy => by rw [hn, ← Nat.succ_mul]; exact Nat.mul_le_mul_right k hy
  have HN := Lib.hid hn
  clear hn
  generalize shD 100 k = d at *
  go_enter Tryd.func39, Tryd.ntmps39
  go_wp2
  go_loopw [5, 7] (fun v i wr => ∃ y : Nat, y ≤ k ∧ i = .int .i64 (y : Int) ∧ Hid (wr.ownsRow w.heap.size 4 1 v (y * k) (tbs d (y * k))) ∧ Hid (Below w.heap.size w wr)) (fun _ i _ => k - (intOf i).toNat)
  case atStart => exact ⟨0, by omega, by simp, Lib.hid (by rw [Nat.zero_mul]; exact World.ownsRow_nil _ _ _ _), Lib.hid (Below.refl _ _)⟩
  case round =>
    obtain ⟨y, hy, rfl, hown, hb⟩ := hrel
    by_cases hlt : y < k
    · have hlt2 : (y : Int) < (k : Int) := by omega
      have hle := HLE.out y hlt
      have hsm := Lib.hid (HSM.out y)
      have HAY := Lib.hid fun x h => HA.out x y h
      generalize y * k = M at *
      go_wp2
      go_loopw [5, 8] (fun v i w2 => ∃ x : Nat, x ≤ k ∧ i = .int .i64 (x : Int) ∧ Hid (w2.ownsRow w.heap.size 4 1 v (M + x) (tbs d (M + x))) ∧ Hid (Below w.heap.size w w2)) (fun _ i _ => k - (intOf i).toNat)
      case atStart => exact ⟨0, by omega, by simp, hown, hb⟩
      case round =>
        clear hown hb
        obtain ⟨x, hx, rfl, hown, hb⟩ := hrel
        by_cases hxl : x < k
        · have hxl2 : (x : Int) < (k : Int) := by omega
          have hda := Lib.hid (HAY.out x hxl)
          have hMx : M + x ≤ 100000 := by omega
          have f1 := far0_bds ((x : Int) - (k : Int) / 2) (by omega) (by omega)
          have f2 := far0_bds ((y : Int) - (k : Int) / 2) (by omega) (by omega)
          have hS := hb.out.size
          go_wp2_with (first
            | (at_builtin; refine app_bool w.heap.size _ rfl _ _ rfl _ d (M + x) rfl hown.out hS _ rfl ?hz hMx ?_; rotate_left; intro v' w4 hG4 hg4)
            | (go_at_call 60; refine (dtAbs_any _ _ (by omega) (by omega)).mono ?_; rintro e w3 ⟨rfl, rfl⟩))
          case hz =>
            rw [hda.out]
            simp [shp]
          all_goals
            have HB4 : Hid (Below w.heap.size w w4) := Lib.hid (hb.out.grown hg4 hS fun g hg => (hown.out.lt g hg).1)
            have HG4 : Hid (w4.ownsRow w.heap.size 4 1 v' (M + (x + 1)) (tbs d (M + (x + 1)))) := Lib.hid hG4
            clear hown hb hG4 hg4 hS
            go_wp2
            go_roundw
            case rel => exact ⟨x + 1, by omega, by go_num, HG4, HB4⟩
            case measure => simp [intOf]; omega
        · obtain rfl : x = k := by omega
          have HO : Hid (wr.ownsRow w.heap.size 4 1 u5 ((y + 1) * x) (tbs d ((y + 1) * x))) := Lib.hid (by rw [hsm.out]; exact hown.out)
          clear hown
          go_wp2
          go_roundw
          case rel => exact ⟨y + 1, by omega, by go_num, HO, hb⟩
          case measure => simp [intOf]; omega
    · obtain rfl : y = k := by omega
      have hown2 : wr.ownsRow w.heap.size 4 1 u5 n (tbs d n) := by rw [HN.out]; exact hown.out
      obtain ⟨g2, c2, rfl, hc2, hcm, hr⟩ := marks_of_row hown2 hn0
      have HK := Lib.hid (HMK.out g2 c2 _ _ hr)
      clear hown hown2 hr hc2 hcm
      go_wp2_with (go_at_call 34; refine HK.out.mono ?_; rintro e w4 ⟨rfl, hb4⟩)
      go_ret
      exact ⟨rfl, hb.out.trans (below_weak hb4 hb.out.size)⟩
set_option maxRecDepth 4000 in
set_option maxHeartbeats 1600000 in
theorem doShape_h (k n : Nat) (w : World) (hn : n = k * k) (h0 : 1 ≤ k) (h1 : k ≤ 24) :
    Calls Tryd.prog 39 #[.int .i64 (k : Int), .int .u8 104] w fun e w' => e = .returned (.string (bt (gText k k (shD 104 k)))) ∧ Below w.heap.size w w' := by
  have hn2 : n ≤ 576 := by
    rw [hn]
    exact Nat.mul_le_mul (n₁ := k) (n₂ := 24) (m₁ := k) (m₂ := 24) h1 h1
  have hn0 : 1 ≤ n := by
    rw [hn]
    exact Nat.mul_pos h0 h0
  have HA := Lib.hid fun x y (h : x < k) => shD_at 104 k x y h
  have HMK := Lib.hid fun g c lo w' (b : Marks w' lo g n c (shD 104 k)) => make_of b hn h0 h1 h0 h1
  have HS : Hid (∀ x y, shp 104 k x y = _) := Lib.hid fun x y => rfl
  have HSM := Lib.hid fun y => Nat.succ_mul y k
  have HLE : Hid (∀ y, y < k → y * k + k ≤ n) := Lib.hid fun y hy => by rw [hn, ← Nat.succ_mul]; exact Nat.mul_le_mul_right k hy
  have HN := Lib.hid hn
  clear hn
  generalize shD 104 k = d at *
  go_enter Tryd.func39, Tryd.ntmps39
  go_wp2
  go_loopw [5, 7] (fun v i wr => ∃ y : Nat, y ≤ k ∧ i = .int .i64 (y : Int) ∧ Hid (wr.ownsRow w.heap.size 4 1 v (y * k) (tbs d (y * k))) ∧ Hid (Below w.heap.size w wr)) (fun _ i _ => k - (intOf i).toNat)
  case atStart => exact ⟨0, by omega, by simp, Lib.hid (by rw [Nat.zero_mul]; exact World.ownsRow_nil _ _ _ _), Lib.hid (Below.refl _ _)⟩
  case round =>
    obtain ⟨y, hy, rfl, hown, hb⟩ := hrel
    by_cases hlt : y < k
    · have hlt2 : (y : Int) < (k : Int) := by omega
      have hle := HLE.out y hlt
      have hsm := Lib.hid (HSM.out y)
      have HAY := Lib.hid fun x h => HA.out x y h
      generalize y * k = M at *
      go_wp2
      go_loopw [5, 8] (fun v i w2 => ∃ x : Nat, x ≤ k ∧ i = .int .i64 (x : Int) ∧ Hid (w2.ownsRow w.heap.size 4 1 v (M + x) (tbs d (M + x))) ∧ Hid (Below w.heap.size w w2)) (fun _ i _ => k - (intOf i).toNat)
      case atStart => exact ⟨0, by omega, by simp, hown, hb⟩
      case round =>
        clear hown hb
        obtain ⟨x, hx, rfl, hown, hb⟩ := hrel
        by_cases hxl : x < k
        · have hxl2 : (x : Int) < (k : Int) := by omega
          have hda := Lib.hid (HAY.out x hxl)
          have hMx : M + x ≤ 100000 := by omega
          have hS := hb.out.size
          go_wp2_with (first
            | (at_builtin; refine app_bool w.heap.size _ rfl _ _ rfl _ d (M + x) rfl hown.out hS _ rfl ?hz hMx ?_; rotate_left; intro v' w4 hG4 hg4)
            | (go_at_call 60; refine (dtAbs_any _ _ (by omega) (by omega)).mono ?_; rintro e w3 ⟨rfl, rfl⟩))
          case hz =>
            rw [hda.out]
            simp [shp]
          all_goals
            have HB4 : Hid (Below w.heap.size w w4) := Lib.hid (hb.out.grown hg4 hS fun g hg => (hown.out.lt g hg).1)
            have HG4 : Hid (w4.ownsRow w.heap.size 4 1 v' (M + (x + 1)) (tbs d (M + (x + 1)))) := Lib.hid hG4
            clear hown hb hG4 hg4 hS
            go_wp2
            go_roundw
            case rel => exact ⟨x + 1, by omega, by go_num, HG4, HB4⟩
            case measure => simp [intOf]; omega
        · obtain rfl : x = k := by omega
          have HO : Hid (wr.ownsRow w.heap.size 4 1 u5 ((y + 1) * x) (tbs d ((y + 1) * x))) := Lib.hid (by rw [hsm.out]; exact hown.out)
          clear hown
          go_wp2
          go_roundw
          case rel => exact ⟨y + 1, by omega, by go_num, HO, hb⟩
          case measure => simp [intOf]; omega
    · obtain rfl : y = k := by omega
      have hown2 : wr.ownsRow w.heap.size 4 1 u5 n (tbs d n) := by rw [HN.out]; exact hown.out
      obtain ⟨g2, c2, rfl, hc2, hcm, hr⟩ := marks_of_row hown2 hn0
      have HK := Lib.hid (HMK.out g2 c2 _ _ hr)
      clear hown hown2 hr hc2 hcm
      go_wp2_with (go_at_call 34; refine HK.out.mono ?_; rintro e w4 ⟨rfl, hb4⟩)
      go_ret
      exact ⟨rfl, hb.out.trans (below_weak hb4 hb.out.size)⟩
end Go.Proofs.YtmcdmacpgjkelaaDoor

/- Chapter 7: the specification's pictures beside and below each other. -/
namespace Go.Proofs.YtmcdmacpgjkelaaDoor
open Go.ChangeShapes Go.WideShapes Go.ChangeAt Go.RowKit

theorem gText_len (W H : Nat) (d : Nat → Bool) (h : 1 ≤ H) : (gText W H d).length + 1 = H * (W + 1) := by
  have hr : ∀ r ∈ gRows W H d, r.length = W := by
    intro r hr
    obtain ⟨y, _, rfl⟩ := List.mem_map.1 hr
    exact gRow_len _ _ _
  have hn := gRows_len W H d
  unfold gText
  cases hg : gRows W H d with
  | nil => rw [hg] at hn; simp at hn; omega
  | cons r rs =>
    rw [hg] at hn hr
    simp only [joinP]
    rw [join_len 47 W rs r (fun x hx => hr x (by simp [hx])), hr r (by simp)]
    simp at hn
    rw [← hn, Nat.succ_mul]
    omega
theorem gText_no (W H : Nat) (d : Nat → Bool) (h0 : 1 ≤ H) (h : 24 < W ∨ 24 < H) : isPic (gText W H d) = false := by
  unfold isPic rowsOk
  rw [gText_parts W H d h0, gRows_head W H d h0, gRows_len, gRow_len]
  rcases h with h | h
  · rw [decide_eq_false (show ¬ W ≤ 24 by omega)]
    simp
  · rw [decide_eq_false (show ¬ H ≤ 24 by omega)]
    simp
theorem fold_app (b : UInt8) (xs : List (List UInt8)) : ∀ acc y : List UInt8, xs.foldl (fun acc x => acc ++ (b :: x)) (acc ++ y) = acc ++ xs.foldl (fun acc x => acc ++ (b :: x)) y := by
  induction xs with
  | nil => intro acc y; rfl
  | cons x xs ih =>
    intro acc y
    rw [List.foldl_cons, List.foldl_cons, List.append_assoc, ih]
theorem joinP_app (b : UInt8) (A B : List (List UInt8)) (ha : A ≠ []) (hb : B ≠ []) : joinP b (A ++ B) = joinP b A ++ (b :: joinP b B) := by
  cases A with
  | nil => exact absurd rfl ha
  | cons r rs =>
    cases B with
    | nil => exact absurd rfl hb
    | cons x xs =>
      simp only [List.cons_append, joinP, List.foldl_append, List.foldl_cons]
      rw [fold_app, show b :: x = [b] ++ x from rfl, fold_app]
      rfl
theorem gText_below (W H G : Nat) (d e : Nat → Bool) (h : 1 ≤ H) (g : 1 ≤ G) : gText W H d ++ (47 :: gText W G e) = gText W (H + G) (uD W H d e) := by
  unfold gText
  rw [← rows_below, joinP_app]
  · intro q
    have := gRows_len W H d
    rw [q] at this
    simp at this
    omega
  · intro q
    have := gRows_len W G e
    rw [q] at this
    simp at this
    omega
theorem doRows_gen (s : ByteArray) (w : World) (hs : s.size ≤ 2000000) :
    Calls Tryd.prog 27 #[.string s] w fun e w' => ∃ A n c, e = .returned (.tuple #[.slice A n c, .bool (isPic s.data.toList)]) ∧ Below w.heap.size w w' := by
  refine (doRows_any s w (by omega)).mono ?_
  rintro e w' ⟨⟨h, A, c, rfl, _⟩ | ⟨h, rfl⟩, hb⟩
  · exact ⟨A, _, c, by rw [show isPic s.data.toList = true from h], hb⟩
  · exact ⟨none, 0, 0, by rw [show isPic s.data.toList = false from h], hb⟩
theorem doIf_any (s : ByteArray) (w : World) (hs : s.size ≤ 2000000) :
    Calls Tryd.prog 44 #[.string s] w fun e w' => e = .returned (.tuple #[.string (if isPic s.data.toList then s else ⟨#[]⟩), .bool (isPic s.data.toList)]) ∧ Below w.heap.size w w' := by
  have HR := Lib.hid fun W => spec_IsPicture s W (by omega)
  generalize isPic s.data.toList = b at *
  cases b
  · go_enter Tryd.func44, Tryd.ntmps44
    go_wp2_with (go_at_call 65; refine (HR.out _).mono ?_; rintro e w1 ⟨rfl, hb1⟩)
    go_ret2
    exact ⟨rfl, hb1⟩
  · go_enter Tryd.func44, Tryd.ntmps44
    go_wp2_with (go_at_call 65; refine (HR.out _).mono ?_; rintro e w1 ⟨rfl, hb1⟩)
    go_ret2
    exact ⟨rfl, hb1⟩
theorem doIf_text (W H : Nat) (d : Nat → Bool) (w : World) (w0 : 1 ≤ W) (w1 : W ≤ 50) (h0 : 1 ≤ H) (h1 : H ≤ 50) :
    Calls Tryd.prog 44 #[.string (bt (gText W H d))] w fun e w' => e = .returned (.tuple #[.string (if W ≤ 24 ∧ H ≤ 24 then bt (gText W H d) else ⟨#[]⟩), .bool (decide (W ≤ 24 ∧ H ≤ 24))]) ∧ Below w.heap.size w w' := by
  have hsz : (bt (gText W H d)).size ≤ 2000000 := by
    rw [bt_size]
    have e := gText_len W H d h0
    have := Nat.mul_le_mul (n₁ := H) (n₂ := 50) (m₁ := W + 1) (m₂ := 51) h1 (by omega)
    omega
  have hd : (bt (gText W H d)).data.toList = gText W H d := by simp [bt]
  refine (doIf_any _ w hsz).mono ?_
  rw [hd]
  by_cases h : W ≤ 24 ∧ H ≤ 24
  · rw [gText_pic W H d w0 h.1 h0 h.2, if_pos h, decide_eq_true h, if_pos rfl]
    exact fun e w' h => h
  · rw [gText_no W H d h0 (by omega), if_neg h, decide_eq_false h, if_neg (by decide)]
    exact fun e w' h => h
theorem beside_no (s t : ByteArray) (ok : ByteArray → Bool) (w : World) (HR0 : ∀ x w, (x = s ∨ x = t) → Calls Tryd.prog 27 #[.string x] w fun e w' => ∃ A n c, e = .returned (.tuple #[.slice A n c, .bool (ok x)]) ∧ Below w.heap.size w w') (h : ok s = false ∨ ok t = false) :
    Calls Tryd.prog 21 #[.string s, .string t] w fun e w' => e = .returned (.tuple #[.string ⟨#[]⟩, .bool false]) ∧ Below w.heap.size w w' := by
  have HR := Lib.hid HR0
  clear HR0
  cases hs : ok s
  · clear h
    go_enter Tryd.func21, Tryd.ntmps21
    go_wp2_with (go_at_call 27; refine (HR.out _ _ ?hm).mono ?_; (case hm => first | exact .inl rfl | exact .inr rfl); rintro e w1 ⟨A, n, c, rfl, hb⟩)
    go_ret2
    refine ⟨rfl, Below.trans (?_ : Below w.heap.size w _) (below_weak hb ?_)⟩
    · assumption
    · exact Below.size (by assumption)
  · have ht : ok t = false := h.resolve_left (by rw [hs]; decide)
    clear h
    go_enter Tryd.func21, Tryd.ntmps21
    go_wp2_with (go_at_call 27; refine (HR.out _ _ ?hm).mono ?_; (case hm => first | exact .inl rfl | exact .inr rfl); rintro e w1 ⟨A, n, c, rfl, hb⟩)
    go_ret2
    refine ⟨rfl, Below.trans (?_ : Below w.heap.size w _) (below_weak hb ?_)⟩
    · assumption
    · exact Below.size (by assumption)
theorem spec_BesidePicture_no (s t : ByteArray) (w : World) (hs : s.size ≤ 2000000) (ht : t.size ≤ 2000000) (h : isPic s.data.toList = false ∨ isPic t.data.toList = false) :
    Calls Tryd.prog 21 #[.string s, .string t] w fun e w' => e = .returned (.tuple #[.string ⟨#[]⟩, .bool false]) ∧ Below w.heap.size w w' :=
  beside_no s t (fun x => isPic x.data.toList) w (fun x w' h => doRows_gen x w' (by rcases h with rfl | rfl <;> assumption)) h
theorem beside_apart (s t : ByteArray) (wx hx : ByteArray → Nat) (dx : ByteArray → Nat → Bool) (w : World) (HR0 : ∀ x w, (x = s ∨ x = t) → Calls Tryd.prog 27 #[.string x] w fun e w' => ∃ g c, e = .returned (.tuple #[.slice (some ⟨g, 0, none⟩) (hx x) c, .bool true]) ∧ hx x ≤ c ∧ RowsAt w' w.heap.size g (hx x) (gRows (wx x) (hx x) (dx x)) ∧ Below w.heap.size w w') (h : ¬ hx s = hx t) :
    Calls Tryd.prog 21 #[.string s, .string t] w fun e w' => e = .returned (.tuple #[.string ⟨#[]⟩, .bool false]) ∧ Below w.heap.size w w' := by
  have HR := Lib.hid HR0
  clear HR0
  have hi : ¬ (hx s : Int) = (hx t : Int) := by omega
  go_enter Tryd.func21, Tryd.ntmps21
  go_wp2_with (go_at_call 27; refine (HR.out _ _ ?hm).mono ?_; (case hm => first | exact .inl rfl | exact .inr rfl); rintro e w1 ⟨g, c, rfl, hc, hr, hb⟩)
  go_ret2
  refine ⟨rfl, Below.trans (?_ : Below w.heap.size w _) (below_weak hb ?_)⟩
  · assumption
  · exact Below.size (by assumption)
theorem beside_at (W V H : Nat) (d e : Nat → Bool) (y : Nat) (h : y < H) : gRow W d y ++ gRow V e y = gRow (W + V) (bD W V d e) y := by
  have k : (List.zipWith (· ++ ·) (gRows W H d) (gRows V H e)).getD y [] = (gRows (W + V) H (bD W V d e)).getD y [] := by rw [rows_beside W V H d e]
  rw [gRows_at _ _ _ _ h] at k
  rw [← k]
  simp [List.getD, gRows, h]
theorem text_wide {W H c g lo : Nat} {d : Nat → Bool} {w : World} (hr : RowsAt w lo g H (gRows W H d)) (hc : H ≤ c) (w1 : W ≤ 50) (h0 : 1 ≤ H) (h1 : H ≤ 50) :
    Calls Tryd.prog 28 #[.slice (some ⟨g, 0, none⟩) H c] w fun e w' => e = .returned (.string (bt (gText W H d))) ∧ w = w' :=
  doText_any g 0 H c (gRows W H d) w (gRows_len W H d).symm h0 (by omega) hc (fun r hr => by obtain ⟨y, _, rfl⟩ := List.mem_map.1 hr; rw [gRow_len]; omega) (fun j hj => by rw [Nat.zero_add]; exact hr.cell j hj)
set_option maxRecDepth 4000 in
set_option maxHeartbeats 1600000 in
theorem beside_yes (s t : ByteArray) (wx hx : ByteArray → Nat) (dx : ByteArray → Nat → Bool) (w : World) (HR0 : ∀ x w, (x = s ∨ x = t) → Calls Tryd.prog 27 #[.string x] w fun e w' => ∃ g c, e = .returned (.tuple #[.slice (some ⟨g, 0, none⟩) (hx x) c, .bool true]) ∧ hx x ≤ c ∧ RowsAt w' w.heap.size g (hx x) (gRows (wx x) (hx x) (dx x)) ∧ Below w.heap.size w w') (h : hx s = hx t) (h0 : 1 ≤ hx s) (h1 : hx s ≤ 24) (w0 : 1 ≤ wx s) (w1 : wx s ≤ 24) (v0 : 1 ≤ wx t) (v1 : wx t ≤ 24) :
    Calls Tryd.prog 21 #[.string s, .string t] w fun e w' => e = .returned (.tuple #[.string (if wx s + wx t ≤ 24 ∧ hx s ≤ 24 then bt (gText (wx s + wx t) (hx s) (bD (wx s) (wx t) (dx s) (dx t))) else ⟨#[]⟩), .bool (decide (wx s + wx t ≤ 24 ∧ hx s ≤ 24))]) ∧ Below w.heap.size w w' := by
  have HR := Lib.hid HR0
  clear HR0
  have hi : (hx s : Int) = (hx t : Int) := by omega
  obtain ⟨i0, hi0, hz0, hz1, hz2⟩ := info_parts infoStr
  obtain ⟨ans, hans⟩ : ∃ a, a = (if wx s + wx t ≤ 24 ∧ hx s ≤ 24 then bt (gText (wx s + wx t) (hx s) (bD (wx s) (wx t) (dx s) (dx t))) else ⟨#[]⟩) := ⟨_, rfl⟩
  obtain ⟨ok, hok⟩ : ∃ a, a = decide (wx s + wx t ≤ 24 ∧ hx s ≤ 24) := ⟨_, rfl⟩
  rw [← hans, ← hok]
  have HANS := Lib.hid hans
  have HOK := Lib.hid hok
  clear hans hok
  go_enter Tryd.func21, Tryd.ntmps21
  go_wp2_with (go_at_call 27; first
    | (refine (HR.out _ _ ?hm).mono ?_; (case hm => exact .inl rfl); rintro e w1 ⟨g, c, rfl, hc, hr, hb1⟩)
    | (refine (HR.out _ _ ?hm).mono ?_; (case hm => exact .inr rfl); rintro e w2 ⟨g2, c2, rfl, hc2, hr2, hb2⟩))
  have HB : Hid (Below w.heap.size w w2) := Lib.hid (hb1.trans (below_weak hb2 hb1.size))
  have HZ : Hid (w.heap.size ≤ w2.heap.size) := Lib.hid HB.out.size
  have hrr := hr.below hb2
  rw [← h] at hr2
  generalize hW : wx s = W at *
  generalize hV : wx t = V at *
  generalize hN : hx s = n at *
  generalize hD : dx s = d at *
  generalize hE : dx t = e at *
  have HL : Hid (∀ y, y < n → w2.cell? ⟨g, y, none⟩ = some (.string (bt (gRow W d y)))) := Lib.hid fun y hy => by rw [hrr.cell y hy, gRows_at _ _ _ _ hy]
  have HRt : Hid (∀ y, y < n → w2.cell? ⟨g2, y, none⟩ = some (.string (bt (gRow V e y)))) := Lib.hid fun y hy => by rw [hr2.cell y hy, gRows_at _ _ _ _ hy]
  have HGZ : Hid (g < w2.heap.size ∧ g2 < w2.heap.size) := Lib.hid ⟨hrr.hi, hr2.hi⟩
  have HBA := Lib.hid fun y (hy : y < n) => beside_at W V n d e y hy
  have HGL := Lib.hid fun y => gRows_len (W + V) y (bD W V d e)
  have HGS := Lib.hid fun y => gRows_succ (W + V) y (bD W V d e)
  have HWL := Lib.hid fun y => gRow_len W d y
  have HVL := Lib.hid fun y => gRow_len V e y
  have HIF := Lib.hid fun w' => doIf_text (W + V) n (bD W V d e) w' (by omega) (by omega) h0 (by omega)
  have HTX := Lib.hid fun g' c' lo w' (a : n ≤ c') (b : RowsAt w' lo g' n (gRows (W + V) n (bD W V d e))) => text_wide b a (by omega) h0 (by omega)
  have hhx : hx t = n := by omega
  rw [hhx]
  have HHX := Lib.hid hhx
  clear hr hr2 hb1 hb2 hrr h hhx hW hV hN hD hE hi
  generalize hf : bD W V d e = f at *
  have HF := Lib.hid hf
  clear hf
  go_loopw [10, 38] (fun v i wr => ∃ y : Nat, y ≤ n ∧ i = .int .i64 (y : Int) ∧ Hid (wr.ownsRow w2.heap.size 9 1 v y (strs (gRows (W + V) y f))) ∧ Hid (Below w2.heap.size w2 wr)) (fun _ i _ => n - (intOf i).toNat)
  case atStart => exact ⟨0, by omega, by simp, Lib.hid (World.ownsRow_nil _ _ _ _), Lib.hid (Below.refl _ _)⟩
  case round =>
    obtain ⟨y, hy, rfl, hown, hb⟩ := hrel
    by_cases hlt : y < n
    · have hlt2 : (y : Int) < (n : Int) := by omega
      have hy0 : (0 : Int) ≤ (y : Int) := by omega
      have cl := (hb.out.cell (p := ⟨g, y, none⟩) HGZ.out.1).trans (HL.out y hlt)
      have cr := (hb.out.cell (p := ⟨g2, y, none⟩) HGZ.out.2).trans (HRt.out y hlt)
      have hba := HBA.out y hlt
      have hgs := Lib.hid (HGS.out y)
      have l1 := HWL.out y
      have l2 := HVL.out y
      generalize gRow W d y = a at *
      generalize gRow V e y = b at *
      have k1 := cat7 (bt a) (bt b) (by simp [bt, ByteArray.size]; omega)
      rw [bt_app, hba] at k1
      clear hba l1 l2
      generalize gRow (W + V) f y = r at *
      have hS := Lib.hid hb.out.size
      go_wp2_with (at_builtin; refine wpList_append_own _ rfl _ _ 43 rfl w2.heap.size 9 i0 (.string ⟨#[]⟩) 1 16 Tryd.underlying43 hi0 hz0 hz1 hz2 rfl (by decide) _ _ _ rfl (hown.out.alloc _) ⟨wr.heap.size, 0, none⟩ 1 1 [.string (bt r)] rfl rfl ?c1 ?c2 ?c3 ?c4 ?c5 ?_)
      case c1 =>
        intro j u hj
        match j, hj with
        | 0, hj => simp at hj; subst hj; simp [Addr.add]
      case c2 => intro u hu; simp at hu; subst hu; rfl
      case c3 => unfold maxLen; omega
      case c4 => omega
      case c5 => have := hS.out; simp; omega
      · intro v' w4 hown' hgrow _
        have HO4 : Hid (w4.ownsRow w2.heap.size 9 1 v' (y + 1) (strs (gRows (W + V) (y + 1) f))) := Lib.hid (by
          rw [hgs.out, ← strs_app]
          exact hown')
        have HB4 := Lib.hid ((hb.out.alloc hS.out _).grown hgrow (by have := hS.out; simp; omega) fun g hg => (hown.out.lt g hg).1)
        clear hown' hgrow hown hb
        go_wp2
        go_roundw
        case rel => exact ⟨y + 1, by omega, by go_num, HO4, HB4⟩
        case measure => simp [intOf]; omega
    · obtain rfl : y = n := by omega
      obtain ⟨g3, c3, rfl, hc3, hr3⟩ := rows_of_row (R := gRows (W + V) y f) (by rw [HGL.out]; exact hown.out) (by rw [HGL.out]; exact h0)
      have hr4 : RowsAt wr w2.heap.size g3 y (gRows (W + V) y f) := by
        have := hr3
        rwa [HGL.out] at this
      rw [HGL.out] at hc3
      have HT2 := Lib.hid (HTX.out g3 c3 _ wr hc3 hr4)
      have hi2 := HIF.out wr
      rw [← HANS.out, ← HOK.out] at hi2
      have HI2 := Lib.hid hi2
      rw [HGL.out]
      clear hown hr3 hr4 hi2
      generalize gText (W + V) y f = tx at *
      go_wp2_with (first
        | (go_at_call 28; refine HT2.out.mono ?_; rintro e w5 ⟨rfl, rfl⟩)
        | (go_at_call 44; refine HI2.out.mono ?_; rintro e w6 ⟨rfl, hb6⟩))
      go_ret2
      exact ⟨rfl, HB.out.trans (below_weak (hb.out.trans (below_weak hb6 hb.out.size)) HZ.out)⟩
end Go.Proofs.YtmcdmacpgjkelaaDoor

/- Chapter 7: the specification's pictures beside and below each other, 2. -/
namespace Go.Proofs.YtmcdmacpgjkelaaDoor
open Go.ChangeShapes Go.WideShapes Go.ChangeAt Go.RowKit

theorem rows_pic (x : ByteArray) (w : World) (hs : x.size ≤ 2000000) (h : isPic x.data.toList = true) :
    Calls Tryd.prog 27 #[.string x] w fun e w' => ∃ g c, e = .returned (.tuple #[.slice (some ⟨g, 0, none⟩) (pH x.data.toList) c, .bool true]) ∧ pH x.data.toList ≤ c ∧ RowsAt w' w.heap.size g (pH x.data.toList) (gRows (pW x.data.toList) (pH x.data.toList) (pD x.data.toList)) ∧ Below w.heap.size w w' := by
  rw [pic_rows h]
  exact doRows_yes x w (by omega) h
theorem spec_BesidePicture_both (s t : ByteArray) (w : World) (hs : s.size ≤ 2000000) (ht : t.size ≤ 2000000) (a : isPic s.data.toList = true) (b : isPic t.data.toList = true) (h : pH s.data.toList = pH t.data.toList) (hw : pW s.data.toList + pW t.data.toList ≤ 24) :
    Calls Tryd.prog 21 #[.string s, .string t] w fun e w' => e = .returned (.tuple #[.string (bt (gText (pW s.data.toList + pW t.data.toList) (pH s.data.toList) (bD (pW s.data.toList) (pW t.data.toList) (pD s.data.toList) (pD t.data.toList)))), .bool true]) ∧ Below w.heap.size w w' := by
  have pa := pic_b a
  have pb := pic_b b
  have k := beside_yes s t (fun x => pW x.data.toList) (fun x => pH x.data.toList) (fun x => pD x.data.toList) w (fun x w' h => rows_pic x w' (by rcases h with rfl | rfl <;> assumption) (by rcases h with rfl | rfl <;> assumption)) h pa.h0 pa.h1 pa.w0 pa.w1 pb.w0 pb.w1
  rw [if_pos ⟨hw, pa.h1⟩, decide_eq_true ⟨hw, pa.h1⟩] at k
  exact k
theorem spec_BesidePicture_apart (s t : ByteArray) (w : World) (hs : s.size ≤ 2000000) (ht : t.size ≤ 2000000) (a : isPic s.data.toList = true) (b : isPic t.data.toList = true) (h : ¬ (pH s.data.toList = pH t.data.toList ∧ pW s.data.toList + pW t.data.toList ≤ 24)) :
    Calls Tryd.prog 21 #[.string s, .string t] w fun e w' => e = .returned (.tuple #[.string ⟨#[]⟩, .bool false]) ∧ Below w.heap.size w w' := by
  have pa := pic_b a
  have pb := pic_b b
  by_cases hh : pH s.data.toList = pH t.data.toList
  · have hw : ¬ (pW s.data.toList + pW t.data.toList ≤ 24 ∧ pH s.data.toList ≤ 24) := fun e => h ⟨hh, e.1⟩
    have k := beside_yes s t (fun x => pW x.data.toList) (fun x => pH x.data.toList) (fun x => pD x.data.toList) w (fun x w' h => rows_pic x w' (by rcases h with rfl | rfl <;> assumption) (by rcases h with rfl | rfl <;> assumption)) hh pa.h0 pa.h1 pa.w0 pa.w1 pb.w0 pb.w1
    rw [if_neg hw, decide_eq_false hw] at k
    exact k
  · exact beside_apart s t (fun x => pW x.data.toList) (fun x => pH x.data.toList) (fun x => pD x.data.toList) w (fun x w' h => rows_pic x w' (by rcases h with rfl | rfl <;> assumption) (by rcases h with rfl | rfl <;> assumption)) hh
theorem below_no (s t : ByteArray) (ok : ByteArray → Bool) (w : World) (HR0 : ∀ x w, (x = s ∨ x = t) → Calls Tryd.prog 27 #[.string x] w fun e w' => ∃ A n c, e = .returned (.tuple #[.slice A n c, .bool (ok x)]) ∧ Below w.heap.size w w') (h : ok s = false ∨ ok t = false) :
    Calls Tryd.prog 23 #[.string s, .string t] w fun e w' => e = .returned (.tuple #[.string ⟨#[]⟩, .bool false]) ∧ Below w.heap.size w w' := by
  have HR := Lib.hid HR0
  clear HR0
  cases hs : ok s
  · clear h
    go_enter Tryd.func23, Tryd.ntmps23
    go_wp2_with (go_at_call 27; refine (HR.out _ _ ?hm).mono ?_; (case hm => first | exact .inl rfl | exact .inr rfl); rintro e w1 ⟨A, n, c, rfl, hb⟩)
    go_region
    go_wp2
    go_ret2
    refine ⟨rfl, Below.trans (?_ : Below w.heap.size w _) (below_weak hb.drew ?_)⟩
    · assumption
    · exact Below.size (by assumption)
  · have ht : ok t = false := h.resolve_left (by rw [hs]; decide)
    clear h
    go_enter Tryd.func23, Tryd.ntmps23
    go_wp2_with (go_at_call 27; refine (HR.out _ _ ?hm).mono ?_; (case hm => first | exact .inl rfl | exact .inr rfl); rintro e w1 ⟨A, n, c, rfl, hb⟩)
    go_region
    go_wp2
    go_ret2
    refine ⟨rfl, Below.trans (?_ : Below w.heap.size w _) (below_weak hb.drew ?_)⟩
    · assumption
    · exact Below.size (by assumption)
theorem spec_BelowPicture_no (s t : ByteArray) (w : World) (hs : s.size ≤ 2000000) (ht : t.size ≤ 2000000) (h : isPic s.data.toList = false ∨ isPic t.data.toList = false) :
    Calls Tryd.prog 23 #[.string s, .string t] w fun e w' => e = .returned (.tuple #[.string ⟨#[]⟩, .bool false]) ∧ Below w.heap.size w w' :=
  below_no s t (fun x => isPic x.data.toList) w (fun x w' h => doRows_gen x w' (by rcases h with rfl | rfl <;> assumption)) h
set_option maxRecDepth 4000 in
set_option maxHeartbeats 1600000 in
theorem below_apart (s t : ByteArray) (wx hx : ByteArray → Nat) (dx : ByteArray → Nat → Bool) (w : World) (HR0 : ∀ x w, (x = s ∨ x = t) → Calls Tryd.prog 27 #[.string x] w fun e w' => ∃ g c, e = .returned (.tuple #[.slice (some ⟨g, 0, none⟩) (hx x) c, .bool true]) ∧ hx x ≤ c ∧ RowsAt w' w.heap.size g (hx x) (gRows (wx x) (hx x) (dx x)) ∧ Below w.heap.size w w') (h0 : 1 ≤ hx s) (g0 : 1 ≤ hx t) (h : ¬ wx s = wx t) :
    Calls Tryd.prog 23 #[.string s, .string t] w fun e w' => e = .returned (.tuple #[.string ⟨#[]⟩, .bool false]) ∧ Below w.heap.size w w' := by
  have HR := Lib.hid HR0
  clear HR0
  have hi : ¬ (wx s : Int) = (wx t : Int) := by omega
  go_enter Tryd.func23, Tryd.ntmps23
  go_wp2_with (go_at_call 27; first
    | (refine (HR.out _ _ ?hm).mono ?_; (case hm => exact .inl rfl); rintro e w1 ⟨g, c, rfl, hc, hr, hb1⟩)
    | (refine (HR.out _ _ ?hm).mono ?_; (case hm => exact .inr rfl); rintro e w2 ⟨g2, c2, rfl, hc2, hr2, hb2⟩))
  have HB : Hid (Below w.heap.size w w2) := Lib.hid (hb1.trans (below_weak hb2 hb1.size))
  have HZ : Hid (w.heap.size ≤ w2.heap.size) := Lib.hid HB.out.size
  have hrr := hr.below hb2
  have q1 := hrr.cell 0 (by omega)
  have q2 := hr2.cell 0 (by omega)
  rw [gRows_at _ _ _ _ (by omega)] at q1 q2
  have z1 : (bt (gRow (wx s) (dx s) 0)).size = wx s := by rw [bt_size, gRow_len]
  have z2 : (bt (gRow (wx t) (dx t) 0)).size = wx t := by rw [bt_size, gRow_len]
  have p1 : (0 : Int) < (hx s : Int) := by omega
  have p2 : (0 : Int) < (hx t : Int) := by omega
  generalize bt (gRow (wx s) (dx s) 0) = b1 at *
  generalize bt (gRow (wx t) (dx t) 0) = b2 at *
  clear hr hr2 hrr hb1 hb2
  go_region
  go_wp2
  go_ret2
  exact ⟨rfl, HB.out.drew⟩
set_option maxRecDepth 4000 in
set_option maxHeartbeats 1600000 in
theorem below_yes (s t : ByteArray) (wx hx : ByteArray → Nat) (dx : ByteArray → Nat → Bool) (w : World) (HR0 : ∀ x w, (x = s ∨ x = t) → Calls Tryd.prog 27 #[.string x] w fun e w' => ∃ g c, e = .returned (.tuple #[.slice (some ⟨g, 0, none⟩) (hx x) c, .bool true]) ∧ hx x ≤ c ∧ RowsAt w' w.heap.size g (hx x) (gRows (wx x) (hx x) (dx x)) ∧ Below w.heap.size w w') (h0 : 1 ≤ hx s) (h1 : hx s ≤ 24) (g0 : 1 ≤ hx t) (g1 : hx t ≤ 24) (w0 : 1 ≤ wx s) (w1 : wx s ≤ 24) (h : wx s = wx t)
    (hs : s.size ≤ 1000) (ht : t.size ≤ 1000) (htx : (s ++ ⟨#[47]⟩) ++ t = bt (gText (wx s) (hx s + hx t) (uD (wx s) (hx s) (dx s) (dx t)))) :
    Calls Tryd.prog 23 #[.string s, .string t] w fun e w' => e = .returned (.tuple #[.string (if wx s ≤ 24 ∧ hx s + hx t ≤ 24 then bt (gText (wx s) (hx s + hx t) (uD (wx s) (hx s) (dx s) (dx t))) else ⟨#[]⟩), .bool (decide (wx s ≤ 24 ∧ hx s + hx t ≤ 24))]) ∧ Below w.heap.size w w' := by
  have HR := Lib.hid HR0
  clear HR0
  have hi : (wx s : Int) = (wx t : Int) := by omega
  have k1 := cat7 s ⟨#[47]⟩ (by show s.size + 1 ≤ 1000000; omega)
  have k2 := cat7 (s ++ ⟨#[47]⟩) t (by rw [ByteArray.size_append]; show s.size + 1 + t.size ≤ 1000000; omega)
  rw [htx] at k2
  have HI := Lib.hid fun w' => doIf_text (wx s) (hx s + hx t) (uD (wx s) (hx s) (dx s) (dx t)) w' w0 (by omega) (by omega) (by omega)
  clear htx hs ht
  generalize gText (wx s) (hx s + hx t) (uD (wx s) (hx s) (dx s) (dx t)) = tx at *
  generalize decide (wx s ≤ 24 ∧ hx s + hx t ≤ 24) = ok at *
  generalize (if wx s ≤ 24 ∧ hx s + hx t ≤ 24 then bt tx else ⟨#[]⟩) = ans at *
  go_enter Tryd.func23, Tryd.ntmps23
  go_wp2_with (go_at_call 27; first
    | (refine (HR.out _ _ ?hm).mono ?_; (case hm => exact .inl rfl); rintro e w1 ⟨g, c, rfl, hc, hr, hb1⟩)
    | (refine (HR.out _ _ ?hm).mono ?_; (case hm => exact .inr rfl); rintro e w2 ⟨g2, c2, rfl, hc2, hr2, hb2⟩))
  have HB : Hid (Below w.heap.size w w2) := Lib.hid (hb1.trans (below_weak hb2 hb1.size))
  have HZ : Hid (w.heap.size ≤ w2.heap.size) := Lib.hid HB.out.size
  have hrr := hr.below hb2
  have q1 := hrr.cell 0 (by omega)
  have q2 := hr2.cell 0 (by omega)
  rw [gRows_at _ _ _ _ (by omega)] at q1 q2
  have z1 : (bt (gRow (wx s) (dx s) 0)).size = wx s := by rw [bt_size, gRow_len]
  have z2 : (bt (gRow (wx t) (dx t) 0)).size = wx t := by rw [bt_size, gRow_len]
  have p1 : (0 : Int) < (hx s : Int) := by omega
  have p2 : (0 : Int) < (hx t : Int) := by omega
  generalize bt (gRow (wx s) (dx s) 0) = b1 at *
  generalize bt (gRow (wx t) (dx t) 0) = b2 at *
  clear hr hr2 hrr hb1 hb2
  go_region
  go_wp2_with (go_at_call 44; refine (HI.out _).mono ?_; rintro e w6 ⟨rfl, hb6⟩)
  go_ret2
  exact ⟨rfl, HB.out.drew.trans (below_weak hb6 HZ.out)⟩
theorem bt_self (s : ByteArray) : bt s.data.toList = s := by
  cases s
  simp [bt]
theorem below_text (s t : ByteArray) (a : isPic s.data.toList = true) (b : isPic t.data.toList = true) (h : pW s.data.toList = pW t.data.toList) :
    (s ++ ⟨#[47]⟩) ++ t = bt (gText (pW s.data.toList) (pH s.data.toList + pH t.data.toList) (uD (pW s.data.toList) (pH s.data.toList) (pD s.data.toList) (pD t.data.toList))) := by
  rw [← gText_below _ _ _ _ _ (pic_b a).h0 (pic_b b).h0, pic_text a, h, pic_text b]
  conv => lhs; rw [← bt_self s, ← bt_self t]
  rw [show (⟨#[47]⟩ : ByteArray) = bt [47] from rfl, bt_app, bt_app]
  simp
theorem pic_size (s : ByteArray) (a : isPic s.data.toList = true) : s.size ≤ 1000 := by
  have := pic_600 a
  have e : s.data.toList.length = s.size := by simp
  omega
theorem spec_BelowPicture_both (s t : ByteArray) (w : World) (a : isPic s.data.toList = true) (b : isPic t.data.toList = true) (h : pW s.data.toList = pW t.data.toList) (hh : pH s.data.toList + pH t.data.toList ≤ 24) :
    Calls Tryd.prog 23 #[.string s, .string t] w fun e w' => e = .returned (.tuple #[.string (bt (gText (pW s.data.toList) (pH s.data.toList + pH t.data.toList) (uD (pW s.data.toList) (pH s.data.toList) (pD s.data.toList) (pD t.data.toList)))), .bool true]) ∧ Below w.heap.size w w' := by
  have pa := pic_b a
  have pb := pic_b b
  have ps := pic_size s a
  have pt := pic_size t b
  have k := below_yes s t (fun x => pW x.data.toList) (fun x => pH x.data.toList) (fun x => pD x.data.toList) w (fun x w' h => rows_pic x w' (by rcases h with rfl | rfl <;> omega) (by rcases h with rfl | rfl <;> assumption)) pa.h0 pa.h1 pb.h0 pb.h1 pa.w0 pa.w1 h ps pt (below_text s t a b h)
  rw [if_pos ⟨pa.w1, hh⟩, decide_eq_true ⟨pa.w1, hh⟩] at k
  exact k
theorem spec_BelowPicture_apart (s t : ByteArray) (w : World) (a : isPic s.data.toList = true) (b : isPic t.data.toList = true) (h : ¬ (pW s.data.toList = pW t.data.toList ∧ pH s.data.toList + pH t.data.toList ≤ 24)) :
    Calls Tryd.prog 23 #[.string s, .string t] w fun e w' => e = .returned (.tuple #[.string ⟨#[]⟩, .bool false]) ∧ Below w.heap.size w w' := by
  have pa := pic_b a
  have pb := pic_b b
  have ps := pic_size s a
  have pt := pic_size t b
  by_cases hh : pW s.data.toList = pW t.data.toList
  · have hw : ¬ (pW s.data.toList ≤ 24 ∧ pH s.data.toList + pH t.data.toList ≤ 24) := fun e => h ⟨hh, e.2⟩
    have k := below_yes s t (fun x => pW x.data.toList) (fun x => pH x.data.toList) (fun x => pD x.data.toList) w (fun x w' h => rows_pic x w' (by rcases h with rfl | rfl <;> omega) (by rcases h with rfl | rfl <;> assumption)) pa.h0 pa.h1 pb.h0 pb.h1 pa.w0 pa.w1 hh ps pt (below_text s t a b hh)
    rw [if_neg hw, decide_eq_false hw] at k
    exact k
  · exact below_apart s t (fun x => pW x.data.toList) (fun x => pH x.data.toList) (fun x => pD x.data.toList) w (fun x w' h => rows_pic x w' (by rcases h with rfl | rfl <;> omega) (by rcases h with rfl | rfl <;> assumption)) pa.h0 pb.h0 hh
end Go.Proofs.YtmcdmacpgjkelaaDoor

/- Chapter 7: LeastPicture, by the specification. -/
namespace Go.Proofs.YtmcdmacpgjkelaaDoor
open Go.ChangeShapes Go.WideShapes Go.ChangeAt Go.RowKit

theorem bt_toList (l : List UInt8) : (bt l).toList = l := by
  have h : (bt l).toList = (bt l).data.toList := ByteArray.toList_eq _
  rw [h]
  rfl
set_option maxRecDepth 8000 in
theorem spec_LeastPicture_no (s : ByteArray) (w : World) (hs : s.size ≤ 2000000) (h : isPic s.data.toList = false) :
    Calls Tryd.prog 14 #[.string s] w fun e w' => e = .returned (.tuple #[.string ⟨#[]⟩, .bool false]) ∧ Below w.heap.size w w' := by
  have HR := Lib.hid fun W => doRows_no s W (by omega) h
  clear h
  go_enter Tryd.func14, Tryd.ntmps14
  go_wp2_with (go_at_call 27; refine (HR.out _).mono ?_; rintro e w1 ⟨rfl, hb1⟩)
  go_ret2
  exact ⟨rfl, hb1⟩
/-- What the two rounds begin with; what they come to. -/
def qOf (W H : Nat) (d : Nat → Bool) (j : Nat) : Gc := if j = 0 then (W, H, d) else (W, H, mD W d)
def lOf (L : List UInt8) (W H : Nat) (d : Nat → Bool) : Nat → List UInt8
  | 0 => L
  | j + 1 => bst (lOf L W H d j) (pcOf (qOf W H d j)) 4
theorem qOf_w (W H : Nat) (d : Nat → Bool) (j : Nat) : (qOf W H d j).1 = W ∧ (qOf W H d j).2.1 = H := by
  unfold qOf
  split <;> exact ⟨rfl, rfl⟩
set_option maxRecDepth 8000 in
set_option maxHeartbeats 3200000 in
theorem spec_LeastPicture_yes (s : ByteArray) (W H n : Nat) (d : Nat → Bool) (w : World) (hp : IsP s W H n d) (h24 : H ≤ 24) :
    Calls Tryd.prog 14 #[.string s] w fun e w' => e = .returned (.tuple #[.string (bt (lOf s.data.toList W H d 2)), .bool true]) ∧ Below w.heap.size w w' := by
  obtain ⟨w0, w1, h0, h1, hn, HR⟩ := hp
  have HRR := Lib.hid HR
  have HMI := Lib.hid fun g c lo w' (a : H ≤ c) (b : RowsAt w' lo g H (gRows W H d)) => (doMirror_any g H c (gRows W H d) w' lo b h0 (by omega) a (fun j => by
    by_cases hj : j < H
    · rw [gRows_at W H d j hj, gRow_len]; omega
    · rw [List.getD_eq_getElem?_getD, List.getElem?_eq_none (by rw [gRows_len]; omega)]; simp))
  rw [rows_mirror] at HMI
  have HL2 := Lib.hid (show ∀ j, j < 2 → lOf s.data.toList W H d (j + 1) = bst (lOf s.data.toList W H d j) (pcOf (qOf W H d j)) 4 from fun j _ => rfl)
  have HL0 := Lib.hid (show s = bt (lOf s.data.toList W H d 0) from (bt_self s).symm)
  clear HR hn
  generalize lOf s.data.toList W H d = lf at *
  go_enter Tryd.func14, Tryd.ntmps14
  go_wp2_with (first
    | (go_at_call 27; refine (HRR.out _).mono ?_; rintro e w1 ⟨g, c, rfl, hc, hr, hb1⟩)
    | (go_at_call 31; refine (HMI.out g c _ _ hc hr).mono ?_; rintro e w2 ⟨g2, c2, rfl, hc2, hr2, hb2⟩))
  have hz1 : w.heap.size ≤ w1.heap.size := hb1.size
  have hz2 : w1.heap.size ≤ w2.heap.size := hb2.size
  have hg0 := hr.lo
  have hg2 := hr2.hi
  have hrk := hr.below hb2
  have hgl := hrk.hi
  obtain ⟨V, hV⟩ : ∃ V, V = w2.alloc (.cells #[.slice (some ⟨g, 0, none⟩) H c, .slice (some ⟨g2, 0, none⟩) H c2] 43) := ⟨_, rfl⟩
  rw [← hV]
  have k0 : V.cell? ⟨w2.heap.size, 0, none⟩ = some (.slice (some ⟨g, 0, none⟩) H c) := by rw [hV]; simp [go_sem]
  have k1 : V.cell? ⟨w2.heap.size, 1, none⟩ = some (.slice (some ⟨g2, 0, none⟩) H c2) := by rw [hV]; simp [go_sem]
  have HBV : Hid (Below w.heap.size w V) := Lib.hid (by rw [hV]; exact (hb1.trans (hb2.mono hz1)).alloc (by omega) _)
  have hzV : V.heap.size = w2.heap.size + 1 := by rw [hV]; simp
  have HQ : Hid (∀ j, j < 2 → ∃ g c, V.cell? ⟨w2.heap.size, j, none⟩ = some (.slice (some ⟨g, 0, none⟩) H c) ∧ H ≤ c ∧ g < w2.heap.size ∧ RowsAt V 0 g H (gRows (qOf W H d j).1 (qOf W H d j).2.1 (qOf W H d j).2.2)) := Lib.hid fun j hj => by
    have hbv : Below w2.heap.size w2 V := by rw [hV]; exact (Below.refl _ _).alloc (Nat.le_refl _) _
    have e : j = 0 ∨ j = 1 := by omega
    rcases e with rfl | rfl
    · have h := hrk.below hbv
      exact ⟨g, c, k0, hc, hgl, h.cell, Nat.zero_le _, h.hi, h.n⟩
    · have h := hr2.below hbv
      exact ⟨g2, c2, k1, hc2, hg2, h.cell, Nat.zero_le _, h.hi, h.n⟩
  clear hb1 hb2 hr hr2 hrk k0 k1 hV hg0 hg2 hgl hc hc2 HRR HMI
  have HQW := Lib.hid fun j => qOf_w W H d j
  generalize qOf W H d = qf at *
  generalize w2.heap.size = B at *
  rw [HL0.out]
  clear HL0
  go_loopw [6, 8, 9, 10, 24] (fun v _ _ _ i wr => ∃ j : Nat, j ≤ 2 ∧ i = .int .i64 (j : Int) ∧ v = .string (bt (lf j)) ∧ Hid (Below (B + 1) V wr)) (fun _ _ _ _ i _ => 2 - (intOf i).toNat)
  case atStart => exact ⟨0, by omega, by simp, rfl, Lib.hid (Below.refl _ _)⟩
  case round =>
    obtain ⟨j, hj, rfl, rfl, hb⟩ := hrel
    by_cases hlt : j < 2
    · have hlt2 : (j : Int) < 2 := by omega
      obtain ⟨g, c, hcell, hc, hgB, hrow⟩ := HQ.out j hlt
      have hcell2 : wr.cell? ⟨B, j, none⟩ = some (.slice (some ⟨g, 0, none⟩) H c) := (hb.out.cell (p := ⟨B, j, none⟩) (by simp)).trans hcell
      have hrow2 := hrow.under hb.out (by omega)
      obtain ⟨e1, e2⟩ := HQW.out j
      have hL := HL2.out j hlt
      have HGB := Lib.hid (gir_bd (qf j) (by rw [e1, e2]; omega))
      have HT := Lib.hid (show ∀ k, txt (itr (pcOf (qf j)) k) = gText (gir (qf j) k).1 (gir (qf j) k).2.1 (gir (qf j) k).2.2 from fun k => by rw [← pc_gir, txt_pc])
      have HR0 := Lib.hid hrow2
      have HLL := Lib.hid hL
      have HS0 : Hid (H = (gir (qf j) 0).2.1) := Lib.hid e2.symm
      have HR00 : Hid (RowsAt wr 0 g (gir (qf j) 0).2.1 (gRows (gir (qf j) 0).1 (gir (qf j) 0).2.1 (gir (qf j) 0).2.2)) := Lib.hid (by
        have h := HR0.out
        rw [← e2] at h
        exact h)
      have HBS := Lib.hid (show ∀ k, bst (lf j) (pcOf (qf j)) (k + 1) = mn (bst (lf j) (pcOf (qf j)) k) (gText (gir (qf j) k).1 (gir (qf j) k).2.1 (gir (qf j) k).2.2) from fun k => by rw [bst, HT.out])
      have HB0 := Lib.hid (show lf j = bst (lf j) (pcOf (qf j)) 0 from rfl)
      have HGN := Lib.hid (show ∀ k, gir (qf j) (k + 1) = gtn (gir (qf j) k) from fun _ => rfl)
      have hc0 : (gir (qf j) 0).2.1 ≤ c := by rw [← HS0.out]; exact hc
      rw [HS0.out] at hcell2
      clear hcell hrow hrow2 hL HR0 e1 e2 HT HS0 hc HQ HQW
      have HBR := Lib.hid hb.out
      rw [HB0.out]
      go_wp2
      generalize bst (lf j) (pcOf (qf j)) = bs at *
      generalize gir (qf j) = gq at *
      go_loopw [6, 8, 9, 10] (fun v r kv _ wk => ∃ k g c : Nat, k ≤ 4 ∧ kv = .int .i64 (k : Int) ∧ v = .string (bt (bs k)) ∧ r = .slice (some ⟨g, 0, none⟩) (gq k).2.1 c ∧ (gq k).2.1 ≤ c ∧ Hid (RowsAt wk 0 g (gq k).2.1 (gRows (gq k).1 (gq k).2.1 (gq k).2.2)) ∧ Hid (Below (B + 1) V wk)) (fun _ _ kv _ _ => 4 - (intOf kv).toNat)
      case atStart => exact ⟨0, g, c, by omega, by simp, rfl, rfl, hc0, HR00, HBR⟩
      case round =>
        obtain ⟨k, g, c, hk, rfl, rfl, rfl, hc, hR, hbk⟩ := hrel
        clear HR00 HBR hcell2
        by_cases hk4 : k < 4
        · have hk42 : (k : Int) < 4 := by omega
          obtain ⟨b0, b1, b2, b3⟩ := HGB.out k
          have hbs := HBS.out k
          have hgn := HGN.out k
          generalize gq k = q at *
          obtain ⟨W', H', d'⟩ := q
          dsimp only at *
          have HX := Lib.hid (text_of hR.out hc b1 b2 (by omega))
          have HY := Lib.hid (doTurn_any g W' H' c 0 d' _ b0 (by omega) b2 (by omega) hc hR.out)
          generalize gText W' H' d' = t at *
          cases hlt3 : Op.bytesLess t (bs k) with
          | true =>
            have hlt4 : Op.bytesLess (bt t).toList (bt (bs k)).toList = true := by rw [bt_toList, bt_toList]; exact hlt3
            have hm : bs (k + 1) = t := by rw [hbs]; unfold mn; rw [hlt3]; rfl
            have hle := hbk.out.size
            clear hbs hlt3
            go_wp2_with (first
              | (go_at_call 28; refine (HX.out).mono ?_; rintro e wx ⟨rfl, rfl⟩)
              | (go_at_call 29; refine (HY.out).mono ?_; rintro e wy ⟨g', c', rfl, hc', hr', hby⟩))
            have HRY : Hid (RowsAt wy 0 g' (gq (k + 1)).2.1 (gRows (gq (k + 1)).1 (gq (k + 1)).2.1 (gq (k + 1)).2.2)) := Lib.hid (by rw [hgn]; exact ⟨hr'.cell, Nat.zero_le _, hr'.hi, hr'.n⟩)
            have HBY := Lib.hid (hbk.out.trans (hby.mono (by omega)))
            clear hr' hby
            go_wp2
            go_roundw
            case rel => exact ⟨k + 1, g', c', by omega, by go_num, by rw [hm], by rw [hgn]; rfl, by rw [hgn]; exact hc', HRY, HBY⟩
            case measure => simp [intOf]; omega
          | false =>
            have hlt4 : Op.bytesLess (bt t).toList (bt (bs k)).toList = false := by rw [bt_toList, bt_toList]; exact hlt3
            have hm : bs (k + 1) = (bs k) := by rw [hbs]; unfold mn; rw [hlt3]; rfl
            have hle := hbk.out.size
            clear hbs hlt3
            go_wp2_with (first
              | (go_at_call 28; refine (HX.out).mono ?_; rintro e wx ⟨rfl, rfl⟩)
              | (go_at_call 29; refine (HY.out).mono ?_; rintro e wy ⟨g', c', rfl, hc', hr', hby⟩))
            have HRY : Hid (RowsAt wy 0 g' (gq (k + 1)).2.1 (gRows (gq (k + 1)).1 (gq (k + 1)).2.1 (gq (k + 1)).2.2)) := Lib.hid (by rw [hgn]; exact ⟨hr'.cell, Nat.zero_le _, hr'.hi, hr'.n⟩)
            have HBY := Lib.hid (hbk.out.trans (hby.mono (by omega)))
            clear hr' hby
            go_wp2
            go_roundw
            case rel => exact ⟨k + 1, g', c', by omega, by go_num, by rw [hm], by rw [hgn]; rfl, by rw [hgn]; exact hc', HRY, HBY⟩
            case measure => simp [intOf]; omega
        · obtain rfl : k = 4 := by omega
          have hl := HLL.out
          go_wp2
          go_roundw
          case rel => exact ⟨j + 1, by omega, by go_num, by rw [hl], hbk⟩
          case measure => simp [intOf]; omega
    · obtain rfl : j = 2 := by omega
      go_wp2
      go_ret2
      exact ⟨rfl, HBV.out.trans (hb.out.mono (by omega))⟩
end Go.Proofs.YtmcdmacpgjkelaaDoor
