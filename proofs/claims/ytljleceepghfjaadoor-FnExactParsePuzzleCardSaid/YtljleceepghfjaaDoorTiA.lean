/- Chapter 9: the text of a puzzle, plainly and by the specification. -/
import Derived.Test.YtljleceepghfjaaDoorMa
import Derived.Test.YtljleceepghfjaaDoorTfG
import Derived.Deep.RegionHeld3
import Derived.Lib.Join
import Derived.Deep.DeepCutAuto
namespace Go.Proofs.YtljleceepghfjaaDoor
open Go.ChangeShapes Go.WideShapes Go.ChangeAt Go.RowKit

/-- A number's text. -/
def dT (n : Int) : ByteArray := ⟨(Lib.decDigits n.toNat).toArray⟩
theorem dT_size (n : Int) (h : n ≤ 1000) : (dT n).size ≤ 11 := by
  have := dec_len n.toNat (by omega)
  unfold dT
  simpa [ByteArray.size] using this
/-- A clue's text. -/
def clT (q : Clu) : ByteArray := (((dT q.k ++ ⟨#[46]⟩) ++ dT q.a) ++ ⟨#[46]⟩) ++ dT q.b
theorem okc9_bds {q : Clu} (h : okc9 q = true) : (0 ≤ q.k ∧ q.k ≤ 5) ∧ (0 ≤ q.a ∧ q.a ≤ 100) ∧ (0 ≤ q.b ∧ q.b ≤ 100) := by
  unfold okc9 at h
  split at h
  · have := of_decide_eq_true h; omega
  · split at h
    · have := of_decide_eq_true h; omega
    · split at h
      · have := of_decide_eq_true h; omega
      · split at h
        · have := of_decide_eq_true h; omega
        · cases h
theorem cat_size (x y : ByteArray) : (x ++ y).size = x.size + y.size := by simp [ByteArray.size_append]
theorem one_size (b : UInt8) : (⟨#[b]⟩ : ByteArray).size = 1 := rfl
theorem clT_size {q : Clu} (h : okc9 q = true) : (clT q).size ≤ 35 := by
  obtain ⟨⟨_, h1⟩, ⟨_, h2⟩, ⟨_, h3⟩⟩ := okc9_bds h
  have a1 := dT_size q.k (by omega)
  have a2 := dT_size q.a (by omega)
  have a3 := dT_size q.b (by omega)
  unfold clT
  rw [cat_size, cat_size, cat_size, cat_size, one_size]
  omega
/-- The text of a puzzle with the first clues, as the specification writes it. -/
def pzR (m : Int) (xs : List Clu) : Nat → ByteArray
  | 0 => dT m ++ ⟨#[58]⟩
  | k + 1 => (if 0 < k then pzR m xs k ++ ⟨#[44]⟩ else pzR m xs k) ++ clT (xs.getD k clu0)
theorem pzR_first (m : Int) (xs : List Clu) : pzR m xs (0 + 1) = pzR m xs 0 ++ clT (xs.getD 0 clu0) := by
  show (if 0 < 0 then pzR m xs 0 ++ ⟨#[44]⟩ else pzR m xs 0) ++ clT (xs.getD 0 clu0) = _
  rw [if_neg (by omega)]
theorem pzR_next (m : Int) (xs : List Clu) (j : Nat) : pzR m xs (j + 1 + 1) = (pzR m xs (j + 1) ++ ⟨#[44]⟩) ++ clT (xs.getD (j + 1) clu0) := by
  show (if 0 < j + 1 then pzR m xs (j + 1) ++ ⟨#[44]⟩ else pzR m xs (j + 1)) ++ clT (xs.getD (j + 1) clu0) = _
  rw [if_pos (by omega)]
theorem pzR_size {m : Int} {xs : List Clu} (hm : m ≤ 1000) (hx : xs.all okc9 = true) : ∀ k, k ≤ xs.length → (pzR m xs k).size ≤ 12 + 36 * k
  | 0, _ => by
    have := dT_size m hm
    unfold pzR
    rw [cat_size, one_size]
    omega
  | k + 1, hk => by
    have ih := pzR_size hm hx k (by omega)
    have hq : okc9 (xs.getD k clu0) = true := by
      rw [List.getD_eq_getElem?_getD, List.getElem?_eq_getElem (by omega), Option.getD_some]
      exact List.all_eq_true.1 hx _ (List.getElem_mem _)
    have hc := clT_size hq
    unfold pzR
    split
    · rw [cat_size, cat_size, one_size]; omega
    · rw [cat_size]; omega
/-- .. and as Join writes it. -/
theorem pzR_join (m : Int) (xs : List Clu) : ∀ k, k ≤ xs.length → (pzR m xs k).data.toList = (dT m ++ ⟨#[58]⟩).data.toList ++ Lib.join ((xs.take k).map fun q => (clT q).data.toList) [44]
  | 0, _ => by simp [pzR, Lib.join_nil]
  | k + 1, hk => by
    have ih := pzR_join m xs k (by omega)
    have ht := take_succ9 xs k (by omega)
    match xs, hk, ih, ht with
    | x :: r, hk, ih, ht =>
      unfold pzR
      match k, ih, ht, hk with
      | 0, ih, ht, hk =>
        rw [if_neg (by omega)]
        simp only [ByteArray.data_append, Array.toList_append] at ih ⊢
        rw [ih]
        simp [Lib.join_nil, Lib.join_one]
      | j + 1, ih, ht, hk =>
        rw [if_pos (by omega)]
        simp only [ByteArray.data_append, Array.toList_append] at ih ⊢
        rw [ih]
        simp only [List.take_succ_cons, List.map_cons, Lib.join_cons]
        have hj : j < r.length := by simp at hk; omega
        have hg : (r.map fun q => (clT q).data.toList)[j]? = some (clT (r.getD j clu0)).data.toList := by
          rw [List.getElem?_map, List.getElem?_eq_getElem hj, Option.map_some, List.getD_eq_getElem?_getD, List.getElem?_eq_getElem hj, Option.getD_some]
        have := Lib.joinTail_take_succ [44] (r.map fun q => (clT q).data.toList) j _ hg
        rw [← List.map_take, ← List.map_take] at this
        rw [this]
        simp [List.append_assoc]
theorem cat_run9 (x y : ByteArray) (h : x.size + y.size ≤ 1000000) (W : World) : (Op.stringOp .add x y).run Tryd.prog W = .ok (.string (x ++ y)) W := run_string_add_sum W x y (by omega)
/-- Three ints in a box. -/
def Bt (w : World) (Q : Nat) (x y z : Int) : Prop := w.cell? ⟨Q, 0, none⟩ = some (.int .i64 x) ∧ w.cell? ⟨Q, 1, none⟩ = some (.int .i64 y) ∧ w.cell? ⟨Q, 2, none⟩ = some (.int .i64 z)
theorem Bt.below {w w' : World} {Q : Nat} {x y z : Int} (h : Bt w Q x y z) (hQ : Q < w.heap.size) (hb : Below w.heap.size w w') : Bt w' Q x y z :=
  ⟨(hb.cell (p := ⟨Q, 0, none⟩) hQ).trans h.1, (hb.cell (p := ⟨Q, 1, none⟩) hQ).trans h.2.1, (hb.cell (p := ⟨Q, 2, none⟩) hQ).trans h.2.2⟩
theorem Bt.all {w : World} {Q : Nat} {x y z : Int} (h : Bt w Q x y z) : w.cell? ⟨Q, 0, none⟩ = some (.int .i64 x) ∧ w.cell? ⟨Q, 1, none⟩ = some (.int .i64 y) ∧ w.cell? ⟨Q, 2, none⟩ = some (.int .i64 z) := h
theorem Bt.drew {w : World} {Q : Nat} {x y z : Int} (h : Bt w Q x y z) : Bt w.drew Q x y z := h
theorem Bt.new (w : World) (x y z : Int) (t : TypeId) : Bt (w.alloc (.cells #[.int .i64 x, .int .i64 y, .int .i64 z] t)) w.heap.size x y z := ⟨by simp [go_sem], by simp [go_sem], by simp [go_sem]⟩
end Go.Proofs.YtljleceepghfjaaDoor
