/- Two shapes: the iterator slices.Backward, and the program's pairs. -/
import Derived.RangeFuncBox
import Derived.RangeFuncCalls
import Derived.RangeFuncLeaves
import Derived.RangeFuncWrites
import Derived.Shelf.Abstract
import Derived.OwnWalkIn
import Derived.TacticsInMore
import Derived.LoopNIn
import Derived.LoopIn
import Derived.Maps.AppendAt
import Derived.Test.YtegbikakfckehaaDoorMb
namespace Go.Proofs.YtegbikakfckehaaDoor
open Go.RowKit Go.Shelf
attribute [local go_sem] Oper.semAt_some

/-- What has come when k rounds are over: f 0, .., f (k - 1). -/
def upto {α : Type} (f : Nat → α) (k : Nat) : List α := (List.range k).map f
theorem upto_succ {α : Type} (f : Nat → α) (k : Nat) : upto f (k + 1) = upto f k ++ [f k] := by simp [upto, List.range_succ]
theorem upto_length {α : Type} (f : Nat → α) (k : Nat) : (upto f k).length = k := by simp [upto]

/-- Two blocks lie as they lay. -/
def Two (a b : Nat) (W W' : World) : Prop := W'.heap[a]? = W.heap[a]? ∧ W'.heap[b]? = W.heap[b]?
theorem Two.refl (a b : Nat) (W : World) : Two a b W W := ⟨rfl, rfl⟩
theorem two_t {a b : Nat} {A B C : World} (h1 : Two a b A B) (h2 : Two a b B C) : Two a b A C := ⟨h2.1.trans h1.1, h2.2.trans h1.2⟩
theorem Two.cell1 {a b o : Nat} {A B : World} (h : Two a b A B) : B.cell? ⟨a, o, none⟩ = A.cell? ⟨a, o, none⟩ := World.cell?_of_block (a := ⟨a, o, none⟩) h.1
theorem Two.cell2 {a b o : Nat} {A B : World} (h : Two a b A B) : B.cell? ⟨b, o, none⟩ = A.cell? ⟨b, o, none⟩ := World.cell?_of_block (a := ⟨b, o, none⟩) h.2

set_option maxRecDepth 100000 in
set_option maxHeartbeats 2000000 in
theorem back1_in {α : Type} (encs : α → Array Value) (it : Nat → α) (F : Fence) (n : Nat) (h7 : F.fn 77) (hro : F.round = none) (hn : 1 ≤ n) (l Bs g len cap : Nat) (f : Nat → Int) (hlen : len ≤ 1000000) (hit : ∀ j, j < len → encs (it j) = #[.int .i64 (j : Int), .int .i64 (f j)]) (J Jx : List α → World → Prop)
    (hY : ∀ pre x W, J pre W → pre.length < len → YieldAt F (n - 1) Tryd.prog l (encs x) W fun e W' =>
      (e = .returned (.bool true) ∧ J (pre ++ [x]) W' ∧ Two Bs g W W') ∨ (e = .returned (.bool false) ∧ Jx (pre ++ [x]) W'))
    (W : World) (hBs : W.cell? ⟨Bs, 0, none⟩ = some (.slice (some ⟨g, 0, none⟩) len cap)) (hc : ∀ j, j < len → W.cell? ⟨g, j, none⟩ = some (.int .i64 (f j))) (h0 : J [] W) :
    CallsIn F n Tryd.prog 77 #[.func (.yield l) #[] #[], .pointer (some ⟨Bs, 0, none⟩)] W fun e W' => (∃ v, e = .returned v) ∧
      ((∃ ys, ys = upto (fun i => it (len - 1 - i)) len ∧ J ys W') ∨ (∃ pre, (∃ k, k ≤ len ∧ pre = upto (fun i => it (len - 1 - i)) k) ∧ Jx pre W')) := by
  refine callsIn_of_wp Tryd.func77 rfl h7 ?_ hro
  simp only [Tryd.ntmps77, List.size_toArray, List.length_cons, List.length_nil, Nat.reduceAdd, Nat.reduceSub, Array.replicate_succ, Array.replicate_zero, List.push_toArray, List.append_toArray, List.nil_append, List.cons_append]
  gi_wp2
  gi_loopw [3] (fun i wr => ∃ k : Nat, k ≤ len ∧ i = .int .i64 ((len : Int) - 1 - k) ∧ J (upto (fun i => it (len - 1 - i)) k) wr ∧ Two Bs g W wr)
    (fun i _ => (intOf i + 1).toNat)
  case atStart => exact ⟨0, Nat.zero_le _, by simp, h0, Two.refl _ _ _⟩
  case round =>
    obtain ⟨k, hk, rfl, hJs, hnx⟩ := hrel
    by_cases hlt : k < len
    · obtain ⟨q, hq⟩ : ∃ q, q = len - 1 - k := ⟨_, rfl⟩
      have hqe : (len : Int) - 1 - (k : Int) = (q : Int) := by omega
      have hqe2 : (q : Int) - 1 = (len : Int) - 1 - ((k + 1 : Nat) : Int) := by omega
      have hql : (q : Int) < (len : Int) := by omega
      have hcx : wr.cell? ⟨g, q, none⟩ = some (.int .i64 (f q)) := hnx.cell2.trans (hc q (by omega))
      have hbx : wr.cell? ⟨Bs, 0, none⟩ = some (.slice (some ⟨g, 0, none⟩) len cap) := hnx.cell1.trans hBs
      obtain ⟨fn, tmps, assign, body, hy, hR⟩ := hY _ (it (len - 1 - k)) wr hJs (by rw [upto_length]; exact hlt)
      have hup := upto_succ (fun i => it (len - 1 - i)) k
      rw [← hq] at hy hR hup
      rw [hit q (by omega)] at hy
      rw [hqe]
      clear hq hqe
      gi_wp2
      refine hR.mono ?_
      rintro e W3 (⟨rfl, hJ3, hk3⟩ | ⟨rfl, hJx3⟩)
      · clear hcx hbx hR
        gi_wp2
        go_roundw
        case rel => exact ⟨k + 1, by omega, by first | rw [hqe2] | (push_cast; rfl), by rw [hup]; exact hJ3, two_t hnx hk3⟩
        case measure => simp [intOf]; omega
      · gi_wp2
        refine bodyPost_ret (results_none rfl _ _ _) rfl ?_
        exact ⟨⟨_, rfl⟩, .inr ⟨_, ⟨k + 1, by omega, hup.symm⟩, hJx3⟩⟩
    · obtain rfl : k = len := by omega
      have hneg : ¬ (0 : Int) ≤ (k : Int) - 1 - (k : Int) := by omega
      gi_wp2
      go_end0
      first
        | exact ⟨⟨_, rfl⟩, .inl ⟨_, rfl, hJs⟩⟩
        | exact ⟨⟨_, rfl⟩, .inl hJs⟩

set_option maxHeartbeats 1000000 in
theorem back_in (F : Fence) (n : Nat) (h5 : F.fn 72) (hro : F.round = none) (a : Option Addr) (len cap : Nat) (w : World) :
    CallsIn F n Tryd.prog 72 #[.slice a len cap] w fun e w' => e = .returned (.func (.func 77) #[] #[.pointer (some ⟨w.heap.size, 0, none⟩)]) ∧ w' = w.alloc (.cells #[.slice a len cap] 25) := by
  refine callsIn_of_wp Tryd.func72 rfl h5 ?_ hro
  simp only [Tryd.ntmps72, List.size_toArray, List.length_cons, List.length_nil, Nat.reduceAdd, Nat.reduceSub, Array.replicate_succ, Array.replicate_zero, List.push_toArray, List.append_toArray, List.nil_append, List.cons_append]
  gi_wp2
  go_ret
  exact ⟨rfl, rfl⟩

theorem back_stops {α : Type} (encs : α → Array Value) (it : Nat → α) (F : Fence) (n : Nat) (h8 : F.fn 77) (hro : F.round = none) (hn : 1 ≤ n) (Bs g len cap : Nat) (f : Nat → Int) (hlen : len ≤ 1000000) (hit : ∀ j, j < len → encs (it j) = #[.int .i64 (j : Int), .int .i64 (f j)]) (w : World) (hBs : Bs < w.heap.size) (hg : g < w.heap.size)
    (hb : w.cell? ⟨Bs, 0, none⟩ = some (.slice (some ⟨g, 0, none⟩) len cap)) (hc : ∀ j, j < len → w.cell? ⟨g, j, none⟩ = some (.int .i64 (f j))) :
    SeqStopsK F n Tryd.prog 77 #[.pointer (some ⟨Bs, 0, none⟩)] encs (Two Bs g) (fun ys => ys = upto (fun i => it (len - 1 - i)) len)
      (fun pre => ∃ k, k ≤ len ∧ pre = upto (fun i => it (len - 1 - i)) k) len w := fun l J Jx W hW _ _ hY h0 =>
  back1_in encs it F n h8 hro hn l Bs g len cap f hlen hit J Jx hY W ((hW.cell (p := ⟨Bs, 0, none⟩) hBs).trans hb) (fun j hj => (hW.cell (p := ⟨g, j, none⟩) hg).trans (hc j hj)) h0

/-- A place and its number, within bounds. -/
abbrev PX (N : Nat) := { x : Nat × Int // x.1 ≤ 100 ∧ 0 ≤ x.2 ∧ x.2 ≤ N }
/-- The pair of a place: with that place of b sides that makes up n, if there is one. -/
noncomputable def cand (b : Int) (N : Nat) (x : PX N) : List (Int × Int) := if num b (pl b (N - x.1.2)) = N - x.1.2 then [((x.1.1 : Int), pl b (N - x.1.2))] else []
noncomputable def pairs (b : Int) (N : Nat) (xs : List (PX N)) : List (Int × Int) := xs.flatMap (cand b N)
theorem pairs_hit (b : Int) (N : Nat) (xs : List (PX N)) (x : PX N) (h : num b (pl b (N - x.1.2)) = N - x.1.2) : pairs b N (xs ++ [x]) = pairs b N xs ++ [((x.1.1 : Int), pl b (N - x.1.2))] := by simp [pairs, cand, h]
theorem pairs_miss (b : Int) (N : Nat) (xs : List (PX N)) (x : PX N) (h : ¬ num b (pl b (N - x.1.2)) = N - x.1.2) : pairs b N (xs ++ [x]) = pairs b N xs := by
  unfold pairs
  rw [List.flatMap_append]
  simp only [List.flatMap_cons, List.flatMap_nil, List.append_nil, cand]
  rw [if_neg h, List.append_nil]
theorem pairs_len (b : Int) (N : Nat) (xs : List (PX N)) : (pairs b N xs).length ≤ xs.length := by
  induction xs with
  | nil => simp [pairs]
  | cons x xs ih =>
    have e : pairs b N (x :: xs) = cand b N x ++ pairs b N xs := by simp [pairs]
    rw [e, List.length_append, List.length_cons]
    have : (cand b N x).length ≤ 1 := by unfold cand; split <;> simp
    omega
/-- The places of a sides with their numbers. -/
noncomputable def item (a : Int) (N : Nat) (j : Nat) : PX N := if h : j ≤ 100 ∧ 0 ≤ num a j ∧ num a j ≤ N then ⟨(j, num a j), h⟩ else ⟨(0, 0), by omega⟩
theorem item_at (a : Int) (N j : Nat) (h : j ≤ 100 ∧ 0 ≤ num a j ∧ num a j ≤ N) : (item a N j).1 = (j, num a j) := by
  unfold item
  rw [dif_pos h]
/-- What came: all places down from k. -/
noncomputable def came (a : Int) (N k : Nat) : List (PX N) := upto (fun i => item a N (k + 1 - 1 - i)) (k + 1)
theorem below_keeps {B : Nat} {W W' : World} (h : Below W.heap.size W W') : KeepsFrom B W W' := ⟨h.size, fun k o _ hk _ => (h.block k (Array.getElem?_eq_some_iff.1 hk).1).trans hk⟩
theorem cell_two_new (w : World) (x y : Value) (e : TypeId) : ∀ (k : Nat) (u : Value), [x, y][k]? = some u → (w.alloc (.cells #[x, y] e)).cell? ((⟨w.heap.size, 0, none⟩ : Addr).add k) = some u := by
  intro k u h
  rw [addr_none]
  have := World.alloc_heap_new w (.cells #[x, y] e)
  match k, h with
  | 0, h => simp at h; subst h; unfold World.cell?; rw [this]; rfl
  | 1, h => simp at h; subst h; unfold World.cell?; rw [this]; rfl
theorem not_row' {W : World} {k : Nat} {t e : TypeId} {cur : Array Value} (h : W.heap[k]? = some (.cells cur t (0, 0))) (hte : t ≠ e) {base size n : Nat} {v : Value} {xs : List Value} (hr : W.ownsRow base e size v n xs) : some k ≠ v.ownBlock := by
  rcases hr.2 with ⟨rfl, _⟩ | ⟨g, cap, cur', rfl, _, hgb, _⟩
  · simp [Value.ownBlock]
  · intro e'
    obtain rfl : k = g := by simpa [Value.ownBlock] using e'
    rw [h] at hgb
    injection hgb with hgb
    injection hgb with _ h3 _
    exact hte h3
theorem blk_after {w5 w6 : World} {k P : Nat} {t e : TypeId} {cur : Array Value} {tmp : Obj} {base size n : Nat} {v v' : Value} {xs : List Value} (h : w5.heap[k]? = some (.cells cur t (0, 0))) (hte : t ≠ e) (hr : w5.ownsRow base e size v n xs)
    (hg : (w5.alloc tmp).grownBy w6 v.ownBlock) (hP : k ≠ P) : (w6.setCell ⟨P, 0, none⟩ v').heap[k]? = some (.cells cur t (0, 0)) := by
  have hk := (Array.getElem?_eq_some_iff.1 h).1
  rw [Below.heap_setCell _ _ _ k (fun e => hP e), hg.block k (by simp; omega) (not_row' h hte hr)]
  exact (((Below.refl w5.heap.size w5).alloc (Nat.le_refl _) tmp).block k hk).trans h
theorem block_own {β : Type} (k : Nat) (o : Obj) (hc : o.isCells = true) : _root_.Go.Own (fun (_ : β) W => W.heap[k]? = some o) := by
  rintro s X Y row h hg hrow
  refine (hg.block _ (Array.getElem?_eq_some_iff.1 h).1 (fun e => ?_)).trans h
  obtain ⟨o', ho, hc'⟩ := hrow _ e.symm
  rw [h] at ho
  cases ho
  rw [hc] at hc'
  cases hc'
/-- Pairs as cells. -/
def prc (ps : List (Int × Int)) : List Value := ps.flatMap fun p => [.int .i64 p.1, .int .i64 p.2]
theorem prc_len (ps : List (Int × Int)) : (prc ps).length = ps.length * 2 := by
  induction ps with
  | nil => rfl
  | cons p ps ih => simp [prc, List.flatMap_cons] at ih ⊢; omega
theorem prc_app (ps : List (Int × Int)) (x y : Int) : prc (ps ++ [(x, y)]) = prc ps ++ [.int .i64 x, .int .i64 y] := by simp [prc]
theorem infoPair : (Tryd.prog.info? 65).map (fun i => (i.zero, i.size, i.bytes)) = some (some (.agg #[.int .i64 0, .int .i64 0]), 2, 16) := by kernel_rfl

theorem two_boxes {w w1 : World} {N : Nat} {b : Int} (hb1 : Below (w.alloc (.cells #[.int .i64 (N : Int)] 3)).heap.size (w.alloc (.cells #[.int .i64 (N : Int)] 3)) w1) :
    w.heap.size < w1.heap.size ∧ ((w1.alloc (.cells #[.int .i64 0, .int .i64 (4 - b), .int .i64 (b - 2)] 68)).alloc (.cells #[.slice none 0 0] 62)).cell? ⟨w.heap.size, 0, none⟩ = some (.int .i64 N) := by
  have hs1 : w.heap.size < w1.heap.size := by
    have := hb1.size
    simp at this
    omega
  have q0 := hb1.cell (p := ⟨w.heap.size, 0, none⟩) (by simp)
  have q2 := (((Below.refl w1.heap.size w1).alloc (Nat.le_refl _) (.cells #[.int .i64 0, .int .i64 (4 - b), .int .i64 (b - 2)] 68)).alloc (by simp) (.cells #[.slice none 0 0] 62)).cell (p := ⟨w.heap.size, 0, none⟩) hs1
  refine ⟨hs1, (q2.trans q0).trans ?_⟩
  simp [go_sem]
set_option maxRecDepth 100000 in
set_option maxHeartbeats 4000000 in
theorem pairsTogether_any (a b : Int) (N : Nat) (w : World) (h1 : 3 ≤ a) (h2 : a ≤ 24) (h3 : 3 ≤ b) (h4 : b ≤ 24) (hN : N ≤ 3000) :
    Calls Tryd.prog 54 #[.int .i64 a, .int .i64 b, .int .i64 N] w fun e w' => (∃ v, e = .returned v ∧ w'.ownsRow w.heap.size 65 2 v (pairs b N (came a N (pl a N).toNat)).length (prc (pairs b N (came a N (pl a N).toNat)))) ∧ Below w.heap.size w w' := by
  have p0 := pl_nn a N h1 (by omega)
  have p1 := pl_77 a N h1 (by omega) (by omega)
  have HNP := Lib.hid (fun w => numbersByPlace_any a N w h1 h2 hN)
  have hK : (pl a N).toNat ≤ 77 := by omega
  have HKK : Hid (((pl a N).toNat : Int) = pl a N) := Lib.hid (by omega)
  generalize (pl a N).toNat = K at *
  obtain ⟨ip, hip, hzp0, hzp1, hzp2⟩ := info_parts infoPair
  refine (callsIn_wide (n := 6)).1 ?_
  refine callsIn_of_wp_marks Tryd.func54 rfl trivial ?_ rfl
  simp only [Tryd.ntmps54, List.size_toArray, List.length_cons, List.length_nil, Nat.reduceAdd, Nat.reduceSub, Array.replicate_succ, Array.replicate_zero, List.push_toArray, List.append_toArray, List.nil_append, List.cons_append]
  gi_wp2_with (first
    | (refine ⟨trivial, ?_⟩; gi_at_call 58; refine (callsIn_wide.2 (polygonRule_any _ _ h3 h4)).mono ?_; rintro e w1 ⟨rfl, hb1⟩; obtain ⟨hs1, q1⟩ := two_boxes hb1 (b := b))
    | (refine ⟨trivial, ?_⟩; gi_at_call 40; refine (callsIn_wide.2 (HNP.out _)).mono ?_; rintro e w2 ⟨⟨g0, c0, rfl, hr⟩, hb2⟩))
  refine ⟨trivial, ?_⟩
  refine (back_in Fence.wide 5 trivial rfl _ _ _ _).mono ?_
  rintro e w3 ⟨rfl, rfl⟩
  gi_wp2
  obtain ⟨hs1, _⟩ := two_boxes (b := b) hb1
  obtain ⟨wz, hwz⟩ : ∃ wz, wz = ((w1.alloc (.cells #[.int .i64 0, .int .i64 (4 - b), .int .i64 (b - 2)] 68)).alloc (.cells #[.slice none 0 0] 62)) := ⟨_, rfl⟩
  have hzs : wz.heap.size = w1.heap.size + 2 := by rw [hwz]; simp
  rw [← hwz] at hb2 hr
  have hgl := hr.lt
  have hB0 : Below w.heap.size w (w2.alloc (.cells #[.slice (some ⟨g0, 0, none⟩) (K + 1) c0] 25)) := by
    have b1 : Below w.heap.size w w1 := ((Below.refl _ w).alloc (Nat.le_refl _) _).trans (hb1.mono (by simp))
    have b2 : Below w.heap.size w wz := by rw [hwz]; exact (b1.alloc b1.size _).alloc (by have := b1.size; simp; omega) _
    have b3 := b2.trans (hb2.mono b2.size)
    exact b3.alloc b3.size _
  have o1 : w2.heap[w.heap.size]? = some (.cells #[.int .i64 (N : Int)] 3) := by
    have h1 := hb1.block w.heap.size (by simp)
    have h2 := hb2.block w.heap.size (by omega)
    rw [h2, hwz]
    have h3 := (((Below.refl w1.heap.size w1).alloc (Nat.le_refl _) (.cells #[.int .i64 0, .int .i64 (4 - b), .int .i64 (b - 2)] 68)).alloc (by simp) (.cells #[.slice none 0 0] 62)).block w.heap.size hs1
    rw [h3, h1]
    exact World.alloc_heap_new w _
  have o2 : w2.heap[w1.heap.size]? = some (.cells #[.int .i64 0, .int .i64 (4 - b), .int .i64 (b - 2)] 68) := by
    rw [hb2.block w1.heap.size (by omega), hwz]
    have h3 := ((Below.refl (w1.heap.size + 1) (w1.alloc (.cells #[.int .i64 0, .int .i64 (4 - b), .int .i64 (b - 2)] 68))).alloc (by simp) (.cells #[.slice none 0 0] 62)).block w1.heap.size (by omega)
    rw [h3]
    exact World.alloc_heap_new w1 _
  have o3 : Boxed w2 (w1.heap.size + 1) 62 (.slice none 0 0) := by
    unfold Boxed
    rw [hb2.block (w1.heap.size + 1) (by omega), hwz]
    have := World.alloc_heap_new (w1.alloc (.cells #[.int .i64 0, .int .i64 (4 - b), .int .i64 (b - 2)] 68)) (.cells #[.slice none 0 0] 62)
    rwa [World.size_alloc] at this
  obtain ⟨og, hog⟩ : ∃ cur, w2.heap[g0]? = some (.cells cur 3 (0, 0)) := by
    rcases hr.2 with ⟨h, _⟩ | ⟨g, cap, cur, h, _, hg, _⟩
    · cases h
    · injection h with h _ _
      injection h with h
      injection h with h _ _
      subst h
      exact ⟨cur, hg⟩
  have oB := World.alloc_heap_new w2 (.cells #[.slice (some ⟨g0, 0, none⟩) (K + 1) c0] 25)
  have up : ∀ {k : Nat} {o : Obj}, w2.heap[k]? = some o → (w2.alloc (.cells #[.slice (some ⟨g0, 0, none⟩) (K + 1) c0] 25)).heap[k]? = some o := fun {k o} h =>
    (((Below.refl w2.heap.size w2).alloc (Nat.le_refl _) (.cells #[.slice (some ⟨g0, 0, none⟩) (K + 1) c0] 25)).block k (Array.getElem?_eq_some_iff.1 h).1).trans h
  have hstops := back_stops (fun x : PX N => #[.int .i64 (x.1.1 : Int), .int .i64 x.1.2]) (item a N) Fence.wide 5 trivial rfl (by omega) w2.heap.size g0 (K + 1) c0 (fun j => num a (j : Int)) (by omega)
    (fun j hj => by
      have h5 := num_nn a j h1
      have h6 := (fits_iff a N j h1 (by omega) (by omega)).2 (by have := HKK.out; omega)
      rw [item_at a N j ⟨by omega, h5, h6⟩])
    (w2.alloc (.cells #[.slice (some ⟨g0, 0, none⟩) (K + 1) c0] 25)) (by simp) (by simp; omega) (Boxed.cell (Boxed.new w2 _ _))
    (fun j hj => (((Below.refl w2.heap.size w2).alloc (Nat.le_refl _) (.cells #[.slice (some ⟨g0, 0, none⟩) (K + 1) c0] 25)).cell (p := ⟨g0, j, none⟩) hgl.2).trans (hr.cell hj))
  refine wpIn_rangeFunc_ownG rfl (by omega) (gf := 77) (lb := #[.pointer (some ⟨w2.heap.size, 0, none⟩)]) rfl trivial (enters_of Tryd.func77 (by kernel_rfl) rfl)
    hstops (fun h1 h2 => two_t h1 h2) (fun W l o o' hl ho h5 h6 => ⟨(belowK_b (Nat.le_refl _) W l o o' hl ho h5 h6).block _ (by simp), (belowK_b (Nat.le_refl _) W l o o' hl ho h5 h6).block _ (by simp; omega)⟩) (Below.refl _ _) (fun _ => rfl)
    (fun pre W => (∃ v, Boxed W (w1.heap.size + 1) 62 v ∧ W.ownsRow w.heap.size 65 2 v (pairs b N pre).length (prc (pairs b N pre)) ∧ True) ∧ (W.heap[w.heap.size]? = some (.cells #[.int .i64 (N : Int)] 3)) ∧ (W.heap[w1.heap.size]? = some (.cells #[.int .i64 0, .int .i64 (4 - b), .int .i64 (b - 2)] 68)) ∧ (W.heap[w2.heap.size]? = some (.cells #[.slice (some ⟨g0, 0, none⟩) (K + 1) c0] 25)) ∧ (W.heap[g0]? = some (.cells og 3 (0, 0))) ∧ Below w.heap.size w W)
    (fun _ _ _ => False)
    (OwnFrom.and (_root_.Go.Own.from (holdsRow_own w.heap.size (w1.heap.size + 1) 62 65 2 (fun pre => (pairs b N pre).length) (fun pre => prc (pairs b N pre)) (fun _ _ => True)) _) (OwnFrom.and (_root_.Go.Own.from (block_own _ _ rfl) _) (OwnFrom.and (_root_.Go.Own.from (block_own _ _ rfl) _) (OwnFrom.and (_root_.Go.Own.from (block_own _ _ rfl) _) (OwnFrom.and (_root_.Go.Own.from (block_own _ _ rfl) _) (ownFrom_below (Nat.le_refl _) (by have := hB0.size; exact this)))))))
    (fun _ _ _ _ _ hs _ _ => hs)
    ⟨⟨_, o3.alloc _, World.ownsRow_nil _ _ _ _, trivial⟩, up o1, up o2, oB, up hog, hB0⟩
    (fun x => { tmps := #[.int .i64 a, .int .i64 b, .int .i64 (N : Int), undef, undef, .pointer (some ⟨w.heap.size, 0, none⟩), .slice none 0 0, .pointer (some ⟨w1.heap.size, 0, none⟩), .pointer (some ⟨w1.heap.size + 1, 0, none⟩), .int .i64 (x.1.1 : Int), .int .i64 x.1.2, undef, undef, .int .i64 b, .agg #[.int .i64 0, .int .i64 (4 - b), .int .i64 (b - 2)], .int .i64 a, .int .i64 (N : Int), .slice (some ⟨g0, 0, none⟩) (K + 1) c0, .func (.func 77) #[] #[.pointer (some ⟨w2.heap.size, 0, none⟩)], .int .i64 (x.1.1 : Int), .int .i64 x.1.2, undef, undef, undef, undef, undef, undef, undef, undef, undef, undef, undef, undef, undef, undef, undef, undef], defers := [] }) ?assign ?body ?done ?stop
  case assign =>
    intro l x W K hK
    gi_wp2
    exact hK
  case body =>
    rintro l pre x W ⟨⟨v, hv, hrow, _⟩, k1, k2, k3, k4, hB⟩ hlt
    obtain ⟨⟨j, y⟩, hj, hy0, hy1⟩ := x
    have cn : W.cell? ⟨w.heap.size, 0, none⟩ = some (.int .i64 (N : Int)) := by simp [World.cell?, k1]
    have r0 : W.cell? ⟨w1.heap.size, 0, none⟩ = some (.int .i64 0) := by simp [World.cell?, k2]
    have r1 : W.cell? ⟨w1.heap.size, 1, none⟩ = some (.int .i64 (4 - b)) := by simp [World.cell?, k2]
    have r2 : W.cell? ⟨w1.heap.size, 2, none⟩ = some (.int .i64 (b - 2)) := by simp [World.cell?, k2]
    have hpl := pairs_len b N pre
    obtain ⟨r, hr⟩ : ∃ r, (N : Int) - y = r := ⟨_, rfl⟩
    have hf := Lib.hid (poly_fits b r h3 h4 (by omega) (by omega))
    have hne : ¬ w.heap.size + 0 = w1.heap.size + 1 := by omega
    simp only at hj hy0 hy1
    have K1 := Lib.hid k1
    have K2 := Lib.hid k2
    clear k1 k2
    by_cases hq : num b (pl b r) = r
    · have hP := Lib.hid (pairs_hit b N pre ⟨(j, y), hj, hy0, hy1⟩ (by simp only; rw [hr]; exact hq))
      have HQ := Lib.hid hq
      clear hq
      gi_wp2_with (first
        | (refine ⟨trivial, ?_⟩; gi_at_call 73; refine (CallsIn.inRound l (callsIn_wide.2 (placeOf_yes _ _ _ _ _ _ _ hf.out HQ.out))).mono ?_; rintro e w5 ⟨rfl, hb5⟩; have hv5 : Boxed w5 (w1.heap.size + 1) 62 v := (hb5.block _ hv.lt).trans hv; have hc5 := hv5.cell; have hr5 := row_below hrow hb5 (Nat.le_refl _); have HV5 := Lib.hid hv5; have HR5 := Lib.hid hr5; clear hv5 hr5)
        | (gi_at_builtin; refine wpListIn_append_own _ rfl _ _ 62 rfl w.heap.size 65 ip (.agg #[.int .i64 0, .int .i64 0]) 2 16 Tryd.underlying62 hip hzp0 hzp1 hzp2 rfl (by decide) _ _ _ rfl (HR5.out.alloc _) ⟨w5.heap.size, 0, none⟩ 1 1 [.int .i64 (j : Int), .int .i64 (pl b r)] rfl rfl (cell_two_new _ _ _ _) (by simp [Value.oneCell']) (by unfold maxLen; omega) (by omega) (by have := hB.size; have := hb5.size; simp; omega) ?_; intro v' w6 hown' hgrow _; obtain ⟨g', cap', rfl⟩ := ownsRow_succ hown'; obtain ⟨hv1, hv2, hr2', hk2, hb6⟩ := HV5.out.appended (by decide) HR5.out (Nat.le_trans hB.size hb5.size) (by omega) hown' hgrow; have hc6 := hv1.cell; have hf6 := hv1.frozen; have HV2 := Lib.hid hv2; have HR2 := Lib.hid hr2'; have HK2 := Lib.hid hk2; have HB6 := Lib.hid hb6; have HG := Lib.hid hgrow; clear hv2 hr2' hk2 hb6 hown' hgrow hv1))
      have kb : ∀ {k : Nat} {o : Obj}, W.heap[k]? = some o → w5.heap[k]? = some o := fun {k o} h => (hb5.block k (Array.getElem?_eq_some_iff.1 h).1).trans h
      have z1 := kb K1.out
      have z2 := kb K2.out
      have z3 := kb k3
      have z4 := kb k4
      have hz3 := (Array.getElem?_eq_some_iff.1 o3).1
      refine ⟨(below_keeps hb5).trans (HK2.out.from _), ⟨(blk_after z3 (by decide) HR5.out HG.out (by omega)).trans k3.symm, (blk_after z4 (by decide) HR5.out HG.out (by omega)).trans k4.symm⟩, ⟨_, HV2.out, ?_, trivial⟩, blk_after z1 (by decide) HR5.out HG.out (by omega), blk_after z2 (by decide) HR5.out HG.out (by omega), blk_after z3 (by decide) HR5.out HG.out (by omega), blk_after z4 (by decide) HR5.out HG.out (by omega), (hB.trans (hb5.mono hB.size)).trans HB6.out⟩
      rw [hP.out]
      have h9 := HR2.out
      rw [← prc_app] at h9
      simp only [hr] at h9 ⊢
      simpa using h9
    · have hP := Lib.hid (pairs_miss b N pre ⟨(j, y), hj, hy0, hy1⟩ (by simp only; rw [hr]; exact hq))
      have HQ := Lib.hid hq
      clear hq
      gi_wp2_with (refine ⟨trivial, ?_⟩; gi_at_call 73; refine (CallsIn.inRound l (callsIn_wide.2 (placeOf_no _ _ _ _ _ _ _ hf.out HQ.out))).mono ?_; rintro e w5 ⟨rfl, hb5⟩)
      have kb : ∀ {k : Nat} {o : Obj}, W.heap[k]? = some o → w5.heap[k]? = some o := fun {k o} h => (hb5.block k (Array.getElem?_eq_some_iff.1 h).1).trans h
      exact ⟨below_keeps hb5, ⟨hb5.block _ (Array.getElem?_eq_some_iff.1 k3).1, hb5.block _ (Array.getElem?_eq_some_iff.1 k4).1⟩, ⟨v, kb hv, by rw [hP.out]; exact row_below hrow hb5 (Nat.le_refl _), trivial⟩, kb K1.out, kb K2.out, kb k3, kb k4, hB.trans (hb5.mono hB.size)⟩
  case done =>
    rintro D ys W hD rfl ⟨⟨v, hv, hrow, _⟩, _, _, _, _, hB⟩ hK
    have hc := hv.cell
    gi_wp2
    refine ⟨by simp, .inl ⟨_, _, rfl, run_takeDeferred hK, ?_⟩⟩
    exact ⟨_, results_tmp rfl _ _ _, ⟨v, rfl, ownsRow_putObj hrow _ hK rfl⟩, hB.trans (belowK_b (w := w) (Nat.le_refl _) W D _ _ (by simp at hD; have := hB0.size; simp at this; omega) hK rfl rfl)⟩
  case stop =>
    rintro D c pre W _ _ h _
    exact h.elim
end Go.Proofs.YtegbikakfckehaaDoor
