/- Chapter 9, by the specification: puzzles without a clue; DropClue. -/
import Derived.Test.YtljleceepghfjaaDoorTgE
import Derived.Deep.RegionLaw
import Derived.Deep.AppendLies
namespace Go.Proofs.YtljleceepghfjaaDoor
open Go.ChangeShapes Go.WideShapes Go.ChangeAt Go.RowKit

/-- 'append' onto what the call owns, from whatever source that is there, as a step of a region that draws its order. -/
theorem step_append9 {P : Program} {w : World} {ops : Array Oper} {o : Oper} {a : Act} {K : Act → World → Prop} {Q : Exit → Act → World → Prop} {E : Prop} (hgd : o.guard = none) (s x : Operand) (t : TypeId)
    (ho : o.op = .call { callee := .builtin .append, args := #[s, x], argTypes := #[t, t] })
    (base : Nat) (e : TypeId) (i : TypeInfo) (z : Value) (size bytes : Nat) (ht : P.underlying t = some (.slice e)) (hi : P.info? e = some i) (hz : i.zero = some z)
    (hsize : i.size = size) (hby : i.bytes = bytes) (hzs : z.cells.size = size) (hsz : 0 < size)
    (v : Value) (n : Nat) (xs : List Value) (hs : a.eval s = v) (hown : w.ownsRow base e size v n xs)
    (ad : Addr) (m c : Nat) (news : List Value) (hx : a.eval x = .slice (some ad) m c) (hl : news.length = m * size) (hnews : ∀ j u, news[j]? = some u → w.cell? (ad.add j) = some u) (h1 : ∀ u ∈ news, u.oneCell' = true)
    (h63 : n + m ≤ maxLen) (hbytes : (n + m) * bytes ≤ 140737488355328) (hbase : base ≤ w.heap.size)
    (h : ∀ v' w', w'.ownsRow base e size v' (n + m) (xs ++ news) → w.grownBy w' v.ownBlock → K (a.put o.dst v') w') :
    if Region.wanted o (yielded ops a.tmps) = true then Oper.wp P o a w K Q else E := by
  rw [if_pos (by simp [Region.wanted, hgd])]
  obtain ⟨v', w', hr, h2, h3, _, _⟩ := run_append_own_at (P := P) w base t o.type e i z size bytes ht hi hz hsize hby hzs hsz v n xs hown ad m c news hl hnews h1 h63 hbytes hbase
  unfold Oper.wp execOp
  simp only [ho, resolve, invoke, builtin, Sem.run_bind, Sem.run_pure, Result.andThen_ok, List.map_toArray, List.map_cons, List.map_nil, hs, hx, hr]
  exact h v' w' h2 h3
/-- Clues without one. -/
def without9 (cs : List Clu) (k : Nat) : List Clu := cs.take k ++ cs.drop (k + 1)
theorem without9_len (cs : List Clu) (k : Nat) (h : k < cs.length) : (without9 cs k).length = cs.length - 1 := by
  unfold without9
  rw [List.length_append, List.length_take, List.length_drop]
  omega
theorem c64_one (cs : List Clu) : ∀ u ∈ c64 cs, u.oneCell' = true := by
  intro u hu
  simp at hu
  obtain ⟨x, _, rfl⟩ := hu
  rfl
theorem c64_take (cs : List Clu) (k : Nat) : c64 (cs.take k) = (c64 cs).take (k * 3) := by
  rcases Nat.lt_or_ge k cs.length with h | h
  · have e : c64 cs = c64 (cs.take k) ++ c64 (cs.drop k) := by rw [← c64_app, List.take_append_drop]
    rw [e, List.take_left' (by rw [c64_len, List.length_take]; omega)]
  · rw [List.take_of_length_le h, List.take_of_length_le (by rw [c64_len]; omega)]
theorem c64_drop (cs : List Clu) (k : Nat) (h : k ≤ cs.length) : c64 (cs.drop k) = (c64 cs).drop (k * 3) := by
  have e : c64 cs = c64 (cs.take k) ++ c64 (cs.drop k) := by rw [← c64_app, List.take_append_drop]
  rw [e, List.drop_left' (by rw [c64_len, List.length_take]; omega)]
/-- The cells of a slice's part, wherever it begins. -/
theorem part_cells9 {w : World} {lo hi g o : Nat} {xs : List Clu} {k c : Nat} (h : Own w lo hi (some ⟨g, o, none⟩) (c64 xs)) (hk : k ≤ xs.length) (hc : xs.length ≤ c) :
    ∀ w', Below hi w w' → ∀ j u, (c64 (xs.drop k))[j]? = some u → w'.cell? ((if c = k then (⟨g, o, none⟩ : Addr) else ⟨g, o + k * 3, none⟩).add j) = some u := by
  intro w' hb j u hu
  have hj := (List.getElem?_eq_some_iff.1 hu).1
  rw [c64_len, List.length_drop] at hj
  have hne : ¬ c = k := by omega
  rw [if_neg hne, addr_none]
  rw [c64_drop xs k hk, List.getElem?_drop] at hu
  obtain ⟨g', o', e, _, h2, hcell⟩ := (h.below hb (Nat.le_refl _)) (by rw [c64_len]; omega)
  injection e with e
  injection e with e1 e2 _
  subst e1 e2
  have := (hcell _ _ hu).1
  rw [Nat.add_assoc]
  exact this
theorem front_cells9 {w : World} {lo hi g o : Nat} {xs : List Clu} {k : Nat} (h : Own w lo hi (some ⟨g, o, none⟩) (c64 xs)) :
    ∀ w', Below hi w w' → ∀ j u, (c64 (xs.take k))[j]? = some u → w'.cell? ((⟨g, o, none⟩ : Addr).add j) = some u := by
  intro w' hb j u hu
  have hj := (List.getElem?_eq_some_iff.1 hu).1
  rw [c64_take, List.getElem?_take] at hu
  split at hu
  · obtain ⟨g', o', e, _, h2, hcell⟩ := (h.below hb (Nat.le_refl _)) (by
      have := (List.getElem?_eq_some_iff.1 hu).1
      omega)
    injection e with e
    injection e with e1 e2 _
    subst e1 e2
    rw [addr_none]
    exact (hcell _ _ hu).1
  · cases hu
/-- Behind the draw, the literal and what is appended to it all is as it was below. -/
theorem grown_lit9 {w w1 : World} {t : TypeId} (h : (w.drew.alloc (.cells #[] t)).grownBy w1 (some w.heap.size)) : Below w.heap.size w w1 :=
  ((Below.refl w.heap.size w).drew.alloc (Nat.le_refl _) (.cells #[] t)).grown h (by simp) fun g hg => by
    simp at hg
    omega
end Go.Proofs.YtljleceepghfjaaDoor
