/- Lists of lists of numbers, one put behind the other, and what they are as memory of the call's own. -/
import Derived.Test.YtcfpdlkkniilpaaGreatDoorOwL
import Derived.Deep.AppendLies
namespace Go.Proofs.YtcfpdlkkniilpaaGreatDoor
open Go.RowKit

theorem infoRow2 : (Tryz.prog.info? 40).map (fun i => (i.zero, i.size, i.bytes)) = some (some (.slice none 0 0), 1, 24) := by kernel_rfl
/-- The rows rs, which hold the lists yss, in the list V. -/
def Lists (w : World) (base : Nat) (V : Value) (rs : List Value) (yss : List (List Int)) : Prop :=
  rs.length = yss.length ∧ w.ownsRow base 40 1 V rs.length rs ∧ (∀ (i : Nat) (v : Value), rs[i]? = some v → w.ownsRow base 3 1 v (rowsOf yss i).length (i64s (rowsOf yss i))) ∧
  (∀ (i j : Nat) (vi vj : Value), rs[i]? = some vi → rs[j]? = some vj → i < j → vi.ownBlock = none ∨ vi.ownBlock ≠ vj.ownBlock)
theorem owns_apart2 {w : World} {b1 b2 s1 s2 n1 n2 : Nat} {e1 e2 : TypeId} {v1 v2 : Value} {xs ys : List Value} (h1 : w.ownsRow b1 e1 s1 v1 n1 xs) (h2 : w.ownsRow b2 e2 s2 v2 n2 ys) (he : e1 ≠ e2) : v1.ownBlock = none ∨ v1.ownBlock ≠ v2.ownBlock := by
  rcases h1.2 with ⟨rfl, _⟩ | ⟨g, cap, cur, rfl, _, hg, _⟩
  · exact Or.inl rfl
  · refine Or.inr fun e => ?_
    rcases h2.2 with ⟨rfl, _⟩ | ⟨g', cap', cur', rfl, _, hg', _⟩
    · cases e
    · have e2 : g = g' := by simpa [Value.ownBlock] using e
      subst e2
      rw [hg] at hg'
      injection hg' with hg'
      injection hg' with _ h3 _
      exact he h3
theorem Lists.nil (w : World) (base : Nat) : Lists w base (.slice none 0 0) [] [] := ⟨rfl, World.ownsRow_nil _ _ _ _, fun i v h => by simp at h, fun i j vi vj h => by simp at h⟩
theorem Lists.below {w w' : World} {base B : Nat} {V : Value} {rs : List Value} {yss : List (List Int)} (h : Lists w base V rs yss) (hb : Below B w w') (hB : w.heap.size ≤ B) : Lists w' base V rs yss :=
  ⟨h.1, row_below h.2.1 hb hB, fun i v hv => row_below (h.2.2.1 i v hv) hb hB, h.2.2.2⟩
/-- nothing but a block of another type has turned -/
theorem Lists.kept {w w' : World} {base : Nat} {V : Value} {rs : List Value} {yss : List (List Int)} {row : Option Nat} (h : Lists w base V rs yss) (hg : w.grownBy w' row) (h1 : V.ownBlock = none ∨ V.ownBlock ≠ row) (h2 : ∀ (i : Nat) (v : Value), rs[i]? = some v → v.ownBlock = none ∨ v.ownBlock ≠ row) : Lists w' base V rs yss :=
  ⟨h.1, h.2.1.kept hg h1, fun i v hv => (h.2.2.1 i v hv).kept hg (h2 i v hv), h.2.2.2⟩
theorem Lists.app {w0 w w1 : World} {base : Nat} {V V' v : Value} {rs : List Value} {yss : List (List Int)} {xs : List Int} (h0 : Lists w0 base V rs yss) (hb : Below w0.heap.size w0 w) (hbase : base ≤ w0.heap.size)
    (hv : w.ownsRow w0.heap.size 3 1 v xs.length (i64s xs)) (hown : w1.ownsRow base 40 1 V' (rs.length + 1) (rs ++ [v])) (hg : (w.alloc (.cells #[v] 40)).grownBy w1 V.ownBlock) : Lists w1 base V' (rs ++ [v]) (yss ++ [xs]) := by
  have h := h0.below hb (Nat.le_refl _)
  have hV := h.2.1.alloc (.cells #[v] 40)
  have keep : ∀ {b n : Nat} {u : Value} {cs : List Value}, w.ownsRow b 3 1 u n cs → w1.ownsRow b 3 1 u n cs := fun hu =>
    World.ownsRow.kept (hu.alloc (.cells #[v] 40)) hg (owns_apart2 (hu.alloc (.cells #[v] 40)) hV (by decide))
  have hwide : w1.ownsRow base 3 1 v xs.length (i64s xs) := by
    have h5 := keep hv
    refine ⟨h5.1, ?_⟩
    rcases h5.2 with ⟨h1, h2⟩ | ⟨g', cap, cur, h1, h2, h3⟩
    · exact Or.inl ⟨h1, h2⟩
    · exact Or.inr ⟨g', cap, cur, h1, by omega, h3⟩
  refine ⟨by simp [h.1], by simpa using hown, fun i u hu => ?_, fun i j vi vj hi hj hij => ?_⟩
  · rcases Nat.lt_or_ge i rs.length with hi | hi
    · rw [List.getElem?_append_left hi] at hu
      have e : rowsOf (yss ++ [xs]) i = rowsOf yss i := by
        simp only [rowsOf, List.getD_eq_getElem?_getD]
        rw [List.getElem?_append_left (by rw [← h.1]; exact hi)]
      rw [e]
      exact keep (h.2.2.1 i u hu)
    · have e : i = rs.length := by
        have := (List.getElem?_eq_some_iff.1 hu).1
        simp at this
        omega
      subst e
      simp at hu
      subst hu
      have e : rowsOf (yss ++ [xs]) rs.length = xs := by
        simp only [rowsOf, List.getD_eq_getElem?_getD]
        rw [h.1, List.getElem?_append_right (Nat.le_refl _)]
        simp
      rw [e]
      exact hwide
  · rcases Nat.lt_or_ge j rs.length with hj2 | hj2
    · rw [List.getElem?_append_left (by omega)] at hi
      rw [List.getElem?_append_left hj2] at hj
      exact h.2.2.2 i j vi vj hi hj hij
    · have e : j = rs.length := by
        have := (List.getElem?_eq_some_iff.1 hj).1
        simp at this
        omega
      subst e
      simp at hj
      subst hj
      rw [List.getElem?_append_left hij] at hi
      have hlt := (h0.2.2.1 i vi hi).lt
      cases hb1 : vi.ownBlock with
      | none => exact Or.inl rfl
      | some g =>
        refine Or.inr fun e => ?_
        have h6 := (hlt g hb1).2
        have h7 := (hv.lt g e.symm).1
        omega

theorem Lists.ownL {w : World} {base : Nat} {V : Value} {rs : List Value} {yss : List (List Int)} (h : Lists w base V rs yss) : ∃ A c Af cf, V = .slice A yss.length c ∧ OwnL w base w.heap.size A yss.length (rowsOf yss) Af cf := by
  obtain ⟨A, c, rfl⟩ := row_form h.2.1
  have hrow : ∀ i, i < yss.length → ∃ Ai ci, rs[i]? = some (.slice Ai (rowsOf yss i).length ci) ∧ w.ownsRow base 3 1 (.slice Ai (rowsOf yss i).length ci) (rowsOf yss i).length (i64s (rowsOf yss i)) := fun i hi => by
    have hi2 : i < rs.length := by rw [h.1]; exact hi
    have h1 := h.2.2.1 i _ (List.getElem?_eq_getElem hi2)
    obtain ⟨Ai, ci, e⟩ := row_form h1
    rw [e] at h1
    exact ⟨Ai, ci, by rw [List.getElem?_eq_getElem hi2, e], h1⟩
  have hAf : ∃ (Af : Nat → Option Addr) (cf : Nat → Nat), ∀ i, i < yss.length → rs[i]? = some (.slice (Af i) (rowsOf yss i).length (cf i)) ∧ w.ownsRow base 3 1 (.slice (Af i) (rowsOf yss i).length (cf i)) (rowsOf yss i).length (i64s (rowsOf yss i)) := by
    refine ⟨fun i => if hi : i < yss.length then (hrow i hi).choose else none, fun i => if hi : i < yss.length then (hrow i hi).choose_spec.choose else 0, fun i hi => ?_⟩
    simp only [dif_pos hi]
    exact (hrow i hi).choose_spec.choose_spec
  obtain ⟨Af, cf, hf⟩ := hAf
  refine ⟨A, c, Af, cf, by rw [h.1], ⟨?_, fun i hi => own_of_row (hf i hi).2, fun i hi h0 p q hp hq => ?_, fun i j hi hj hij h0 h1 p q hp hq => ?_⟩⟩
  · have e : (List.range yss.length).map (fun i => Value.slice (Af i) (rowsOf yss i).length (cf i)) = rs := by
      apply List.ext_getElem?
      intro i
      by_cases hi : i < yss.length
      · rw [(hf i hi).1]; simp [hi]
      · rw [List.getElem?_eq_none (by simp; omega), List.getElem?_eq_none (by rw [h.1]; omega)]
    rw [e]
    exact own_of_row h.2.1
  · have h2 := owns_apart2 (hf i hi).2 h.2.1 (by decide)
    rw [hp, hq] at h2
    simp [Value.ownBlock] at h2
    exact fun e => h2 e.symm
  · rcases Nat.lt_or_ge i j with hlt | hge
    · have h2 := h.2.2.2 i j _ _ (hf i hi).1 (hf j hj).1 hlt
      rw [hp, hq] at h2
      simpa [Value.ownBlock] using h2
    · have h2 := h.2.2.2 j i _ _ (hf j hj).1 (hf i hi).1 (by omega)
      rw [hp, hq] at h2
      simp [Value.ownBlock] at h2
      exact fun e => h2 e.symm
theorem owns_wide {w : World} {b1 b2 n s1 : Nat} {e : TypeId} {v : Value} {cs : List Value} (h : w.ownsRow b1 e s1 v n cs) (hb : b2 ≤ b1) : w.ownsRow b2 e s1 v n cs := by
  refine ⟨h.1, ?_⟩
  rcases h.2 with ⟨h1, h2⟩ | ⟨g', cap, cur, h1, h2, h3⟩
  · exact Or.inl ⟨h1, h2⟩
  · exact Or.inr ⟨g', cap, cur, h1, by omega, h3⟩
theorem Lists.wide {w : World} {b1 b2 : Nat} {V : Value} {rs : List Value} {yss : List (List Int)} (h : Lists w b1 V rs yss) (hb : b2 ≤ b1) : Lists w b2 V rs yss :=
  ⟨h.1, owns_wide h.2.1 hb, fun i v hv => owns_wide (h.2.2.1 i v hv) hb, h.2.2.2⟩
/-- A new row of two numbers. -/
theorem row_two (w : World) (base : Nat) (a b : Int) (h : base ≤ w.heap.size) : (w.alloc (.cells #[.int .i64 a, .int .i64 b] 3)).ownsRow base 3 1 (.slice (some ⟨w.heap.size, 0, none⟩) 2 2) 2 (i64s [a, b]) :=
  World.ownsRow_lit w #[.int .i64 a, .int .i64 b] 2 h (by decide) rfl
/-- One cell of a new block, as what is to be appended. -/
theorem one_new (w : World) (v : Value) (t : TypeId) : ∀ j u, [v][j]? = some u → (w.alloc (.cells #[v] t)).cell? ((⟨w.heap.size, 0, none⟩ : Addr).add j) = some u := by
  intro j u hj
  match j, hj with
  | 0, hj => simp at hj; subst hj; simp [Addr.add]
/-- A list of two numbers is put behind. -/
theorem Lists.two {w0 w w1 : World} {base : Nat} {V V' : Value} {rs : List Value} {yss : List (List Int)} {a b : Int} (h0 : Lists w0 base V rs yss) (hb : Below w0.heap.size w0 w) (hbase : base ≤ w0.heap.size)
    (hown : w1.ownsRow base 40 1 V' (rs.length + 1) (rs ++ [.slice (some ⟨w.heap.size, 0, none⟩) 2 2]))
    (hg : ((w.alloc (.cells #[.int .i64 a, .int .i64 b] 3)).alloc (.cells #[.slice (some ⟨w.heap.size, 0, none⟩) 2 2] 40)).grownBy w1 V.ownBlock) :
    Lists w1 base V' (rs ++ [.slice (some ⟨w.heap.size, 0, none⟩) 2 2]) (yss ++ [[a, b]]) :=
  h0.app (hb.alloc hb.size _) hbase (row_two w w0.heap.size a b hb.size) hown hg
theorem Lists.two_below {B : Nat} {wq w w1 : World} {base : Nat} {V : Value} {rs : List Value} {a b : Int} (hb : Below B wq w) (hB : B ≤ w.heap.size) (hbase : B ≤ base)
    (hown : w.ownsRow base 40 1 V rs.length rs)
    (hg : ((w.alloc (.cells #[.int .i64 a, .int .i64 b] 3)).alloc (.cells #[.slice (some ⟨w.heap.size, 0, none⟩) 2 2] 40)).grownBy w1 V.ownBlock) : Below B wq w1 :=
  ((hb.alloc hB _).alloc (by simp; omega) _).grown hg (by simp; omega) fun g hg2 => Nat.le_trans hbase (hown.lt g hg2).1
end Go.Proofs.YtcfpdlkkniilpaaGreatDoor
