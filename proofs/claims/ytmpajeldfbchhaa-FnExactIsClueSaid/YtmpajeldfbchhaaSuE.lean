/- Sums: the program's lists of polygonal numbers by place; copies of rows. -/
import Derived.Test.YtmpajeldfbchhaaSuR
namespace Go
/-- Nothing is appended to a slice of the call's own. -/
theorem run_append_owned_zero {P : Program} {w : World} (base : Nat) (t ty e : TypeId) (i : TypeInfo) (size c : Nat) (ht : P.underlying t = some (.slice e)) (hi : P.info? e = some i)
    (v : Value) (n : Nat) (xs : List Value) (hown : w.ownsRow base e size v n xs) :
    (Builtin.append_ #[t, t] ty #[v, .slice none 0 c]).run P w = .ok v w := by
  rcases hown.2 with ⟨rfl, rfl⟩ | ⟨g, cap, cur, rfl, _, _, hnc, _⟩
  · simp [Builtin.append_, run_underlying ht, sizeOf, typeInfo, hi, Builtin.lenOf, Builtin.firstCells]
  · simp [Builtin.append_, run_underlying ht, sizeOf, typeInfo, hi, Builtin.lenOf, Builtin.firstCells, hnc, storeCells]
theorem wpList_append_own_zero {P : Program} {w : World} {ops : Array Oper} {rest : List Oper} {o : Oper} {a : Act} {Q : Exit → Act → World → Prop} (hgd : o.guard = none) (s x : Operand) (t : TypeId)
    (ho : o.op = .call { callee := .builtin .append, args := #[s, x], argTypes := #[t, t] })
    (base : Nat) (e : TypeId) (i : TypeInfo) (size c : Nat) (ht : P.underlying t = some (.slice e)) (hi : P.info? e = some i)
    (v : Value) (n : Nat) (xs : List Value) (hs : a.eval s = v) (hown : w.ownsRow base e size v n xs) (hx : a.eval x = .slice none 0 c)
    (h : wpList P ops Q rest (a.put o.dst v) w) : wpList P ops Q (o :: rest) a w := by
  refine wpList_plain hgd fun K hK => ?_
  have hrun := run_append_owned_zero (P := P) (w := w) base t o.type e i size c ht hi v n xs hown
  unfold Oper.wp
  simp [execOp, ho, resolve, invoke, builtin, hs, hx, hrun, Result.andThen]
  exact hK _ _ h
end Go
namespace Go.Proofs.Ytmpajeldfbchhaa
open Go.ChangeShapes Go.WideShapes Go.ChangeAt Go.RowKit

theorem tab_cons (f : Nat → Int) (n : Nat) : tab f (n + 1) = f 0 :: tab (fun j => f (j + 1)) n := by
  simp [tab, List.range_succ_eq_map, Function.comp_def]
theorem tab_nums (s : Int) (n : Nat) : i64s (tab (fun j => num s (j : Int)) (n + 1)) = Value.int .i64 0 :: i64s (nums s n) := by
  rw [tab_cons]
  simp [num_zero, tab, nums]

set_option maxHeartbeats 800000 in
theorem numbersByPlace_any (s : Int) (N : Nat) (w : World) (h1 : 3 ≤ s) (h2 : s ≤ 24) (hN : N ≤ 3000) :
    Calls Try.prog 72 #[.int .i64 s, .int .i64 N] w fun e w' => (∃ g c, e = .returned (.slice (some ⟨g, 0, none⟩) ((pl s N).toNat + 1) c) ∧ Row w' w.heap.size g ((pl s N).toNat + 1) c (fun j => num s (j : Int))) ∧ Below w.heap.size w w' := by
  obtain ⟨i0, hi0, hz0, hz1, hz2⟩ := info_parts infoInt
  have p0 := pl_nn s N h1 (by omega)
  have p1 := pl_77 s N h1 (by omega) (by omega)
  have hK : (pl s N).toNat ≤ 77 := by omega
  go_enter Try.func72, Try.ntmps72
  go_wp2_with fail
  refine (impl_PolygonalUpTo_yes _ _ _ h1 h2 (by omega) (by omega)).mono ?_
  rintro e w1 ⟨A, c, rfl, o1, b1⟩
  rw [nums_len]
  generalize hKK : (pl s N).toNat = K at *
  have hKI : (K : Int) ≤ 77 := by omega
  have HKK := Lib.hid hKK
  have HO := Lib.hid o1
  have hlit : (w1.alloc (.cells #[.int .i64 0] 3)).ownsRow w.heap.size 3 1 (.slice (some ⟨w1.heap.size, 0, none⟩) 1 1) 1 [.int .i64 0] := World.ownsRow_lit w1 #[.int .i64 0] 1 b1.size (by unfold maxLen; omega) rfl
  have HL := Lib.hid hlit
  have hb2 : Below w.heap.size w (w1.alloc (.cells #[.int .i64 0] 3)) := b1.alloc b1.size _
  clear o1 hlit hKK
  cases A with
  | none =>
    have hK0 : K = 0 := by
      rcases Nat.eq_zero_or_pos K with h | h
      · exact h
      · obtain ⟨g, o, e, _⟩ := HO.out (by simp [nums_len]; omega)
        cases e
    subst hK0
    go_wp2_with (at_builtin; refine wpList_append_own_zero rfl _ _ 87 rfl w.heap.size 3 i0 1 c Try.underlying87 hi0 _ 1 [.int .i64 0] rfl HL.out rfl ?_)
    go_ret
    rw [HKK.out]
    refine ⟨⟨_, _, rfl, ?_⟩, hb2⟩
    unfold Row
    rw [tab_nums]
    simpa [nums] using HL.out
  | some ad =>
    go_wp2_with (at_builtin; refine wpList_append_own _ rfl _ _ 87 rfl w.heap.size 3 i0 (.int .i64 0) 1 8 Try.underlying87 hi0 hz0 hz1 hz2 rfl (by decide) _ 1 [.int .i64 0] rfl HL.out ad K c (i64s (nums s K)) rfl (by simp [nums_len]) ?c1 ?c2 ?c3 ?c4 ?c5 ?_)
    case c1 =>
      intro j u hj
      obtain ⟨g, o, e, _, h4, h5⟩ := HO.out (by have := (List.getElem?_eq_some_iff.1 hj).1; omega)
      injection e with e
      subst e
      rw [addr_none]
      have h6 := (h5 j u hj).1
      exact ((Below.refl w1.heap.size w1).alloc (Nat.le_refl _) _).cell (p := ⟨g, o + j, none⟩) h4 |>.trans h6
    case c2 => intro u hu; simp at hu; obtain ⟨x, _, rfl⟩ := hu; rfl
    case c3 => unfold maxLen; omega
    case c4 => omega
    case c5 => have := b1.size; simp; omega
    · intro v' w2 hown' hgrow _
      rw [← tab_nums, Nat.add_comm 1 K] at hown'
      obtain ⟨g, cap, rfl⟩ : ∃ g cap, v' = .slice (some ⟨g, 0, none⟩) (K + 1) cap := by
        rcases hown'.2 with ⟨_, h⟩ | ⟨g, cap, cur, h, _⟩
        · omega
        · exact ⟨g, cap, h⟩
      have hb3 : Below w.heap.size w w2 := hb2.grown hgrow (by have := b1.size; simp; omega) fun g hg => (HL.out.lt g hg).1
      have HO2 := Lib.hid hown'
      clear hown' hgrow
      go_wp2
      go_ret
      rw [HKK.out]
      exact ⟨⟨_, _, rfl, HO2.out⟩, hb3⟩
end Go.Proofs.Ytmpajeldfbchhaa
