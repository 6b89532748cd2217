/- The program's search in order, with its jumps. -/
import Derived.Test.YtiloljldefodkaaDoorSuPu
import Derived.Test.YtiloljldefodkaaDoorSuZ
import Derived.Test.YtiloljldefodkaaDoorMb
namespace Go.Proofs.YtiloljldefodkaaDoor
open Go.ChangeShapes Go.WideShapes Go.ChangeAt Go.RowKit

/-- The search under way: the path p (its last place first) and the lists ys that are done; w: the world at the first label. -/
structure Sst (w wr : World) (s : Int) (N P K : Nat) (p : List Int) (v10 v11 : Value) (rs : List Value) (ys : List (List Int)) : Prop where
  len : p.length ≤ P
  mem : ∀ x ∈ p, ∃ j : Nat, x = (j : Int) + 1 ∧ j + 1 ≤ K
  left : ps s p.reverse p.length ≤ (N : Int)
  path : wr.ownsRow w.heap.size 3 1 v10 p.length (i64s p.reverse)
  lists : Lists wr w.heap.size v11 rs ys
  off : ∀ (i : Nat) (v : Value), rs[i]? = some v → v.ownBlock = none ∨ v.ownBlock ≠ v10.ownBlock
  below : Below w.heap.size w wr
/-- What holds at a jump to the label l. -/
def J44 (w : World) (s : Int) (N P K : Nat) (NUM CNT : Value) (TOT : List (List Int)) (l m : Nat) (a : Act) (wr : World) : Prop :=
  ∃ (k : Nat) (p : List Int) (v10 v11 : Value) (rs : List Value) (ys : List (List Int)), a = { tmps := #[.int .i64 s, .int .i64 (N : Int), .int .i64 (P : Int), (a.tmps.getD 3 undef), (a.tmps.getD 4 undef), (a.tmps.getD 5 undef), (a.tmps.getD 6 undef), NUM, CNT, .int .i64 (k : Int), v10, v11, (a.tmps.getD 12 undef), (a.tmps.getD 13 undef), (a.tmps.getD 14 undef), (a.tmps.getD 15 undef), (a.tmps.getD 16 undef), (a.tmps.getD 17 undef), (a.tmps.getD 18 undef), (a.tmps.getD 19 undef), (a.tmps.getD 20 undef), (a.tmps.getD 21 undef), (a.tmps.getD 22 undef), (a.tmps.getD 23 undef), (a.tmps.getD 24 undef), (a.tmps.getD 25 undef), (a.tmps.getD 26 undef), (a.tmps.getD 27 undef), (a.tmps.getD 28 undef), (a.tmps.getD 29 undef), (a.tmps.getD 30 undef), (a.tmps.getD 31 undef), (a.tmps.getD 32 undef), (a.tmps.getD 33 undef), (a.tmps.getD 34 undef), (a.tmps.getD 35 undef), (a.tmps.getD 36 undef), (a.tmps.getD 37 undef), (a.tmps.getD 38 undef), (a.tmps.getD 39 undef), (a.tmps.getD 40 undef), (a.tmps.getD 41 undef), (a.tmps.getD 42 undef), (a.tmps.getD 43 undef), (a.tmps.getD 44 undef), (a.tmps.getD 45 undef), (a.tmps.getD 46 undef), (a.tmps.getD 47 undef), (a.tmps.getD 48 undef), (a.tmps.getD 49 undef), (a.tmps.getD 50 undef), (a.tmps.getD 51 undef), (a.tmps.getD 52 undef), (a.tmps.getD 53 undef), (a.tmps.getD 54 undef), (a.tmps.getD 55 undef), (a.tmps.getD 56 undef), (a.tmps.getD 57 undef), (a.tmps.getD 58 undef), (a.tmps.getD 59 undef), (a.tmps.getD 60 undef), (a.tmps.getD 61 undef), (a.tmps.getD 62 undef), (a.tmps.getD 63 undef), (a.tmps.getD 64 undef), (a.tmps.getD 65 undef), (a.tmps.getD 66 undef), (a.tmps.getD 67 undef), (a.tmps.getD 68 undef), (a.tmps.getD 69 undef), (a.tmps.getD 70 undef), (a.tmps.getD 71 undef), (a.tmps.getD 72 undef), (a.tmps.getD 73 undef), (a.tmps.getD 74 undef), (a.tmps.getD 75 undef), (a.tmps.getD 76 undef), (a.tmps.getD 77 undef), (a.tmps.getD 78 undef), (a.tmps.getD 79 undef), (a.tmps.getD 80 undef), (a.tmps.getD 81 undef), (a.tmps.getD 82 undef), (a.tmps.getD 83 undef), (a.tmps.getD 84 undef), (a.tmps.getD 85 undef), (a.tmps.getD 86 undef), (a.tmps.getD 87 undef), (a.tmps.getD 88 undef), (a.tmps.getD 89 undef), (a.tmps.getD 90 undef), (a.tmps.getD 91 undef), (a.tmps.getD 92 undef), (a.tmps.getD 93 undef), (a.tmps.getD 94 undef), (a.tmps.getD 95 undef), (a.tmps.getD 96 undef)], defers := [] } ∧ Hid (Sst w wr s N P K p v10 v11 rs ys) ∧
    Hid ((l = 0 ∧ k ≤ K ∧ m = ms P p k ∧ ys.length ≤ 300 ∧ ys ++ (Und s P N p k ++ Rst s P N p) = TOT) ∨ (l = 1 ∧ m = mb P p ∧ ys.length ≤ 301 ∧ ys ++ Rst s P N p = TOT))


theorem has_int (x : Nat) (i : Int) (w : World) (hx : x < 4294967296) (h0 : 0 ≤ i) (h1 : i ≤ 24) :
    Calls Tryd.prog 70 #[.int .u32 x, .int .i64 i] w fun e w' => e = .returned (.bool (x.testBit i.toNat)) ∧ w = w' := by
  obtain ⟨j, rfl⟩ := Int.eq_ofNat_of_zero_le h0
  exact has_any x j w hx (by omega)
theorem Sst.down {w wr w5 : World} {s : Int} {N P K k g cap : Nat} {p : List Int} {v10 v11 : Value} {rs : List Value} {ys : List (List Int)} {o : Obj} (h : Sst w wr s N P K p v10 v11 rs ys)
    (hk : k + 1 ≤ K) (hp : p.length < P) (hl : ps s p.reverse p.length + num s ((k : Int) + 1) ≤ (N : Int))
    (hown : w5.ownsRow w.heap.size 3 1 (.slice (some ⟨g, 0, none⟩) (p.length + 1) cap) (p.length + 1) (i64s p.reverse ++ [.int .i64 ((k : Int) + 1)]))
    (hg : (wr.alloc o).grownBy w5 v10.ownBlock) (hat : v10.ownBlock = some g ∨ g = (wr.alloc o).heap.size) :
    Sst w w5 s N P K (((k : Int) + 1) :: p) (.slice (some ⟨g, 0, none⟩) (p.length + 1) cap) v11 rs ys where
  len := by simp; omega
  mem := fun x hx => by
    rcases List.mem_cons.1 hx with rfl | hx
    · exact ⟨k, rfl, hk⟩
    · exact h.mem x hx
  left := by rw [ps_rev]; exact hl
  path := by simpa using hown
  lists := by
    have h1 := h.lists.below ((Below.refl wr.heap.size wr).alloc (Nat.le_refl _) o) (Nat.le_refl _)
    exact h1.kept hg (owns_apart2 h1.2.1 (h.path.alloc o) (by decide)) h.off
  off := fun i v hv => by
    rcases h.off i v hv with h1 | h1
    · exact Or.inl h1
    · cases hb : v.ownBlock with
      | none => exact Or.inl rfl
      | some b =>
        refine Or.inr fun e => ?_
        have e2 : b = g := by simpa [Value.ownBlock] using e
        subst e2
        rcases hat with h2 | h2
        · exact h1 (by rw [hb, h2])
        · have := ((h.lists.2.2.1 i v hv).lt b hb).2
          simp at h2
          omega
  below := (h.below.alloc h.below.size o).grown hg (by have := h.below.size; simp; omega) (fun j hj => (h.path.lt j hj).1)
theorem Sst.leaf {w wr wc w5 : World} {s : Int} {N P K : Nat} {p : List Int} {v10 v11 v' v : Value} {rs : List Value} {ys : List (List Int)} (h : Sst w wr s N P K p v10 v11 rs ys)
    (hb : Below wr.heap.size wr wc) (hv : wc.ownsRow wr.heap.size 3 1 v p.length (i64s p.reverse))
    (hown : w5.ownsRow w.heap.size 26 1 v' (rs.length + 1) (rs ++ [v])) (hg : (wc.alloc (.cells #[v] 26)).grownBy w5 v11.ownBlock) :
    Sst w w5 s N P K p v10 v' (rs ++ [v]) (ys ++ [p.reverse]) where
  len := h.len
  mem := h.mem
  left := h.left
  path := World.ownsRow.kept ((row_below h.path hb (Nat.le_refl _)).alloc _) hg (owns_apart2 ((row_below h.path hb (Nat.le_refl _)).alloc (.cells #[v] 26)) ((row_below h.lists.2.1 hb (Nat.le_refl _)).alloc (.cells #[v] 26)) (by decide))
  lists := Lists.app (w0 := wr) h.lists hb h.below.size (by simpa using hv) hown hg
  off := fun i u hu => by
    rcases Nat.lt_or_ge i rs.length with hi | hi
    · rw [List.getElem?_append_left hi] at hu
      exact h.off i u hu
    · have e : i = rs.length := by
        have := (List.getElem?_eq_some_iff.1 hu).1
        simp at this
        omega
      subst e
      simp at hu
      subst hu
      cases hb1 : v.ownBlock with
      | none => exact Or.inl rfl
      | some b =>
        refine Or.inr fun e => ?_
        have h6 := (hv.lt b hb1).1
        have h7 := (h.path.lt b e.symm).2
        omega
  below := ((h.below.trans (hb.mono h.below.size)).alloc (Nat.le_trans h.below.size hb.size) _).grown hg (by have := h.below.size; have := hb.size; simp; omega) (fun j hj => (h.lists.2.1.lt j hj).1)
theorem Sst.pop {w wr : World} {s : Int} {N P K j g cap : Nat} {p : List Int} {v11 : Value} {rs : List Value} {ys : List (List Int)} (h1 : 3 ≤ s) (h : Sst w wr s N P K (((j : Int) + 1) :: p) (.slice (some ⟨g, 0, none⟩) (p.length + 1) cap) v11 rs ys) :
    Sst w wr s N P K p (.slice (some ⟨g, 0, none⟩) p.length cap) v11 rs ys where
  len := by have := h.len; simp at this; omega
  mem := fun x hx => h.mem x (by simp [hx])
  left := by
    have h2 := h.left
    rw [ps_rev] at h2
    have := num_nn s ((j : Int) + 1) h1
    omega
  path := by
    have h2 := h.path
    rw [List.reverse_cons] at h2
    have e : i64s (p.reverse ++ [(j : Int) + 1]) = i64s p.reverse ++ [.int .i64 ((j : Int) + 1)] := by simp
    rw [e] at h2
    exact row_pop h2
  lists := h.lists
  off := h.off
  below := h.below

theorem owns_wide {w : World} {b1 b2 n s1 : Nat} {e : TypeId} {v : Value} {cs : List Value} (h : w.ownsRow b1 e s1 v n cs) (hb : b2 ≤ b1) : w.ownsRow b2 e s1 v n cs := by
  refine ⟨h.1, ?_⟩
  rcases h.2 with ⟨h1, h2⟩ | ⟨g', cap, cur, h1, h2, h3⟩
  · exact Or.inl ⟨h1, h2⟩
  · exact Or.inr ⟨g', cap, cur, h1, by omega, h3⟩
theorem Lists.wide {w : World} {b1 b2 : Nat} {V : Value} {rs : List Value} {yss : List (List Int)} (h : Lists w b1 V rs yss) (hb : b2 ≤ b1) : Lists w b2 V rs yss :=
  ⟨h.1, owns_wide h.2.1 hb, fun i v hv => owns_wide (h.2.2.1 i v hv) hb, h.2.2.2⟩
theorem own_none {w : World} {base n m c : Nat} {e : TypeId} {cs : List Value} (h : w.ownsRow base e 1 (.slice none m c) n cs) : c = 0 := by
  rcases h.2 with ⟨h1, _⟩ | ⟨g, cap, cur, hv, _⟩
  · injection h1
  · injection hv with h1
    cases h1
theorem own_cap {w : World} {base n : Nat} {e : TypeId} {v : Value} {cs : List Value} (h : w.ownsRow base e 1 v n cs) (hn : 0 < n) : ∃ g cap, v = .slice (some ⟨g, 0, none⟩) n cap ∧ n ≤ cap := by
  rcases h.2 with ⟨_, h0⟩ | ⟨g, cap, cur, hv, _, _, h3, _⟩
  · omega
  · exact ⟨g, cap, hv, h3⟩

set_option maxRecDepth 100000 in
set_option maxHeartbeats 6400000 in
theorem sumsInOrder_any (s : Int) (N P : Nat) (w : World) (h1 : 3 ≤ s) (h2 : s ≤ 24) (hN : N ≤ 3000) (hP : P ≤ 24) :
    Calls Tryd.prog 54 #[.int .i64 s, .int .i64 N, .int .i64 P] w fun e w' => (∃ V rs zss, e = .returned V ∧ Lists w' w.heap.size V rs zss ∧ (zss = Lw s (pl s N).toNat P N ∨ (300 < zss.length ∧ zss.length ≤ 301 ∧ 300 < W s (pl s N).toNat P N))) ∧ Below w.heap.size w w' := by
  have p0 := pl_nn s N h1 (by omega)
  have p1 := pl_77 s N h1 (by omega) (by omega)
  have HNP := Lib.hid (fun w => numbersByPlace_any s N w h1 h2 hN)
  have HCP := Lib.hid (fun base0 g0 c0 w => countsByPlace_any s N base0 g0 c0 w h1 h2 hN)
  have HTOT : Hid ((Lw s (pl s N).toNat P N).length = W s (pl s N).toNat P N) := Lib.hid (Lw_len _ _ _ _)
  have HU0 : Hid (Und s P N [] (pl s N).toNat = Lw s (pl s N).toNat P N) := Lib.hid (by simp [Und, ps])
  have hK : (pl s N).toNat ≤ 77 := by omega
  obtain ⟨i0, hi0, hz0, hz1, hz2⟩ := info_parts infoInt
  obtain ⟨ir, hir, hzr0, hzr1, hzr2⟩ := info_parts infoRow2
  generalize (pl s N).toNat = K at *
  go_enter Tryd.func54, Tryd.ntmps54
  go_wp2
  refine wp_scope_jumpsM (fun l m a wr => ∃ (w2 : World) (g7 c7 : Nat) (v8 : Value) (rs8 : List Value) (b7 b8 : Nat), Hid (Row w2 b7 g7 (K + 1) c7 (fun j => num s (j : Int)) ∧ Rcs w2 b8 v8 rs8 (N + 1) (fun j m => T s j m) ∧ rs8.length = K + 1 ∧ w.heap.size ≤ w2.heap.size ∧ Below w.heap.size w w2) ∧
    J44 w2 s N P K (.slice (some ⟨g7, 0, none⟩) (K + 1) c7) v8 (Lw s K P N) l m a wr) ?_ ?_
  · intro hpass
    go_wp2_with (first
      | (go_at_call 31; refine (HNP.out _).mono ?_; rintro e w1 ⟨⟨g, c, rfl, hr⟩, hb⟩; have HR := Lib.hid hr; clear hr)
      | (go_at_call 63; refine (HCP.out _ _ _ _ HR.out).mono ?_; rintro e w2 ⟨⟨v8, rs8, rfl, hl, hws⟩, hb2⟩; have HL := Lib.hid hl; have HW := Lib.hid hws; clear hl hws))
    go_step3
    rename_i K1 hK1
    refine hK1 _ _ (from_pass (l := 0) hpass (by rfl) (ms P [] K) ⟨w2, g, c, v8, rs8, w.heap.size, w1.heap.size, ?_, K, [], .slice none 0 0, .slice none 0 0, [], [], rfl, Lib.hid ⟨by simp, by simp, by simp [ps], World.ownsRow_nil _ _ _ _, Lists.nil _ _, by simp, Below.refl _ _⟩, Lib.hid (Or.inl ⟨rfl, Nat.le_refl _, rfl, by simp, by rw [HU0.out]; simp [Rst]⟩)⟩)
    exact Lib.hid ⟨row_below HR.out hb2 (Nat.le_refl _), HW.out, HL.out, Nat.le_trans hb.size hb2.size, hb.trans (hb2.mono hb.size)⟩
  · rintro l m a wr ⟨w2, g7, c7, v8, rs8, b7, b8, HG, k, p, v10, v11, rs, ys, ha, HS, HC⟩
    obtain ⟨u, hu⟩ : ∃ u : Nat → Value, ∀ i, a.tmps.getD i undef = u i := ⟨_, fun _ => rfl⟩
    simp only [hu] at ha
    clear hu
    subst ha
    rcases HC.out with ⟨rfl, hk, rfl, hyl, hEq⟩ | ⟨rfl, rfl, hyl, hEq⟩
    · refine ⟨_, rfl, ?_⟩
      have HEQ := Lib.hid hEq
      clear hEq HC
      obtain ⟨A10, c10, rfl⟩ := row_form HS.out.path
      have HTG := Lib.hid (fun w' (hw : Below w2.heap.size w2 w') (hp : Own w' w2.heap.size w'.heap.size A10 (i64s p.reverse)) => together_any s K p.length c10 b7 g7 c7 w2.heap.size w'.heap.size A10 p.reverse w' h1 h2 hK (by simp) (Nat.le_trans HS.out.len hP) (fun x hx => by obtain ⟨j, rfl, hj⟩ := HS.out.mem x (by simpa using hx); omega) (HG.out.1.below hw (Nat.le_refl _)) hp)
      have HO10 := Lib.hid (own_of_row HS.out.path)
      have hlen := HS.out.len
      obtain ⟨gv, cv, gk, ck, rfl, _, hcK, hrT⟩ := HG.out.2.1.get (j := k) (by rw [HG.out.2.2.1]; omega)
      have hgv := (HG.out.2.1.1.lt gv rfl).2
      have hgk := hrT.lt.2
      have hps0 := (ps_bds s p.reverse h1 h2 (fun x hx => by obtain ⟨j, rfl, hj⟩ := HS.out.mem x (by simpa using hx); omega) p.length (by simp)).1
      obtain ⟨r, hr⟩ := Int.eq_ofNat_of_zero_le (show 0 ≤ (N : Int) - ps s p.reverse p.length by have := HS.out.left; omega)
      obtain ⟨mo, hmo⟩ := Int.eq_ofNat_of_zero_le (show 0 ≤ (P : Int) - (p.length : Int) by omega)
      have hrN : r ≤ N := by omega
      have hcT := hrT.cell (j := r) (by omega)
      have hcK2 := (HS.out.below.cell (p := ⟨gv, k, none⟩) hgv).trans hcK
      have hcT2 := (HS.out.below.cell (p := ⟨gk, r, none⟩) hgk).trans hcT
      have HBIT : Hid ((T s k r).testBit mo = decide (0 < W s k mo r)) := Lib.hid (by rw [T_bit]; simp; omega)
      have htl := T_lt s k r
      have hkI : (k : Int) < (rs8.length : Int) := by rw [HG.out.2.2.1]; omega
      have hkI7 : (k : Int) < (K : Int) + 1 := by omega
      have hkI0 : (0 : Int) ≤ (k : Int) := by omega
      have hrI : (r : Int) < (N : Int) + 1 := by omega
      have hrI0 : (0 : Int) ≤ (r : Int) := by omega
      have hmoI : (mo : Int) ≤ 24 := by omega
      have HRr := Lib.hid hr
      have HMo := Lib.hid (show P - p.length = mo by omega)
      have HMS := Lib.hid (ms_back P p k)
      have HUN := Lib.hid (fun h => und_none s P N p k h)
      rw [hr] at HUN
      rw [HMo.out] at HUN
      generalize T s k r = tk at *
      have hnpI : (0 : Int) ≤ (p.length : Int) := by omega
      have HRT := Lib.hid hrT
      have HGK := Lib.hid hgk
      clear hcK hcT hrT hgv hgk hlen
      by_cases hW : 0 < W s k mo r
      · have HB2 := Lib.hid (show tk.testBit (mo : Int).toNat = true by rw [Int.toNat_natCast, HBIT.out]; simpa using hW)
        cases mo with
        | zero =>
          have hUL : Und s P N p k = [p.reverse] := und_leaf s P N p k HMo.out (by rw [HMo.out, HRr.out]; exact hW)
          have HE5 : Hid ((ys ++ [p.reverse]) ++ Rst s P N p = Lw s K P N) := Lib.hid (by have := HEQ.out; rw [hUL] at this; simpa [List.append_assoc] using this)
          have HLE : Hid (ys.length + 1 ≤ W s K P N) := Lib.hid (by rw [← HTOT.out, ← HE5.out]; simp)
          have HCL := Lib.hid (clonePath_any A10 p.length c10 wr.heap.size p.reverse wr (by simp) (by have := HS.out.len; omega) HO10.out.rd (Nat.le_refl _) (fun h => by subst h; exact own_none HS.out.path))
          obtain ⟨A11, c11, rfl⟩ := row_form HS.out.lists.2.1
          have HYR := Lib.hid HS.out.lists.1
          have hyr2 : rs.length ≤ 300 := by have := HYR.out; omega
          have hw2 : w.heap.size ≤ w2.heap.size := HG.out.2.2.2.1
          have hz0 : ((0 : Nat) : Int) = 0 := rfl
          rw [hz0] at hmo HB2
          have hmz : (0 : Int) ≤ 0 := Int.le_refl _
          clear hW hUL hmoI HUN hz0
          have HPO := Lib.hid (fun (P' : Nat) (j : Nat) (p' : List Int) (g cap : Nat) (wz : World) (V : Value) (rz : List Value) (zs : List (List Int)) (h : Sst w2 wz s N P' K (((j : Int) + 1) :: p') (.slice (some ⟨g, 0, none⟩) (p'.length + 1) cap) V rz zs) => h.pop h1)
          generalize hnp : p.length = np at *
          generalize hx : ps s p.reverse np = x at *
          cases np with
          | zero =>
            obtain rfl : p = [] := List.length_eq_zero_iff.1 hnp
            obtain rfl : P = 0 := by omega
            clear hmo
            go_wp2_with (first
              | (go_at_call 69; refine (HTG.out _ HS.out.below HO10.out).mono ?_; rintro e w' ⟨rfl, rfl⟩)
              | (go_at_call 70; refine (has_int _ _ _ (by assumption) (by omega) (by omega)).mono ?_; rw [HB2.out]; rintro e w' ⟨rfl, rfl⟩)
              | (go_at_call 71; refine HCL.out.mono ?_; rintro e wc ⟨⟨vc, rfl, hvc⟩, hbc⟩; obtain ⟨Ac, cc, rfl⟩ := row_form hvc; have HVC := Lib.hid hvc; have HVL := Lib.hid ((row_below HS.out.lists.2.1 hbc (Nat.le_refl _))); clear hvc)
              | (at_builtin; refine wpList_append_own _ rfl _ _ 40 rfl w2.heap.size 26 ir (.slice none 0 0) 1 24 Tryd.underlying40 hir hzr0 hzr1 hzr2 rfl (by decide) _ rs.length rs rfl (HVL.out.alloc _) ⟨wc.heap.size, 0, none⟩ 1 1 [.slice Ac 0 cc] rfl rfl ?c1 ?c2 ?c3 ?c4 ?c5 ?_))
            case c1 =>
              intro j u hj
              match j, hj with
              | 0, hj => simp at hj; subst hj; simp [Addr.add]
            case c2 => intro u hu; simp at hu; subst hu; rfl
            case c3 => unfold maxLen; omega
            case c4 => omega
            case c5 => have := HS.out.below.size; have := hbc.size; simp; omega
            · intro v' w5 hown' hgrow _
              have HS5 := Lib.hid (HS.out.leaf hbc HVC.out hown' hgrow)
              obtain ⟨A', c', rfl⟩ := row_form hown'
              clear hown' hgrow
              go_wp2
              go_step3
              go_wp2
              simp only [jumpM]
              go_ret
              exact ⟨⟨_, _, _, rfl, HS5.out.lists.wide hw2, Or.inl (by have := HE5.out; rwa [Rst, List.append_nil] at this)⟩, HG.out.2.2.2.2.trans (HS5.out.below.mono hw2)⟩
          | succ n =>
            obtain ⟨q, p, rfl⟩ : ∃ q p', p = q :: p' := by cases p with
              | nil => simp at hnp
              | cons q p => exact ⟨q, p, rfl⟩
            obtain ⟨j, rfl, hjK⟩ := HS.out.mem q (by simp)
            have hnp2 : p.length = n := by simpa using hnp
            obtain ⟨g, cap, hv, hcap⟩ := own_cap HS.out.path (by simp)
            injection hv with e1 e2 e3
            subst e1
            subst e3
            have hcapI : (n : Int) + 1 ≤ (c10 : Int) := by rw [hnp] at hcap; omega
            have HMP := Lib.hid (Nat.lt_trans (mb_pop P p j) HMS.out)
            have hcap2 := hcap
            have hne : (((n : Int) + 1) == 0) = false := by simp; omega
            have hpl := HS.out.len
            rw [hnp] at hpl
            have HNP2 := Lib.hid hnp2
            obtain rfl : P = n + 1 := by omega
            clear hmo
            clear hnp2 hcap hcap2 e2
            go_wp2_with (first
              | (go_at_call 69; refine (HTG.out _ HS.out.below HO10.out).mono ?_; rintro e w' ⟨rfl, rfl⟩)
              | (go_at_call 70; refine (has_int _ _ _ (by assumption) (by omega) (by omega)).mono ?_; rw [HB2.out]; rintro e w' ⟨rfl, rfl⟩)
              | (go_at_call 71; refine HCL.out.mono ?_; rintro e wc ⟨⟨vc, rfl, hvc⟩, hbc⟩; obtain ⟨Ac, cc, rfl⟩ := row_form hvc; have HVC := Lib.hid hvc; have HVL := Lib.hid ((row_below HS.out.lists.2.1 hbc (Nat.le_refl _))); clear hvc)
              | (at_builtin; refine wpList_append_own _ rfl _ _ 40 rfl w2.heap.size 26 ir (.slice none 0 0) 1 24 Tryd.underlying40 hir hzr0 hzr1 hzr2 rfl (by decide) _ rs.length rs rfl (HVL.out.alloc _) ⟨wc.heap.size, 0, none⟩ 1 1 [.slice Ac (n + 1) cc] rfl rfl ?c1 ?c2 ?c3 ?c4 ?c5 ?_))
            case c1 =>
              intro j u hj
              match j, hj with
              | 0, hj => simp at hj; subst hj; simp [Addr.add]
            case c2 => intro u hu; simp at hu; subst hu; rfl
            case c3 => unfold maxLen; omega
            case c4 => omega
            case c5 => have := HS.out.below.size; have := hbc.size; simp; omega
            · intro v' w5 hown' hgrow _
              have HS5 := Lib.hid (HS.out.leaf hbc (by rw [hnp]; exact HVC.out) hown' hgrow)
              have hcp : w5.cell? ⟨g, n, none⟩ = some (.int .i64 ((j : Int) + 1)) := by
                have h6 := HS5.out.path
                rw [hnp] at h6
                rw [World.ownsRow.cellAt h6 n (by omega)]
                have := HNP2.out
                subst this
                simp
              obtain ⟨A', c', rfl⟩ := row_form hown'
              have HS6 : Hid (Sst w2 w5 s N (n + 1) K p (.slice (some ⟨g, 0, none⟩) n c10) (.slice A' (rs.length + 1) c') (rs ++ [.slice Ac (n + 1) cc]) (ys ++ [(((j : Int) + 1) :: p).reverse])) := Lib.hid (by
                have h6 := HS5.out
                have h7 := HNP2.out
                subst h7
                exact HPO.out _ j p g c10 w5 _ _ _ h6)
              have HE6 : Hid ((ys ++ [(((j : Int) + 1) :: p).reverse]) ++ (Und s (n + 1) N p j ++ Rst s (n + 1) N p) = Lw s K (n + 1) N) := Lib.hid (by rw [← rst_cons]; exact HE5.out)
              clear hown' hgrow
              by_cases hgt : 300 < rs.length + 1
              · have hgtI : (300 : Int) < (rs.length : Int) + 1 := by omega
                go_wp2
                go_step3
                go_wp2
                simp only [jumpM]
                go_ret
                exact ⟨⟨_, _, _, rfl, HS6.out.lists.wide hw2, Or.inr ⟨by have := HYR.out; simp; omega, by have := HYR.out; simp; omega, by have := HLE.out; have := HYR.out; omega⟩⟩, HG.out.2.2.2.2.trans (HS6.out.below.mono hw2)⟩
              · have hgtI : (rs.length : Int) + 1 ≤ 300 := by omega
                have hgd : decide ((300 : Int) < (rs.length : Int) + 1) = false := by simp; omega
                go_wp2
                go_step3
                go_wp2
                (first | refine wp_goto ?_ | skip)
                exact ⟨ms (n + 1) p j, HMP.out, w2, g7, c7, _, rs8, b7, b8, HG, j, p, _, _, _, _, rfl, HS6, Lib.hid (Or.inl ⟨rfl, by omega, rfl, by have := HYR.out; simp; omega, HE6.out⟩)⟩
        | succ c =>
          cases k with
          | zero => rw [← Lw_len, Lw_0] at hW; simp at hW
          | succ k =>
            have hmc : ((c + 1 : Nat) : Int) = (c : Int) + 1 := by omega
            have hkc : ((k + 1 : Nat) : Int) = (k : Int) + 1 := by omega
            have hg7 := HG.out.1.lt.2
            have hcN := (HS.out.below.cell (p := ⟨g7, k + 1, none⟩) hg7).trans (HG.out.1.cell (j := k + 1) (by omega))
            have hn0 := num_nn s ((k + 1 : Nat) : Int) h1
            have hns := num_small s ((k + 1 : Nat) : Int) h1 h2 (by omega) (by omega)
            have HMS2 := Lib.hid (ms_less P p k)
            have HUM := Lib.hid (fun h0 => und_miss s P N p k (by omega) h0)
            rw [hr, HMo.out, Nat.add_sub_cancel, ← hkc] at HUM
            clear hW
            rw [hmc] at hmo HB2
            rw [hkc] at hkI hkI0 hkI7
            by_cases hle : (r : Int) < num s ((k + 1 : Nat) : Int)
            · have HE2 : Hid (ys ++ (Und s P N p k ++ Rst s P N p) = Lw s K P N) := Lib.hid (by
                have h5 := HUM.out (fun h => by have h6 : 0 ≤ (r : Int) - num s ((k + 1 : Nat) : Int) := rep_nn s h1 c _ ⟨_, h⟩; omega)
                rw [← h5]; exact HEQ.out)
              generalize num s ((k + 1 : Nat) : Int) = z at *
              generalize hnp : p.length = np at *
              generalize hx : ps s p.reverse np = x at *
              go_wp2_with (first
                | (go_at_call 69; refine (HTG.out _ HS.out.below HO10.out).mono ?_; rintro e w' ⟨rfl, rfl⟩)
                  | (go_at_call 70; refine (has_int _ _ _ (by assumption) (by omega) (by omega)).mono ?_; rw [HB2.out]; rintro e w' ⟨rfl, rfl⟩))
              go_step3
              exact ⟨ms P p k, HMS2.out, w2, g7, c7, _, rs8, b7, b8, HG, k, p, _, v11, rs, ys, rfl, HS, Lib.hid (Or.inl ⟨rfl, by omega, rfl, by omega, HE2.out⟩)⟩
            · obtain ⟨r2, hr2⟩ := Int.eq_ofNat_of_zero_le (show 0 ≤ (r : Int) - num s ((k + 1 : Nat) : Int) by omega)
              have hr2N : r2 ≤ N := by omega
              have hcT3 := (HS.out.below.cell (p := ⟨gk, r2, none⟩) HGK.out).trans (HRT.out.cell (j := r2) (by omega))
              have HBIT2 : Hid ((T s (k + 1) r2).testBit c = decide (0 < W s (k + 1) c r2)) := Lib.hid (by rw [T_bit]; simp; omega)
              have htl2 := T_lt s (k + 1) r2
              have hr2I : (r2 : Int) < (N : Int) + 1 := by omega
              have hr2I0 : (0 : Int) ≤ (r2 : Int) := by omega
              have hcI : (c : Int) ≤ 23 := by omega
              have hcI0 : (0 : Int) ≤ (c : Int) := by omega
              rw [hr2] at HUM
              generalize T s (k + 1) r2 = tk2 at *
              by_cases hW2 : 0 < W s (k + 1) c r2
              · have HB3 := Lib.hid (show tk2.testBit (c : Int).toNat = true by rw [Int.toNat_natCast, HBIT2.out]; simpa using hW2)
                have HMS3 := Lib.hid (ms_down P p (k + 1) (by omega) (by omega))
                have HE2 : Hid (ys ++ (Und s P N (((k : Int) + 1) :: p) (k + 1) ++ Rst s P N (((k : Int) + 1) :: p)) = Lw s K P N) := Lib.hid (by
                  rw [rst_cons, ← List.append_assoc (Und s P N (((k : Int) + 1) :: p) (k + 1)), ← und_down s P N p k (by omega)]
                  exact HEQ.out)
                have hle2 : num s ((k + 1 : Nat) : Int) ≤ (r : Int) := by omega
                have HLE2 := Lib.hid (show ps s p.reverse p.length + num s ((k : Int) + 1) ≤ (N : Int) by rw [← hkc]; omega)
                clear hW2 hle
                generalize hz : num s ((k + 1 : Nat) : Int) = z at *
                generalize hnp : p.length = np at *
                generalize hx : ps s p.reverse np = x at *
                have HPA := Lib.hid HS.out.path
                have hpl : np ≤ 24 := by omega
                go_wp2_with (first
                  | (go_at_call 69; refine (HTG.out _ HS.out.below HO10.out).mono ?_; rintro e w' ⟨rfl, rfl⟩)
                  | (go_at_call 70; refine (has_int _ _ _ (by assumption) (by omega) (by omega)).mono ?_; (first | rw [HB2.out] | rw [HB3.out]); rintro e w' ⟨rfl, rfl⟩)
                  | (at_builtin; refine wpList_append_lies _ rfl _ _ 26 rfl w2.heap.size 3 i0 (.int .i64 0) 1 8 Tryd.underlying26 hi0 hz0 hz1 hz2 rfl (by decide) (.slice A10 np c10) np (i64s p.reverse) rfl ((hnp ▸ HPA.out).alloc _) ⟨wr.heap.size, 0, none⟩ 1 1 [.int .i64 ((k : Int) + 1)] rfl rfl ?c1 ?c2 (by omega) ?c3 ?c4 ?c5 _ rfl ?_))
                case c1 =>
                  intro j u hj
                  match j, hj with
                  | 0, hj => simp at hj; subst hj; simp [Addr.add]
                case c2 => intro u hu; simp at hu; subst hu; rfl
                case c3 => unfold maxLen; omega
                case c4 => omega
                case c5 => have := HS.out.below.size; simp; omega
                · intro g cap w5 hown' hgrow hat _
                  subst hx
                  subst hz
                  subst hnp
                  have HS5 : Hid (Sst w2 w5 s N P K (((k : Int) + 1) :: p) (.slice (some ⟨g, 0, none⟩) (p.length + 1) cap) v11 rs ys) := Lib.hid (HS.out.down (by omega) (by omega) HLE2.out (by simpa using hown') hgrow (by simpa using hat))
                  clear hown' hgrow hat
                  go_wp2
                  go_step3
                  exact ⟨ms P (((k : Int) + 1) :: p) (k + 1), HMS3.out, w2, g7, c7, _, rs8, b7, b8, HG, k + 1, ((k : Int) + 1) :: p, _, v11, rs, ys, rfl, HS5, Lib.hid (Or.inl ⟨rfl, by omega, rfl, by omega, HE2.out⟩)⟩
              · have HB3 := Lib.hid (show tk2.testBit (c : Int).toNat = false by rw [Int.toNat_natCast, HBIT2.out]; simpa using hW2)
                have HE2 : Hid (ys ++ (Und s P N p k ++ Rst s P N p) = Lw s K P N) := Lib.hid (by rw [← HUM.out hW2]; exact HEQ.out)
                have hle2 : num s ((k + 1 : Nat) : Int) ≤ (r : Int) := by omega
                clear hW2 hle
                generalize num s ((k + 1 : Nat) : Int) = z at *
                generalize hnp : p.length = np at *
                generalize hx : ps s p.reverse np = x at *
                go_wp2_with (first
                  | (go_at_call 69; refine (HTG.out _ HS.out.below HO10.out).mono ?_; rintro e w' ⟨rfl, rfl⟩)
                  | (go_at_call 70; refine (has_int _ _ _ (by assumption) (by omega) (by omega)).mono ?_; (first | rw [HB2.out] | rw [HB3.out]); rintro e w' ⟨rfl, rfl⟩))
                go_step3
                exact ⟨ms P p k, HMS2.out, w2, g7, c7, _, rs8, b7, b8, HG, k, p, _, v11, rs, ys, rfl, HS, Lib.hid (Or.inl ⟨rfl, by omega, rfl, by omega, HE2.out⟩)⟩
      · have HB2 := Lib.hid (show tk.testBit (mo : Int).toNat = false by rw [Int.toNat_natCast, HBIT.out]; simpa using hW)
        have HE2 : Hid (ys ++ Rst s P N p = Lw s K P N) := Lib.hid (by have := HEQ.out; rwa [HUN.out hW, List.nil_append] at this)
        clear hW
        generalize hnp : p.length = np at *
        generalize hx : ps s p.reverse np = x at *
        go_wp2_with (first
          | (go_at_call 69; refine (HTG.out _ HS.out.below HO10.out).mono ?_; rintro e w' ⟨rfl, rfl⟩)
              | (go_at_call 70; refine (has_int _ _ _ (by assumption) (by omega) (by omega)).mono ?_; rw [HB2.out]; rintro e w' ⟨rfl, rfl⟩))
        go_step3
        exact ⟨mb P p, HMS.out, w2, g7, c7, _, rs8, b7, b8, HG, k, p, _, v11, rs, ys, rfl, HS, Lib.hid (Or.inr ⟨rfl, rfl, by omega, HE2.out⟩)⟩
    · refine ⟨_, rfl, ?_⟩
      have HEQ := Lib.hid hEq
      clear hEq HC
      have HL1 := Lib.hid HS.out.lists.1
      have HTW := HTOT
      obtain ⟨A11, c11, rfl⟩ := row_form HS.out.lists.2.1
      have HLE : Hid (ys.length ≤ W s K P N) := Lib.hid (by rw [← HTOT.out, ← HEQ.out, List.length_append]; omega)
      have hw2 : w.heap.size ≤ w2.heap.size := HG.out.2.2.2.1
      cases p with
      | nil =>
        obtain ⟨A10, c10, rfl⟩ := row_form HS.out.path
        have HE5 : Hid (ys = Lw s K P N) := Lib.hid (by have := HEQ.out; rwa [Rst, List.append_nil] at this)
        simp only [List.length_nil]
        go_wp2
        simp only [jumpM]
        go_ret
        exact ⟨⟨_, rs, ys, rfl, HS.out.lists.wide hw2, Or.inl HE5.out⟩, HG.out.2.2.2.2.trans (HS.out.below.mono hw2)⟩
      | cons q p =>
        obtain ⟨j, rfl, hjK⟩ := HS.out.mem q (by simp)
        obtain ⟨g, cap, rfl, hcap⟩ := own_cap HS.out.path (by simp)
        have hcp : wr.cell? ⟨g, p.length, none⟩ = some (.int .i64 ((j : Int) + 1)) := by
          rw [World.ownsRow.cellAt HS.out.path p.length (by simp)]
          simp
        have HPO : Hid (Sst w2 wr s N P K p (.slice (some ⟨g, 0, none⟩) p.length cap) (.slice A11 rs.length c11) rs ys) := Lib.hid (HS.out.pop h1)
        have HE5 : Hid (ys ++ (Und s P N p j ++ Rst s P N p) = Lw s K P N) := Lib.hid (by rw [← rst_cons]; exact HEQ.out)
        have HMP := Lib.hid (mb_pop P p j)
        have hlc : (((j : Int) + 1) :: p).length = p.length + 1 := rfl
        rw [hlc] at hcap ⊢
        have hcapI : (p.length : Int) + 1 ≤ (cap : Int) := by omega
        have hyr : rs.length = ys.length := HL1.out
        rw [hyr] at HPO ⊢
        have HYR := Lib.hid hyr
        have hpl := HS.out.len
        rw [hlc] at hpl
        have HSL := Lib.hid (HS.out.lists)
        clear hlc hyr HS
        generalize hnp : p.length = np at *
        generalize hny : ys.length = ny at *
        by_cases hgt : 300 < ny
        · have hgtI : (300 : Int) < (ny : Int) := by omega
          go_wp2
          simp only [jumpM]
          go_ret
          exact ⟨⟨_, rs, ys, by rw [HYR.out]; rfl, HSL.out.wide hw2, Or.inr ⟨by omega, by omega, by have := HLE.out; omega⟩⟩, HG.out.2.2.2.2.trans (HPO.out.below.mono hw2)⟩
        · have hgtI : (ny : Int) ≤ 300 := by omega
          have hgd : decide ((300 : Int) < (ny : Int)) = false := by simp; omega
          go_wp2
          (first | refine wp_goto ?_ | skip)
          exact ⟨ms P p j, HMP.out, w2, g7, c7, _, rs8, b7, b8, HG, j, p, _, _, rs, ys, rfl, HPO, Lib.hid (Or.inl ⟨rfl, by omega, rfl, by omega, HE5.out⟩)⟩

end Go.Proofs.YtiloljldefodkaaDoor
