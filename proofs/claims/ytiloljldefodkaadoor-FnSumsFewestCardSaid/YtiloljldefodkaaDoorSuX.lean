/- The law FnExactAllSums. -/
import Derived.Test.YtiloljldefodkaaDoorOwL
import Derived.Test.YtiloljldefodkaaDoorSuW
import Derived.Test.YtiloljldefodkaaDoorMk
import Derived.Test.YtiloljldefodkaaDoorSuI
import Derived.RangeFuncBox
import Derived.Deep.RegionLaw
import Derived.Deep.AppendLies
namespace Go.Proofs.YtiloljldefodkaaDoor
open Go.ChangeShapes Go.WideShapes Go.ChangeAt Go.RowKit


theorem infoRow2 : (Tryd.prog.info? 26).map (fun i => (i.zero, i.size, i.bytes)) = some (some (.slice none 0 0), 1, 24) := by kernel_rfl

set_option maxHeartbeats 800000 in
theorem l1Own_any (A : Option Addr) (n c hi : Nat) (xs : List Int) (w : World) (hn : xs.length = n) (hm : n ≤ 1000) (ha : Rd w hi A (i64s xs)) (hh : hi ≤ w.heap.size) :
    Calls Tryd.prog 72 #[.slice A n c] w fun e w' => (∃ v, e = .returned v ∧ w'.ownsRow w.heap.size 3 1 v n (i64s xs)) ∧ Below w.heap.size w w' := by
  obtain ⟨i0, hi0, hz0, hz1, hz2⟩ := info_parts infoInt
  have HA := Lib.hid (ha.below ((Below.refl w.heap.size w).alloc (Nat.le_refl _) (.cells #[] 3)) hh)
  have HN := Lib.hid hn
  have hlit : (w.alloc (.cells #[] 3)).ownsRow w.heap.size 3 1 (.slice (some ⟨w.heap.size, 0, none⟩) 0 0) 0 [] := World.ownsRow_lit w #[] 0 (Nat.le_refl _) (by unfold maxLen; omega) rfl
  have HL := Lib.hid hlit
  clear ha hn hlit
  go_enter Tryd.func72, Tryd.ntmps72
  go_wp2_with (at_builtin; refine wpList_append_src rfl _ _ 26 rfl w.heap.size 3 i0 (.int .i64 0) 8 Tryd.underlying26 hi0 hz0 hz1 hz2 rfl (.slice (some ⟨w.heap.size, 0, none⟩) 0 0) 0 [] rfl HL.out A n c (i64s xs) rfl (by simp [HN.out]) hi HA.out (i64s_one _) (by unfold maxLen; omega) (by omega) (by simp) ?_; intro v' w3 hown' hgrow)
  have hb3 : Below w.heap.size w w3 := ((Below.refl w.heap.size w).alloc (Nat.le_refl _) (.cells #[] 3)).grown hgrow (by simp) fun g hg => by
    simp [Value.ownBlock] at hg
    omega
  have HO : Hid (w3.ownsRow w.heap.size 3 1 v' n (i64s xs)) := Lib.hid (by simpa using hown')
  clear hown' hgrow
  go_wp2
  go_ret
  exact ⟨⟨_, rfl, HO.out⟩, hb3⟩

/-- A slice of rows, row i the numbers of the list i of yss, no two in one block. -/
def Lists (w : World) (base : Nat) (V : Value) (rs : List Value) (yss : List (List Int)) : Prop :=
  rs.length = yss.length ∧ w.ownsRow base 26 1 V rs.length rs ∧ (∀ (i : Nat) (v : Value), rs[i]? = some v → w.ownsRow base 3 1 v (rowsOf yss i).length (i64s (rowsOf yss i))) ∧
  (∀ (i j : Nat) (vi vj : Value), rs[i]? = some vi → rs[j]? = some vj → i < j → vi.ownBlock = none ∨ vi.ownBlock ≠ vj.ownBlock)
theorem owns_apart2 {w : World} {b1 b2 s1 s2 n1 n2 : Nat} {e1 e2 : TypeId} {v1 v2 : Value} {xs ys : List Value} (h1 : w.ownsRow b1 e1 s1 v1 n1 xs) (h2 : w.ownsRow b2 e2 s2 v2 n2 ys) (he : e1 ≠ e2) : v1.ownBlock = none ∨ v1.ownBlock ≠ v2.ownBlock := by
  rcases h1.2 with ⟨rfl, _⟩ | ⟨g, cap, cur, rfl, _, hg, _⟩
  · exact Or.inl rfl
  · refine Or.inr fun e => ?_
    rcases h2.2 with ⟨rfl, _⟩ | ⟨g', cap', cur', rfl, _, hg', _⟩
    · cases e
    · have e2 : g = g' := by simpa [Value.ownBlock] using e
      subst e2
      rw [hg] at hg'
      injection hg' with hg'
      injection hg' with _ h3 _
      exact he h3
theorem Lists.nil (w : World) (base : Nat) : Lists w base (.slice none 0 0) [] [] := ⟨rfl, World.ownsRow_nil _ _ _ _, fun i v h => by simp at h, fun i j vi vj h => by simp at h⟩
theorem Lists.below {w w' : World} {base B : Nat} {V : Value} {rs : List Value} {yss : List (List Int)} (h : Lists w base V rs yss) (hb : Below B w w') (hB : w.heap.size ≤ B) : Lists w' base V rs yss :=
  ⟨h.1, row_below h.2.1 hb hB, fun i v hv => row_below (h.2.2.1 i v hv) hb hB, h.2.2.2⟩
/-- nothing but a block of another type has turned -/
theorem Lists.kept {w w' : World} {base : Nat} {V : Value} {rs : List Value} {yss : List (List Int)} {row : Option Nat} (h : Lists w base V rs yss) (hg : w.grownBy w' row) (h1 : V.ownBlock = none ∨ V.ownBlock ≠ row) (h2 : ∀ (i : Nat) (v : Value), rs[i]? = some v → v.ownBlock = none ∨ v.ownBlock ≠ row) : Lists w' base V rs yss :=
  ⟨h.1, h.2.1.kept hg h1, fun i v hv => (h.2.2.1 i v hv).kept hg (h2 i v hv), h.2.2.2⟩
theorem Lists.app {w0 w w1 : World} {base : Nat} {V V' v : Value} {rs : List Value} {yss : List (List Int)} {xs : List Int} (h0 : Lists w0 base V rs yss) (hb : Below w0.heap.size w0 w) (hbase : base ≤ w0.heap.size)
    (hv : w.ownsRow w0.heap.size 3 1 v xs.length (i64s xs)) (hown : w1.ownsRow base 26 1 V' (rs.length + 1) (rs ++ [v])) (hg : (w.alloc (.cells #[v] 26)).grownBy w1 V.ownBlock) : Lists w1 base V' (rs ++ [v]) (yss ++ [xs]) := by
  have h := h0.below hb (Nat.le_refl _)
  have hV := h.2.1.alloc (.cells #[v] 26)
  have keep : ∀ {b n : Nat} {u : Value} {cs : List Value}, w.ownsRow b 3 1 u n cs → w1.ownsRow b 3 1 u n cs := fun hu =>
    World.ownsRow.kept (hu.alloc (.cells #[v] 26)) hg (owns_apart2 (hu.alloc (.cells #[v] 26)) hV (by decide))
  have hwide : w1.ownsRow base 3 1 v xs.length (i64s xs) := by
    have h5 := keep hv
    refine ⟨h5.1, ?_⟩
    rcases h5.2 with ⟨h1, h2⟩ | ⟨g', cap, cur, h1, h2, h3⟩
    · exact Or.inl ⟨h1, h2⟩
    · exact Or.inr ⟨g', cap, cur, h1, by omega, h3⟩
  refine ⟨by simp [h.1], by simpa using hown, fun i u hu => ?_, fun i j vi vj hi hj hij => ?_⟩
  · rcases Nat.lt_or_ge i rs.length with hi | hi
    · rw [List.getElem?_append_left hi] at hu
      have e : rowsOf (yss ++ [xs]) i = rowsOf yss i := by
        simp only [rowsOf, List.getD_eq_getElem?_getD]
        rw [List.getElem?_append_left (by rw [← h.1]; exact hi)]
      rw [e]
      exact keep (h.2.2.1 i u hu)
    · have e : i = rs.length := by
        have := (List.getElem?_eq_some_iff.1 hu).1
        simp at this
        omega
      subst e
      simp at hu
      subst hu
      have e : rowsOf (yss ++ [xs]) rs.length = xs := by
        simp only [rowsOf, List.getD_eq_getElem?_getD]
        rw [h.1, List.getElem?_append_right (Nat.le_refl _)]
        simp
      rw [e]
      exact hwide
  · rcases Nat.lt_or_ge j rs.length with hj2 | hj2
    · rw [List.getElem?_append_left (by omega)] at hi
      rw [List.getElem?_append_left hj2] at hj
      exact h.2.2.2 i j vi vj hi hj hij
    · have e : j = rs.length := by
        have := (List.getElem?_eq_some_iff.1 hj).1
        simp at this
        omega
      subst e
      simp at hj
      subst hj
      rw [List.getElem?_append_left hij] at hi
      have hlt := (h0.2.2.1 i vi hi).lt
      cases hb1 : vi.ownBlock with
      | none => exact Or.inl rfl
      | some g =>
        refine Or.inr fun e => ?_
        have h6 := (hlt g hb1).2
        have h7 := (hv.lt g e.symm).1
        omega

/-- All int rows that the world had, it has. -/
def KeptI (w w' : World) : Prop := ∀ (b n : Nat) (v : Value) (cs : List Value), w.ownsRow b 3 1 v n cs → w'.ownsRow b 3 1 v n cs
theorem KeptI.refl (w : World) : KeptI w w := fun _ _ _ _ h => h
theorem KeptI.trans {a b c : World} (h : KeptI a b) (k : KeptI b c) : KeptI a c := fun b n v cs h1 => k b n v cs (h b n v cs h1)
/-- What suList leaves behind. -/
def Listed (w : World) (base b : Nat) (zss : List (List Int)) (e : Ending) (w' : World) : Prop :=
  e = .returned (.tuple #[]) ∧ (∃ V rs, Boxed w' b 40 V ∧ Lists w' base V rs zss) ∧ Below base w w' ∧ KeptI w w'

set_option maxHeartbeats 3200000 in
theorem suList_end (s : Int) (base b : Nat) (m : Int) (K : Int) (path : List Int) (P : Value) (V : Value) (rs : List Value) (yss : List (List Int)) (bp : Nat) (w : World) (hm : m = 0) (hl : path.length ≤ 24) (hy : yss.length ≤ 300) (hbb : base ≤ b)
    (hP : w.ownsRow bp 3 1 P path.length (i64s path)) (hB : Boxed w b 40 V) (hL : Lists w base V rs yss) :
    Calls Tryd.prog 57 #[.int .i64 s, .int .i64 m, .int .i64 0, .int .i64 K, P, .pointer (some ⟨b, 0, none⟩)] w (Listed w base b (yss ++ [path])) := by
  obtain ⟨ir, hir, hzr0, hzr1, hzr2⟩ := info_parts infoRow2
  obtain ⟨A, c, rfl⟩ := row_form hP
  obtain ⟨np, hnp⟩ : ∃ np, np = path.length := ⟨_, rfl⟩
  rw [← hnp] at hP hl ⊢
  have HNP := Lib.hid hnp.symm
  have hbl := hB.lt
  have hrl : rs.length ≤ 300 := by rw [hL.1]; exact hy
  have hc0 := hB.cell
  have hO := (own_of_row hP).rd
  have HOW := Lib.hid (fun w' (hb : Below w.heap.size w w') => l1Own_any A np c w.heap.size path w' HNP.out (by omega) (hO.below hb (Nat.le_refl _)) hb.size)
  subst hm
  have HB := Lib.hid hB
  have HL := Lib.hid hL
  have HP := Lib.hid hP
  clear hnp hO hB hL hP
  go_enter Tryd.func57, Tryd.ntmps57
  go_wp2_with fail
  go_region_law (first
    | (go_simp; go_at_call 72; refine (HOW.out _ (below_drewN (Below.refl _ _) 1)).mono ?_; rintro e w1 ⟨⟨v, rfl, hv⟩, hb1⟩; obtain ⟨A1, c1, rfl⟩ := row_form hv; have HV := Lib.hid hv; have HB1 := Lib.hid hb1; have hc1 := (hb1.cell (p := ⟨b, 0, none⟩) hbl).trans hc0; have HL1 := Lib.hid (Lists.below (B := w.heap.size) HL.out (Below.trans (below_drewN (Below.refl w.heap.size w) 1) hb1) (Nat.le_refl _)); have HLW := Lib.hid (HL1.out.2.1.alloc (.cells #[.slice A1 np c1] 26)); have HBX := Lib.hid (Boxed.alloc (show Boxed w1 b 40 V from (hb1.block b hbl).trans HB.out) (.cells #[.slice A1 np c1] 26)); have hc2 := HBX.out.cell; clear hv hb1)
    | (refine step_append_lies _ rfl (.tmp 20) (.tmp 23) 40 rfl base 26 ir (.slice none 0 0) 1 24 Tryd.underlying40 hir hzr0 hzr1 hzr2 rfl (by decide) V rs.length rs (by simp [Act.eval]) HLW.out ⟨w1.heap.size, 0, none⟩ 1 1 [.slice A1 np c1] (by simp [Act.eval]) rfl (cell_one_new w1 _ _) (by intro u hu; simp at hu; subst hu; rfl) (by omega) (by unfold maxLen; omega) (by omega) (by have := HB1.out.size; simp at this ⊢; omega) _ rfl ?_; intro g cap w3 hown' hgrow hat hlt; have hB3 := HBX.out.kept hgrow (HBX.out.not_row (by decide) HLW.out); have hc3 := hB3.cell; have hf3 := hB3.frozen; have HB3 := Lib.hid hB3; have HO3 := Lib.hid hown'; have HG3 := Lib.hid hgrow; clear hB3 hown' hgrow hat))
  all_goals
    go_wp2
    ((try simp only [Exit.inBlock, Exit.then]); refine bodyPost_ret (results_none rfl _ _ _) rfl ?_)
    have hsz : base ≤ w.heap.size := by omega
    have hb1 : Below w.heap.size w w1 := Below.trans (below_drewN (Below.refl w.heap.size w) 1) HB1.out
    have hL3 : Lists w3 base _ (rs ++ [.slice A1 np c1]) (yss ++ [path]) := Lists.app (w0 := w) HL.out hb1 hsz (by rw [HNP.out]; exact HV.out) HO3.out HG3.out
    have hset := grownBy_setCell' w3 b (.slice (some ⟨g, 0, none⟩) (rs.length + 1) cap)
    have hset3 : ∀ {b2 n : Nat} {v : Value} {cs : List Value}, w3.ownsRow b2 3 1 v n cs → (w3.setCell ⟨b, 0, none⟩ (.slice (some ⟨g, 0, none⟩) (rs.length + 1) cap)).ownsRow b2 3 1 v n cs := fun h => World.ownsRow.kept h hset (Or.inr (fun e => HB3.out.not_row (by decide) h e.symm))
    refine ⟨rfl, ⟨_, rs ++ [.slice A1 np c1], HB3.out.set _, ?_⟩, ?_, ?_⟩
    · exact hL3.kept hset (Or.inr (fun e => HB3.out.not_row (by decide) hL3.2.1 e.symm)) (fun i v hv => Or.inr (fun e => HB3.out.not_row (by decide) (hL3.2.2.1 i v hv) e.symm))
    · exact Below.setCell (((hb1.mono hsz).alloc (Nat.le_trans hsz hb1.size) _).grown HG3.out (by have := hb1.size; simp; omega) (fun k hk => (HLW.out.lt k hk).1)) hbb _
    · intro b2 n v cs h
      exact hset3 (World.ownsRow.kept ((row_below h hb1 (Nat.le_refl _)).alloc _) HG3.out (owns_apart2 ((row_below h hb1 (Nat.le_refl _)).alloc (.cells #[.slice A1 np c1] 26)) HLW.out (by decide)))

theorem lw_less (s : Int) (q c : Nat) (m : Int) (path : List Int) (ys : List (List Int)) : (ys ++ (Lw s (q + 1) c (m - num s ((q : Int) + 1))).map ((path ++ [(q : Int) + 1]) ++ ·)) ++ (Lw s q (c + 1) m).map (path ++ ·) = ys ++ (Lw s (q + 1) (c + 1) m).map (path ++ ·) := by
  rw [Lw_kk, List.map_append, List.map_map, List.append_assoc]
  congr 2
  apply List.map_congr_left
  intro x _
  simp
set_option maxHeartbeats 6400000 in
theorem suList_any (s : Int) (h1 : 3 ≤ s) (h2 : s ≤ 24) (base b : Nat) (hbb : base ≤ b) (c : Nat) : ∀ (m : Int) (K : Nat) (path : List Int) (P V : Value) (rs : List Value) (yss : List (List Int)) (bp : Nat) (w : World), c ≤ 24 → 0 ≤ m → m ≤ 3000 → K ≤ 3000 → path.length + c ≤ 24 → yss.length + W s K c m ≤ 300 →
    w.ownsRow bp 3 1 P path.length (i64s path) → Boxed w b 40 V → Lists w base V rs yss →
    Calls Tryd.prog 57 #[.int .i64 s, .int .i64 m, .int .i64 c, .int .i64 K, P, .pointer (some ⟨b, 0, none⟩)] w (Listed w base b (yss ++ (Lw s K c m).map (path ++ ·))) := by
  induction c with
  | zero =>
    intro m K path P V rs yss bp w _ hm0 hm1 hK hpl hyl hP hB hL
    by_cases hm : m = 0
    · have e : (Lw s K 0 m).map (path ++ ·) = [path] := by rw [Lw_k0, if_pos hm]; simp
      rw [e]
      have hyl2 : yss.length ≤ 300 := by omega
      exact suList_end s base b m K path P V rs yss bp w hm (by omega) hyl2 hbb hP hB hL
    · have e : (Lw s K 0 m).map (path ++ ·) = [] := by rw [Lw_k0, if_neg hm]; simp
      rw [e, List.append_nil]
      have hmb : (m == 0) = false := by simpa using hm
      have HF := Lib.hid (show ∃ V rs, Boxed w b 40 V ∧ Lists w base V rs yss from ⟨V, rs, hB, hL⟩)
      clear hm hP hB hL hyl
      go_enter Tryd.func57, Tryd.ntmps57
      go_wp2_with fail
      ((try simp only [Exit.inBlock, Exit.then]); refine bodyPost_ret (results_none rfl _ _ _) rfl ?_)
      exact ⟨rfl, HF.out, Below.refl _ _, KeptI.refl _⟩
  | succ c ih =>
    intro m K path P V rs yss bp w hc hm0 hm1 hK hpl hyl hP hB hL
    obtain ⟨i0, hi0, hz0, hz1, hz2⟩ := info_parts infoInt
    obtain ⟨A, cp, rfl⟩ := row_form hP
    have hbl := hB.lt
    have hcast : ((c + 1 : Nat) : Int) = (c : Int) + 1 := by omega
    have hcI : (c : Int) + 1 ≤ 24 := by omega
    have hcI0 : (0 : Int) ≤ (c : Int) := by omega
    have hcb : ((c : Int) + 1 == 0) = false := by simp; omega
    rw [hcast]
    obtain ⟨np, hnp⟩ : ∃ np, np = path.length := ⟨_, rfl⟩
    rw [← hnp] at hP hpl ⊢
    have HNP := Lib.hid hnp.symm
    have p0 := pl_nn s m h1 hm0
    have p1 := pl_77 s m h1 hm0 hm1
    have HPL := Lib.hid (fun q : Int => fits_iff s m q h1 hm0)
    have q0 : (0 : Int) ≤ min (K : Int) (pl s m) := by omega
    have q2 : min (K : Int) (pl s m) ≤ (K : Int) := by omega
    have q3 : min (K : Int) (pl s m) ≤ pl s m := by omega
    obtain ⟨t, ht⟩ := Int.eq_ofNat_of_zero_le q0
    have HT : Hid (Lw s t (c + 1) m = Lw s K (c + 1) m) := by
      refine Lib.hid ?_
      by_cases hjt : t = K
      · subst hjt; rfl
      · have e : K = t + (K - t) := by omega
        have h5 := fits_iff s m ((t : Int) + 1) h1 hm0 (by omega)
        have h6 := Lw_down s h1 c m t (K - t) (by
          rcases Int.lt_or_le (m : Int) (num s ((t : Int) + 1)) with h | h
          · exact h
          · have := h5.1 h; omega)
        rw [← e] at h6
        exact h6.symm
    rw [ht] at q2 q3
    have HTT := Lib.hid ht
    have HMO := Lib.hid (fun (k : Nat) (h : 0 < W s k (c + 1) m) => W_most s h1 k (c + 1) m h)
    have HYL := Lib.hid hyl
    have HS0 := Lib.hid (show Boxed w b 40 V ∧ Lists w base V rs yss ∧ KeptI w w from ⟨hB, hL, KeptI.refl _⟩)
    have HP := Lib.hid hP
    have IH := Lib.hid ih
    clear ht q0 hnp hcast hyl hP hB hL ih
    go_enter Tryd.func57, Tryd.ntmps57
    go_wp2_with (first
      | (go_at_call 36; refine (shBelow_any _ _ _ h1 h2 hm0 (by omega)).mono ?_; rintro e w' ⟨rfl, rfl⟩)
      | (go_at_call 42; refine (l1Least_any _ _ _).mono ?_; rw [HTT.out]; rintro e w' ⟨rfl, rfl⟩))
    go_loopw [12] (fun p wr => ∃ (q : Nat) (V2 : Value) (rs2 : List Value) (ys : List (List Int)), p = .int .i64 q ∧ q ≤ K ∧ (q : Int) ≤ pl s m ∧ Hid (ys ++ (Lw s q (c + 1) m).map (path ++ ·) = yss ++ (Lw s K (c + 1) m).map (path ++ ·)) ∧ Hid (Boxed wr b 40 V2 ∧ Lists wr base V2 rs2 ys ∧ KeptI w wr) ∧ Below base w wr) (fun p _ => (intOf p).toNat)
    case atStart => exact ⟨t, V, rs, yss, rfl, by omega, q3, Lib.hid (by rw [HT.out]), HS0, Below.refl _ _⟩
    case round =>
      obtain ⟨q, V2, rs2, ys, rfl, hqj, hqp, HQ, HS, hb⟩ := hrel
      cases q with
      | zero =>
        have HE : Hid (ys = yss ++ (Lw s K (c + 1) m).map (path ++ ·)) := Lib.hid (by rw [← HQ.out, Lw_0]; simp)
        go_wp2_with fail
        go_end0
        rw [← HE.out]
        exact ⟨rfl, ⟨_, _, HS.out.1, HS.out.2.1⟩, hb, HS.out.2.2⟩
      | succ q =>
        have hfit := (HPL.out ((q : Int) + 1) (by omega)).2 (by omega)
        have hnn := num_nn s ((q : Int) + 1) h1
        have hge : (1 : Int) ≤ (q : Int) + 1 := by omega
        have hqK : (q : Int) + 1 ≤ 77 := by omega
        have hn3 : num s ((q : Int) + 1) ≤ 3000 := by omega
        have hx0 : (0 : Int) ≤ ((c : Int) + 1) * num s ((q : Int) + 1) := Int.mul_nonneg (by omega) hnn
        have hx1 : ((c : Int) + 1) * num s ((q : Int) + 1) ≤ 75000 := Int.le_trans (Int.mul_le_mul (show (c : Int) + 1 ≤ 25 by omega) hn3 hnn (by omega)) (by omega)
        by_cases hpm : ((c : Int) + 1) * num s ((q : Int) + 1) < (m : Int)
        · have HE : Hid (ys = yss ++ (Lw s K (c + 1) m).map (path ++ ·)) := Lib.hid (by
            rw [← HQ.out, Lw_nil s (q + 1) (c + 1) m (fun h => by
              have h7 := HMO.out _ h
              push_cast at h7
              omega)]
            simp)
          push_cast
          go_wp2_with (go_at_call 41; refine (shNumber_any _ _ _ h1 h2 (by omega) (by omega)).mono ?_; rintro e w' ⟨rfl, rfl⟩)
          go_end0
          rw [← HE.out]
          exact ⟨rfl, ⟨_, _, HS.out.1, HS.out.2.1⟩, hb, HS.out.2.2⟩
        · have hpm2 : (m : Int) ≤ ((c : Int) + 1) * num s ((q : Int) + 1) := by omega
          clear hpm
          have HB2 : Hid (ys.length + W s (q + 1) c (m - num s ((q : Int) + 1)) ≤ 300) := Lib.hid (by
            have h7 := congrArg List.length HQ.out
            simp only [List.length_append, List.length_map, Lw_len] at h7
            have h8 := W_kk s q c m
            have h9 := HYL.out
            omega)
          have HNX : Hid ((ys ++ (Lw s (q + 1) c (m - num s ((q : Int) + 1))).map ((path ++ [(q : Int) + 1]) ++ ·)) ++ (Lw s q (c + 1) m).map (path ++ ·) = yss ++ (Lw s K (c + 1) m).map (path ++ ·)) := Lib.hid (by rw [lw_less]; exact HQ.out)
          have hPr := HS.out.2.2 _ _ _ _ HP.out
          have HOW := Lib.hid (l1Own_any A np cp wr.heap.size path wr HNP.out (by omega) (own_of_row hPr).rd (Nat.le_refl _))
          have hbr : b < wr.heap.size := HS.out.1.lt
          clear hPr
          push_cast
          go_wp2_with (first
            | (go_at_call 41; refine (shNumber_any _ _ _ h1 h2 (by omega) (by omega)).mono ?_; rintro e w' ⟨rfl, rfl⟩)
            | (go_at_call 72; refine HOW.out.mono ?_; rintro e w1 ⟨⟨v, rfl, hv⟩, hb1⟩; obtain ⟨A1, c1, rfl⟩ := row_form hv; have HV := Lib.hid hv; have HB1 := Lib.hid hb1; clear hv hb1)
            | (at_builtin; refine wpList_append_own _ rfl _ _ 26 rfl wr.heap.size 3 i0 (.int .i64 0) 1 8 Tryd.underlying26 hi0 hz0 hz1 hz2 rfl (by decide) _ _ _ rfl (HV.out.alloc _) ⟨w1.heap.size, 0, none⟩ 1 1 [.int .i64 ((q : Int) + 1)] rfl rfl ?c1 ?c2 ?c3 ?c4 ?c5 ?_))
          case c1 =>
            intro j u hj
            match j, hj with
            | 0, hj => simp at hj; subst hj; simp [Addr.add]
          case c2 => intro u hu; simp at hu; subst hu; rfl
          case c3 => unfold maxLen; omega
          case c4 => omega
          case c5 => have := HB1.out.size; simp; omega
          · intro v' w5 hown' hgrow _
            rw [snoc_i64] at hown'
            have hb5 : Below wr.heap.size wr w5 := (HB1.out.alloc HB1.out.size _).grown hgrow (by have := HB1.out.size; simp; omega) fun g hg => (HV.out.lt g hg).1
            have hbase : base ≤ wr.heap.size := by omega
            have HC := Lib.hid (IH.out (m - num s ((q : Int) + 1)) (q + 1) (path ++ [(q : Int) + 1]) v' V2 rs2 ys _ w5 (by omega) (by omega) (by omega) (by omega) (by simp [HNP.out]; omega) HB2.out (by rw [show (path ++ [(q : Int) + 1]).length = np + 1 by simp [HNP.out]]; exact hown')
              ((hb5.block b hbr).trans HS.out.1) (HS.out.2.1.below hb5 (Nat.le_refl _)))
            have HK5 : Hid (KeptI w w5) := Lib.hid (fun b2 n v cs h => row_below (HS.out.2.2 b2 n v cs h) hb5 (Nat.le_refl _))
            have HB5 : Hid (Below base w w5) := Lib.hid (hb.trans (hb5.mono hbase))
            clear hown' hgrow hb5
            go_wp2_with (go_at_call 57; refine HC.out.mono ?_; rintro e w6 ⟨rfl, ⟨V6, rs6, hB6, hL6⟩, hb6, hk6⟩; have HS6 := Lib.hid (show Boxed w6 b 40 V6 ∧ Lists w6 base V6 rs6 _ ∧ KeptI w w6 from ⟨hB6, hL6, HK5.out.trans hk6⟩); clear hB6 hL6 hk6)
            go_roundw
            case rel => exact ⟨q, V6, rs6, _, by go_num, by omega, by omega, HNX, HS6, HB5.out.trans hb6⟩
            case measure => simp [intOf]

theorem Lists.ownL {w : World} {base : Nat} {V : Value} {rs : List Value} {yss : List (List Int)} (h : Lists w base V rs yss) : ∃ A c Af cf, V = .slice A yss.length c ∧ OwnL w base w.heap.size A yss.length (rowsOf yss) Af cf := by
  obtain ⟨A, c, rfl⟩ := row_form h.2.1
  have hrow : ∀ i, i < yss.length → ∃ Ai ci, rs[i]? = some (.slice Ai (rowsOf yss i).length ci) ∧ w.ownsRow base 3 1 (.slice Ai (rowsOf yss i).length ci) (rowsOf yss i).length (i64s (rowsOf yss i)) := fun i hi => by
    have hi2 : i < rs.length := by rw [h.1]; exact hi
    have h1 := h.2.2.1 i _ (List.getElem?_eq_getElem hi2)
    obtain ⟨Ai, ci, e⟩ := row_form h1
    rw [e] at h1
    exact ⟨Ai, ci, by rw [List.getElem?_eq_getElem hi2, e], h1⟩
  have hAf : ∃ (Af : Nat → Option Addr) (cf : Nat → Nat), ∀ i, i < yss.length → rs[i]? = some (.slice (Af i) (rowsOf yss i).length (cf i)) ∧ w.ownsRow base 3 1 (.slice (Af i) (rowsOf yss i).length (cf i)) (rowsOf yss i).length (i64s (rowsOf yss i)) := by
    refine ⟨fun i => if hi : i < yss.length then (hrow i hi).choose else none, fun i => if hi : i < yss.length then (hrow i hi).choose_spec.choose else 0, fun i hi => ?_⟩
    simp only [dif_pos hi]
    exact (hrow i hi).choose_spec.choose_spec
  obtain ⟨Af, cf, hf⟩ := hAf
  refine ⟨A, c, Af, cf, by rw [h.1], ⟨?_, fun i hi => own_of_row (hf i hi).2, fun i hi h0 p q hp hq => ?_, fun i j hi hj hij h0 h1 p q hp hq => ?_⟩⟩
  · have e : (List.range yss.length).map (fun i => Value.slice (Af i) (rowsOf yss i).length (cf i)) = rs := by
      apply List.ext_getElem?
      intro i
      by_cases hi : i < yss.length
      · rw [(hf i hi).1]; simp [hi]
      · rw [List.getElem?_eq_none (by simp; omega), List.getElem?_eq_none (by rw [h.1]; omega)]
    rw [e]
    exact own_of_row h.2.1
  · have h2 := owns_apart2 (hf i hi).2 h.2.1 (by decide)
    rw [hp, hq] at h2
    simp [Value.ownBlock] at h2
    exact fun e => h2 e.symm
  · rcases Nat.lt_or_ge i j with hlt | hge
    · have h2 := h.2.2.2 i j _ _ (hf i hi).1 (hf j hj).1 hlt
      rw [hp, hq] at h2
      simpa [Value.ownBlock] using h2
    · have h2 := h.2.2.2 j i _ _ (hf j hj).1 (hf i hi).1 (by omega)
      rw [hp, hq] at h2
      simp [Value.ownBlock] at h2
      exact fun e => h2 e.symm
theorem lw_3000 (s : Int) (N M : Nat) (h1 : 3 ≤ s) (hN : N ≤ 3000) : Lw s 3000 M N = Lw s (pl s N).toNat M N := by
  have p0 := pl_nn s N h1 (by omega)
  have p1 := pl_77 s N h1 (by omega) (by omega)
  cases M with
  | zero => rw [Lw_k0, Lw_k0]
  | succ M =>
    have h5 := fits_iff s N (((pl s N).toNat : Int) + 1) h1 (by omega) (by omega)
    have h6 := Lw_down s h1 M N (pl s N).toNat (3000 - (pl s N).toNat) (by
      rcases Int.lt_or_le (N : Int) (num s (((pl s N).toNat : Int) + 1)) with h | h
      · exact h
      · have := h5.1 h; omega)
    rwa [show (pl s N).toNat + (3000 - (pl s N).toNat) = 3000 by omega] at h6

end Go.Proofs.YtiloljldefodkaaDoor
