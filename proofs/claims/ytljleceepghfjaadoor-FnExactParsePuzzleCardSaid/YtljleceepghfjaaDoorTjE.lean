/- Chapter 9: what the library hands back for a puzzle's text: Cut, Atoi, SplitN. -/
import Derived.Test.YtljleceepghfjaaDoorTiQ
import Derived.Test.YtljleceepghfjaaDoorTiK
import Derived.Shelf.Strconv.ErrVarAll
import Derived.Stop.LaidErr
namespace Go.Proofs.YtljleceepghfjaaDoor
open Go.ChangeShapes Go.WideShapes Go.ChangeAt Go.RowKit

/-- The library's variable MaxLen holds a number. -/
def MaxL9 (w : World) : Prop := ∃ m, w.cell? ⟨0, 0, none⟩ = some (.int .i64 m)
theorem MaxL9.below {w w' : World} (h : MaxL9 w) (hb : Below w.heap.size w w') : MaxL9 w' := by
  obtain ⟨m, hm⟩ := h
  refine ⟨m, ?_⟩
  have hlt : 0 < w.heap.size := by
    rcases Nat.lt_or_ge 0 w.heap.size with h' | h'
    · exact h'
    · unfold World.cell? at hm
      rw [Array.getElem?_eq_none h'] at hm
      cases hm
  exact (hb.cell (p := ⟨0, 0, none⟩) hlt).trans hm
/-- The two errors that strconv names lie where they are listed. -/
def Errs9 (w : World) : Prop := (∃ t p, w.var? Tryd.prog "strconv.ErrSyntax" = some #[.iface t p]) ∧ (∃ t p, w.var? Tryd.prog "strconv.ErrRange" = some #[.iface t p])
theorem var_below9 {w w' : World} {n : String} {g : Nat} {cs : Array Value} (hg : Tryd.prog.globalNamed n = some g) (h : w.var? Tryd.prog n = some cs) (hb : Below w.heap.size w w') : w'.var? Tryd.prog n = some cs := by
  unfold World.var? at h ⊢
  rw [hg] at h ⊢
  simp only [Option.bind_some] at h ⊢
  have hlt : g < w.heap.size := by
    rcases Nat.lt_or_ge g w.heap.size with h' | h'
    · exact h'
    · rw [Array.getElem?_eq_none h'] at h; cases h
  rw [hb.block _ hlt]
  exact h
theorem Errs9.below {w w' : World} (h : Errs9 w) (hb : Below w.heap.size w w') : Errs9 w' := by
  obtain ⟨⟨t, p, h1⟩, ⟨t', p', h2⟩⟩ := h
  exact ⟨⟨t, p, var_below9 (g := 1) (by kernel_rfl) h1 hb⟩, ⟨t', p', var_below9 (g := 2) (by kernel_rfl) h2 hb⟩⟩
/-- What the library wants of a world. -/
def Lib9 (w : World) : Prop := Tab9 w ∧ Errs9 w ∧ MaxL9 w
theorem Lib9.below {w w' : World} (h : Lib9 w) (hb : Below w.heap.size w w') : Lib9 w' := ⟨tab_below9 h.1 hb, h.2.1.below hb, h.2.2.below hb⟩
theorem cut_len (l : List UInt8) (b : UInt8) : (Lib.cut l [b]).1.length ≤ l.length ∧ (Lib.cut l [b]).2.1.length ≤ l.length := by
  unfold Lib.cut
  split
  · simp
    exact Nat.min_le_right _ _
  · simp
theorem cut_any9 (s : ByteArray) (b : UInt8) (w : World) (hs : s.size ≤ 1048576) (h : Lib9 w) :
    Calls Tryd.prog 12 #[.string s, .string ⟨#[b]⟩] w fun e w' => ∃ f : Bool, e = .returned (.tuple #[.string (bt (Lib.cut s.data.toList [b]).1), .string (bt (Lib.cut s.data.toList [b]).2.1), .bool f]) ∧ Below w.heap.size w w' := by
  obtain ⟨_, _, m, hm⟩ := h
  refine (Tryd.strings_Cut s ⟨#[b]⟩ m w (by omega) hm).mono ?_
  rintro e w' ⟨rfl, n, rfl⟩
  exact ⟨_, rfl, ⟨rfl, rfl, rfl, Nat.le_refl _, fun _ _ => rfl⟩⟩
theorem atoi_any9 (s : ByteArray) (hs : s.size ≤ 1048576) : ∃ v : Int, (∀ u : Nat, u ≤ 1000000000 → s.data.toList = Lib.decDigits u → v = u) ∧
    ∀ w : World, Errs9 w → Calls Tryd.prog 22 #[.string s] w (AtT v w) := by
  cases h : Lib.atoiAll s.data.toList with
  | ok v =>
    refine ⟨v, fun u hu hd => ?_, fun w _ => ?_⟩
    · rw [hd, atoi_dec u hu] at h
      injection h with h
      exact h.symm
    · refine (Any.strconv_Atoi_ok Tryd.laysC172 s (by omega) v h w).mono fun e w' ⟨he, hw⟩ => ?_
      rcases hw with rfl | ⟨t, rfl⟩
      · exact ⟨_, he, Below.refl _ _⟩
      · exact ⟨_, he, Lib.bytesWorld_below _ _ _⟩
  | range =>
    refine ⟨Lib.atoiSat s.data.toList, fun u hu hd => ?_, fun w hE => ?_⟩
    · rw [hd, atoi_dec u hu] at h
      cases h
    · obtain ⟨_, ⟨t, p, hv⟩⟩ := hE
      refine (Any.strconv_Atoi_range_var Tryd.laysC172 s (by omega) h t p w hv).mono fun e w' ⟨N, he, _, _, hb⟩ => ⟨_, he, hb⟩
  | _ =>
    refine ⟨0, fun u hu hd => ?_, fun w hE => ?_⟩
    · rw [hd, atoi_dec u hu] at h
      cases h
    · obtain ⟨⟨t, p, hv⟩, _⟩ := hE
      refine (Any.strconv_Atoi_syntax_var Tryd.laysC172 s (by omega) h t p w hv).mono fun e w' ⟨N, he, _, _, hb⟩ => ⟨_, he, hb⟩
/-- The number that the program reads off a text. -/
noncomputable def rdA (l : List UInt8) : Int := if h : (bt l).size ≤ 1048576 then (atoi_any9 (bt l) h).choose else 0
theorem rdA_any (l : List UInt8) (w : World) (hl : l.length ≤ 1048576) (h : Lib9 w) : Calls Tryd.prog 22 #[.string (bt l)] w (AtT (rdA l) w) := by
  have hb : (bt l).size ≤ 1048576 := by rw [bt_size]; exact hl
  unfold rdA
  rw [dif_pos hb]
  exact (atoi_any9 (bt l) hb).choose_spec.2 w h.2.1
theorem rdA_dL {n : Int} (h0 : 0 ≤ n) (h : n ≤ 999) : rdA (dL n) = n := by
  have hl := dL_len h
  have hb : (bt (dL n)).size ≤ 1048576 := by rw [bt_size]; omega
  unfold rdA
  rw [dif_pos hb]
  have := (atoi_any9 (bt (dL n)) hb).choose_spec.1 n.toNat (by omega) (by rw [bt_list]; rfl)
  omega
theorem ba_bt (s : ByteArray) : bt s.data.toList = s := by
  unfold bt
  rfl
/-- The clue that the program reads off a text. -/
noncomputable def rdQ (l : List UInt8) : Clu := ⟨rdA (Lib.cut l [46]).1, rdA (Lib.cut (Lib.cut l [46]).2.1 [46]).1, rdA (Lib.cut (Lib.cut l [46]).2.1 [46]).2.1⟩
theorem rdQ_any (l : List UInt8) (w : World) (hl : l.length ≤ 1048576) (h : Lib9 w) :
    Calls Tryd.prog 24 #[.string (bt l)] w fun e w' => e = .returned (.agg #[.int .i64 (rdQ l).k, .int .i64 (rdQ l).a, .int .i64 (rdQ l).b]) ∧ Below w.heap.size w w' := by
  have l1 := cut_len l 46
  have l2 := cut_len (Lib.cut l [46]).2.1 46
  refine readClue_at (bt l) (bt (Lib.cut l [46]).1) (bt (Lib.cut l [46]).2.1) (bt (Lib.cut (Lib.cut l [46]).2.1 [46]).1) (bt (Lib.cut (Lib.cut l [46]).2.1 [46]).2.1) _ _ _ w (fun W hW => ?_) (fun W hW => ?_)
    (fun W hW => rdA_any _ W (by omega) (h.below hW)) (fun W hW => rdA_any _ W (by omega) (h.below hW)) (fun W hW => rdA_any _ W (by omega) (h.below hW))
  · have := cut_any9 (bt l) 46 W (by rw [bt_size]; omega) (h.below hW)
    rw [bt_list] at this
    exact this
  · have := cut_any9 (bt (Lib.cut l [46]).2.1) 46 W (by rw [bt_size]; omega) (h.below hW)
    rw [bt_list] at this
    exact this
theorem rdQ_text {q : Clu} (h : okc9 q = true) : rdQ (clL q) = q := by
  obtain ⟨⟨a0, a1⟩, ⟨b0, b1⟩, ⟨c0, c1⟩⟩ := okc9_bds h
  unfold rdQ
  rw [cut_cl]
  simp only
  rw [cut_cl2]
  simp only
  rw [rdA_dL a0 (by omega), rdA_dL b0 (by omega), rdA_dL c0 (by omega)]
theorem splitK_bd (b : UInt8) : ∀ (k : Nat) (l : List UInt8), (∀ x ∈ Lib.splitK [b] 0 k l, x.length ≤ l.length) ∧ (Lib.splitK [b] 0 k l).length ≤ k + 1
  | 0, l => by
    unfold Lib.splitK
    exact ⟨fun x hx => by simp at hx; subst hx; exact Nat.le_refl _, by simp⟩
  | k + 1, l => by
    unfold Lib.splitK
    split
    · exact ⟨fun x hx => by simp at hx; subst hx; exact Nat.le_refl _, by simp⟩
    · have ih := splitK_bd b k (l.drop ((Lib.index l [b]).toNat + [b].length))
      refine ⟨fun x hx => ?_, by rw [List.length_cons]; have := ih.2; omega⟩
      rcases List.mem_cons.1 hx with rfl | hx
      · simp
        exact Nat.min_le_right _ _
      · refine Nat.le_trans (ih.1 x hx) ?_
        simp
/-- The parts that SplitN hands back. -/
def ptL (l : List UInt8) : List (List UInt8) := Lib.splitK [44] 0 (min 7 (l.length + 1) - 1) l
theorem ptL_bd (l : List UInt8) : (∀ x ∈ ptL l, x.length ≤ l.length) ∧ (ptL l).length ≤ 7 := by
  have h := splitK_bd 44 (min 7 (l.length + 1) - 1) l
  refine ⟨h.1, ?_⟩
  have h2 := h.2
  unfold ptL
  omega
theorem splitN_any9 (s : ByteArray) (w : World) (hs : s.size ≤ 1048576) (h : Lib9 w) :
    Calls Tryd.prog 23 #[.string s, .string ⟨#[44]⟩, .int .i64 7] w fun e w' => ∃ g c, e = .returned (.slice (some ⟨g, 0, none⟩) (ptL s.data.toList).length c) ∧ g < w'.heap.size ∧ (∀ j x, ((ptL s.data.toList).map bt)[j]? = some x → w'.cell? ⟨g, j, none⟩ = some (.string x)) ∧ Below w.heap.size w w' := by
  obtain ⟨_, _, m, hm⟩ := h
  refine (Tryd.strings_SplitN s ⟨#[44]⟩ 7 m w (by omega) hm (by decide) (by decide) (by decide)).mono ?_
  rintro e w' ⟨rfl, rfl⟩
  have hsz : s.data.toList.length = s.size := by simp
  have hd : (Lib.splitB ⟨#[44]⟩ 0 (min 7 (s.size + 1) - 1) s).map (·.data.toList) = ptL s.data.toList := by
    rw [Lib.splitB_data]
    unfold ptL
    rw [hsz]
  have hl : (Lib.splitB ⟨#[44]⟩ 0 (min 7 (s.size + 1) - 1) s).length = (ptL s.data.toList).length := by rw [← hd, List.length_map]
  refine ⟨w.heap.size, _, by rw [hl], by simp, fun j x hx => ?_, (Below.refl _ _).alloc (Nat.le_refl _) _⟩
  rw [World.cell?_alloc_at _ _ _ _ (by simp)]
  rw [← hd, List.map_map, List.getElem?_map] at hx
  obtain ⟨y, hy, rfl⟩ := Option.map_eq_some_iff.1 hx
  obtain ⟨hj, _⟩ := List.getElem?_eq_some_iff.1 hy
  unfold Lib.cellsOf
  rw [List.getElem?_toArray, List.getElem?_append_left (by simpa using hj), List.getElem?_map, hy]
  rfl
/-- The clues that the program reads off a text. -/
noncomputable def rdL (l : List UInt8) : List Clu := if l = [] then [] else (ptL l).map rdQ
theorem rdL_len (l : List UInt8) : (rdL l).length ≤ 7 := by
  unfold rdL
  split
  · simp
  · rw [List.length_map]; exact (ptL_bd l).2
theorem rdL_text {cs : List Clu} (h : cs.all okc9 = true) (h6 : cs.length ≤ 6) : rdL (joinP 44 (cs.map clL)) = cs := by
  cases cs with
  | nil => rfl
  | cons q cs =>
    unfold rdL
    rw [if_neg (show ¬ joinP 44 ((q :: cs).map clL) = [] from joinP_ne 44 _ _ (clL_ne q))]
    have hp : ptL (joinP 44 ((q :: cs).map clL)) = (q :: cs).map clL := splitN_cs (q :: cs) (by simp) h6
    rw [hp, List.map_map]
    have : ∀ l : List Clu, l.all okc9 = true → l.map (rdQ ∘ clL) = l := by
      intro l
      induction l with
      | nil => intro _; rfl
      | cons p l ih =>
        intro hl
        rw [List.all_cons, Bool.and_eq_true] at hl
        rw [List.map_cons, ih hl.2]
        show rdQ (clL p) :: l = _
        rw [rdQ_text hl.1]
    exact this _ h
theorem readClues_nil (w : World) : Calls Tryd.prog 14 #[.string ⟨#[]⟩] w fun e w' => e = .returned (.slice none 0 0) ∧ Below w.heap.size w w' := by
  go_enter Tryd.func14, Tryd.ntmps14
  go_wp2
  go_ret
  exact ⟨rfl, Below.refl _ _⟩
theorem rdL_any (l : List UInt8) (w : World) (hl : l.length ≤ 1048576) (h : Lib9 w) :
    Calls Tryd.prog 14 #[.string (bt l)] w fun e w' => (∃ A c, e = .returned (.slice A (rdL l).length c) ∧ Own w' w.heap.size w'.heap.size A (c64 (rdL l))) ∧ Below w.heap.size w w' := by
  by_cases hn : l = []
  · subst hn
    refine (readClues_nil w).mono ?_
    rintro e w' ⟨rfl, hb⟩
    exact ⟨⟨none, 0, rfl, Own.none_⟩, hb⟩
  · have hr : rdL l = (ptL l).map rdQ := by unfold rdL; rw [if_neg hn]
    have hbd := ptL_bd l
    rw [hr]
    have hne : ¬ bt l = ⟨#[]⟩ := fun e => hn (by have := congrArg (fun x : ByteArray => x.data.toList) e; rw [bt_list] at this; exact this)
    rw [List.length_map]
    refine readClues_at (bt l) ((ptL l).map bt) ((ptL l).map rdQ) (ptL l).length w hne (by rw [List.length_map]) (by rw [List.length_map]) hbd.2 (fun W hW => ?_) (fun k hk W hW => ?_)
    · have := splitN_any9 (bt l) W (by rw [bt_size]; exact hl) (h.below hW)
      rw [bt_list] at this
      exact this
    · have e1 : ((ptL l).map bt).getD k ⟨#[]⟩ = bt ((ptL l)[k]) := by
        rw [List.getD_eq_getElem?_getD, List.getElem?_map, List.getElem?_eq_getElem hk]
        rfl
      have e2 : ((ptL l).map rdQ).getD k clu0 = rdQ ((ptL l)[k]) := by
        rw [List.getD_eq_getElem?_getD, List.getElem?_map, List.getElem?_eq_getElem hk]
        rfl
      rw [e1, e2]
      exact rdQ_any _ W (Nat.le_trans (hbd.1 _ (List.getElem_mem _)) hl) (h.below hW)
end Go.Proofs.YtljleceepghfjaaDoor
