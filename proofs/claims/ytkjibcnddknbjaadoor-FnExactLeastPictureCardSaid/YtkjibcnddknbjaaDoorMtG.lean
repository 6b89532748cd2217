/- The texts XDtZ XDtZa XDtZb XDtZc XDuX XDvB XDvO joined. -/
import Derived.Test.YtkjibcnddknbjaaDoorMtF
import Derived.BigRegion
import Derived.Laws.BytesArg
import Derived.Handed
import Derived.Shelf.Vars
/- Chapter 7: slices of texts that are alike. -/
namespace Go.Proofs.YtkjibcnddknbjaaDoor
open Go.ChangeShapes Go.WideShapes Go.ChangeAt Go.RowKit

end Go.Proofs.YtkjibcnddknbjaaDoor
/- Chapter 7: the law's marks as texts. -/
namespace Go.Proofs.YtkjibcnddknbjaaDoor
open Go.ChangeShapes Go.WideShapes Go.ChangeAt Go.RowKit

theorem conv_one7 (W : World) (b : Nat) (x : Int) (cap : Nat) (hc : W.cell? ⟨b, 0, none⟩ = some (.int .u8 x)) :
    (convert 49 9 (.slice (some ⟨b, 0, none⟩) 1 cap)).run Tryd.prog W = .ok (.string (bt [UInt8.ofNat x.toNat])) W := by
  have h := run_convert_bytes_arg (P := Tryd.prog) W 49 5 Tryd.underlying49 Tryd.underlying5 b 0 1 cap [x] rfl
    (fun i hi => by
      have : i = 0 := by omega
      subst this
      simpa using hc) 9 Tryd.underlying9
  rw [h]
  rfl
/-- A number's signs, ahead of others. -/
def sgs : Nat → Nat → List UInt8 → List UInt8
  | 0, _, l => l
  | f + 1, m, l => if m = 0 then l else sgs f (m / 10) (UInt8.ofNat (48 + m % 10) :: l)
theorem sgs_len (f : Nat) : ∀ m l, (sgs f m l).length ≤ f + l.length := by
  induction f with
  | zero => intro m l; simp [sgs]
  | succ f ih =>
    intro m l
    rw [sgs]
    split
    · omega
    · have := ih (m / 10) (UInt8.ofNat (48 + m % 10) :: l)
      rw [List.length_cons] at this
      omega
/-- The text of a mark. -/
def mkt (m : Nat) : List UInt8 := 109 :: sgs (m + 1) m []
end Go.Proofs.YtkjibcnddknbjaaDoor
/- Chapter 7: slices of texts marked and held. -/
namespace Go.Proofs.YtkjibcnddknbjaaDoor
open Go.ChangeShapes Go.WideShapes Go.ChangeAt Go.RowKit

/-- The texts of the marks m, m + 1, .., n of them. -/
def mks (m n : Nat) : List (List UInt8) := (List.range n).map fun j => mkt (m + j)
theorem mks_len (m n : Nat) : (mks m n).length = n := by simp [mks]
theorem mks_get (m n k : Nat) (h : k < n) : (strs (mks m n))[k]? = some (.string (bt (mkt (m + k)))) := by simp [strs, mks, h]
theorem mks_set (m : Nat) (cs : List Value) (k : Nat) (h : k < cs.length) : (strs (mks m k) ++ cs.drop k).set k (.string (bt (mkt (m + k)))) = strs (mks m (k + 1)) ++ cs.drop (k + 1) := by
  rw [List.set_append_right _ _ (by simp [strs_len, mks_len])]
  simp only [strs_len, mks_len, Nat.sub_self]
  rw [List.drop_eq_getElem_cons h, List.set_cons_zero]
  simp [strs, mks, List.range_succ]
end Go.Proofs.YtkjibcnddknbjaaDoor
/- Chapter 7: the frame of the law of PiecesOfPicture. -/
namespace Go.Proofs.YtkjibcnddknbjaaDoor
open Go.ChangeShapes Go.WideShapes Go.ChangeAt Go.RowKit

end Go.Proofs.YtkjibcnddknbjaaDoor
/- Chapter 7: the laws' frames over texts, where the program asks the library's variable. -/
namespace Go.Proofs.YtkjibcnddknbjaaDoor
open Go.ChangeShapes Go.WideShapes Go.ChangeAt Go.RowKit

theorem MaxL.upto {w0 w w' : World} {B : Nat} (h0 : MaxL w0) (h : MaxL w) (hb : Below B w w') (hB : w0.heap.size ≤ B) : MaxL w' := by
  obtain ⟨_, h0⟩ := h0
  obtain ⟨m, h⟩ := h
  exact ⟨m, (hb.cell (p := ⟨0, 0, none⟩) (Nat.lt_of_lt_of_le (World.block_lt_of_cell? _ _ h0) hB)).trans h⟩
theorem MaxL.drewN {w : World} (h : MaxL w) (n : Nat) : MaxL (w.drewN n) := h
set_option maxHeartbeats 800000 in
theorem lawP_LeastPicture_m (s : ByteArray) (t : ByteArray) (ok : Bool) (hz : s.size ≤ 1048576)
    (hs : ∀ w : World, Calls Tryd.prog 4 #[.string s] w fun e w' => e = .returned (.tuple #[.string t, .bool ok]) ∧ Below w.heap.size w w')
    (hi : ∀ w : World, MaxL w → Calls Tryd.prog 5 #[.string s] w fun e w' => e = .returned (.tuple #[.string t, .bool ok]) ∧ Below w.heap.size w w') (w : World) (hM : MaxL w) :
    Calls Tryd.prog 3 #[.string s] w fun e w' => e = .returned (.bool true) ∧ Below w.heap.size w w' := by
  have HS := Lib.hid hs
  have HI := Lib.hid hi
  clear hs hi
  go_enter Tryd.func3, Tryd.ntmps3
  go_wp2_with (first
    | (go_at_call 4; refine (HS.out _).mono ?_; rintro e w1 ⟨rfl, hb1⟩)
    | (go_at_call 5; refine (HI.out _ (hM.below hb1)).mono ?_; rintro e w2 ⟨rfl, hb2⟩))
  go_ret
  exact ⟨rfl, hb1.trans (hb2.mono hb1.size)⟩
end Go.Proofs.YtkjibcnddknbjaaDoor
/- Heads of the door's laws of chapter 7: the wrap that hands on what is laid and the world's shape together; the cell of MaxLen holds a number. -/
namespace Go.Proofs.YtkjibcnddknbjaaDoor
open Go.RowKit
variable {H : Type} {enc : TypeId × Value → H}

theorem handed_and_shaped {a : Assume} {C : Checked} {os : Os} {f : FuncId} {fn : Func} {s : ChangeSpec} {conds : List PathCond} {apart fresh handsOn again : Bool} {X : World → Array Value → Prop}
    (hX : ∀ (w w' : World) (args : Array Value), w.heap = w'.heap → X w args → X w' args)
    (own : ownKnob C.prog.godebug = none) (started : os.Started) (noInit : C.prog.inits.idxOf? f = none) (hfn : C.prog.funcs[f]? = some fn)
    (witness : ∃ (w : World) (tape : Tape) (i : Input), w.os = os ∧ (w.forCall tape i).Shaped C.prog ∧ i.vars = [] ∧ Input.okWide C.prog (w.forCall tape i) .any w.heap.size f i ∧
      ((s.pre enc C.prog fn conds apart (w.forCall tape i).memory i.args ∧ X (w.forCall tape i).memory i.args) ∧ sizedMet enc C.prog fn (OpenSpec.ofChange s) apart (w.forCall tape i).memory i.args) ∧ a.holds C.prog (lone (Frame.enter C.prog f i.args .normal) [] (w.forCall tape i)))
    (contract : ∀ (W : World) (base : Nat) (args : Array Value) (ds gs : List (DataW H)) (before : List MemPlace),
      (∀ (j : Nat) t v, fn.params[j]? = some t → args[j]? = some v → Value.okWide C.prog W .any base t v) →
      DataW.Whole enc C.prog fn.params.toList s.vars apart W args.toList ds gs before →
      conds.all (PathCond.test C.prog ⟨fn.params.toList, ds, s.plain.varTypes C.prog, gs⟩) = true →
      (DataW.weightsEach C.prog (fn.params.toList ++ s.plain.varTypes C.prog) (ds ++ gs)).all (· ≤ reachBytes) = true → X W args →
      W.ShapedOpen C.prog →
      a.holds C.prog (lone (Frame.enter C.prog f args .normal) [] W) →
      Calls C.prog f args W fun e W' => ∃ v, e = .returned v ∧ s.post enc C.prog fn apart fresh handsOn again W args v W') :
    ReturnsInHanded a C os f .any (fun w args => (s.pre enc C.prog fn conds apart w args ∧ X w args) ∧ sizedMet enc C.prog fn (OpenSpec.ofChange s) apart w args) (s.post enc C.prog fn apart fresh handsOn again) := by
  refine returnsInHanded_of_calls own started noInit witness ?_
  intro w tape i _ hsh _ hok hpre hholds
  obtain ⟨_, _, _, fn', hfn', _, _, _, _, hval⟩ := hok
  have e : fn' = fn := Option.some.inj (hfn'.symm.trans hfn)
  subst e
  obtain ⟨⟨⟨ds, gs, before, hw, hc⟩, hx⟩, hz⟩ := hpre
  have hw' := DataW.Whole.of_heap (w' := w.forCall tape i) (by rfl) hw
  refine (contract (w.forCall tape i) w.heap.size i.args ds gs before hval hw' hc (hz.weights hw) (hX _ _ _ (by rfl) hx) hsh hholds).mono fun e W' ⟨v, he, hp⟩ => ?_
  subst he
  exact ChangeSpec.post_blind hp
theorem maxL_of_shaped (W : World) (h : W.ShapedOpen Tryd.prog) : MaxL W :=
  Go.Proofs.cell_of_shapedOpen_int (zero := #[.int .i64 0]) (t := 3) h (of_decide_eq_true (by kernel_rfl)) (by kernel_rfl) rfl (by kernel_rfl) (by kernel_rfl) Tryd.underlying3
end Go.Proofs.YtkjibcnddknbjaaDoor
/- Chapter 7: the law of LeastPicture, whatever the text. -/
namespace Go.Proofs.YtkjibcnddknbjaaDoor
open Go.ChangeShapes Go.WideShapes Go.ChangeAt Go.RowKit Go.Maps

theorem pic_okp {l : List UInt8} (h : isPic l = true) : Okp (pcOf (pW l, pH l, pD l)) :=
  ⟨(pic_b h).w0, (pic_b h).w1, (pic_b h).h0, (pic_b h).h1, gS_bd _ _ _⟩
theorem least_same (l : List UInt8) (h : isPic l = true) : lOf l (pW l) (pH l) (pD l) 2 = bsp (txt (pcOf (pW l, pH l, pD l))) (pcOf (pW l, pH l, pD l)) 4 := by
  rw [← bst_bsp]
  have e1 : txt (pcOf (pW l, pH l, pD l)) = l := by rw [txt_pc]; exact pic_text h
  have e2 : mir (pcOf (pW l, pH l, pD l)) = pcOf (pW l, pH l, mD (pW l) (pD l)) := by simp only [mir, pcOf, mirror_set]
  rw [e1, e2]
  rfl
set_option maxRecDepth 8000 in
theorem impl_LeastPicture_no (s : ByteArray) (w : World) (hs : s.size ≤ 2000000) (hM : MaxL w) (hp : isPic s.data.toList = false) :
    Calls Tryd.prog 5 #[.string s] w fun e w' => e = .returned (.tuple #[.string ⟨#[]⟩, .bool false]) ∧ Below w.heap.size w w' := by
  have HR := Lib.hid (readPicture_no s w hs hM hp)
  clear hM hp
  go_enter Tryd.func5, Tryd.ntmps5
  go_wp2_with (go_at_call 10; refine (HR.out).mono ?_; rintro e w1 ⟨rfl, hb1⟩)
  go_ret2
  exact ⟨rfl, hb1.alloc hb1.size _⟩
set_option maxRecDepth 8000 in
theorem impl_LeastPicture_yes (s : ByteArray) (w : World) (hs : s.size ≤ 2000000) (hM : MaxL w) (hp : isPic s.data.toList = true) :
    Calls Tryd.prog 5 #[.string s] w fun e w' => e = .returned (.tuple #[.string (bt (lOf s.data.toList (pW s.data.toList) (pH s.data.toList) (pD s.data.toList) 2)), .bool true]) ∧ Below w.heap.size w w' := by
  have HR := Lib.hid (readPicture_yes s w hs hM hp)
  have HL := Lib.hid fun b w h => least_any (pcOf (pW s.data.toList, pH s.data.toList, pD s.data.toList)) b w h (pic_okp hp)
  rw [least_same _ hp]
  have HL2 := Lib.hid (show ∀ b V, Ds V b (gS (pW s.data.toList) (pH s.data.toList) (pD s.data.toList)) → Calls Tryd.prog 11 #[.agg #[.int .i64 (pW s.data.toList : Int), .int .i64 (pH s.data.toList : Int), .map (some b)]] V fun e w' => e = .returned (.string (bt (bsp (txt (pcOf (pW s.data.toList, pH s.data.toList, pD s.data.toList))) (pcOf (pW s.data.toList, pH s.data.toList, pD s.data.toList)) 4))) ∧ Below V.heap.size V w' from fun b V h => HL.out b V h)
  clear hM hp HL
  generalize bsp (txt (pcOf (pW s.data.toList, pH s.data.toList, pD s.data.toList))) (pcOf (pW s.data.toList, pH s.data.toList, pD s.data.toList)) 4 = t at *
  generalize gS (pW s.data.toList) (pH s.data.toList) (pD s.data.toList) = S at *
  generalize pW s.data.toList = W at *
  generalize pH s.data.toList = H at *
  go_enter Tryd.func5, Tryd.ntmps5
  go_wp2_with (first
    | (go_at_call 10; refine (HR.out).mono ?_; rintro e w1 ⟨⟨c, rfl, _, hd⟩, hb1⟩; have HD := Lib.hid (hd.alloc (.cells #[.int .i64 (W : Int), .int .i64 (H : Int), .map (some c)] 34)); have HB := Lib.hid (hb1.alloc hb1.size (.cells #[.int .i64 (W : Int), .int .i64 (H : Int), .map (some c)] 34)); clear hd hb1)
    | (go_at_call 11; refine (HL2.out c _ HD.out).mono ?_; rintro e w2 ⟨rfl, hb2⟩))
  go_ret2
  exact ⟨rfl, HB.out.trans (hb2.mono HB.out.size)⟩
theorem walk_LeastPicture (s : ByteArray) (w : World) (hM : MaxL w) :
    Calls Tryd.prog 3 #[.string s] w fun e w' => e = .returned (.bool true) ∧ Below w.heap.size w w' := by
  by_cases hz : s.size ≤ 1048576
  · have hs : s.size ≤ 2000000 := by omega
    cases hp : isPic s.data.toList with
    | true => exact lawP_LeastPicture_m s _ _ hz (fun w => spec_LeastPicture_yes s _ _ _ _ w (isP_of s hs hp) (pic_b hp).h1) (fun w hM => impl_LeastPicture_yes s w hs hM hp) w hM
    | false => exact lawP_LeastPicture_m s _ _ hz (fun w => spec_LeastPicture_no s w hs hp) (fun w hM => impl_LeastPicture_no s w hs hM hp) w hM
  · exact lawP_LeastPicture_big0 s (by omega) w
end Go.Proofs.YtkjibcnddknbjaaDoor
