/- The texts XDtL XDtR XDtS XDtT XDtU joined. -/
import Derived.Test.YtbcgidgjdedkiaaDoorMtE
import Derived.Deep.RegionHeld3
/- Chapter 7: the specification's pictures turned, mirrored, with other dots, their borders. -/
namespace Go.Proofs.YtbcgidgjdedkiaaDoor
open Go.ChangeShapes Go.WideShapes Go.ChangeAt Go.RowKit

theorem below_weak {j k : Nat} {a b : World} (h : Below k a b) (hj : j ≤ k) : Below j a b := ⟨h.os, h.tape, h.output, h.size, fun i hi => h.block i (by omega)⟩
/-- A text is the picture of W columns and H rows with the dots d. -/
structure IsP (s : ByteArray) (W H n : Nat) (d : Nat → Bool) : Prop where
  w0 : 1 ≤ W
  w1 : W ≤ 24
  h0 : 1 ≤ H
  h1 : H ≤ 24
  n : n = W * H
  rows : ∀ w : World, Calls Tryd.prog 45 #[.string s] w fun e w' => ∃ g c, e = .returned (.tuple #[.slice (some ⟨g, 0, none⟩) H c, .bool true]) ∧ H ≤ c ∧ RowsAt w' w.heap.size g H (gRows W H d) ∧ Below w.heap.size w w'
theorem isP_of (s : ByteArray) (hs : s.size ≤ 2000000) (h : isPic s.data.toList = true) : IsP s (pW s.data.toList) (pH s.data.toList) (pW s.data.toList * pH s.data.toList) (pD s.data.toList) := by
  have hb := pic_b h
  refine ⟨hb.w0, hb.w1, hb.h0, hb.h1, rfl, fun w => ?_⟩
  rw [pic_rows h]
  exact doRows_yes s w (by omega) h
theorem doMarks_n (g W H n c lo : Nat) (d : Nat → Bool) (w : World) (hn : n = W * H) (w0 : 1 ≤ W) (w1 : W ≤ 50) (h0 : 1 ≤ H) (h1 : H ≤ 50) (hnc : H ≤ c) (hr : RowsAt w lo g H (gRows W H d)) :
    Calls Tryd.prog 58 #[.slice (some ⟨g, 0, none⟩) H c] w fun e w' => ∃ g' c', e = .returned (.tuple #[.int .i64 (W : Int), .int .i64 (H : Int), .slice (some ⟨g', 0, none⟩) n c']) ∧ Marks w' w.heap.size g' n c' d ∧ Below w.heap.size w w' := by
  subst hn
  refine (doMarks_any g W H c lo d w w0 w1 h0 h1 hnc hr).mono ?_
  rintro e w' ⟨g', c', rfl, _, hm, hb⟩
  exact ⟨g', c', rfl, hm, hb⟩
theorem make_of {W H n c g lo : Nat} {d : Nat → Bool} {w : World} (hm : Marks w lo g n c d) (hn : n = W * H) (w0 : 1 ≤ W) (w1 : W ≤ 24) (h0 : 1 ≤ H) (h1 : H ≤ 24) :
    Calls Tryd.prog 59 #[.int .i64 (W : Int), .int .i64 (H : Int), .slice (some ⟨g, 0, none⟩) n c] w fun e w' => e = .returned (.string (bt (gText W H d))) ∧ Below w.heap.size w w' :=
  doMake_any W H n c g d w hn w0 (by omega) h0 (by omega) hm.lt.2 fun i hi => hm.cell hi
theorem text_of {W H c g lo : Nat} {d : Nat → Bool} {w : World} (hr : RowsAt w lo g H (gRows W H d)) (hc : H ≤ c) (w1 : W ≤ 24) (h0 : 1 ≤ H) (h1 : H ≤ 50) :
    Calls Tryd.prog 48 #[.slice (some ⟨g, 0, none⟩) H c] w fun e w' => e = .returned (.string (bt (gText W H d))) ∧ w = w' :=
  doText_any g 0 H c (gRows W H d) w (gRows_len W H d).symm h0 (by omega) hc (fun r hr => by obtain ⟨y, _, rfl⟩ := List.mem_map.1 hr; rw [gRow_len]; omega) (fun j hj => by rw [Nat.zero_add]; exact hr.cell j hj)
theorem spec_TurnPicture_no (s : ByteArray) (w : World) (hs : s.size ≤ 2000000) (h : isPic s.data.toList = false) :
    Calls Tryd.prog 21 #[.string s] w fun e w' => e = .returned (.tuple #[.string ⟨#[]⟩, .bool false]) ∧ Below w.heap.size w w' := by
  have HR := Lib.hid fun W => doRows_no s W (by omega) h
  clear h
  go_enter Tryd.func21, Tryd.ntmps21
  go_wp2_with (go_at_call 45; refine (HR.out _).mono ?_; rintro e w1 ⟨rfl, hb1⟩)
  go_ret2
  exact ⟨rfl, hb1⟩
theorem spec_MirrorPicture_no (s : ByteArray) (w : World) (hs : s.size ≤ 2000000) (h : isPic s.data.toList = false) :
    Calls Tryd.prog 23 #[.string s] w fun e w' => e = .returned (.tuple #[.string ⟨#[]⟩, .bool false]) ∧ Below w.heap.size w w' := by
  have HR := Lib.hid fun W => doRows_no s W (by omega) h
  clear h
  go_enter Tryd.func23, Tryd.ntmps23
  go_wp2_with (go_at_call 45; refine (HR.out _).mono ?_; rintro e w1 ⟨rfl, hb1⟩)
  go_ret2
  exact ⟨rfl, hb1⟩
theorem spec_OtherDots_no (s : ByteArray) (w : World) (hs : s.size ≤ 2000000) (h : isPic s.data.toList = false) :
    Calls Tryd.prog 29 #[.string s] w fun e w' => e = .returned (.tuple #[.string ⟨#[]⟩, .bool false]) ∧ Below w.heap.size w w' := by
  have HR := Lib.hid fun W => doRows_no s W (by omega) h
  clear h
  go_enter Tryd.func29, Tryd.ntmps29
  go_wp2_with (go_at_call 45; refine (HR.out _).mono ?_; rintro e w1 ⟨rfl, hb1⟩)
  go_ret2
  exact ⟨rfl, hb1⟩
theorem spec_BorderDots_no (s : ByteArray) (w : World) (hs : s.size ≤ 2000000) (h : isPic s.data.toList = false) :
    Calls Tryd.prog 36 #[.string s] w fun e w' => e = .returned (.tuple #[.string ⟨#[]⟩, .bool false]) ∧ Below w.heap.size w w' := by
  have HR := Lib.hid fun W => doRows_no s W (by omega) h
  clear h
  go_enter Tryd.func36, Tryd.ntmps36
  go_wp2_with (go_at_call 45; refine (HR.out _).mono ?_; rintro e w1 ⟨rfl, hb1⟩)
  go_ret2
  exact ⟨rfl, hb1⟩
theorem spec_TakeBorder_no (s : ByteArray) (w : World) (hs : s.size ≤ 2000000) (h : isPic s.data.toList = false) :
    Calls Tryd.prog 38 #[.string s] w fun e w' => e = .returned (.tuple #[.string ⟨#[]⟩, .bool false]) ∧ Below w.heap.size w w' := by
  have HR := Lib.hid fun W => doRows_no s W (by omega) h
  clear h
  go_enter Tryd.func38, Tryd.ntmps38
  go_wp2_with (go_at_call 45; refine (HR.out _).mono ?_; rintro e w1 ⟨rfl, hb1⟩)
  go_ret2
  exact ⟨rfl, hb1⟩
theorem spec_PiecesOfPicture_no (s : ByteArray) (w : World) (hs : s.size ≤ 2000000) (h : isPic s.data.toList = false) :
    Calls Tryd.prog 31 #[.string s] w fun e w' => e = .returned (.tuple #[.slice none 0 0, .bool false]) ∧ Below w.heap.size w w' := by
  have HR := Lib.hid fun W => doRows_no s W (by omega) h
  clear h
  go_enter Tryd.func31, Tryd.ntmps31
  go_wp2_with (go_at_call 45; refine (HR.out _).mono ?_; rintro e w1 ⟨rfl, hb1⟩)
  go_ret2
  exact ⟨rfl, hb1⟩
theorem spec_LayersOfPicture_no (s : ByteArray) (w : World) (hs : s.size ≤ 2000000) (h : isPic s.data.toList = false) :
    Calls Tryd.prog 40 #[.string s] w fun e w' => e = .returned (.tuple #[.slice none 0 0, .bool false]) ∧ Below w.heap.size w w' := by
  have HR := Lib.hid fun W => doRows_no s W (by omega) h
  clear h
  go_enter Tryd.func40, Tryd.ntmps40
  go_wp2_with (go_at_call 45; refine (HR.out _).mono ?_; rintro e w1 ⟨rfl, hb1⟩)
  go_ret2
  exact ⟨rfl, hb1⟩
theorem spec_TurnPicture_yes (s : ByteArray) (W H n : Nat) (d : Nat → Bool) (w : World) (hp : IsP s W H n d) :
    Calls Tryd.prog 21 #[.string s] w fun e w' => e = .returned (.tuple #[.string (bt (gText H W (tD W H d))), .bool true]) ∧ Below w.heap.size w w' := by
  obtain ⟨w0, w1, h0, h1, hn, HR⟩ := hp
  have HT := Lib.hid fun g c lo w' (a : H ≤ c) (b : RowsAt w' lo g H (gRows W H d)) => doTurn_any g W H c lo d w' w0 (by omega) h0 (by omega) a b
  have HX := Lib.hid fun g c lo w' (a : W ≤ c) (b : RowsAt w' lo g W (gRows H W (tD W H d))) => text_of b a (by omega) w0 (by omega)
  have HRR := Lib.hid HR
  clear HR
  generalize gText H W (tD W H d) = t at *
  generalize gRows H W (tD W H d) = R2 at *
  generalize gRows W H d = R at *
  go_enter Tryd.func21, Tryd.ntmps21
  go_wp2_with (first
    | (go_at_call 45; refine (HRR.out _).mono ?_; rintro e w1 ⟨g, c, rfl, hc, hr, hb1⟩)
    | (go_at_call 49; refine (HT.out g c _ _ hc hr).mono ?_; rintro e w2 ⟨g2, c2, rfl, hc2, hr2, hb2⟩)
    | (go_at_call 48; refine (HX.out g2 c2 _ _ hc2 hr2).mono ?_; rintro e w3 ⟨rfl, rfl⟩))
  go_ret2
  exact ⟨rfl, hb1.trans (below_weak hb2 hb1.size)⟩
theorem rows_rev (W H : Nat) (d : Nat → Bool) (j : Nat) : ((gRows W H d).getD j []).length ≤ 100 ∨ 100 < W := by
  by_cases h : j < H
  · rw [gRows_at W H d j h, gRow_len]
    omega
  · left
    rw [List.getD, List.getElem?_eq_none (by rw [gRows_len]; omega)]
    simp
theorem spec_MirrorPicture_yes (s : ByteArray) (W H n : Nat) (d : Nat → Bool) (w : World) (hp : IsP s W H n d) :
    Calls Tryd.prog 23 #[.string s] w fun e w' => e = .returned (.tuple #[.string (bt (gText W H (mD W d))), .bool true]) ∧ Below w.heap.size w w' := by
  obtain ⟨w0, w1, h0, h1, hn, HR⟩ := hp
  have HT := Lib.hid fun g c lo w' (a : H ≤ c) (b : RowsAt w' lo g H (gRows W H d)) => doMirror_any g H c (gRows W H d) w' lo b h0 (by omega) a (fun j => (rows_rev W H d j).resolve_right (by omega))
  rw [rows_mirror] at HT
  have HX := Lib.hid fun g c lo w' (a : H ≤ c) (b : RowsAt w' lo g H (gRows W H (mD W d))) => text_of b a (by omega) h0 (by omega)
  have HRR := Lib.hid HR
  clear HR
  generalize gText W H (mD W d) = t at *
  generalize gRows W H (mD W d) = R2 at *
  generalize gRows W H d = R at *
  go_enter Tryd.func23, Tryd.ntmps23
  go_wp2_with (first
    | (go_at_call 45; refine (HRR.out _).mono ?_; rintro e w1 ⟨g, c, rfl, hc, hr, hb1⟩)
    | (go_at_call 52; refine (HT.out g c _ _ hc hr).mono ?_; rintro e w2 ⟨g2, c2, rfl, hc2, hr2, hb2⟩)
    | (go_at_call 48; refine (HX.out g2 c2 _ _ hc2 hr2).mono ?_; rintro e w3 ⟨rfl, rfl⟩))
  go_ret2
  exact ⟨rfl, hb1.trans (below_weak hb2 hb1.size)⟩
theorem spec_BorderDots_yes (s : ByteArray) (W H n : Nat) (d : Nat → Bool) (w : World) (hp : IsP s W H n d) :
    Calls Tryd.prog 36 #[.string s] w fun e w' => e = .returned (.tuple #[.string (bt (gText W H (brd W H d))), .bool true]) ∧ Below w.heap.size w w' := by
  obtain ⟨w0, w1, h0, h1, hn, HR⟩ := hp
  have HMK := Lib.hid fun g c lo w' d' (b : Marks w' lo g n c d') => make_of b hn w0 w1 h0 h1
  have HRR := Lib.hid HR
  have HMM := Lib.hid fun g c lo w' (a : H ≤ c) (b : RowsAt w' lo g H (gRows W H d)) => doMarks_n g W H n c lo d w' hn w0 (by omega) h0 (by omega) a b
  generalize gRows W H d = R at *
  have HBO := Lib.hid fun g c lo w' (b : Marks w' lo g n c d) => doBorder_any g W H n c lo d w' hn w0 (by omega) h0 (by omega) b
  clear HR hn
  generalize brd W H d = b at *
  go_enter Tryd.func36, Tryd.ntmps36
  go_wp2_with (first
    | (go_at_call 45; refine (HRR.out _).mono ?_; rintro e w1 ⟨g, c, rfl, hc, hr, hb1⟩)
    | (go_at_call 58; refine (HMM.out g c _ _ hc hr).mono ?_; rintro e w2 ⟨g2, c2, rfl, hm, hb2⟩)
    | (go_at_call 68; refine (HBO.out g2 c2 _ _ hm).mono ?_; rintro e w3 ⟨g3, c3, rfl, hm3, hb3⟩)
    | (go_at_call 59; refine (HMK.out g3 c3 _ _ _ hm3).mono ?_; rintro e w4 ⟨rfl, hb4⟩))
  go_ret2
  refine ⟨rfl, hb1.trans (below_weak (hb2.trans (below_weak (hb3.trans (below_weak hb4 hb3.size)) hb2.size)) hb1.size)⟩
theorem spec_TakeBorder_yes (s : ByteArray) (W H n : Nat) (d : Nat → Bool) (w : World) (hp : IsP s W H n d) :
    Calls Tryd.prog 38 #[.string s] w fun e w' => e = .returned (.tuple #[.string (bt (gText W H (tkn W H d))), .bool true]) ∧ Below w.heap.size w w' := by
  obtain ⟨w0, w1, h0, h1, hn, HR⟩ := hp
  have HMK := Lib.hid fun g c lo w' d' (b : Marks w' lo g n c d') => make_of b hn w0 w1 h0 h1
  have HRR := Lib.hid HR
  have HMM := Lib.hid fun g c lo w' (a : H ≤ c) (b : RowsAt w' lo g H (gRows W H d)) => doMarks_n g W H n c lo d w' hn w0 (by omega) h0 (by omega) a b
  generalize gRows W H d = R at *
  have HBO := Lib.hid fun g c lo w' (b : Marks w' lo g n c d) => doTake_any g W H n c lo d w' hn w0 (by omega) h0 (by omega) b
  clear HR hn
  generalize tkn W H d = b at *
  go_enter Tryd.func38, Tryd.ntmps38
  go_wp2_with (first
    | (go_at_call 45; refine (HRR.out _).mono ?_; rintro e w1 ⟨g, c, rfl, hc, hr, hb1⟩)
    | (go_at_call 58; refine (HMM.out g c _ _ hc hr).mono ?_; rintro e w2 ⟨g2, c2, rfl, hm, hb2⟩)
    | (go_at_call 70; refine (HBO.out g2 c2 _ _ hm).mono ?_; rintro e w3 ⟨rfl, hm3, hb3, hz3, _⟩)
    | (go_at_call 59; refine (HMK.out g2 c2 _ _ _ hm3).mono ?_; rintro e w4 ⟨rfl, hb4⟩))
  go_ret2
  refine ⟨rfl, hb1.trans (below_weak (hb2.trans (below_weak (hb3.trans (below_weak hb4 (Nat.le_trans hb2.size hz3))) (Nat.le_refl _))) hb1.size)⟩
/-- The other dots among the first a places. -/
def pod (d : Nat → Bool) (a : Nat) (i : Nat) : Bool := if i < a then !d i else d i
theorem pod_zero (d : Nat → Bool) (i : Nat) : d i = pod d 0 i := by simp [pod]
theorem pod_at (d : Nat → Bool) (a : Nat) : pod d a a = d a := by simp [pod]
theorem pod_succ (d : Nat → Bool) (a i : Nat) : updB (pod d a) a (!d a) i = pod d (a + 1) i := by
  unfold updB pod
  by_cases e : i = a
  · subst e
    rw [if_pos rfl, if_pos (by omega)]
  · rw [if_neg e]
    have : (i < a) ↔ (i < a + 1) := by omega
    simp only [this]
theorem pod_all (d : Nat → Bool) (n i : Nat) (h : i < n) : pod d n i = oD d i := by simp [pod, oD, h]
set_option maxHeartbeats 1600000 in
theorem spec_OtherDots_yes (s : ByteArray) (W H n : Nat) (d : Nat → Bool) (w : World) (hp : IsP s W H n d) :
    Calls Tryd.prog 29 #[.string s] w fun e w' => e = .returned (.tuple #[.string (bt (gText W H (oD d))), .bool true]) ∧ Below w.heap.size w w' := by
  obtain ⟨w0, w1, h0, h1, hn, HR⟩ := hp
  have HMK := Lib.hid fun g c lo w' d' (b : Marks w' lo g n c d') => make_of b hn w0 w1 h0 h1
  have HRR := Lib.hid HR
  have HMM := Lib.hid fun g c lo w' (a : H ≤ c) (b : RowsAt w' lo g H (gRows W H d)) => doMarks_n g W H n c lo d w' hn w0 (by omega) h0 (by omega) a b
  generalize gRows W H d = R at *
  have HP0 := Lib.hid fun i => pod_zero d i
  have HPS := Lib.hid fun a i => pod_succ d a i
  have HPT := Lib.hid fun a => pod_at d a
  have HPA := Lib.hid fun i => pod_all d n i
  have hn2 : n ≤ 2500 := by
    rw [hn]
    exact Nat.mul_le_mul (n₁ := W) (n₂ := 50) (m₁ := H) (m₂ := 50) (by omega) (by omega)
  clear HR hn
  generalize oD d = b at *
  generalize pod d = p at *
  go_enter Tryd.func29, Tryd.ntmps29
  go_wp2_with (first
    | (go_at_call 45; refine (HRR.out _).mono ?_; rintro e w1 ⟨g, c, rfl, hc, hr, hb1⟩)
    | (go_at_call 58; refine (HMM.out g c _ _ hc hr).mono ?_; rintro e w2 ⟨g2, c2, rfl, hm, hb2⟩))
  have HM1 : Hid (Marks w2 w1.heap.size g2 n c2 (p 0)) := Lib.hid (hm.congr fun m _ => HP0.out m)
  have HB1 := Lib.hid hb1
  have HB2 := Lib.hid hb2
  clear hm hb1 hb2 hr HP0
  go_loopw [26] (fun i wr => ∃ a : Nat, a ≤ n ∧ i = .int .i64 (a : Int) ∧ Hid (Marks wr w1.heap.size g2 n c2 (p a)) ∧ Hid (Below w1.heap.size w1 wr)) (fun i _ => n - (intOf i).toNat)
  case atStart => exact ⟨0, by omega, by simp, HM1, HB2⟩
  case round =>
    obtain ⟨a, ha, rfl, hm, hb⟩ := hrel
    clear HM1 HB2
    by_cases hlt : a < n
    · have hlt2 : (a : Int) < (n : Int) := by omega
      have ha0 : (0 : Int) ≤ (a : Int) := by omega
      have cd := hm.out.cell hlt
      rw [HPT.out] at cd
      have fd := hm.out.frozen a
      have HM2 : Hid (Marks (wr.setCell ⟨g2, a, none⟩ (.bool (!d a))) w1.heap.size g2 n c2 (p (a + 1))) := Lib.hid ((hm.out.set a (!d a)).congr fun m _ => HPS.out a m)
      have HB2 : Hid (Below w1.heap.size w1 (wr.setCell ⟨g2, a, none⟩ (.bool (!d a)))) := Lib.hid (hb.out.setCell (p := ⟨g2, a, none⟩) hm.out.lt.1 _)
      clear hm hb
      go_wp2
      go_roundw
      case rel => exact ⟨a + 1, by omega, by go_num, HM2, HB2⟩
      case measure => simp [intOf]; omega
    · obtain rfl : a = n := by omega
      have HF : Hid (Marks wr w1.heap.size g2 a c2 b) := Lib.hid (hm.out.congr fun m hm => HPA.out m hm)
      have HK := Lib.hid (HMK.out g2 c2 _ _ _ HF.out)
      clear hm
      go_wp2_with (go_at_call 59; refine HK.out.mono ?_; rintro e w4 ⟨rfl, hb4⟩)
      go_ret2
      exact ⟨rfl, HB1.out.trans (below_weak (hb.out.trans (below_weak hb4 hb.out.size)) HB1.out.size)⟩
end Go.Proofs.YtbcgidgjdedkiaaDoor
/- Chapter 7: the specification's layers. -/
namespace Go.Proofs.YtbcgidgjdedkiaaDoor
open Go.ChangeShapes Go.WideShapes Go.ChangeAt Go.RowKit

theorem lys_end (W H f : Nat) (d : Nat → Bool) (h : cnt (brd W H d) (W * H) = 0) : lys W H f d = [] := by
  cases f with
  | zero => rfl
  | succ f => simp [lys, h]
theorem lys_more (W H f : Nat) (d : Nat → Bool) (h : ¬ cnt (brd W H d) (W * H) = 0) : lys W H (f + 1) d = (cnt (brd W H d) (W * H) : Int) :: lys W H f (tkn W H d) := by
  simp [lys, h]
/-- How long a slice is. -/
def lenV : Value → Nat
  | .slice _ n _ => n
  | _ => 0
theorem lenV_slice (A : Option Addr) (n c : Nat) : lenV (.slice A n c) = n := rfl
theorem resI_of {w w' : World} {v : Value} {xs : List Int} {base : Nat} (h : w'.ownsRow base 3 1 v xs.length (i64s xs)) (hB : w.heap.size ≤ base) (hb : Below w.heap.size w w') : ResI true xs w (.returned (.tuple #[v, .bool true])) w' := by
  obtain ⟨A, c, rfl⟩ := row_form h
  exact ⟨A, c, rfl, (own_of_row h).wide hB (Nat.le_refl _), hb⟩
theorem app_num {ops : Array Oper} {rest : List Oper} {o : Oper} {a : Act} {Q : Exit → Act → World → Prop} (base : Nat) (w : World) (hgd : o.guard = none) (s x : Operand)
    (ho : o.op = .call { callee := .builtin .append, args := #[s, x], argTypes := #[36, 36] }) (v : Value) (xs : List Int) (hs : a.eval s = v) (hG : w.ownsRow base 3 1 v xs.length (i64s xs)) (hB : base ≤ w.heap.size) (z : Int)
    (hx : a.eval x = .slice (some ⟨w.heap.size, 0, none⟩) 1 1) (hl : xs.length ≤ 100000)
    (h : ∀ v' w', w'.ownsRow base 3 1 v' (xs ++ [z]).length (i64s (xs ++ [z])) → w.grownBy w' v.ownBlock → wpList Tryd.prog ops Q rest (a.put o.dst v') w') : wpList Tryd.prog ops Q (o :: rest) a (w.alloc (.cells #[.int .i64 z] 3)) := by
  obtain ⟨i0, hi0, hz0, hz1, hz2⟩ := info_parts infoInt7
  refine wpList_append_own _ hgd s x 36 ho base 3 i0 (.int .i64 0) 1 8 Tryd.underlying36 hi0 hz0 hz1 hz2 rfl (by decide) v _ _ hs (hG.alloc _) ⟨w.heap.size, 0, none⟩ 1 1 [.int .i64 z] hx rfl ?c1 ?c2 ?c3 ?c4 ?c5 ?_
  case c1 =>
    intro j u hj
    match j, hj with
    | 0, hj => simp at hj; subst hj; simp [Addr.add]
  case c2 => intro u hu; simp at hu; subst hu; rfl
  case c3 => unfold maxLen; omega
  case c4 => omega
  case c5 => simp; omega
  · intro v' w4 hown' hgrow _
    refine h v' w4 ?_ (grownBy_trans (World.grownBy_alloc w _ _) hgrow)
    rw [List.length_append]
    rw [show i64s (xs ++ [z]) = i64s xs ++ [.int .i64 z] by simp [i64s]]
    exact hown'
theorem Marks.kept {w w' : World} {base g n c : Nat} {d : Nat → Bool} {row : Option Nat} (h : Marks w base g n c d) (hg : w.grownBy w' row) (hne : row ≠ some g) : Marks w' base g n c d :=
  World.ownsRow.kept h hg (.inr fun e => hne (by rw [← e]; rfl))
set_option maxRecDepth 4000 in
set_option maxHeartbeats 1600000 in
theorem spec_LayersOfPicture_yes (s : ByteArray) (W H n : Nat) (d : Nat → Bool) (w : World) (hp : IsP s W H n d) :
    Calls Tryd.prog 40 #[.string s] w (ResI true (lys W H (n + 1) d) w) := by
  obtain ⟨w0, w1, h0, h1, hn, HR⟩ := hp
  have HRR := Lib.hid HR
  have HMM := Lib.hid fun g c lo w' (a : H ≤ c) (b : RowsAt w' lo g H (gRows W H d)) => doMarks_n g W H n c lo d w' hn w0 (by omega) h0 (by omega) a b
  have HBO := Lib.hid fun g c lo w' d (b : Marks w' lo g n c d) => doTake_any g W H n c lo d w' hn w0 (by omega) h0 (by omega) b
  have hn2 : n ≤ 2500 := by
    rw [hn]
    exact Nat.mul_le_mul (n₁ := W) (n₂ := 50) (m₁ := H) (m₂ := 50) (by omega) (by omega)
  have HLE := Lib.hid fun f d (h : cnt (brd W H d) n = 0) => lys_end W H f d (by rw [← hn]; exact h)
  have HLM : Hid (∀ f d, ¬ cnt (brd W H d) n = 0 → lys W H (f + 1) d = (cnt (brd W H d) n : Int) :: lys W H f (tkn W H d)) := Lib.hid fun f d h => by
    have := lys_more W H f d (by rw [← hn]; exact h)
    rw [this, ← hn]
  have HCT := Lib.hid fun d => cnt_tkn W H d n
  have HCN := Lib.hid fun d => cnt_le d n
  obtain ⟨L, hL⟩ : ∃ L, L = lys W H (n + 1) d := ⟨_, rfl⟩
  rw [← hL]
  have HL := Lib.hid hL
  clear HR hn hL
  generalize gRows W H d = R at *
  go_enter Tryd.func40, Tryd.ntmps40
  go_wp2_with (first
    | (go_at_call 45; refine (HRR.out _).mono ?_; rintro e w1 ⟨g, c, rfl, hc, hr, hb1⟩)
    | (go_at_call 58; refine (HMM.out g c _ _ hc hr).mono ?_; rintro e w2 ⟨g2, c2, rfl, hm, hb2⟩))
  have HG : Hid (w2.ownsRow w2.heap.size 3 1 (.slice none 0 0) ([] : List Int).length (i64s [])) := Lib.hid (World.ownsRow_nil _ _ _ _)
  have HM := Lib.hid hm
  have HB : Hid (Below w.heap.size w w2) := Lib.hid (hb1.trans (below_weak hb2 hb1.size))
  have HZ : Hid (w.heap.size ≤ w1.heap.size ∧ w1.heap.size ≤ g2 ∧ g2 < w2.heap.size) := Lib.hid ⟨hb1.size, hm.lt.1, hm.lt.2⟩
  have HS0 : Hid (w2.heap.size ≤ w2.heap.size) := Lib.hid (Nat.le_refl _)
  clear hm hb1 hb2 hr
  generalize w1.heap.size = B at *
  generalize hB2 : w2.heap.size = C at *
  have HB2 := Lib.hid hB2
  clear hB2
  go_loopw [9] (fun v wr => ∃ (xs : List Int) (f : Nat) (e : Nat → Bool), L = xs ++ lys W H f e ∧ xs.length + f = n + 1 ∧ cnt e n < f ∧ Hid (Marks wr B g2 n c2 e) ∧ Hid (wr.ownsRow C 3 1 v xs.length (i64s xs)) ∧ Hid (Below w.heap.size w wr) ∧ Hid (C ≤ wr.heap.size)) (fun v _ => n + 1 - lenV v)
  case atStart => exact ⟨[], n + 1, d, by rw [HL.out]; rfl, by simp, by have := HCN.out d; omega, HM, HG, HB, Lib.hid (by rw [HB2.out]; exact Nat.le_refl _)⟩
  case round =>
    obtain ⟨xs, f, e, hL, hlen, hcf, hm, hG, hb, hS⟩ := hrel
    clear HM HG HB HS0
    have hT := Lib.hid (HBO.out g2 c2 B wr e hm.out)
    have HQL := Lib.hid fun h => HLE.out f e h
    have HCE := Lib.hid (HCT.out e)
    obtain ⟨f, rfl⟩ : ∃ f', f = f' + 1 := ⟨f - 1, by omega⟩
    have HQM := Lib.hid fun h => HLM.out f e h
    have hq2 := HCN.out (brd W H e)
    have HL2 := Lib.hid hL
    have hxl : xs.length ≤ 100000 := by omega
    generalize cnt (brd W H e) n = q at *
    generalize tkn W H e = e2 at *
    obtain ⟨A, cc, rfl⟩ := row_form hG.out
    clear hL hm
    by_cases hq0 : q = 0
    · have hqi : (q : Int) = 0 := by omega
      have HF : Hid (L = xs) := Lib.hid (by rw [HL2.out, HQL.out hq0, List.append_nil])
      rw [hqi] at hT
      clear HQL HQM
      go_wp2_with (go_at_call 70; refine hT.out.mono ?_; rintro e w3 ⟨rfl, hm3, hb3, hz3, hg3⟩)
      go_ret2
      rw [HF.out]
      exact resI_of (hG.out.kept hg3 (.inr fun e => by have h1 := hG.out.lt _ e; have := HZ.out; omega)) (by have := HZ.out; omega) (hb.out.trans (below_weak hb3 HZ.out.1))
    · have hqi : ¬ (q : Int) = 0 := by omega
      have HF : Hid (L = (xs ++ [(q : Int)]) ++ lys W H f e2) := Lib.hid (by rw [HL2.out, HQM.out hq0]; simp)
      have HCQ : Hid (cnt e2 n < f) := Lib.hid (by have := HCE.out; omega)
      clear HQL HQM
      go_wp2_with (first
        | (go_at_call 70; refine hT.out.mono ?_; rintro e w3 ⟨rfl, hm3, hb3, hz3, hg3⟩)
        | (at_builtin; refine app_num C _ rfl _ _ rfl _ _ rfl (hG.out.kept hg3 (.inr fun e => by have h1 := hG.out.lt _ e; have := HZ.out; omega)) (Nat.le_trans hS.out hz3) _ rfl hxl ?_; intro v' w4 hG4 hg4))
      have HX : Hid (∀ k, Value.ownBlock (.slice A xs.length cc) = some k → C ≤ k) := Lib.hid fun k hk => (hG.out.lt k hk).1
      have HM4 : Hid (Marks w4 B g2 n c2 e2) := Lib.hid (hm3.kept hg4 fun e => by have := HX.out _ e; have := HZ.out; omega)
      have HB4 : Hid (Below w.heap.size w w4) := Lib.hid ((hb.out.trans (below_weak hb3 HZ.out.1)).grown hg4 (by have := HZ.out; have := hS.out; omega) fun k hk => by have := HX.out k hk; have := HZ.out; omega)
      have HS4 : Hid (C ≤ w4.heap.size) := Lib.hid (Nat.le_trans (Nat.le_trans hS.out hz3) hg4.size)
      have HG4 := Lib.hid hG4
      obtain ⟨A', cc', rfl⟩ := row_form hG4
      clear hm3 hb3 hz3 hg3 hg4 hG4 hG hS hb HX hT
      go_wp2
      go_roundw
      case rel => exact ⟨xs ++ [(q : Int)], f, e2, HF.out, by simp; omega, HCQ.out, HM4, HG4, HB4, HS4⟩
      case measure =>
        simp [lenV]
        omega
end Go.Proofs.YtbcgidgjdedkiaaDoor
/- Chapter 7: the specification's pictures of shapes. -/
namespace Go.Proofs.YtbcgidgjdedkiaaDoor
open Go.ChangeShapes Go.WideShapes Go.ChangeAt Go.RowKit

/-- How far from 0. -/
def far0 (a : Int) : Int := max a (-a)
theorem far0_bds (a : Int) (h0 : -1000 ≤ a) (h1 : a ≤ 1000) : 0 ≤ far0 a ∧ far0 a ≤ 1000 := by unfold far0; omega
/-- Whether a place of a shape has a dot, by its kind. -/
def shp (kind : Nat) (k : Nat) (x y : Int) : Bool :=
  if kind = 116 then decide (x ≤ y)
  else if kind = 103 then decide (x = (k : Int) - 1) || decide (y = (k : Int) - 1)
  else if kind = 100 then decide (far0 (x - (k : Int) / 2) + far0 (y - (k : Int) / 2) ≤ (k : Int) / 2)
  else if kind = 104 then decide (far0 (x - (k : Int) / 2 + y - (k : Int) / 2) ≤ (k : Int) / 2)
  else true
def shD (kind k i : Nat) : Bool := shp kind k ((i % k : Nat) : Int) ((i / k : Nat) : Int)
theorem shD_at (kind k x y : Nat) (h : x < k) : shD kind k (y * k + x) = shp kind k (x : Int) (y : Int) := by
  unfold shD
  rw [Nat.mul_comm, Nat.mul_add_mod, Nat.mod_eq_of_lt h, Nat.mul_add_div (by omega), Nat.div_eq_of_lt h, Nat.add_zero]
theorem app_bool {ops : Array Oper} {rest : List Oper} {o : Oper} {a : Act} {Q : Exit → Act → World → Prop} (base : Nat) (w : World) (hgd : o.guard = none) (s x : Operand)
    (ho : o.op = .call { callee := .builtin .append, args := #[s, x], argTypes := #[59, 59] }) (v : Value) (d : Nat → Bool) (n : Nat) (hs : a.eval s = v) (hG : w.ownsRow base 4 1 v n (tbs d n)) (hB : base ≤ w.heap.size) (z : Bool)
    (hx : a.eval x = .slice (some ⟨w.heap.size, 0, none⟩) 1 1) (hz : z = d n) (hl : n ≤ 100000)
    (h : ∀ v' w', w'.ownsRow base 4 1 v' (n + 1) (tbs d (n + 1)) → w.grownBy w' v.ownBlock → wpList Tryd.prog ops Q rest (a.put o.dst v') w') : wpList Tryd.prog ops Q (o :: rest) a (w.alloc (.cells #[.bool z] 4)) := by
  obtain ⟨i0, hi0, hz0, hz1, hz2⟩ := info_parts infoBool
  refine wpList_append_own _ hgd s x 59 ho base 4 i0 (.bool false) 1 1 Tryd.underlying59 hi0 hz0 hz1 hz2 rfl (by decide) v _ _ hs (hG.alloc _) ⟨w.heap.size, 0, none⟩ 1 1 [.bool z] hx rfl ?c1 ?c2 ?c3 ?c4 ?c5 ?_
  case c1 =>
    intro j u hj
    match j, hj with
    | 0, hj => simp at hj; subst hj; simp [Addr.add]
  case c2 => intro u hu; simp at hu; subst hu; rfl
  case c3 => unfold maxLen; omega
  case c4 => omega
  case c5 => simp; omega
  · intro v' w4 hown' hgrow _
    refine h v' w4 ?_ (grownBy_trans (World.grownBy_alloc w _ _) hgrow)
    rw [tbs_succ, ← hz]
    exact hown'
end Go.Proofs.YtbcgidgjdedkiaaDoor
/- Chapter 7: the specification's pictures beside and below each other. -/
namespace Go.Proofs.YtbcgidgjdedkiaaDoor
open Go.ChangeShapes Go.WideShapes Go.ChangeAt Go.RowKit

theorem gText_len (W H : Nat) (d : Nat → Bool) (h : 1 ≤ H) : (gText W H d).length + 1 = H * (W + 1) := by
  have hr : ∀ r ∈ gRows W H d, r.length = W := by
    intro r hr
    obtain ⟨y, _, rfl⟩ := List.mem_map.1 hr
    exact gRow_len _ _ _
  have hn := gRows_len W H d
  unfold gText
  cases hg : gRows W H d with
  | nil => rw [hg] at hn; simp at hn; omega
  | cons r rs =>
    rw [hg] at hn hr
    simp only [joinP]
    rw [join_len 47 W rs r (fun x hx => hr x (by simp [hx])), hr r (by simp)]
    simp at hn
    rw [← hn, Nat.succ_mul]
    omega
theorem gText_no (W H : Nat) (d : Nat → Bool) (h0 : 1 ≤ H) (h : 24 < W ∨ 24 < H) : isPic (gText W H d) = false := by
  unfold isPic rowsOk
  rw [gText_parts W H d h0, gRows_head W H d h0, gRows_len, gRow_len]
  rcases h with h | h
  · rw [decide_eq_false (show ¬ W ≤ 24 by omega)]
    simp
  · rw [decide_eq_false (show ¬ H ≤ 24 by omega)]
    simp
theorem fold_app (b : UInt8) (xs : List (List UInt8)) : ∀ acc y : List UInt8, xs.foldl (fun acc x => acc ++ (b :: x)) (acc ++ y) = acc ++ xs.foldl (fun acc x => acc ++ (b :: x)) y := by
  induction xs with
  | nil => intro acc y; rfl
  | cons x xs ih =>
    intro acc y
    rw [List.foldl_cons, List.foldl_cons, List.append_assoc, ih]
theorem joinP_app (b : UInt8) (A B : List (List UInt8)) (ha : A ≠ []) (hb : B ≠ []) : joinP b (A ++ B) = joinP b A ++ (b :: joinP b B) := by
  cases A with
  | nil => exact absurd rfl ha
  | cons r rs =>
    cases B with
    | nil => exact absurd rfl hb
    | cons x xs =>
      simp only [List.cons_append, joinP, List.foldl_append, List.foldl_cons]
      rw [fold_app, show b :: x = [b] ++ x from rfl, fold_app]
      rfl
theorem gText_below (W H G : Nat) (d e : Nat → Bool) (h : 1 ≤ H) (g : 1 ≤ G) : gText W H d ++ (47 :: gText W G e) = gText W (H + G) (uD W H d e) := by
  unfold gText
  rw [← rows_below, joinP_app]
  · intro q
    have := gRows_len W H d
    rw [q] at this
    simp at this
    omega
  · intro q
    have := gRows_len W G e
    rw [q] at this
    simp at this
    omega
theorem doRows_gen (s : ByteArray) (w : World) (hs : s.size ≤ 2000000) :
    Calls Tryd.prog 45 #[.string s] w fun e w' => ∃ A n c, e = .returned (.tuple #[.slice A n c, .bool (isPic s.data.toList)]) ∧ Below w.heap.size w w' := by
  refine (doRows_any s w (by omega)).mono ?_
  rintro e w' ⟨⟨h, A, c, rfl, _⟩ | ⟨h, rfl⟩, hb⟩
  · exact ⟨A, _, c, by rw [show isPic s.data.toList = true from h], hb⟩
  · exact ⟨none, 0, 0, by rw [show isPic s.data.toList = false from h], hb⟩
theorem doIf_any (s : ByteArray) (w : World) (hs : s.size ≤ 2000000) :
    Calls Tryd.prog 54 #[.string s] w fun e w' => e = .returned (.tuple #[.string (if isPic s.data.toList then s else ⟨#[]⟩), .bool (isPic s.data.toList)]) ∧ Below w.heap.size w w' := by
  have HR := Lib.hid fun W => spec_IsPicture s W (by omega)
  generalize isPic s.data.toList = b at *
  cases b
  · go_enter Tryd.func54, Tryd.ntmps54
    go_wp2_with (go_at_call 15; refine (HR.out _).mono ?_; rintro e w1 ⟨rfl, hb1⟩)
    go_ret2
    exact ⟨rfl, hb1⟩
  · go_enter Tryd.func54, Tryd.ntmps54
    go_wp2_with (go_at_call 15; refine (HR.out _).mono ?_; rintro e w1 ⟨rfl, hb1⟩)
    go_ret2
    exact ⟨rfl, hb1⟩
theorem doIf_text (W H : Nat) (d : Nat → Bool) (w : World) (w0 : 1 ≤ W) (w1 : W ≤ 50) (h0 : 1 ≤ H) (h1 : H ≤ 50) :
    Calls Tryd.prog 54 #[.string (bt (gText W H d))] w fun e w' => e = .returned (.tuple #[.string (if W ≤ 24 ∧ H ≤ 24 then bt (gText W H d) else ⟨#[]⟩), .bool (decide (W ≤ 24 ∧ H ≤ 24))]) ∧ Below w.heap.size w w' := by
  have hsz : (bt (gText W H d)).size ≤ 2000000 := by
    rw [bt_size]
    have e := gText_len W H d h0
    have := Nat.mul_le_mul (n₁ := H) (n₂ := 50) (m₁ := W + 1) (m₂ := 51) h1 (by omega)
    omega
  have hd : (bt (gText W H d)).data.toList = gText W H d := by simp [bt]
  refine (doIf_any _ w hsz).mono ?_
  rw [hd]
  by_cases h : W ≤ 24 ∧ H ≤ 24
  · rw [gText_pic W H d w0 h.1 h0 h.2, if_pos h, decide_eq_true h, if_pos rfl]
    exact fun e w' h => h
  · rw [gText_no W H d h0 (by omega), if_neg h, decide_eq_false h, if_neg (by decide)]
    exact fun e w' h => h
theorem beside_no (s t : ByteArray) (ok : ByteArray → Bool) (w : World) (HR0 : ∀ x w, (x = s ∨ x = t) → Calls Tryd.prog 45 #[.string x] w fun e w' => ∃ A n c, e = .returned (.tuple #[.slice A n c, .bool (ok x)]) ∧ Below w.heap.size w w') (h : ok s = false ∨ ok t = false) :
    Calls Tryd.prog 25 #[.string s, .string t] w fun e w' => e = .returned (.tuple #[.string ⟨#[]⟩, .bool false]) ∧ Below w.heap.size w w' := by
  have HR := Lib.hid HR0
  clear HR0
  cases hs : ok s
  · clear h
    go_enter Tryd.func25, Tryd.ntmps25
    go_wp2_with (go_at_call 45; refine (HR.out _ _ ?hm).mono ?_; (case hm => first | exact .inl rfl | exact .inr rfl); rintro e w1 ⟨A, n, c, rfl, hb⟩)
    go_ret2
    refine ⟨rfl, Below.trans (?_ : Below w.heap.size w _) (below_weak hb ?_)⟩
    · assumption
    · exact Below.size (by assumption)
  · have ht : ok t = false := h.resolve_left (by rw [hs]; decide)
    clear h
    go_enter Tryd.func25, Tryd.ntmps25
    go_wp2_with (go_at_call 45; refine (HR.out _ _ ?hm).mono ?_; (case hm => first | exact .inl rfl | exact .inr rfl); rintro e w1 ⟨A, n, c, rfl, hb⟩)
    go_ret2
    refine ⟨rfl, Below.trans (?_ : Below w.heap.size w _) (below_weak hb ?_)⟩
    · assumption
    · exact Below.size (by assumption)
theorem spec_BesidePicture_no (s t : ByteArray) (w : World) (hs : s.size ≤ 2000000) (ht : t.size ≤ 2000000) (h : isPic s.data.toList = false ∨ isPic t.data.toList = false) :
    Calls Tryd.prog 25 #[.string s, .string t] w fun e w' => e = .returned (.tuple #[.string ⟨#[]⟩, .bool false]) ∧ Below w.heap.size w w' :=
  beside_no s t (fun x => isPic x.data.toList) w (fun x w' h => doRows_gen x w' (by rcases h with rfl | rfl <;> assumption)) h
theorem beside_apart (s t : ByteArray) (wx hx : ByteArray → Nat) (dx : ByteArray → Nat → Bool) (w : World) (HR0 : ∀ x w, (x = s ∨ x = t) → Calls Tryd.prog 45 #[.string x] w fun e w' => ∃ g c, e = .returned (.tuple #[.slice (some ⟨g, 0, none⟩) (hx x) c, .bool true]) ∧ hx x ≤ c ∧ RowsAt w' w.heap.size g (hx x) (gRows (wx x) (hx x) (dx x)) ∧ Below w.heap.size w w') (h : ¬ hx s = hx t) :
    Calls Tryd.prog 25 #[.string s, .string t] w fun e w' => e = .returned (.tuple #[.string ⟨#[]⟩, .bool false]) ∧ Below w.heap.size w w' := by
  have HR := Lib.hid HR0
  clear HR0
  have hi : ¬ (hx s : Int) = (hx t : Int) := by omega
  go_enter Tryd.func25, Tryd.ntmps25
  go_wp2_with (go_at_call 45; refine (HR.out _ _ ?hm).mono ?_; (case hm => first | exact .inl rfl | exact .inr rfl); rintro e w1 ⟨g, c, rfl, hc, hr, hb⟩)
  go_ret2
  refine ⟨rfl, Below.trans (?_ : Below w.heap.size w _) (below_weak hb ?_)⟩
  · assumption
  · exact Below.size (by assumption)
theorem beside_at (W V H : Nat) (d e : Nat → Bool) (y : Nat) (h : y < H) : gRow W d y ++ gRow V e y = gRow (W + V) (bD W V d e) y := by
  have k : (List.zipWith (· ++ ·) (gRows W H d) (gRows V H e)).getD y [] = (gRows (W + V) H (bD W V d e)).getD y [] := by rw [rows_beside W V H d e]
  rw [gRows_at _ _ _ _ h] at k
  rw [← k]
  simp [List.getD, gRows, h]
theorem text_wide {W H c g lo : Nat} {d : Nat → Bool} {w : World} (hr : RowsAt w lo g H (gRows W H d)) (hc : H ≤ c) (w1 : W ≤ 50) (h0 : 1 ≤ H) (h1 : H ≤ 50) :
    Calls Tryd.prog 48 #[.slice (some ⟨g, 0, none⟩) H c] w fun e w' => e = .returned (.string (bt (gText W H d))) ∧ w = w' :=
  doText_any g 0 H c (gRows W H d) w (gRows_len W H d).symm h0 (by omega) hc (fun r hr => by obtain ⟨y, _, rfl⟩ := List.mem_map.1 hr; rw [gRow_len]; omega) (fun j hj => by rw [Nat.zero_add]; exact hr.cell j hj)
set_option maxRecDepth 4000 in
set_option maxHeartbeats 1600000 in
theorem beside_yes (s t : ByteArray) (wx hx : ByteArray → Nat) (dx : ByteArray → Nat → Bool) (w : World) (HR0 : ∀ x w, (x = s ∨ x = t) → Calls Tryd.prog 45 #[.string x] w fun e w' => ∃ g c, e = .returned (.tuple #[.slice (some ⟨g, 0, none⟩) (hx x) c, .bool true]) ∧ hx x ≤ c ∧ RowsAt w' w.heap.size g (hx x) (gRows (wx x) (hx x) (dx x)) ∧ Below w.heap.size w w') (h : hx s = hx t) (h0 : 1 ≤ hx s) (h1 : hx s ≤ 24) (w0 : 1 ≤ wx s) (w1 : wx s ≤ 24) (v0 : 1 ≤ wx t) (v1 : wx t ≤ 24) :
    Calls Tryd.prog 25 #[.string s, .string t] w fun e w' => e = .returned (.tuple #[.string (if wx s + wx t ≤ 24 ∧ hx s ≤ 24 then bt (gText (wx s + wx t) (hx s) (bD (wx s) (wx t) (dx s) (dx t))) else ⟨#[]⟩), .bool (decide (wx s + wx t ≤ 24 ∧ hx s ≤ 24))]) ∧ Below w.heap.size w w' := by
  have HR := Lib.hid HR0
  clear HR0
  have hi : (hx s : Int) = (hx t : Int) := by omega
  obtain ⟨i0, hi0, hz0, hz1, hz2⟩ := info_parts infoStr
  obtain ⟨ans, hans⟩ : ∃ a, a = (if wx s + wx t ≤ 24 ∧ hx s ≤ 24 then bt (gText (wx s + wx t) (hx s) (bD (wx s) (wx t) (dx s) (dx t))) else ⟨#[]⟩) := ⟨_, rfl⟩
  obtain ⟨ok, hok⟩ : ∃ a, a = decide (wx s + wx t ≤ 24 ∧ hx s ≤ 24) := ⟨_, rfl⟩
  rw [← hans, ← hok]
  have HANS := Lib.hid hans
  have HOK := Lib.hid hok
  clear hans hok
  go_enter Tryd.func25, Tryd.ntmps25
  go_wp2_with (go_at_call 45; first
    | (refine (HR.out _ _ ?hm).mono ?_; (case hm => exact .inl rfl); rintro e w1 ⟨g, c, rfl, hc, hr, hb1⟩)
    | (refine (HR.out _ _ ?hm).mono ?_; (case hm => exact .inr rfl); rintro e w2 ⟨g2, c2, rfl, hc2, hr2, hb2⟩))
  have HB : Hid (Below w.heap.size w w2) := Lib.hid (hb1.trans (below_weak hb2 hb1.size))
  have HZ : Hid (w.heap.size ≤ w2.heap.size) := Lib.hid HB.out.size
  have hrr := hr.below hb2
  rw [← h] at hr2
  generalize hW : wx s = W at *
  generalize hV : wx t = V at *
  generalize hN : hx s = n at *
  generalize hD : dx s = d at *
  generalize hE : dx t = e at *
  have HL : Hid (∀ y, y < n → w2.cell? ⟨g, y, none⟩ = some (.string (bt (gRow W d y)))) := Lib.hid fun y hy => by rw [hrr.cell y hy, gRows_at _ _ _ _ hy]
  have HRt : Hid (∀ y, y < n → w2.cell? ⟨g2, y, none⟩ = some (.string (bt (gRow V e y)))) := Lib.hid fun y hy => by rw [hr2.cell y hy, gRows_at _ _ _ _ hy]
  have HGZ : Hid (g < w2.heap.size ∧ g2 < w2.heap.size) := Lib.hid ⟨hrr.hi, hr2.hi⟩
  have HBA := Lib.hid fun y (hy : y < n) => beside_at W V n d e y hy
  have HGL := Lib.hid fun y => gRows_len (W + V) y (bD W V d e)
  have HGS := Lib.hid fun y => gRows_succ (W + V) y (bD W V d e)
  have HWL := Lib.hid fun y => gRow_len W d y
  have HVL := Lib.hid fun y => gRow_len V e y
  have HIF := Lib.hid fun w' => doIf_text (W + V) n (bD W V d e) w' (by omega) (by omega) h0 (by omega)
  have HTX := Lib.hid fun g' c' lo w' (a : n ≤ c') (b : RowsAt w' lo g' n (gRows (W + V) n (bD W V d e))) => text_wide b a (by omega) h0 (by omega)
  have hhx : hx t = n := by omega
  rw [hhx]
  have HHX := Lib.hid hhx
  clear hr hr2 hb1 hb2 hrr h hhx hW hV hN hD hE hi
  generalize hf : bD W V d e = f at *
  have HF := Lib.hid hf
  clear hf
  go_loopw [10, 38] (fun v i wr => ∃ y : Nat, y ≤ n ∧ i = .int .i64 (y : Int) ∧ Hid (wr.ownsRow w2.heap.size 9 1 v y (strs (gRows (W + V) y f))) ∧ Hid (Below w2.heap.size w2 wr)) (fun _ i _ => n - (intOf i).toNat)
  case atStart => exact ⟨0, by omega, by simp, Lib.hid (World.ownsRow_nil _ _ _ _), Lib.hid (Below.refl _ _)⟩
  case round =>
    obtain ⟨y, hy, rfl, hown, hb⟩ := hrel
    by_cases hlt : y < n
    · have hlt2 : (y : Int) < (n : Int) := by omega
      have hy0 : (0 : Int) ≤ (y : Int) := by omega
      have cl := (hb.out.cell (p := ⟨g, y, none⟩) HGZ.out.1).trans (HL.out y hlt)
      have cr := (hb.out.cell (p := ⟨g2, y, none⟩) HGZ.out.2).trans (HRt.out y hlt)
      have hba := HBA.out y hlt
      have hgs := Lib.hid (HGS.out y)
      have l1 := HWL.out y
      have l2 := HVL.out y
      generalize gRow W d y = a at *
      generalize gRow V e y = b at *
      have k1 := cat7 (bt a) (bt b) (by simp [bt, ByteArray.size]; omega)
      rw [bt_app, hba] at k1
      clear hba l1 l2
      generalize gRow (W + V) f y = r at *
      have hS := Lib.hid hb.out.size
      go_wp2_with (at_builtin; refine wpList_append_own _ rfl _ _ 31 rfl w2.heap.size 9 i0 (.string ⟨#[]⟩) 1 16 Tryd.underlying31 hi0 hz0 hz1 hz2 rfl (by decide) _ _ _ rfl (hown.out.alloc _) ⟨wr.heap.size, 0, none⟩ 1 1 [.string (bt r)] rfl rfl ?c1 ?c2 ?c3 ?c4 ?c5 ?_)
      case c1 =>
        intro j u hj
        match j, hj with
        | 0, hj => simp at hj; subst hj; simp [Addr.add]
      case c2 => intro u hu; simp at hu; subst hu; rfl
      case c3 => unfold maxLen; omega
      case c4 => omega
      case c5 => have := hS.out; simp; omega
      · intro v' w4 hown' hgrow _
        have HO4 : Hid (w4.ownsRow w2.heap.size 9 1 v' (y + 1) (strs (gRows (W + V) (y + 1) f))) := Lib.hid (by
          rw [hgs.out, ← strs_app]
          exact hown')
        have HB4 := Lib.hid ((hb.out.alloc hS.out _).grown hgrow (by have := hS.out; simp; omega) fun g hg => (hown.out.lt g hg).1)
        clear hown' hgrow hown hb
        go_wp2
        go_roundw
        case rel => exact ⟨y + 1, by omega, by go_num, HO4, HB4⟩
        case measure => simp [intOf]; omega
    · obtain rfl : y = n := by omega
      obtain ⟨g3, c3, rfl, hc3, hr3⟩ := rows_of_row (R := gRows (W + V) y f) (by rw [HGL.out]; exact hown.out) (by rw [HGL.out]; exact h0)
      have hr4 : RowsAt wr w2.heap.size g3 y (gRows (W + V) y f) := by
        have := hr3
        rwa [HGL.out] at this
      rw [HGL.out] at hc3
      have HT2 := Lib.hid (HTX.out g3 c3 _ wr hc3 hr4)
      have hi2 := HIF.out wr
      rw [← HANS.out, ← HOK.out] at hi2
      have HI2 := Lib.hid hi2
      rw [HGL.out]
      clear hown hr3 hr4 hi2
      generalize gText (W + V) y f = tx at *
      go_wp2_with (first
        | (go_at_call 48; refine HT2.out.mono ?_; rintro e w5 ⟨rfl, rfl⟩)
        | (go_at_call 54; refine HI2.out.mono ?_; rintro e w6 ⟨rfl, hb6⟩))
      go_ret2
      exact ⟨rfl, HB.out.trans (below_weak (hb.out.trans (below_weak hb6 hb.out.size)) HZ.out)⟩
end Go.Proofs.YtbcgidgjdedkiaaDoor
/- Chapter 7: the specification's pictures beside and below each other, 2. -/
namespace Go.Proofs.YtbcgidgjdedkiaaDoor
open Go.ChangeShapes Go.WideShapes Go.ChangeAt Go.RowKit

theorem rows_pic (x : ByteArray) (w : World) (hs : x.size ≤ 2000000) (h : isPic x.data.toList = true) :
    Calls Tryd.prog 45 #[.string x] w fun e w' => ∃ g c, e = .returned (.tuple #[.slice (some ⟨g, 0, none⟩) (pH x.data.toList) c, .bool true]) ∧ pH x.data.toList ≤ c ∧ RowsAt w' w.heap.size g (pH x.data.toList) (gRows (pW x.data.toList) (pH x.data.toList) (pD x.data.toList)) ∧ Below w.heap.size w w' := by
  rw [pic_rows h]
  exact doRows_yes x w (by omega) h
theorem spec_BesidePicture_both (s t : ByteArray) (w : World) (hs : s.size ≤ 2000000) (ht : t.size ≤ 2000000) (a : isPic s.data.toList = true) (b : isPic t.data.toList = true) (h : pH s.data.toList = pH t.data.toList) (hw : pW s.data.toList + pW t.data.toList ≤ 24) :
    Calls Tryd.prog 25 #[.string s, .string t] w fun e w' => e = .returned (.tuple #[.string (bt (gText (pW s.data.toList + pW t.data.toList) (pH s.data.toList) (bD (pW s.data.toList) (pW t.data.toList) (pD s.data.toList) (pD t.data.toList)))), .bool true]) ∧ Below w.heap.size w w' := by
  have pa := pic_b a
  have pb := pic_b b
  have k := beside_yes s t (fun x => pW x.data.toList) (fun x => pH x.data.toList) (fun x => pD x.data.toList) w (fun x w' h => rows_pic x w' (by rcases h with rfl | rfl <;> assumption) (by rcases h with rfl | rfl <;> assumption)) h pa.h0 pa.h1 pa.w0 pa.w1 pb.w0 pb.w1
  rw [if_pos ⟨hw, pa.h1⟩, decide_eq_true ⟨hw, pa.h1⟩] at k
  exact k
theorem spec_BesidePicture_apart (s t : ByteArray) (w : World) (hs : s.size ≤ 2000000) (ht : t.size ≤ 2000000) (a : isPic s.data.toList = true) (b : isPic t.data.toList = true) (h : ¬ (pH s.data.toList = pH t.data.toList ∧ pW s.data.toList + pW t.data.toList ≤ 24)) :
    Calls Tryd.prog 25 #[.string s, .string t] w fun e w' => e = .returned (.tuple #[.string ⟨#[]⟩, .bool false]) ∧ Below w.heap.size w w' := by
  have pa := pic_b a
  have pb := pic_b b
  by_cases hh : pH s.data.toList = pH t.data.toList
  · have hw : ¬ (pW s.data.toList + pW t.data.toList ≤ 24 ∧ pH s.data.toList ≤ 24) := fun e => h ⟨hh, e.1⟩
    have k := beside_yes s t (fun x => pW x.data.toList) (fun x => pH x.data.toList) (fun x => pD x.data.toList) w (fun x w' h => rows_pic x w' (by rcases h with rfl | rfl <;> assumption) (by rcases h with rfl | rfl <;> assumption)) hh pa.h0 pa.h1 pa.w0 pa.w1 pb.w0 pb.w1
    rw [if_neg hw, decide_eq_false hw] at k
    exact k
  · exact beside_apart s t (fun x => pW x.data.toList) (fun x => pH x.data.toList) (fun x => pD x.data.toList) w (fun x w' h => rows_pic x w' (by rcases h with rfl | rfl <;> assumption) (by rcases h with rfl | rfl <;> assumption)) hh
theorem below_no (s t : ByteArray) (ok : ByteArray → Bool) (w : World) (HR0 : ∀ x w, (x = s ∨ x = t) → Calls Tryd.prog 45 #[.string x] w fun e w' => ∃ A n c, e = .returned (.tuple #[.slice A n c, .bool (ok x)]) ∧ Below w.heap.size w w') (h : ok s = false ∨ ok t = false) :
    Calls Tryd.prog 27 #[.string s, .string t] w fun e w' => e = .returned (.tuple #[.string ⟨#[]⟩, .bool false]) ∧ Below w.heap.size w w' := by
  have HR := Lib.hid HR0
  clear HR0
  cases hs : ok s
  · clear h
    go_enter Tryd.func27, Tryd.ntmps27
    go_wp2_with (go_at_call 45; refine (HR.out _ _ ?hm).mono ?_; (case hm => first | exact .inl rfl | exact .inr rfl); rintro e w1 ⟨A, n, c, rfl, hb⟩)
    go_region
    go_wp2
    go_ret2
    refine ⟨rfl, Below.trans (?_ : Below w.heap.size w _) (below_weak hb.drew ?_)⟩
    · assumption
    · exact Below.size (by assumption)
  · have ht : ok t = false := h.resolve_left (by rw [hs]; decide)
    clear h
    go_enter Tryd.func27, Tryd.ntmps27
    go_wp2_with (go_at_call 45; refine (HR.out _ _ ?hm).mono ?_; (case hm => first | exact .inl rfl | exact .inr rfl); rintro e w1 ⟨A, n, c, rfl, hb⟩)
    go_region
    go_wp2
    go_ret2
    refine ⟨rfl, Below.trans (?_ : Below w.heap.size w _) (below_weak hb.drew ?_)⟩
    · assumption
    · exact Below.size (by assumption)
theorem spec_BelowPicture_no (s t : ByteArray) (w : World) (hs : s.size ≤ 2000000) (ht : t.size ≤ 2000000) (h : isPic s.data.toList = false ∨ isPic t.data.toList = false) :
    Calls Tryd.prog 27 #[.string s, .string t] w fun e w' => e = .returned (.tuple #[.string ⟨#[]⟩, .bool false]) ∧ Below w.heap.size w w' :=
  below_no s t (fun x => isPic x.data.toList) w (fun x w' h => doRows_gen x w' (by rcases h with rfl | rfl <;> assumption)) h
set_option maxRecDepth 4000 in
set_option maxHeartbeats 1600000 in
theorem below_apart (s t : ByteArray) (wx hx : ByteArray → Nat) (dx : ByteArray → Nat → Bool) (w : World) (HR0 : ∀ x w, (x = s ∨ x = t) → Calls Tryd.prog 45 #[.string x] w fun e w' => ∃ g c, e = .returned (.tuple #[.slice (some ⟨g, 0, none⟩) (hx x) c, .bool true]) ∧ hx x ≤ c ∧ RowsAt w' w.heap.size g (hx x) (gRows (wx x) (hx x) (dx x)) ∧ Below w.heap.size w w') (h0 : 1 ≤ hx s) (g0 : 1 ≤ hx t) (h : ¬ wx s = wx t) :
    Calls Tryd.prog 27 #[.string s, .string t] w fun e w' => e = .returned (.tuple #[.string ⟨#[]⟩, .bool false]) ∧ Below w.heap.size w w' := by
  have HR := Lib.hid HR0
  clear HR0
  have hi : ¬ (wx s : Int) = (wx t : Int) := by omega
  go_enter Tryd.func27, Tryd.ntmps27
  go_wp2_with (go_at_call 45; first
    | (refine (HR.out _ _ ?hm).mono ?_; (case hm => exact .inl rfl); rintro e w1 ⟨g, c, rfl, hc, hr, hb1⟩)
    | (refine (HR.out _ _ ?hm).mono ?_; (case hm => exact .inr rfl); rintro e w2 ⟨g2, c2, rfl, hc2, hr2, hb2⟩))
  have HB : Hid (Below w.heap.size w w2) := Lib.hid (hb1.trans (below_weak hb2 hb1.size))
  have HZ : Hid (w.heap.size ≤ w2.heap.size) := Lib.hid HB.out.size
  have hrr := hr.below hb2
  have q1 := hrr.cell 0 (by omega)
  have q2 := hr2.cell 0 (by omega)
  rw [gRows_at _ _ _ _ (by omega)] at q1 q2
  have z1 : (bt (gRow (wx s) (dx s) 0)).size = wx s := by rw [bt_size, gRow_len]
  have z2 : (bt (gRow (wx t) (dx t) 0)).size = wx t := by rw [bt_size, gRow_len]
  have p1 : (0 : Int) < (hx s : Int) := by omega
  have p2 : (0 : Int) < (hx t : Int) := by omega
  generalize bt (gRow (wx s) (dx s) 0) = b1 at *
  generalize bt (gRow (wx t) (dx t) 0) = b2 at *
  clear hr hr2 hrr hb1 hb2
  go_region
  go_wp2
  go_ret2
  exact ⟨rfl, HB.out.drew⟩
set_option maxRecDepth 4000 in
set_option maxHeartbeats 1600000 in
theorem below_yes (s t : ByteArray) (wx hx : ByteArray → Nat) (dx : ByteArray → Nat → Bool) (w : World) (HR0 : ∀ x w, (x = s ∨ x = t) → Calls Tryd.prog 45 #[.string x] w fun e w' => ∃ g c, e = .returned (.tuple #[.slice (some ⟨g, 0, none⟩) (hx x) c, .bool true]) ∧ hx x ≤ c ∧ RowsAt w' w.heap.size g (hx x) (gRows (wx x) (hx x) (dx x)) ∧ Below w.heap.size w w') (h0 : 1 ≤ hx s) (h1 : hx s ≤ 24) (g0 : 1 ≤ hx t) (g1 : hx t ≤ 24) (w0 : 1 ≤ wx s) (w1 : wx s ≤ 24) (h : wx s = wx t)
    (hs : s.size ≤ 1000) (ht : t.size ≤ 1000) (htx : (s ++ ⟨#[47]⟩) ++ t = bt (gText (wx s) (hx s + hx t) (uD (wx s) (hx s) (dx s) (dx t)))) :
    Calls Tryd.prog 27 #[.string s, .string t] w fun e w' => e = .returned (.tuple #[.string (if wx s ≤ 24 ∧ hx s + hx t ≤ 24 then bt (gText (wx s) (hx s + hx t) (uD (wx s) (hx s) (dx s) (dx t))) else ⟨#[]⟩), .bool (decide (wx s ≤ 24 ∧ hx s + hx t ≤ 24))]) ∧ Below w.heap.size w w' := by
  have HR := Lib.hid HR0
  clear HR0
  have hi : (wx s : Int) = (wx t : Int) := by omega
  have k1 := cat7 s ⟨#[47]⟩ (by show s.size + 1 ≤ 1000000; omega)
  have k2 := cat7 (s ++ ⟨#[47]⟩) t (by rw [ByteArray.size_append]; show s.size + 1 + t.size ≤ 1000000; omega)
  rw [htx] at k2
  have HI := Lib.hid fun w' => doIf_text (wx s) (hx s + hx t) (uD (wx s) (hx s) (dx s) (dx t)) w' w0 (by omega) (by omega) (by omega)
  clear htx hs ht
  generalize gText (wx s) (hx s + hx t) (uD (wx s) (hx s) (dx s) (dx t)) = tx at *
  generalize decide (wx s ≤ 24 ∧ hx s + hx t ≤ 24) = ok at *
  generalize (if wx s ≤ 24 ∧ hx s + hx t ≤ 24 then bt tx else ⟨#[]⟩) = ans at *
  go_enter Tryd.func27, Tryd.ntmps27
  go_wp2_with (go_at_call 45; first
    | (refine (HR.out _ _ ?hm).mono ?_; (case hm => exact .inl rfl); rintro e w1 ⟨g, c, rfl, hc, hr, hb1⟩)
    | (refine (HR.out _ _ ?hm).mono ?_; (case hm => exact .inr rfl); rintro e w2 ⟨g2, c2, rfl, hc2, hr2, hb2⟩))
  have HB : Hid (Below w.heap.size w w2) := Lib.hid (hb1.trans (below_weak hb2 hb1.size))
  have HZ : Hid (w.heap.size ≤ w2.heap.size) := Lib.hid HB.out.size
  have hrr := hr.below hb2
  have q1 := hrr.cell 0 (by omega)
  have q2 := hr2.cell 0 (by omega)
  rw [gRows_at _ _ _ _ (by omega)] at q1 q2
  have z1 : (bt (gRow (wx s) (dx s) 0)).size = wx s := by rw [bt_size, gRow_len]
  have z2 : (bt (gRow (wx t) (dx t) 0)).size = wx t := by rw [bt_size, gRow_len]
  have p1 : (0 : Int) < (hx s : Int) := by omega
  have p2 : (0 : Int) < (hx t : Int) := by omega
  generalize bt (gRow (wx s) (dx s) 0) = b1 at *
  generalize bt (gRow (wx t) (dx t) 0) = b2 at *
  clear hr hr2 hrr hb1 hb2
  go_region
  go_wp2_with (go_at_call 54; refine (HI.out _).mono ?_; rintro e w6 ⟨rfl, hb6⟩)
  go_ret2
  exact ⟨rfl, HB.out.drew.trans (below_weak hb6 HZ.out)⟩
theorem bt_self (s : ByteArray) : bt s.data.toList = s := by
  cases s
  simp [bt]
theorem below_text (s t : ByteArray) (a : isPic s.data.toList = true) (b : isPic t.data.toList = true) (h : pW s.data.toList = pW t.data.toList) :
    (s ++ ⟨#[47]⟩) ++ t = bt (gText (pW s.data.toList) (pH s.data.toList + pH t.data.toList) (uD (pW s.data.toList) (pH s.data.toList) (pD s.data.toList) (pD t.data.toList))) := by
  rw [← gText_below _ _ _ _ _ (pic_b a).h0 (pic_b b).h0, pic_text a, h, pic_text b]
  conv => lhs; rw [← bt_self s, ← bt_self t]
  rw [show (⟨#[47]⟩ : ByteArray) = bt [47] from rfl, bt_app, bt_app]
  simp
theorem pic_size (s : ByteArray) (a : isPic s.data.toList = true) : s.size ≤ 1000 := by
  have := pic_600 a
  have e : s.data.toList.length = s.size := by simp
  omega
theorem spec_BelowPicture_both (s t : ByteArray) (w : World) (a : isPic s.data.toList = true) (b : isPic t.data.toList = true) (h : pW s.data.toList = pW t.data.toList) (hh : pH s.data.toList + pH t.data.toList ≤ 24) :
    Calls Tryd.prog 27 #[.string s, .string t] w fun e w' => e = .returned (.tuple #[.string (bt (gText (pW s.data.toList) (pH s.data.toList + pH t.data.toList) (uD (pW s.data.toList) (pH s.data.toList) (pD s.data.toList) (pD t.data.toList)))), .bool true]) ∧ Below w.heap.size w w' := by
  have pa := pic_b a
  have pb := pic_b b
  have ps := pic_size s a
  have pt := pic_size t b
  have k := below_yes s t (fun x => pW x.data.toList) (fun x => pH x.data.toList) (fun x => pD x.data.toList) w (fun x w' h => rows_pic x w' (by rcases h with rfl | rfl <;> omega) (by rcases h with rfl | rfl <;> assumption)) pa.h0 pa.h1 pb.h0 pb.h1 pa.w0 pa.w1 h ps pt (below_text s t a b h)
  rw [if_pos ⟨pa.w1, hh⟩, decide_eq_true ⟨pa.w1, hh⟩] at k
  exact k
theorem spec_BelowPicture_apart (s t : ByteArray) (w : World) (a : isPic s.data.toList = true) (b : isPic t.data.toList = true) (h : ¬ (pW s.data.toList = pW t.data.toList ∧ pH s.data.toList + pH t.data.toList ≤ 24)) :
    Calls Tryd.prog 27 #[.string s, .string t] w fun e w' => e = .returned (.tuple #[.string ⟨#[]⟩, .bool false]) ∧ Below w.heap.size w w' := by
  have pa := pic_b a
  have pb := pic_b b
  have ps := pic_size s a
  have pt := pic_size t b
  by_cases hh : pW s.data.toList = pW t.data.toList
  · have hw : ¬ (pW s.data.toList ≤ 24 ∧ pH s.data.toList + pH t.data.toList ≤ 24) := fun e => h ⟨hh, e.2⟩
    have k := below_yes s t (fun x => pW x.data.toList) (fun x => pH x.data.toList) (fun x => pD x.data.toList) w (fun x w' h => rows_pic x w' (by rcases h with rfl | rfl <;> omega) (by rcases h with rfl | rfl <;> assumption)) pa.h0 pa.h1 pb.h0 pb.h1 pa.w0 pa.w1 hh ps pt (below_text s t a b hh)
    rw [if_neg hw, decide_eq_false hw] at k
    exact k
  · exact below_apart s t (fun x => pW x.data.toList) (fun x => pH x.data.toList) (fun x => pD x.data.toList) w (fun x w' h => rows_pic x w' (by rcases h with rfl | rfl <;> omega) (by rcases h with rfl | rfl <;> assumption)) pa.h0 pb.h0 hh
end Go.Proofs.YtbcgidgjdedkiaaDoor
