/- Chapter 9: numbers and clues, read by the program, whatever the library's functions hand back. -/
import Derived.Test.YtljleceepghfjaaDoorTiB
namespace Go.Proofs.YtljleceepghfjaaDoor
open Go.ChangeShapes Go.WideShapes Go.ChangeAt Go.RowKit

/-- What strconv.Atoi hands back: a number, and whatever error. -/
def AtT (v : Int) (w : World) (e : Ending) (w' : World) : Prop := ∃ E : Value, e = .returned (.tuple #[.int .i64 v, E]) ∧ Below w.heap.size w w'
theorem readNumber_at (t : ByteArray) (v : Int) (w : World) (h : Calls Tryd.prog 22 #[.string t] w (AtT v w)) :
    Calls Tryd.prog 13 #[.string t] w fun e w' => e = .returned (.int .i64 v) ∧ Below w.heap.size w w' := by
  have H := Lib.hid h
  clear h
  go_enter Tryd.func13, Tryd.ntmps13
  go_wp2_with (go_at_call 22; refine H.out.mono ?_; rintro e w1 ⟨E, rfl, b1⟩; have HB := Lib.hid b1; clear b1)
  go_ret
  exact ⟨rfl, HB.out⟩
set_option maxRecDepth 4000 in
set_option maxHeartbeats 1600000 in
theorem readClue_at (t x r y z : ByteArray) (vk va vb : Int) (w : World)
    (hc : ∀ W, Below w.heap.size w W → Calls Tryd.prog 12 #[.string t, .string ⟨#[46]⟩] W fun e w' => ∃ f : Bool, e = .returned (.tuple #[.string x, .string r, .bool f]) ∧ Below W.heap.size W w')
    (hd : ∀ W, Below w.heap.size w W → Calls Tryd.prog 12 #[.string r, .string ⟨#[46]⟩] W fun e w' => ∃ f : Bool, e = .returned (.tuple #[.string y, .string z, .bool f]) ∧ Below W.heap.size W w')
    (hk : ∀ W, Below w.heap.size w W → Calls Tryd.prog 22 #[.string x] W (AtT vk W)) (ha : ∀ W, Below w.heap.size w W → Calls Tryd.prog 22 #[.string y] W (AtT va W)) (hb : ∀ W, Below w.heap.size w W → Calls Tryd.prog 22 #[.string z] W (AtT vb W)) :
    Calls Tryd.prog 24 #[.string t] w fun e w' => e = .returned (.agg #[.int .i64 vk, .int .i64 va, .int .i64 vb]) ∧ Below w.heap.size w w' := by
  have HC := Lib.hid hc
  have HD := Lib.hid hd
  have HK := Lib.hid fun W hW => readNumber_at x vk W (hk W hW)
  have HV := Lib.hid fun W hW => readNumber_at y va W (ha W hW)
  have HW := Lib.hid fun W hW => readNumber_at z vb W (hb W hW)
  clear hc hd hk ha hb
  have HB0 := Lib.hid ((Below.refl w.heap.size w).alloc (Nat.le_refl _) (.cells #[.int .i64 0, .int .i64 0, .int .i64 0] 34))
  have HBT := Lib.hid (Bt.new w 0 0 0 34)
  have HF : Hid ((w.alloc (.cells #[.int .i64 0, .int .i64 0, .int .i64 0] 34)).frozen? ⟨w.heap.size, 0, none⟩ = false ∧ (w.alloc (.cells #[.int .i64 0, .int .i64 0, .int .i64 0] 34)).frozen? ⟨w.heap.size, 1, none⟩ = false ∧ (w.alloc (.cells #[.int .i64 0, .int .i64 0, .int .i64 0] 34)).frozen? ⟨w.heap.size, 2, none⟩ = false) := Lib.hid ⟨by simp [go_sem], by simp [go_sem], by simp [go_sem]⟩
  have HZ : Hid (w.heap.size < (w.alloc (.cells #[.int .i64 0, .int .i64 0, .int .i64 0] 34)).heap.size) := Lib.hid (by simp)
  generalize hw0 : w.alloc (.cells #[.int .i64 0, .int .i64 0, .int .i64 0] 34) = w0 at *
  have HB5 : Hid (∀ W, Below w0.heap.size w0 W → Below w.heap.size w W) := Lib.hid fun W h => HB0.out.trans (h.mono HB0.out.size)
  go_enter Tryd.func24, Tryd.ntmps24
  go_upto_region 1 with fail
  clear hw0
  go_wp2_with (first
    | (go_at_call_of 12 t; refine (HC.out _ HB0.out).mono ?_; rintro e w1 ⟨f1, rfl, b1⟩; have HB1 := Lib.hid b1; clear b1)
    | (go_at_call_of 12 r; refine (HD.out _ (HB5.out _ HB1.out)).mono ?_; rintro e w2 ⟨f2, rfl, b2⟩; have HB2 := Lib.hid (HB1.out.trans (b2.mono HB1.out.size)); clear b2)
    | (go_at_call_of 13 x; refine (HK.out _ (HB5.out _ HB2.out)).mono ?_; rintro e w3 ⟨rfl, b3⟩; have HB3 := Lib.hid (HB2.out.trans (b3.mono HB2.out.size)); clear b3)
    | (go_at_call_of 13 y; refine (HV.out _ (HB5.out _ HB3.out)).mono ?_; rintro e w4 ⟨rfl, b4⟩; have HB4 := Lib.hid (HB3.out.trans (b4.mono HB3.out.size)); clear b4)
    | (go_at_call_of 13 z; refine (HW.out _ (HB5.out _ HB4.out)).mono ?_; rintro e w5 ⟨rfl, b5⟩; have HB6 := Lib.hid (HB4.out.trans (b5.mono HB4.out.size)); obtain ⟨c0, c1, c2⟩ := HBT.out.below HZ.out HB6.out; have g0 := (HB6.out.frozen (p := ⟨w.heap.size, 0, none⟩) HZ.out).trans HF.out.1; have g1 := (HB6.out.frozen (p := ⟨w.heap.size, 1, none⟩) HZ.out).trans HF.out.2.1; have g2 := (HB6.out.frozen (p := ⟨w.heap.size, 2, none⟩) HZ.out).trans HF.out.2.2; clear b5))
  have HBf := Lib.hid ((((HB5.out _ HB6.out).setCell (p := ⟨w.heap.size, 0, none⟩) (Nat.le_refl _) (.int .i64 vk)).setCell (p := ⟨w.heap.size, 1, none⟩) (Nat.le_refl _) (.int .i64 va)).setCell (p := ⟨w.heap.size, 2, none⟩) (Nat.le_refl _) (.int .i64 vb))
  exact bodyPost_ret (v := .agg #[.int .i64 vk, .int .i64 va, .int .i64 vb]) (by simp [results, Tryd.results24, go_sem, c0, c1, c2]) rfl ⟨rfl, HBf.out⟩
end Go.Proofs.YtljleceepghfjaaDoor
