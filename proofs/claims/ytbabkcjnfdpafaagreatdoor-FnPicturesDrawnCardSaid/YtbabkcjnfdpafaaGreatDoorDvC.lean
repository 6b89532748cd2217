/- Chapter 7: BesidePicture and BelowPicture, by the program. -/
import Derived.Test.YtbabkcjnfdpafaaGreatDoorDvA
namespace Go.Proofs.YtbabkcjnfdpafaaGreatDoor
open Go.ChangeShapes Go.WideShapes Go.ChangeAt Go.RowKit Go.Maps

set_option maxRecDepth 8000 in
theorem impl_BelowPicture_no (s t : ByteArray) (w : World) (hs : s.size ≤ 2000000) (ht : t.size ≤ 2000000) (hM : MaxL w) (h : isPic s.data.toList = false ∨ isPic t.data.toList = false) :
    Calls Tryz.prog 21 #[.string s, .string t] w fun e w' => e = .returned (.tuple #[.string ⟨#[]⟩, .bool false]) ∧ Below w.heap.size w w' := by
  have HR := Lib.hid (readPictures_any s t w hs ht hM)
  have hb : (isPic s.data.toList && isPic t.data.toList) = false := by rcases h with h | h <;> simp [h]
  rw [hb] at HR
  clear hb h hM
  go_enter Tryz.func21, Tryz.ntmps21
  go_wp2_with (go_at_call 57; refine (HR.out).mono ?_; rintro e w1 ⟨⟨a, b, m, a', b', m', rfl, _, _⟩, hb1⟩)
  go_ret2
  exact ⟨rfl, (hb1.alloc hb1.size _).alloc (by have := hb1.size; simp; omega) _⟩
set_option maxRecDepth 8000 in
theorem impl_BelowPicture_apart (s t : ByteArray) (w : World) (hs : s.size ≤ 2000000) (ht : t.size ≤ 2000000) (hM : MaxL w) (hp : isPic s.data.toList = true) (hq : isPic t.data.toList = true) (h : ¬ pW s.data.toList = pW t.data.toList) :
    Calls Tryz.prog 21 #[.string s, .string t] w fun e w' => e = .returned (.tuple #[.string ⟨#[]⟩, .bool false]) ∧ Below w.heap.size w w' := by
  have HR := Lib.hid (readPictures_any s t w hs ht hM)
  rw [hp, hq] at HR
  have HQ := Lib.hid (show ∀ V a b m, RdQ s.data.toList V a b m → a = (pW s.data.toList : Int) ∧ b = (pH s.data.toList : Int) ∧ ∃ c, m = some c ∧ Ds V c (gS (pW s.data.toList) (pH s.data.toList) (pD s.data.toList)) from fun V a b m h => h hp)
  have HQ2 := Lib.hid (show ∀ V a b m, RdQ t.data.toList V a b m → a = (pW t.data.toList : Int) ∧ b = (pH t.data.toList : Int) ∧ ∃ c, m = some c ∧ Ds V c (gS (pW t.data.toList) (pH t.data.toList) (pD t.data.toList)) from fun V a b m h => h hq)
  clear hp hq hM
  have h : ¬ ((pW s.data.toList : Nat) : Int) = ((pW t.data.toList : Nat) : Int) := by omega
  generalize pW s.data.toList = H at *
  generalize pW t.data.toList = G at *
  go_enter Tryz.func21, Tryz.ntmps21
  go_wp2_with (go_at_call 57; refine (HR.out).mono ?_; rintro e w1 ⟨⟨a, b, m, a', b', m', rfl, q1, q2⟩, hb1⟩; obtain ⟨rfl, rfl, c, rfl, _⟩ := HQ.out _ _ _ _ q1; obtain ⟨rfl, rfl, c', rfl, _⟩ := HQ2.out _ _ _ _ q2; clear q1 q2)
  go_ret2
  exact ⟨rfl, (hb1.alloc hb1.size _).alloc (by have := hb1.size; simp; omega) _⟩
set_option maxRecDepth 8000 in
set_option maxHeartbeats 1600000 in
theorem impl_BelowPicture_yes (s t : ByteArray) (w : World) (hs : s.size ≤ 2000000) (ht : t.size ≤ 2000000) (hM : MaxL w) (hp : isPic s.data.toList = true) (hq : isPic t.data.toList = true) (h : pW s.data.toList = pW t.data.toList) :
    Calls Tryz.prog 21 #[.string s, .string t] w fun e w' => e = .returned (if pH s.data.toList + pH t.data.toList ≤ 24 then .tuple #[.string (bt (gText (pW s.data.toList) (pH s.data.toList + pH t.data.toList) (uD (pW s.data.toList) (pH s.data.toList) (pD s.data.toList) (pD t.data.toList)))), .bool true] else .tuple #[.string ⟨#[]⟩, .bool false]) ∧ Below w.heap.size w w' := by
  have HR := Lib.hid (readPictures_any s t w hs ht hM)
  rw [hp, hq] at HR
  have HQ := Lib.hid (show ∀ V a b m, RdQ s.data.toList V a b m → a = (pW s.data.toList : Int) ∧ b = (pH s.data.toList : Int) ∧ ∃ c, m = some c ∧ Ds V c (gS (pW s.data.toList) (pH s.data.toList) (pD s.data.toList)) from fun V a b m h => h hp)
  have HQ2 := Lib.hid (show ∀ V a b m, RdQ t.data.toList V a b m → a = (pW t.data.toList : Int) ∧ b = (pH t.data.toList : Int) ∧ ∃ c, m = some c ∧ Ds V c (gS (pW t.data.toList) (pH t.data.toList) (pD t.data.toList)) from fun V a b m h => h hq)
  have pa := pic_b hp
  have pb := pic_b hq
  obtain ⟨a0, a1, a2, a3⟩ : 1 ≤ pW s.data.toList ∧ pW s.data.toList ≤ 24 ∧ 1 ≤ pH s.data.toList ∧ pH s.data.toList ≤ 24 := ⟨pa.w0, pa.w1, pa.h0, pa.h1⟩
  obtain ⟨b0, b1⟩ : 1 ≤ pH t.data.toList ∧ pH t.data.toList ≤ 24 := ⟨pb.h0, pb.h1⟩
  rw [← sT_below]
  rw [← h] at HQ2
  have HBT := Lib.hid (gS_bd (pW s.data.toList) (pH t.data.toList) (pD t.data.toList))
  clear hp hq pa pb hM h
  generalize gS (pW s.data.toList) (pH t.data.toList) (pD t.data.toList) = T at *
  generalize gS (pW s.data.toList) (pH s.data.toList) (pD s.data.toList) = S at *
  generalize pW s.data.toList = W at *
  generalize pH s.data.toList = H at *
  generalize pH t.data.toList = V at *
  obtain ⟨r, ok, hr, HT⟩ : ∃ (r : ByteArray) (ok : Bool), (if H + V ≤ 24 then (Value.tuple #[.string (bt (sT W (H + V) (uS (fun x y => T x (y - H)) S))), .bool true]) else .tuple #[.string ⟨#[]⟩, .bool false]) = .tuple #[.string r, .bool ok] ∧ Hid (∀ V1 x, Ds V1 x (uS (fun x y => T x (y - H)) S) → Calls Tryz.prog 58 #[.agg #[.int .i64 (W : Int), .int .i64 ((H : Int) + V), .map (some x)]] V1 fun e w' => e = .returned (.tuple #[.string r, .bool ok]) ∧ Below V1.heap.size V1 w') := by
    by_cases hw : H + V ≤ 24
    · rw [if_pos hw]
      refine ⟨_, _, rfl, Lib.hid fun V1 x h => ?_⟩
      have k := tlim_yes W (H + V) x (uS (fun x y => T x (y - H)) S) V1 h a0 a1 (by omega) hw
      rw [show ((H + V : Nat) : Int) = (H : Int) + V from by omega] at k
      exact k
    · rw [if_neg hw]
      exact ⟨_, _, rfl, Lib.hid fun V1 x _ => tlim_no _ _ x V1 (show limB W ((H : Int) + V) = false from by unfold limB; rw [betr_yes (by omega) (by omega), betr_no (by omega)]; rfl)⟩
  rw [hr]
  clear hr
  go_enter Tryz.func21, Tryz.ntmps21
  go_wp2_with (first
    | (go_at_call 57; refine (HR.out).mono ?_; rintro e w1 ⟨⟨a, b, m, a', b', m', rfl, q1, q2⟩, hb1⟩; obtain ⟨rfl, rfl, c, rfl, d1⟩ := HQ.out _ _ _ _ q1; obtain ⟨rfl, rfl, c', rfl, d2⟩ := HQ2.out _ _ _ _ q2; have HJ := Lib.hid (show ∀ V1, Ds V1 c S → Ds V1 c' T → Calls Tryz.prog 59 #[.agg #[.int .i64 (W : Int), .int .i64 (H : Int), .map (some c)], .agg #[.int .i64 (W : Int), .int .i64 (V : Int), .map (some c')], .agg #[.int .i64 0, .int .i64 (H : Int)]] V1 fun e w' => (∃ x, e = .returned (.agg #[.int .i64 (W : Int), .int .i64 ((H + V : Nat) : Int), .map (some x)]) ∧ Ds w' x (uS (fun x y => T x (y - H)) S)) ∧ Below V1.heap.size V1 w' from fun V1 x y => by
        have k := joined_any W H W V 0 H W (H + V) c c' S T V1 x y (by omega) (by omega) (fun x y hxy => by have := HBT.out x y hxy; omega) (by omega) (by omega) (by omega) (by omega) (by omega) (by omega)
        simp only [show ((0 : Nat) : Int) = 0 from rfl, Int.sub_zero] at k
        exact k); have D1 := Lib.hid ((d1.alloc (.cells #[.int .i64 (W : Int), .int .i64 (H : Int), .map (some c)] 57)).alloc (.cells #[.int .i64 (W : Int), .int .i64 (V : Int), .map (some c')] 57)); have D2 := Lib.hid ((d2.alloc (.cells #[.int .i64 (W : Int), .int .i64 (H : Int), .map (some c)] 57)).alloc (.cells #[.int .i64 (W : Int), .int .i64 (V : Int), .map (some c')] 57)); have HB1 := Lib.hid ((hb1.alloc hb1.size (.cells #[.int .i64 (W : Int), .int .i64 (H : Int), .map (some c)] 57)).alloc (by have := hb1.size; simp; omega) (.cells #[.int .i64 (W : Int), .int .i64 (V : Int), .map (some c')] 57)); clear q1 q2 d1 d2 hb1 HBT)
    | (go_at_call 59; refine (HJ.out _ D1.out D2.out).mono ?_; rintro e w3 ⟨⟨x, rfl, d3⟩, hb3⟩; have HB3 := Lib.hid (HB1.out.trans (hb3.mono HB1.out.size)); clear hb3))
  refine (HT.out _ x d3).mono ?_
  rintro e w4 ⟨rfl, hb4⟩
  go_wp2
  go_ret2
  exact ⟨rfl, HB3.out.trans (hb4.mono HB3.out.size)⟩
end Go.Proofs.YtbabkcjnfdpafaaGreatDoor
