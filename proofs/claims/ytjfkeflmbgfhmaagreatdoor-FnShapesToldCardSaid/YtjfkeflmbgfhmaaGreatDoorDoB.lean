/- The law FnExactShapeText: contracts and walk. -/
import Derived.Test.YtjfkeflmbgfhmaaGreatDoorDoA
import Derived.Test.YtjfkeflmbgfhmaaGreatDoorSpA
import Derived.Test.YtjfkeflmbgfhmaaGreatDoorImB
import Derived.Test.YtjfkeflmbgfhmaaGreatDoorShelf
import Derived.Deep.RegionHeld3
import Derived.Lib.AppendIntMem
namespace Go.Proofs.YtjfkeflmbgfhmaaGreatDoor
open Go.RowKit

/-- '+' on two texts, wherever it stands. -/
theorem cat_run (x y : ByteArray) (h : x.size + y.size ≤ 1000000) (W : World) : (Op.stringOp .add x y).run Tryz.prog W = .ok (.string (x ++ y)) W := run_string_add_sum W x y (by omega)
/-- The text of a shape. -/
def shTxt (a b : Int) : ByteArray := (⟨(Lib.decDigits a.toNat).toArray⟩ ++ ⟨#[58]⟩) ++ ⟨(Lib.decDigits b.toNat).toArray⟩

theorem shText_any (a b : Int) (w : World) (h0 : 0 ≤ a) (h1 : a ≤ 1000000) (h2 : 0 ≤ b) (h3 : b ≤ 1000000) :
    Calls Tryz.prog 59 #[.agg #[.int .i64 a, .int .i64 b]] w fun e w' => e = .returned (.string (shTxt a b)) ∧ Below w.heap.size w w' := by
  have la := dec_len a.toNat (by omega)
  have lb := dec_len b.toNat (by omega)
  have k1 := cat_run ⟨(Lib.decDigits a.toNat).toArray⟩ ⟨#[58]⟩ (by simp [ByteArray.size]; omega)
  have k2 := cat_run (⟨(Lib.decDigits a.toNat).toArray⟩ ++ ⟨#[58]⟩) ⟨(Lib.decDigits b.toNat).toArray⟩ (by simp [ByteArray.size]; omega)
  go_enter Tryz.func59, Tryz.ntmps59
  go_wp2
  generalize hw2 : w.alloc (.cells #[.int .i64 a, .int .i64 b] 30) = w2
  have c0 : w2.cell? ⟨w.heap.size, 0, none⟩ = some (.int .i64 a) := by rw [← hw2]; simp [go_sem]
  have c1 : w2.cell? ⟨w.heap.size, 1, none⟩ = some (.int .i64 b) := by rw [← hw2]; simp [go_sem]
  have hz : w.heap.size < w2.heap.size := by rw [← hw2]; simp
  have hB : Below w.heap.size w w2 := by rw [← hw2]; exact (Below.refl _ _).alloc (Nat.le_refl _) _
  clear hw2
  go_region_held3 (fun w' => w'.cell? ⟨w.heap.size, 0, none⟩ = some (.int .i64 a) ∧ w'.cell? ⟨w.heap.size, 1, none⟩ = some (.int .i64 b))
    (first | exact ⟨c0, c1⟩ | exact ⟨(hb3.cell (p := ⟨w.heap.size, 0, none⟩) hz).trans c0, (hb3.cell (p := ⟨w.heap.size, 1, none⟩) hz).trans c1⟩ | exact ⟨(hb4.cell (p := ⟨w.heap.size, 0, none⟩) (Nat.lt_of_lt_of_le hz hb3.size)).trans ((hb3.cell (p := ⟨w.heap.size, 0, none⟩) hz).trans c0), (hb4.cell (p := ⟨w.heap.size, 1, none⟩) (Nat.lt_of_lt_of_le hz hb3.size)).trans ((hb3.cell (p := ⟨w.heap.size, 1, none⟩) hz).trans c1)⟩)
    (first
      | (go_at_call_of 71 a; refine (l1Num_dec a _ h0 (by omega)).mono ?_; rintro e w3 ⟨rfl, hb3⟩)
      | (go_at_call_of 71 b; refine (l1Num_dec b _ h2 (by omega)).mono ?_; rintro e w4 ⟨rfl, hb4⟩))
  go_wp2
  go_ret
  exact ⟨rfl, (hB.drew.trans (hb3.mono hB.size)).trans (hb4.mono (Nat.le_trans hB.size hb3.size))⟩

/-- The table that strconv reads is kept by whatever leaves old blocks alone. -/
theorem tab_below {w w' : World} (h : Lib.TabIs Tryz.prog w "internal/strconv.uint64pow10" .u64 Lib.pow10Tab) (hb : Below w.heap.size w w') : Lib.TabIs Tryz.prog w' "internal/strconv.uint64pow10" .u64 Lib.pow10Tab := by
  have hg : Tryz.prog.globalNamed "internal/strconv.uint64pow10" = some 3 := by kernel_rfl
  unfold Lib.TabIs World.var? at h ⊢
  rw [hg] at h ⊢
  simp only [Option.bind_some] at h ⊢
  have hlt : 3 < w.heap.size := by
    rcases Nat.lt_or_ge 3 w.heap.size with h' | h'
    · exact h'
    · rw [Array.getElem?_eq_none h'] at h; cases h
  rw [hb.block _ hlt]
  exact h
/-- strconv.Itoa of a number that is not below 0. -/
theorem itoa_dec (n : Int) (w : World) (h0 : 0 ≤ n) (h1 : n ≤ 1000000000) (ht : Lib.TabIs Tryz.prog w "internal/strconv.uint64pow10" .u64 Lib.pow10Tab) :
    Calls Tryz.prog 44 #[.int .i64 n] w fun e w' => e = .returned (.string ⟨(Lib.decDigits n.toNat).toArray⟩) ∧ Below w.heap.size w w' := by
  refine (Tryz.strconv_Itoa n (by omega) (by omega) w ht).mono ?_
  rintro e w' ⟨rfl, k, os, rfl⟩
  obtain ⟨m, rfl⟩ := Int.eq_ofNat_of_zero_le h0
  rw [Lib.itoa_nonneg]
  exact ⟨rfl, Lib.below_grow _ _ (Nat.le_refl _) _ _⟩

theorem spec_ShapeText_no (s p : Int) (w : World) (h : (s < 3 ∨ 24 < s) ∨ (p < 0 ∨ 100000 < p)) :
    Calls Tryz.prog 25 #[.agg #[.int .i64 s, .int .i64 p]] w fun e w' => e = .returned (.tuple #[.string ⟨#[]⟩, .bool false]) ∧ Below w.heap.size w w' := by
  have H := Lib.hid h
  clear h
  go_enter Tryz.func25, Tryz.ntmps25
  go_wp2_with (go_at_call 52; refine (shPlace_no _ _ _ H.out).mono ?_; rintro e w' ⟨rfl, rfl⟩)
  go_ret2
  exact ⟨rfl, (Below.refl _ _).alloc (Nat.le_refl _) _⟩
theorem spec_ShapeText_yes (s p : Int) (w : World) (h1 : 3 ≤ s) (h2 : s ≤ 24) (h3 : 0 ≤ p) (h4 : p ≤ 100000) :
    Calls Tryz.prog 25 #[.agg #[.int .i64 s, .int .i64 p]] w fun e w' => e = .returned (.tuple #[.string (shTxt s p), .bool true]) ∧ Below w.heap.size w w' := by
  go_enter Tryz.func25, Tryz.ntmps25
  go_wp2_with (first
    | (go_at_call 52; refine (shPlace_yes _ _ _ h1 h2 h3 h4).mono ?_; rintro e w' ⟨rfl, rfl⟩)
    | (go_at_call 59; refine (shText_any s p _ (by omega) (by omega) h3 (by omega)).mono ?_; rintro e w1 ⟨rfl, hb1⟩))
  go_ret2
  exact ⟨rfl, ((Below.refl _ _).alloc (Nat.le_refl _) _).trans (hb1.mono (by simp))⟩
theorem impl_ShapeText_no (s p : Int) (w : World) (h : (s < 3 ∨ 24 < s) ∨ (p < 0 ∨ 100000 < p)) :
    Calls Tryz.prog 10 #[.agg #[.int .i64 s, .int .i64 p]] w fun e w' => e = .returned (.tuple #[.string ⟨#[]⟩, .bool false]) ∧ Below w.heap.size w w' := by
  have H := Lib.hid h
  clear h
  go_enter Tryz.func10, Tryz.ntmps10
  go_wp2_with (go_at_call 41; refine (asap_no _ _ _ _ H.out).mono ?_; rintro e w' ⟨rfl, rfl⟩)
  go_ret2
  exact ⟨rfl, (Below.refl _ _).alloc (Nat.le_refl _) _⟩
theorem impl_ShapeText_yes (s p : Int) (w : World) (h1 : 3 ≤ s) (h2 : s ≤ 24) (h3 : 0 ≤ p) (h4 : p ≤ 100000) (ht : Lib.TabIs Tryz.prog w "internal/strconv.uint64pow10" .u64 Lib.pow10Tab) :
    Calls Tryz.prog 10 #[.agg #[.int .i64 s, .int .i64 p]] w fun e w' => e = .returned (.tuple #[.string (shTxt s p), .bool true]) ∧ Below w.heap.size w w' := by
  have la := dec_len s.toNat (by omega)
  have lb := dec_len p.toNat (by omega)
  have k1 := cat_run ⟨(Lib.decDigits s.toNat).toArray⟩ ⟨#[58]⟩ (by simp [ByteArray.size]; omega)
  have k2 := cat_run (⟨(Lib.decDigits s.toNat).toArray⟩ ++ ⟨#[58]⟩) ⟨(Lib.decDigits p.toNat).toArray⟩ (by simp [ByteArray.size]; omega)
  have HT := Lib.hid ht
  clear ht
  go_enter Tryz.func10, Tryz.ntmps10
  go_wp2_with (go_at_call 41; refine (asap_yes _ _ _ _ h1 h2 h3 h4).mono ?_; rintro e w' ⟨rfl, rfl⟩)
  generalize hw2 : w.alloc (.cells #[.int .i64 s, .int .i64 p] 30) = w2
  have c0 : w2.cell? ⟨w.heap.size, 0, none⟩ = some (.int .i64 s) := by rw [← hw2]; simp [go_sem]
  have c1 : w2.cell? ⟨w.heap.size, 1, none⟩ = some (.int .i64 p) := by rw [← hw2]; simp [go_sem]
  have hz : w.heap.size < w2.heap.size := by rw [← hw2]; simp
  have hB : Below w.heap.size w w2 := by rw [← hw2]; exact (Below.refl _ _).alloc (Nat.le_refl _) _
  clear hw2
  have HT2 := Lib.hid (tab_below HT.out hB)
  go_region_held3 (fun w' => w'.cell? ⟨w.heap.size, 0, none⟩ = some (.int .i64 s) ∧ w'.cell? ⟨w.heap.size, 1, none⟩ = some (.int .i64 p))
    (first | exact ⟨c0, c1⟩ | exact ⟨(hb3.cell (p := ⟨w.heap.size, 0, none⟩) hz).trans c0, (hb3.cell (p := ⟨w.heap.size, 1, none⟩) hz).trans c1⟩ | exact ⟨(hb4.cell (p := ⟨w.heap.size, 0, none⟩) (Nat.lt_of_lt_of_le hz hb3.size)).trans ((hb3.cell (p := ⟨w.heap.size, 0, none⟩) hz).trans c0), (hb4.cell (p := ⟨w.heap.size, 1, none⟩) (Nat.lt_of_lt_of_le hz hb3.size)).trans ((hb3.cell (p := ⟨w.heap.size, 1, none⟩) hz).trans c1)⟩)
    (first
      | (go_at_call_of 44 s; refine (itoa_dec s _ (by omega) (by omega) ?_).mono ?_; exact HT2.out; rintro e w3 ⟨rfl, hb3⟩)
      | (go_at_call_of 44 p; refine (itoa_dec p _ h3 (by omega) ?_).mono ?_; exact tab_below HT2.out ((Below.refl _ w2).drew.trans hb3); rintro e w4 ⟨rfl, hb4⟩))
  go_wp2
  go_ret2
  exact ⟨rfl, (hB.drew.trans (hb3.mono hB.size)).trans (hb4.mono (Nat.le_trans hB.size hb3.size))⟩

end Go.Proofs.YtjfkeflmbgfhmaaGreatDoor
