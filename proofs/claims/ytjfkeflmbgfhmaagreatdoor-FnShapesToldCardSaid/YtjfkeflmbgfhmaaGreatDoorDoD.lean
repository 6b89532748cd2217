/- The law FnExactParseShape: both sides, and the walk of the law. -/
import Derived.Test.YtjfkeflmbgfhmaaGreatDoorDoC
import Derived.Test.YtjfkeflmbgfhmaaGreatDoorShelfB
import Derived.Stop.LaidErr
import Derived.Lib.AtoiErrMem
import Derived.Shelf.Strconv.ErrVarAll
import Derived.Lib.Strings
import Derived.Lib.SmallJoins
import Derived.Deep.QuietTactic
import Derived.BigQuiet
namespace Go.Proofs.YtjfkeflmbgfhmaaGreatDoor
open Go.RowKit Go.Shelf

theorem shTxt_data (a b : Int) : (shTxt a b).data.toList = Lib.decDigits a.toNat ++ (58 :: Lib.decDigits b.toNat) := by
  unfold shTxt
  simp
theorem nDigits_lt : ∀ (k u : Nat), u < 10 ^ (k + 1) → Lib.nDigits u ≤ k + 1
  | 0, u, h => by rw [Lib.nDigits_small (by omega)]; omega
  | k + 1, u, h => by
    by_cases hu : u < 10
    · rw [Lib.nDigits_small hu]; omega
    · rw [Lib.nDigits_big hu]
      have := nDigits_lt k (u / 10) (by rw [Nat.pow_succ] at h; omega)
      omega
theorem good_size {s : ByteArray} {a b : Int} (h : Good s a b) : s.size ≤ 9 := by
  obtain ⟨⟨h1, h2, h3, h4⟩, rfl⟩ := h
  have l1 : (Lib.decDigits a.toNat).length ≤ 2 := by
    rw [Lib.decDigits_length]
    exact nDigits_lt 1 _ (by omega)
  have l2 : (Lib.decDigits b.toNat).length ≤ 6 := by
    rw [Lib.decDigits_length]
    exact nDigits_lt 5 _ (by omega)
  have e : (shTxt a b).size = (shTxt a b).data.toList.length := by rw [Array.length_toList]; rfl
  rw [e, shTxt_data]
  simp
  omega
theorem good_fold {s : ByteArray} {a b : Int} (h : Good s a b) : pfold s.data.toList = (a, b) := by
  obtain ⟨⟨h1, h2, h3, h4⟩, rfl⟩ := h
  rw [shTxt_data, pfold_txt]
  congr 1 <;> omega

theorem shParse_long (s : ByteArray) (w : World) (hl : 9 < s.size) (hm : s.size ≤ 1048576) :
    Calls Tryz.prog 61 #[.string s] w fun e w' => e = .returned (.tuple #[.agg #[.int .i64 0, .int .i64 0], .bool false]) ∧ Below w.heap.size w w' := by
  go_enter Tryz.func61, Tryz.ntmps61
  go_wp2
  exact bodyPost_ret (v := .tuple #[.agg #[.int .i64 0, .int .i64 0], .bool false]) (by simp [results, Tryz.results61, go_sem]) rfl ⟨rfl, (Below.refl _ _).alloc (Nat.le_refl _) _⟩

theorem spec_ParseShape_yes (s : ByteArray) (a b : Int) (w : World) (h : Good s a b) :
    Calls Tryz.prog 27 #[.string s] w fun e w' => e = .returned (.tuple #[.agg #[.int .i64 a, .int .i64 b], .bool true]) ∧ Below w.heap.size w w' := by
  have hf := good_fold h
  have C : ∀ W : World, Calls Tryz.prog 61 #[.string s] W fun e w' => e = .returned (.tuple #[.agg #[.int .i64 a, .int .i64 b], .bool true]) ∧ Below W.heap.size W w' := fun W =>
    (shParse_any s W (good_size h)).mono fun e w' ⟨v, he, hv, hb⟩ => by
      rw [hf] at he hv
      rw [hv.2 h] at he
      exact ⟨he, hb⟩
  have HC := Lib.hid C
  clear C hf h
  go_enter Tryz.func27, Tryz.ntmps27
  go_wp2_with (go_at_call 61; refine (HC.out _).mono ?_; rintro e w1 ⟨rfl, hb1⟩; obtain ⟨c1, f1⟩ := bcell hb1; have z1 : w.heap.size < w1.heap.size := by have := hb1.size; simp at this; omega)
  have hB : Below w.heap.size w w1 := ((Below.refl _ _).alloc (Nat.le_refl _) _).trans (hb1.mono (by simp))
  exact bodyPost_ret (v := .tuple #[.agg #[.int .i64 a, .int .i64 b], .bool true]) (by simp [results, Tryz.results27, go_sem, *]) rfl ⟨rfl, ((hB.setCell (by simp) _).setCell (by simp) _).alloc (by have := hB.size; simp; omega) _⟩
theorem spec_ParseShape_no (s : ByteArray) (w : World) (hm : s.size ≤ 1048576) (h : ∀ a b, ¬ Good s a b) :
    Calls Tryz.prog 27 #[.string s] w fun e w' => e = .returned (.tuple #[.agg #[.int .i64 0, .int .i64 0], .bool false]) ∧ Below w.heap.size w w' := by
  have C : ∀ W : World, ∃ a b : Int, Calls Tryz.prog 61 #[.string s] W fun e w' => e = .returned (.tuple #[.agg #[.int .i64 a, .int .i64 b], .bool false]) ∧ Below W.heap.size W w' := fun W => by
    by_cases hl : s.size ≤ 9
    · refine ⟨(pfold s.data.toList).1, (pfold s.data.toList).2, (shParse_any s W hl).mono fun e w' ⟨v, he, hv, hb⟩ => ?_⟩
      have : v = false := by
        cases v with
        | false => rfl
        | true => exact absurd (hv.1 rfl) (h _ _)
      rw [this] at he
      exact ⟨he, hb⟩
    · exact ⟨0, 0, shParse_long s W (by omega) hm⟩
  have HC := Lib.hid C
  clear C h
  go_enter Tryz.func27, Tryz.ntmps27
  go_wp2_with fail
  obtain ⟨a, b, hc⟩ := HC.out (w.alloc (.cells #[.int .i64 0, .int .i64 0] 30))
  have HD := Lib.hid hc
  clear hc
  refine HD.out.mono ?_
  rintro e w1 ⟨rfl, hb1⟩
  obtain ⟨c1, f1⟩ := bcell hb1
  have z1 : w.heap.size < w1.heap.size := by have := hb1.size; simp at this; omega
  have hB : Below w.heap.size w w1 := ((Below.refl _ _).alloc (Nat.le_refl _) _).trans (hb1.mono (by simp))
  go_wp2
  exact bodyPost_ret (v := .tuple #[.agg #[.int .i64 0, .int .i64 0], .bool false]) (by simp [results, Tryz.results27, go_sem, *]) rfl ⟨rfl, ((hB.setCell (by simp) _).setCell (by simp) _).alloc (by have := hB.size; simp; omega) _⟩

/-- internal/stringslite.Cut at a colon. -/
theorem cut_hit (s : ByteArray) (n : Nat) (w : World) (hs : s.size ≤ 1048576) (hn : Lib.indexByte s.data.toList 58 = (n : Int)) (hl : n < s.size) :
    Calls Tryz.prog 67 #[.string s, .string ⟨#[58]⟩] w fun e w' => e = .returned (.tuple #[.string (s.extract 0 n), .string (s.extract (n + 1) s.size), .bool true]) ∧ Below w.heap.size w w' := by
  have C : ∀ W : World, Calls Tryz.prog 75 #[.string s, .string ⟨#[58]⟩] W fun e w' => e = .returned (.int .i64 n) ∧ W = w' := fun W => by
    refine (Tryz.stringslite_Index_one s 58 W).mono fun e w' ⟨he, hw⟩ => ?_
    rw [hn] at he
    exact ⟨he, hw.symm⟩
  have HC := Lib.hid C
  clear C hn
  have e1 : IntKind.i64.wrap ((n : Int) + 1) = (n : Int) + 1 := IntWalk.i64_in _ (by omega)
  have b0 : (0 : Int) ≤ (n : Int) + 1 := by omega
  have b1 : (n : Int) + 1 ≤ (s.size : Int) := by omega
  have b2 : (n : Int) ≤ (s.size : Int) := by omega
  have t1 : ((n : Int) + 1).toNat = n + 1 := by omega
  go_enter Tryz.func67, Tryz.ntmps67
  go_wp2_with (go_at_call 75; refine (HC.out _).mono ?_; rintro e w' ⟨rfl, rfl⟩)
  go_quiet (fail)
  go_wp2
  go_ret3
  exact ⟨rfl, ⟨rfl, rfl, rfl, Nat.le_refl _, fun _ _ => rfl⟩⟩
theorem cut_miss (s : ByteArray) (w : World) (hn : Lib.indexByte s.data.toList 58 = -1) :
    Calls Tryz.prog 67 #[.string s, .string ⟨#[58]⟩] w fun e w' => e = .returned (.tuple #[.string s, .string ⟨#[]⟩, .bool false]) ∧ Below w.heap.size w w' := by
  have C : ∀ W : World, Calls Tryz.prog 75 #[.string s, .string ⟨#[58]⟩] W fun e w' => e = .returned (.int .i64 (-1)) ∧ W = w' := fun W => by
    refine (Tryz.stringslite_Index_one s 58 W).mono fun e w' ⟨he, hw⟩ => ?_
    rw [hn] at he
    exact ⟨he, hw.symm⟩
  have HC := Lib.hid C
  clear C hn
  go_enter Tryz.func67, Tryz.ntmps67
  go_wp2_with (go_at_call 75; refine (HC.out _).mono ?_; rintro e w' ⟨rfl, rfl⟩)
  go_ret3
  exact ⟨rfl, Below.refl _ _⟩
theorem cut_any (s : ByteArray) (hs : s.size ≤ 1048576) : ∃ (l r : ByteArray) (f : Bool), l.size ≤ s.size ∧ r.size ≤ s.size ∧
    (∀ x y, s.data.toList = x ++ 58 :: y → (∀ c ∈ x, c ≠ 58) → l.data.toList = x ∧ r.data.toList = y) ∧
    ∀ w : World, Calls Tryz.prog 45 #[.string s, .string ⟨#[58]⟩] w fun e w' => e = .returned (.tuple #[.string l, .string r, .bool f]) ∧ Below w.heap.size w w' := by
  have hge := Lib.indexByte_ge s.data.toList 58
  have hlt := idx_lt s.data.toList 58
  have hsz : s.data.toList.length = s.size := by rw [Array.length_toList]; rfl
  by_cases h : Lib.indexByte s.data.toList 58 = -1
  · refine ⟨s, ⟨#[]⟩, false, Nat.le_refl _, Nat.zero_le _, fun x y hx hc => ?_, fun w => ?_⟩
    · rw [hx, idx_app x y hc] at h
      omega
    · have C := fun W : World => cut_miss s W h
      have HC := Lib.hid C
      clear C h hge hlt hsz
      go_enter Tryz.func45, Tryz.ntmps45
      go_wp2_with (go_at_call 67; refine (HC.out _).mono ?_; rintro e w' ⟨rfl, hb⟩)
      go_ret3
      exact ⟨rfl, hb⟩
  · obtain ⟨n, hn⟩ := Int.eq_ofNat_of_zero_le (show 0 ≤ Lib.indexByte s.data.toList 58 by omega)
    have hl : n < s.size := by omega
    refine ⟨s.extract 0 n, s.extract (n + 1) s.size, true, ?_, ?_, fun x y hx hc => ?_, fun w => ?_⟩
    · rw [ByteArray.size_extract]; omega
    · rw [ByteArray.size_extract]; omega
    · rw [hx, idx_app x y hc] at hn
      have e : x.length = n := by omega
      refine ⟨?_, ?_⟩
      · rw [Lib.extract_data, hx, List.drop_zero, Nat.sub_zero, ← e, List.take_left]
      · rw [Lib.extract_data, hx, ← e, List.drop_length_add_append]
        rw [List.drop_succ_cons, List.drop_zero, List.take_of_length_le]
        rw [hx] at hsz
        simp at hsz
        omega
    · have C := fun W : World => cut_hit s n W hs hn hl
      have HC := Lib.hid C
      clear C h hge hlt hsz hn hl
      go_enter Tryz.func45, Tryz.ntmps45
      go_wp2_with (go_at_call 67; refine (HC.out _).mono ?_; rintro e w' ⟨rfl, hb⟩)
      go_ret3
      exact ⟨rfl, hb⟩

/-- What strconv.Atoi leaves: the number v, some error or none. -/
def AtP (v : Int) (w : World) (e : Ending) (w' : World) : Prop := ∃ E : Value, e = .returned (.tuple #[.int .i64 v, E]) ∧ Below w.heap.size w w'
/-- The two errors that strconv names lie where they are listed. -/
def Errs (w : World) : Prop := (∃ t p, w.var? Tryz.prog "strconv.ErrSyntax" = some #[.iface t p]) ∧ (∃ t p, w.var? Tryz.prog "strconv.ErrRange" = some #[.iface t p])
theorem var_below {w w' : World} {n : String} {g : Nat} {cs : Array Value} (hg : Tryz.prog.globalNamed n = some g) (h : w.var? Tryz.prog n = some cs) (hb : Below w.heap.size w w') : w'.var? Tryz.prog n = some cs := by
  unfold World.var? at h ⊢
  rw [hg] at h ⊢
  simp only [Option.bind_some] at h ⊢
  have hlt : g < w.heap.size := by
    rcases Nat.lt_or_ge g w.heap.size with h' | h'
    · exact h'
    · rw [Array.getElem?_eq_none h'] at h; cases h
  rw [hb.block _ hlt]
  exact h
theorem Errs.below {w w' : World} (h : Errs w) (hb : Below w.heap.size w w') : Errs w' := by
  obtain ⟨⟨t, p, h1⟩, ⟨t', p', h2⟩⟩ := h
  exact ⟨⟨t, p, var_below (g := 1) (by kernel_rfl) h1 hb⟩, ⟨t', p', var_below (g := 2) (by kernel_rfl) h2 hb⟩⟩
theorem atoi_any (s : ByteArray) (hs : s.size ≤ 1048576) : ∃ v : Int, (∀ u : Nat, u ≤ 1000000000 → s.data.toList = Lib.decDigits u → v = u) ∧
    ∀ w : World, Errs w → Calls Tryz.prog 46 #[.string s] w (AtP v w) := by
  cases h : Lib.atoiAll s.data.toList with
  | ok v =>
    refine ⟨v, fun u hu hd => ?_, fun w _ => ?_⟩
    · rw [hd, atoi_dec u hu] at h
      injection h with h
      exact h.symm
    · refine (Any.strconv_Atoi_ok Tryz.laysC172 s (by omega) v h w).mono fun e w' ⟨he, hw⟩ => ?_
      rcases hw with rfl | ⟨t, rfl⟩
      · exact ⟨_, he, Below.refl _ _⟩
      · exact ⟨_, he, Lib.bytesWorld_below _ _ _⟩
  | range =>
    refine ⟨Lib.atoiSat s.data.toList, fun u hu hd => ?_, fun w hE => ?_⟩
    · rw [hd, atoi_dec u hu] at h
      cases h
    · obtain ⟨_, ⟨t, p, hv⟩⟩ := hE
      refine (Any.strconv_Atoi_range_var Tryz.laysC172 s (by omega) h t p w hv).mono fun e w' ⟨N, he, _, _, hb⟩ => ⟨_, he, hb⟩
  | _ =>
    refine ⟨0, fun u hu hd => ?_, fun w hE => ?_⟩
    · rw [hd, atoi_dec u hu] at h
      cases h
    · obtain ⟨⟨t, p, hv⟩, _⟩ := hE
      refine (Any.strconv_Atoi_syntax_var Tryz.laysC172 s (by omega) h t p w hv).mono fun e w' ⟨N, he, _, _, hb⟩ => ⟨_, he, hb⟩

/-- The program's ParseShape, the pieces of the text known. -/
theorem impl_ParseShape_run (s l r : ByteArray) (f : Bool) (v u : Int) (g : Bool) (a b : Int) (w : World) (hE : Errs w) (ht : Lib.TabIs Tryz.prog w "internal/strconv.uint64pow10" .u64 Lib.pow10Tab)
    (hcut : ∀ w : World, Calls Tryz.prog 45 #[.string s, .string ⟨#[58]⟩] w fun e w' => e = .returned (.tuple #[.string l, .string r, .bool f]) ∧ Below w.heap.size w w')
    (h1 : ∀ w : World, Errs w → Calls Tryz.prog 46 #[.string l] w (AtP v w)) (h2 : ∀ w : World, Errs w → Calls Tryz.prog 46 #[.string r] w (AtP u w))
    (hg : (g = true ∧ a = v ∧ b = u ∧ Good s v u) ∨ (g = false ∧ a = 0 ∧ b = 0 ∧ ¬ Good s v u)) :
    Calls Tryz.prog 11 #[.string s] w fun e w' => e = .returned (.tuple #[.agg #[.int .i64 a, .int .i64 b], .bool g]) ∧ Below w.heap.size w w' := by
  have HE := Lib.hid hE
  have HT := Lib.hid ht
  have HC := Lib.hid hcut
  have H1 := Lib.hid h1
  have H2 := Lib.hid h2
  have HG := Lib.hid hg
  clear hE ht hcut h1 h2 hg
  go_enter Tryz.func11, Tryz.ntmps11
  go_wp2_with fail
  refine (HC.out _).mono ?_
  rintro e w1 ⟨rfl, hb1⟩
  have B1 : Below w.heap.size w w1 := ((Below.refl _ _).alloc (Nat.le_refl _) _).trans (hb1.mono (by simp))
  obtain ⟨c1, f1⟩ := bcell hb1
  have z1 : w.heap.size < w1.heap.size := by have := hb1.size; simp at this; omega
  have p1 : w1.cell? ⟨w.heap.size, 0, none⟩ = some (.int .i64 0) ∧ w1.cell? ⟨w.heap.size, 1, none⟩ = some (.int .i64 0) := ⟨by rw [c1 _ _ (by simp)]; simp [go_sem], by rw [c1 _ _ (by simp)]; simp [go_sem]⟩
  go_wp2_with fail
  refine (H1.out _ (HE.out.below B1)).mono ?_
  rintro e w2 ⟨E1, rfl, hb2⟩
  have B2 : Below w.heap.size w w2 := B1.trans (hb2.mono B1.size)
  obtain ⟨c2, f2⟩ := bcell hb2
  have z2 : w.heap.size < w2.heap.size := by have := hb2.size; omega
  go_wp2_with fail
  refine (H2.out _ (HE.out.below B2)).mono ?_
  rintro e w3 ⟨E2, rfl, hb3⟩
  have B3 : Below w.heap.size w w3 := B2.trans (hb3.mono B2.size)
  obtain ⟨c3, f3⟩ := bcell hb3
  have z3 : w.heap.size < w3.heap.size := by have := hb3.size; omega
  go_wp2_with fail
  have p3 : w3.cell? ⟨w.heap.size, 0, none⟩ = some (.int .i64 0) ∧ w3.cell? ⟨w.heap.size, 1, none⟩ = some (.int .i64 0) := ⟨(c3 _ _ z2).trans ((c2 _ _ z1).trans p1.1), (c3 _ _ z2).trans ((c2 _ _ z1).trans p1.2)⟩
  have B4 : Below w.heap.size w (w3.alloc (.cells #[.int .i64 v, .int .i64 u] 30)) := B3.alloc B3.size _
  rcases HG.out with ⟨rfl, rfl, rfl, hG⟩ | ⟨rfl, rfl, rfl, hG⟩
  · obtain ⟨⟨g1, g2, g3, g4⟩, hs⟩ := hG
    subst hs
    refine (impl_ShapeText_yes _ _ _ g1 g2 g3 g4 (tab_below HT.out B4)).mono ?_
    rintro e w5 ⟨rfl, hb5⟩
    obtain ⟨c5, f5⟩ := bcell hb5
    have z5 : w3.heap.size < w5.heap.size := by have := hb5.size; simp at this; omega
    have p5 : w5.cell? ⟨w.heap.size, 0, none⟩ = some (.int .i64 0) ∧ w5.cell? ⟨w.heap.size, 1, none⟩ = some (.int .i64 0) := ⟨(c5 _ _ (by simp; omega)).trans ((World.cell?_alloc_lt _ _ _ z3).trans p3.1), (c5 _ _ (by simp; omega)).trans ((World.cell?_alloc_lt _ _ _ z3).trans p3.2)⟩
    have c5a := p5.1
    have c5b := p5.2
    have B5 : Below w.heap.size w w5 := B4.trans (hb5.mono B4.size)
    go_wp2
    exact bodyPost_ret (v := .tuple #[.agg #[.int .i64 a, .int .i64 b], .bool true]) (by simp [results, Tryz.results11, go_sem, c5a, c5b]) rfl ⟨rfl, (B5.setCell (by simp) _).setCell (by simp) _⟩
  · by_cases hv : (v < 3 ∨ 24 < v) ∨ (u < 0 ∨ 100000 < u)
    · have HV := Lib.hid hv
      clear hv hG
      refine (impl_ShapeText_no _ _ _ HV.out).mono ?_
      rintro e w5 ⟨rfl, hb5⟩
      obtain ⟨c5, f5⟩ := bcell hb5
      have z5 : w3.heap.size < w5.heap.size := by have := hb5.size; simp at this; omega
      have p5 : w5.cell? ⟨w.heap.size, 0, none⟩ = some (.int .i64 0) ∧ w5.cell? ⟨w.heap.size, 1, none⟩ = some (.int .i64 0) := ⟨(c5 _ _ (by simp; omega)).trans ((World.cell?_alloc_lt _ _ _ z3).trans p3.1), (c5 _ _ (by simp; omega)).trans ((World.cell?_alloc_lt _ _ _ z3).trans p3.2)⟩
      have c5a := p5.1
      have c5b := p5.2
      have B5 : Below w.heap.size w w5 := B4.trans (hb5.mono B4.size)
      go_wp2
      exact bodyPost_ret (v := .tuple #[.agg #[.int .i64 0, .int .i64 0], .bool false]) (by simp [results, Tryz.results11, go_sem, c5a, c5b]) rfl ⟨rfl, (B5.setCell (by simp) _).setCell (by simp) _⟩
    · have hne : ¬ shTxt v u = s := fun h => hG ⟨by omega, h⟩
      have hq : ((shTxt v u).toList == s.toList) = false := by rw [ba_beq]; simpa using hne
      have hq2 : ((shTxt v u).toList != s.toList) = true := by rw [bne, hq]; rfl
      clear hG hne
      refine (impl_ShapeText_yes _ _ _ (by omega) (by omega) (by omega) (by omega) (tab_below HT.out B4)).mono ?_
      rintro e w5 ⟨rfl, hb5⟩
      obtain ⟨c5, f5⟩ := bcell hb5
      have z5 : w3.heap.size < w5.heap.size := by have := hb5.size; simp at this; omega
      have p5 : w5.cell? ⟨w.heap.size, 0, none⟩ = some (.int .i64 0) ∧ w5.cell? ⟨w.heap.size, 1, none⟩ = some (.int .i64 0) := ⟨(c5 _ _ (by simp; omega)).trans ((World.cell?_alloc_lt _ _ _ z3).trans p3.1), (c5 _ _ (by simp; omega)).trans ((World.cell?_alloc_lt _ _ _ z3).trans p3.2)⟩
      have c5a := p5.1
      have c5b := p5.2
      have B5 : Below w.heap.size w w5 := B4.trans (hb5.mono B4.size)
      clear hv
      go_wp2
      exact bodyPost_ret (v := .tuple #[.agg #[.int .i64 0, .int .i64 0], .bool false]) (by simp [results, Tryz.results11, go_sem, c5a, c5b]) rfl ⟨rfl, (B5.setCell (by simp) _).setCell (by simp) _⟩

end Go.Proofs.YtjfkeflmbgfhmaaGreatDoor
