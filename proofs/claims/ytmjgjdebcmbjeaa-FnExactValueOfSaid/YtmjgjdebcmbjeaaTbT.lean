/- Chapter 8, by the specification: tables of differences. -/
import Derived.Test.YtmjgjdebcmbjeaaTbP
namespace Go.Proofs.Ytmjgjdebcmbjeaa
open Go.RowKit

/-- The first k rows of a table. -/
def tbl8 (xs : List Int) (k : Nat) : List (List Int) := (List.range k).map fun i => itr8 dif8 i xs
theorem tbl8_len (xs : List Int) (k : Nat) : (tbl8 xs k).length = k := by simp [tbl8]
theorem tbl8_at (xs : List Int) (k i : Nat) (h : i < k) : rowsOf (tbl8 xs k) i = itr8 dif8 i xs := by
  simp [rowsOf, tbl8, List.getD_eq_getElem?_getD, h]
theorem tbl8_succ (xs : List Int) (k : Nat) : tbl8 xs (k + 1) = tbl8 xs k ++ [itr8 dif8 k xs] := by
  simp [tbl8, List.range_succ]
theorem itd8_len (xs : List Int) : ∀ i, (itr8 dif8 i xs).length = xs.length - i
  | 0 => rfl
  | i + 1 => by rw [itr8, dif8_len, itd8_len xs i]; omega
theorem itd8_bd {xs : List Int} (h : Bd 1000000 xs) : ∀ i, Bd (2 ^ i * 1000000) (itr8 dif8 i xs)
  | 0 => by simpa [itr8] using h
  | i + 1 => by
    have := (itd8_bd h i).dif
    rw [itr8, Int.pow_succ, Int.mul_assoc, Int.mul_comm 2, ← Int.mul_assoc, Int.mul_comm]
    exact this
theorem two12t : ∀ n : Nat, n ≤ 12 → (2 : Int) ^ n * 1000000 ≤ 4096000000 := by decide
def lenV : Value → Nat
  | .slice _ n _ => n
  | _ => 0
set_option maxRecDepth 8000 in
set_option maxHeartbeats 1600000 in
theorem dfTable_any (A : Option Addr) (n c lo hi : Nat) (xs : List Int) (w : World) (hn : xs.length = n) (h0 : 1 ≤ n) (hm : n ≤ 12) (hbd : Bd 1000000 xs) (ha : Own w lo hi A (i64s xs)) (hh : hi ≤ w.heap.size) :
    Calls Try.prog 64 #[.slice A n c] w fun e w' => (∃ B d rs, e = .returned (.slice B n d) ∧ Lists w' w.heap.size (.slice B n d) rs (tbl8 xs n)) ∧ Below w.heap.size w w' := by
  obtain ⟨ir, hir, hzr0, hzr1, hzr2⟩ := info_parts infoRow2
  have HOw := Lib.hid (l1Own8_any A n c hi xs w hn (by omega) ha.rd hh)
  have HL := Lib.hid fun i => itd8_len xs i
  have HBd := Lib.hid fun i (hi : i ≤ 12) => (itd8_bd hbd i).mono (two12t i hi)
  have HN := Lib.hid hn
  have HT := Lib.hid fun k => tbl8_succ xs k
  have HAt := Lib.hid fun k i h => tbl8_at xs k i h
  have HTL := Lib.hid fun k => tbl8_len xs k
  have HI := Lib.hid (show ∀ i, itr8 dif8 (i + 1) xs = dif8 (itr8 dif8 i xs) from fun _ => rfl)
  have H1 : Hid (tbl8 xs 1 = [] ++ [xs]) := Lib.hid rfl
  clear ha hn hbd
  go_enter Try.func64, Try.ntmps64
  go_wp2_with (go_at_call 82; refine HOw.out.mono ?_; rintro e w1 ⟨⟨B0, d0, rfl, hR0⟩, hb0⟩; have HR0 := Lib.hid hR0; have HB0 := Lib.hid hb0; clear hR0 hb0)
  have HL1 : Hid (Lists (w1.alloc (.cells #[.slice B0 n d0] 22)) w.heap.size (.slice (some ⟨w1.heap.size, 0, none⟩) 1 1) ([] ++ [.slice B0 n d0]) (tbl8 xs 1)) := by
    have hown := World.ownsRow_lit (base := w.heap.size) (e := 22) (size := 1) w1 #[.slice B0 n d0] 1 HB0.out.size (by decide) rfl
    rw [H1.out]
    refine Lib.hid (Lists.app (w0 := w) (w := w1) (V := .slice none 0 0) (rs := []) (Lists.nil w w.heap.size) HB0.out (Nat.le_refl _) ?_ hown ?_)
    · rw [HN.out]; exact HR0.out
    · exact World.grownBy.refl _ _
  have HB1 := Lib.hid (HB0.out.alloc HB0.out.size (.cells #[.slice B0 n d0] 22))
  generalize w1.alloc (.cells #[.slice B0 n d0] 22) = w2 at *
  go_loopw [3] (fun v wr => ∃ (k : Nat) (rs : List Value) (A' : Option Addr) (c' : Nat), 1 ≤ k ∧ k ≤ n ∧ v = .slice A' k c' ∧ Hid (Lists wr w.heap.size v rs (tbl8 xs k)) ∧ Hid (Below w.heap.size w wr)) (fun v _ => n - lenV v)
  case atStart => exact ⟨1, _, some ⟨w1.heap.size, 0, none⟩, 1, Nat.le_refl _, h0, rfl, HL1, HB1⟩
  case round =>
    obtain ⟨k, rs, A', c', hk1, hk2, rfl, hLs, hbl⟩ := hrel
    obtain ⟨j, hj⟩ : ∃ j, j + 1 = k := ⟨k - 1, by omega⟩
    obtain ⟨A2, c2, Af, cf, hv, hOL⟩ := hLs.out.ownL
    injection hv with hv1 hv2 hv3
    subst hv1
    rw [HTL.out] at hOL
    obtain ⟨g, o, rfl, hcell, hrow⟩ := hOL.at_ (k := j) (by omega)
    rw [HAt.out k j (by omega)] at hcell hrow
    obtain ⟨q, hq⟩ : ∃ q, q = (itr8 dif8 j xs).length := ⟨_, rfl⟩
    have hqn : q = n - j := by rw [hq, HL.out, HN.out]
    rw [← hq] at hcell
    have e1 : IntKind.i64.wrap ((k : Int) - 1) = (j : Int) := by rw [IntWalk.i64_in _ (by omega)]; omega
    have hj0 : (0 : Int) ≤ (j : Int) := by omega
    have hjk : (j : Int) < (k : Int) := by omega
    clear hOL hv2 hv3
    by_cases hlt : k < n
    · have hq1 : (q : Int) > 1 := by omega
      have HRw := Lib.hid (dfRow_row (Af j) q (cf j) _ _ (itr8 dif8 j xs) wr hq.symm (by omega) hrow (Nat.le_refl _) (fun i => by have := HBd.out j (by omega) i; omega))
      have HQ := Lib.hid hqn
      have HI1 := Lib.hid (HI.out j)
      have HT1 := Lib.hid (HT.out k)
      have HLn : Hid ((itr8 dif8 k xs).length = q - 1) := Lib.hid (by rw [HL.out, HN.out, hqn]; omega)
      rw [hj] at HI1
      have HJ := Lib.hid hj
      rw [← HI1.out] at HRw
      generalize itr8 dif8 k xs = zs at *
      clear hq hqn hrow hj
      go_wp2_with (first
        | (go_at_call 59; refine HRw.out.mono ?_; rintro e w3 ⟨⟨B, d, rfl, hR3⟩, hb3⟩; have HR3 := Lib.hid hR3; have hl3 := Lib.hid (hLs.out.below hb3 (Nat.le_refl _)); have HB3 := Lib.hid hb3; clear hR3 hb3)
        | (at_builtin; refine wpList_append_own _ rfl _ _ 29 rfl w.heap.size 22 ir (.slice none 0 0) 1 24 Try.underlying29 hir hzr0 hzr1 hzr2 rfl (by decide) _ _ _ rfl (hl3.out.2.1.alloc _) ⟨w3.heap.size, 0, none⟩ 1 1 [.slice B (q - 1) d] rfl rfl ?c1 ?c2 ?c3 ?c4 ?c5 ?_))
      case c1 =>
        intro j2 u hj
        match j2, hj with
        | 0, hj => simp at hj; subst hj; simp [Addr.add]
      case c2 => intro u hu; simp at hu; subst hu; rfl
      case c3 => have := hl3.out.1; rw [HTL.out] at this; unfold maxLen; omega
      case c4 => have := hl3.out.1; rw [HTL.out] at this; omega
      case c5 => exact Nat.le_trans hbl.out.size (Nat.le_trans HB3.out.size (by simp))
      · intro v' w5 hown' hgrow _
        obtain ⟨A5, c5, rfl⟩ := row_form hown'
        have hl5 := Lists.app (w0 := wr) (w := w3) (w1 := w5) (xs := zs) hLs.out HB3.out hbl.out.size (by rw [HLn.out]; exact HR3.out) hown' hgrow
        rw [← HT1.out] at hl5
        have hrk : rs.length = k := by rw [hl3.out.1, HTL.out]
        rw [hrk] at hl5 ⊢
        have HL5 := Lib.hid hl5
        have HB5 : Hid (Below w.heap.size w w5) := Lib.hid (((hbl.out.trans (HB3.out.mono hbl.out.size)).alloc (Nat.le_trans hbl.out.size HB3.out.size) _).grown hgrow (Nat.le_trans (Nat.le_trans hbl.out.size HB3.out.size) (by simp)) fun g hg => (hl3.out.2.1.lt g hg).1)
        clear hown' hgrow hl5 hrk
        go_wp2
        exact ⟨⟨k + 1, _, A5, c5, by omega, by omega, rfl, HL5, HB5⟩, by simp [lenV]; omega⟩
    · have hq1 : ¬ (q : Int) > 1 := by omega
      obtain rfl : k = n := by omega
      clear hq hqn hj hrow
      go_wp2
      go_ret
      exact ⟨⟨_, c', rfl, rs, hLs.out⟩, hbl.out⟩
theorem rowcap8 {w : World} {base : Nat} {e : TypeId} {size n c : Nat} {A : Option Addr} {cs : List Value} (h : w.ownsRow base e size (.slice A n c) n cs) : n ≤ c := by
  rcases h.2 with ⟨hv, h0⟩ | ⟨g, cap, cur, hv, hg, hh, hnc, _⟩
  · omega
  · injection hv with _ _ h3
    omega
set_option maxRecDepth 8000 in
set_option maxHeartbeats 1600000 in
theorem dfOf_any (A : Option Addr) (n c lo hi : Nat) (xs : List Int) (w : World) (hn : xs.length = n) (h0 : 1 ≤ n) (hm : n ≤ 12) (hbd : Bd 1000000 xs) (ha : Own w lo hi A (i64s xs)) (hh : hi ≤ w.heap.size) :
    Calls Try.prog 65 #[.slice A n c] w fun e w' => (∃ B d, e = .returned (.slice B (trm8 (fst8 dif8 n xs)).length d) ∧ Own w' w.heap.size w'.heap.size B (i64s (trm8 (fst8 dif8 n xs)))) ∧ Below w.heap.size w w' := by
  obtain ⟨i0, hi0, hz0, hz1, hz2⟩ := info_parts infoInt
  have HTb := Lib.hid (dfTable_any A n c lo hi xs w hn h0 hm hbd ha hh)
  have HL := Lib.hid fun i => itd8_len xs i
  have HN := Lib.hid hn
  have HAt := Lib.hid fun k i h => tbl8_at xs k i h
  have HTL := Lib.hid fun k => tbl8_len xs k
  have HF := Lib.hid fun k => fst8_snoc dif8 k xs
  have HFl := Lib.hid fun k => fst8_len dif8 k xs
  have HTr := Lib.hid fun B d l W (hd : n ≤ d) (h : Own W l W.heap.size B (i64s (fst8 dif8 n xs))) => dfTrim_any B n d l W.heap.size (fst8 dif8 n xs) W (fst8_len _ _ _) (by omega) hd h (Nat.le_refl _)
  have H0 : Hid (i64s (fst8 dif8 0 xs) = []) := Lib.hid rfl
  generalize trm8 (fst8 dif8 n xs) = ts at *
  clear ha hn hbd
  go_enter Try.func65, Try.ntmps65
  go_wp2_with (go_at_call 64; refine HTb.out.mono ?_; rintro e w1 ⟨⟨B0, d0, rs, rfl, hl1⟩, hb1⟩; have HL1 := Lib.hid hl1; have HB1 := Lib.hid hb1; clear hl1 hb1)
  go_loopw [3, 9] (fun v i wr => ∃ (k : Nat) (A' : Option Addr) (c' : Nat), k ≤ n ∧ i = .int .i64 (k : Int) ∧ v = .slice A' k c' ∧ Hid (wr.ownsRow w1.heap.size 3 1 v k (i64s (fst8 dif8 k xs))) ∧ Hid (Below w1.heap.size w1 wr)) (fun _ i _ => n - (intOf i).toNat)
  case atStart => exact ⟨0, none, 0, by omega, by simp, rfl, Lib.hid (by rw [H0.out]; exact World.ownsRow_nil _ _ _ _), Lib.hid (Below.refl _ _)⟩
  case round =>
    obtain ⟨k, A', c', hk, rfl, rfl, hR, hbl⟩ := hrel
    by_cases hlt : k < n
    · have hki : (k : Int) < (n : Int) := by omega
      obtain ⟨A2, c2, Af, cf, hv, hOL⟩ := HL1.out.ownL
      injection hv with hv1 hv2 hv3
      subst hv1
      rw [HTL.out] at hOL
      have hOL2 := hOL.below hbl.out (Nat.le_refl _)
      obtain ⟨g, o, rfl, hcell, hrow⟩ := hOL2.at_ (k := k) hlt
      rw [HAt.out n k hlt] at hcell hrow
      obtain ⟨q, hq⟩ : ∃ q, q = (itr8 dif8 k xs).length := ⟨_, rfl⟩
      have hqn : q = n - k := by rw [hq, HL.out, HN.out]
      rw [← hq] at hcell
      have hq0 : (0 : Int) < (q : Int) := by omega
      obtain ⟨x, hx⟩ : ∃ x, x = (itr8 dif8 k xs).headD 0 := ⟨_, rfl⟩
      obtain ⟨g', o', hAf, _, hg'2, hcs⟩ := hrow (by simp; omega)
      have hcx := (hcs 0 (.int .i64 x) (by rw [hx]; cases h : itr8 dif8 k xs with | nil => rw [h] at hq; simp at hq; omega | cons a l => rfl)).1
      rw [Nat.add_zero] at hcx
      rw [hAf] at hcell
      have HK := Lib.hid (HF.out k)
      rw [← hx] at HK
      have HLk := Lib.hid (HFl.out k)
      clear hq hqn hx hrow hcs hOL hOL2 hv2 hv3 hAf
      go_wp2_with (at_builtin; refine wpList_append_own _ rfl _ _ 22 rfl w1.heap.size 3 i0 (.int .i64 0) 1 8 Try.underlying22 hi0 hz0 hz1 hz2 rfl (by decide) _ _ _ rfl (hR.out.alloc _) ⟨wr.heap.size, 0, none⟩ 1 1 [.int .i64 x] rfl rfl ?c1 ?c2 ?c3 ?c4 ?c5 ?_)
      case c1 =>
        intro j2 u hj
        match j2, hj with
        | 0, hj => simp at hj; subst hj; simp [Addr.add]
      case c2 => intro u hu; simp at hu; subst hu; rfl
      case c3 => unfold maxLen; omega
      case c4 => omega
      case c5 => exact Nat.le_trans hbl.out.size (by simp)
      · intro v' w5 hown' hgrow _
        obtain ⟨A5, c5, rfl⟩ := row_form hown'
        have HO5 : Hid (w5.ownsRow w1.heap.size 3 1 (.slice A5 (k + 1) c5) (k + 1) (i64s (fst8 dif8 (k + 1) xs))) := Lib.hid (by
          rw [HK.out]
          simpa using hown')
        have HB5 : Hid (Below w1.heap.size w1 w5) := Lib.hid ((hbl.out.alloc hbl.out.size _).grown hgrow (Nat.le_trans hbl.out.size (by simp)) fun g hg => (hR.out.lt g hg).1)
        clear hown' hgrow
        go_wp2
        go_roundw
        case rel => exact ⟨k + 1, A5, c5, by omega, by go_num, rfl, HO5, HB5⟩
        case measure => simp [intOf]; omega
    · obtain rfl : k = n := by omega
      have hcap := rowcap8 hR.out
      have HO := Lib.hid (own_of_row hR.out)
      go_wp2_with (go_at_call 86; refine (HTr.out _ _ _ _ hcap HO.out).mono ?_; rintro e w9 ⟨⟨B9, d9, rfl, hO9⟩, hb9⟩)
      go_ret
      exact ⟨⟨B9, d9, rfl, (own_of_row hO9).wide (Nat.le_trans HB1.out.size hbl.out.size) (Nat.le_refl _)⟩, HB1.out.trans ((hbl.out.mono HB1.out.size).trans (hb9.mono (Nat.le_trans HB1.out.size hbl.out.size)))⟩
end Go.Proofs.Ytmjgjdebcmbjeaa
