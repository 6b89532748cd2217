/- Chapter 9: the text of a puzzle, by the program. -/
import Derived.Test.YtljleceepghfjaaDoorTiA
import Derived.Test.YtljleceepghfjaaDoorTgA
import Derived.Test.YtljleceepghfjaaDoorShelf
import Derived.Deep.AppendLies
import Derived.Lib.AppendIntMem
import Derived.Deep.RegionHeld3
namespace Go.Proofs.YtljleceepghfjaaDoor
open Go.ChangeShapes Go.WideShapes Go.ChangeAt Go.RowKit

/-- The table that strconv reads. -/
abbrev Tab9 (w : World) : Prop := Lib.TabIs Tryd.prog w "internal/strconv.uint64pow10" .u64 Lib.pow10Tab
theorem tab_below9 {w w' : World} (h : Tab9 w) (hb : Below w.heap.size w w') : Tab9 w' := by
  have hg : Tryd.prog.globalNamed "internal/strconv.uint64pow10" = some 5 := by kernel_rfl
  unfold Tab9 Lib.TabIs World.var? at h ⊢
  rw [hg] at h ⊢
  simp only [Option.bind_some] at h ⊢
  have hlt : 5 < w.heap.size := by
    rcases Nat.lt_or_ge 5 w.heap.size with h' | h'
    · exact h'
    · rw [Array.getElem?_eq_none h'] at h; cases h
  rw [hb.block _ hlt]
  exact h
theorem itoa9 (n : Int) (w : World) (h0 : 0 ≤ n) (h1 : n ≤ 1000) (ht : Tab9 w) : Calls Tryd.prog 38 #[.int .i64 n] w fun e w' => e = .returned (.string (dT n)) ∧ Below w.heap.size w w' := by
  refine (Tryd.strconv_Itoa n (by omega) (by omega) w ht).mono ?_
  rintro e w' ⟨rfl, k, os, rfl⟩
  obtain ⟨m, rfl⟩ := Int.eq_ofNat_of_zero_le h0
  rw [Lib.itoa_nonneg]
  exact ⟨rfl, Lib.below_grow _ _ (Nat.le_refl _) _ _⟩
set_option maxRecDepth 4000 in
set_option maxHeartbeats 1600000 in
theorem clueText_any (qk qa qb : Int) (w : World) (hoq : okc9 ⟨qk, qa, qb⟩ = true) (ht : Tab9 w) :
    Calls Tryd.prog 37 #[.agg #[.int .i64 qk, .int .i64 qa, .int .i64 qb]] w fun e w' => e = .returned (.string (clT ⟨qk, qa, qb⟩)) ∧ Below w.heap.size w w' := by
  obtain ⟨⟨v0, v1⟩, ⟨v2, v3⟩, ⟨v4, v5⟩⟩ := okc9_bds hoq
  simp only at v0 v1 v2 v3 v4 v5
  have l1 := dT_size qk (by omega)
  have l2 := dT_size qa (by omega)
  have l3 := dT_size qb (by omega)
  have k1 := cat_run9 (dT qk) ⟨#[46]⟩ (by rw [one_size]; omega)
  have k2 := cat_run9 (dT qk ++ ⟨#[46]⟩) (dT qa) (by simp only [cat_size, one_size]; omega)
  have k3 := cat_run9 ((dT qk ++ ⟨#[46]⟩) ++ dT qa) ⟨#[46]⟩ (by simp only [cat_size, one_size]; omega)
  have k4 := cat_run9 (((dT qk ++ ⟨#[46]⟩) ++ dT qa) ++ ⟨#[46]⟩) (dT qb) (by simp only [cat_size, one_size]; omega)
  have HBT := Lib.hid (Bt.new w qk qa qb 34)
  have HBW := Lib.hid ((Below.refl w.heap.size w).alloc (Nat.le_refl _) (.cells #[.int .i64 qk, .int .i64 qa, .int .i64 qb] 34))
  have HZT : Hid (w.heap.size < (w.alloc (.cells #[.int .i64 qk, .int .i64 qa, .int .i64 qb] 34)).heap.size) := Lib.hid (by simp)
  have HT := Lib.hid (tab_below9 ht HBW.out)
  clear l1 l2 l3 ht hoq
  go_enter Tryd.func37, Tryd.ntmps37
  go_upto_region 1 with fail
  go_region_held3 (fun W => W.cell? ⟨w.heap.size, 0, none⟩ = some (.int .i64 qk) ∧ W.cell? ⟨w.heap.size, 1, none⟩ = some (.int .i64 qa) ∧ W.cell? ⟨w.heap.size, 2, none⟩ = some (.int .i64 qb))
    (first | with_reducible exact HBT.out.all | with_reducible exact HBT.out.drew.all)
    (first
      | (go_at_call_of 38 qk; refine (itoa9 qk _ (by omega) (by omega) (by first | exact HT.out | exact (tab_below9 HT.out (Below.refl _ _).drew))).mono ?_; rintro e w5 ⟨rfl, b3⟩; have HBT := Lib.hid (show Bt w5 w.heap.size qk qa qb from (by first | exact HBT.out.below HZT.out b3 | exact HBT.out.drew.below HZT.out b3)); have HT := Lib.hid (show Tab9 w5 from (by first | exact tab_below9 HT.out b3 | exact tab_below9 (tab_below9 HT.out (Below.refl _ _).drew) b3)); have HBW := Lib.hid (show Below w.heap.size w w5 from (by first | exact HBW.out.trans (b3.mono HBW.out.size) | exact HBW.out.drew.trans (b3.mono HBW.out.size))); have HZT := Lib.hid (Nat.lt_of_lt_of_le HZT.out b3.size); clear b3)
      | (go_at_call_of 38 qa; refine (itoa9 qa _ (by omega) (by omega) (by first | exact HT.out | exact (tab_below9 HT.out (Below.refl _ _).drew))).mono ?_; rintro e w6 ⟨rfl, b3⟩; have HBT := Lib.hid (show Bt w6 w.heap.size qk qa qb from (by first | exact HBT.out.below HZT.out b3 | exact HBT.out.drew.below HZT.out b3)); have HT := Lib.hid (show Tab9 w6 from (by first | exact tab_below9 HT.out b3 | exact tab_below9 (tab_below9 HT.out (Below.refl _ _).drew) b3)); have HBW := Lib.hid (show Below w.heap.size w w6 from (by first | exact HBW.out.trans (b3.mono HBW.out.size) | exact HBW.out.drew.trans (b3.mono HBW.out.size))); have HZT := Lib.hid (Nat.lt_of_lt_of_le HZT.out b3.size); clear b3)
      | (go_at_call_of 38 qb; refine (itoa9 qb _ (by omega) (by omega) (by first | exact HT.out | exact (tab_below9 HT.out (Below.refl _ _).drew))).mono ?_; rintro e w7 ⟨rfl, b3⟩; have HBT := Lib.hid (show Bt w7 w.heap.size qk qa qb from (by first | exact HBT.out.below HZT.out b3 | exact HBT.out.drew.below HZT.out b3)); have HT := Lib.hid (show Tab9 w7 from (by first | exact tab_below9 HT.out b3 | exact tab_below9 (tab_below9 HT.out (Below.refl _ _).drew) b3)); have HBW := Lib.hid (show Below w.heap.size w w7 from (by first | exact HBW.out.trans (b3.mono HBW.out.size) | exact HBW.out.drew.trans (b3.mono HBW.out.size))); have HZT := Lib.hid (Nat.lt_of_lt_of_le HZT.out b3.size); clear b3))
  go_wp2_with fail
  go_ret
  exact ⟨rfl, HBW.out⟩
/-- The clues' texts as cells. -/
def clS (xs : List Clu) : List Value := xs.map fun q => .string (clT q)
theorem clS_snoc {xs : List Clu} {k : Nat} (h : k < xs.length) : clS (xs.take (k + 1)) = clS (xs.take k) ++ [.string (clT (xs.getD k clu0))] := by
  unfold clS
  rw [take_succ9 xs k h, List.map_append]
  rfl
theorem pzR_eq (m : Int) (xs : List Clu) : pzR m xs xs.length = (dT m ++ ⟨#[58]⟩) ++ ⟨(Lib.join ((xs.map clT).map (·.data.toList)) [44]).toArray⟩ := by
  have h := pzR_join m xs xs.length (Nat.le_refl _)
  rw [List.take_length] at h
  apply ByteArray.ext
  apply Array.toList_inj.1
  rw [h]
  simp [List.map_map, Function.comp_def]
theorem infoStr9 : (Tryd.prog.info? 9).map (fun i => (i.zero, i.size, i.bytes)) = some (some (.string ⟨#[]⟩), 1, 16) := by kernel_rfl
theorem row_cap9 {w : World} {base : Nat} {e : TypeId} {size n d : Nat} {B : Option Addr} {xs : List Value} (h : w.ownsRow base e size (.slice B n d) n xs) : n ≤ d ∧ d ≤ 9223372036854775807 := by
  rcases h.2 with ⟨h1, h2⟩ | ⟨g, cap, cur, hv, _, _, h3, h4, _⟩
  · injection h1 with _ h5 h6
    omega
  · injection hv with _ _ h6
    unfold maxLen at h4
    omega
set_option maxRecDepth 4000 in
set_option maxHeartbeats 3200000 in
theorem pzText_any (m : Int) (A : Option Addr) (n c lo : Nat) (xs : List Clu) (w : World) (hn : xs.length = n) (ha : Own w lo w.heap.size A (c64 xs)) (hok : okp9 m xs = true) (ht : Tab9 w) :
    Calls Tryd.prog 26 #[.agg #[.int .i64 m, .slice A n c]] w fun e w' => e = .returned (.string (pzR m xs n)) ∧ Below w.heap.size w w' := by
  obtain ⟨i0, hi0, hz0, hz1, hz2⟩ := info_parts infoStr9
  unfold okp9 at hok
  simp only [Bool.and_eq_true, decide_eq_true_iff] at hok
  obtain ⟨⟨⟨m0, m5⟩, h6⟩, hall⟩ := hok
  rw [hn] at h6
  have HB0 := Lib.hid ((Below.refl w.heap.size w).alloc (Nat.le_refl _) (.cells #[.int .i64 m, .slice A n c] 24))
  have HQ0 : Hid ((w.alloc (.cells #[.int .i64 m, .slice A n c] 24)).cell? ⟨w.heap.size, 0, none⟩ = some (.int .i64 m)) := Lib.hid (by simp [go_sem])
  have HZ0 : Hid (w.heap.size < (w.alloc (.cells #[.int .i64 m, .slice A n c] 24)).heap.size) := Lib.hid (by simp)
  have HA := Lib.hid (ha.below HB0.out (Nat.le_refl _))
  have HT := Lib.hid (tab_below9 ht HB0.out)
  have HN := Lib.hid hn
  have HAL := Lib.hid hall
  have HS : Hid ((pzR m xs n).size ≤ 228) := Lib.hid (by have := pzR_size (m := m) (xs := xs) (by omega) hall n (by omega); omega)
  have e0 := cat_run9 (dT m) ⟨#[58]⟩ (by have := dT_size m (by omega); rw [one_size]; omega)
  have hE := pzR_eq m xs
  rw [hn] at hE
  have HE := Lib.hid hE
  clear ha hn hall ht hE
  go_enter Tryd.func26, Tryd.ntmps26
  go_upto_region 3 with fail
  generalize hwb : w.alloc (.cells #[.int .i64 m, .slice A n c] 24) = wb at *
  clear hwb
  go_loopw [3, 9] (fun v i wr => ∃ k : Nat, k ≤ n ∧ i = .int .i64 (k : Int) ∧ Hid (wr.ownsRow wb.heap.size 9 1 v k (clS (xs.take k))) ∧ Below wb.heap.size wb wr) (fun _ i _ => n - (intOf i).toNat)
  case atStart => exact ⟨0, by omega, rfl, Lib.hid (World.ownsRow_nil _ _ _ _), Below.refl _ _⟩
  case round =>
    obtain ⟨k, hk, rfl, hown, hb⟩ := hrel
    by_cases hlt : k < n
    · have hki : (k : Int) < (n : Int) := by omega
      have hlx : k < xs.length := by rw [HN.out]; exact hlt
      obtain ⟨g, o, rfl, _, hg, c0, c1, c2⟩ := (HA.out.below hb (by have := HZ0.out; omega)).clue_ hlx
      have hoq : okc9 (xs.getD k clu0) = true := by
        rw [List.getD_eq_getElem?_getD, List.getElem?_eq_getElem hlx, Option.getD_some]
        exact List.all_eq_true.1 HAL.out _ (List.getElem_mem _)
      have hst := clS_snoc hlx
      obtain ⟨⟨qk, qa, qb⟩, hq⟩ : ∃ q, q = xs.getD k clu0 := ⟨_, rfl⟩
      rw [← hq] at c0 c1 c2 hoq hst
      simp only at c0 c1 c2
      have HST := Lib.hid hst
      have HCT := Lib.hid fun (W : World) (hW : Tab9 W) => clueText_any qk qa qb W hoq hW
      have HTW := Lib.hid fun (W : World) (hW : Below wb.heap.size wb W) => tab_below9 HT.out hW
      clear hq hoq hst
      go_wp2_with (first
        | (go_at_call 37; refine (HCT.out _ (HTW.out _ (hb.alloc hb.size _))).mono ?_; rintro e w3 ⟨rfl, b3⟩; have HO3 := Lib.hid (row_below (hown.out.alloc _) b3 (Nat.le_refl _)); have HB3 := Lib.hid ((hb.alloc hb.size _).trans (b3.mono (hb.alloc hb.size _).size)); clear b3)
        | (at_builtin; refine wpList_append_own _ rfl _ _ 30 rfl wb.heap.size 9 i0 (.string ⟨#[]⟩) 1 16 Tryd.underlying30 hi0 hz0 hz1 hz2 rfl (by decide) _ _ _ rfl (HO3.out.alloc _) ⟨w3.heap.size, 0, none⟩ 1 1 [.string (clT ⟨qk, qa, qb⟩)] rfl rfl ?c1 ?c2 ?c3 ?c4 ?c5 ?_))
      case c1 =>
        intro j u hj
        match j, hj with
        | 0, hj => simp at hj; subst hj; simp [Addr.add]
      case c2 => intro u hu; simp at hu; subst hu; rfl
      case c3 => unfold maxLen; omega
      case c4 => omega
      case c5 => have := HB3.out.size; simp; omega
      · intro v' w4 hown' hgrow _
        have HO4 := Lib.hid hown'
        have HB4 := Lib.hid ((HB3.out.alloc HB3.out.size _).grown hgrow (by have := HB3.out.size; simp; omega) fun g hg => (HO3.out.lt g hg).1)
        clear hown' hgrow hown hb c0 c1 c2
        go_wp2
        go_roundw
        case rel => exact ⟨k + 1, by omega, by go_num, Lib.hid (by rw [HST.out]; exact HO4.out), HB4.out⟩
        case measure => simp [intOf]; omega
    · obtain rfl : k = n := by omega
      have hc0 := (hb.cell (p := ⟨w.heap.size, 0, none⟩) HZ0.out).trans HQ0.out
      have HTR := Lib.hid fun (W : World) (hW : Below wr.heap.size wr W) => tab_below9 (tab_below9 HT.out hb) hW
      have ho := hown.out
      rw [List.take_of_length_le (by rw [HN.out]; exact Nat.le_refl _)] at ho
      obtain ⟨B, d, rfl⟩ := row_form ho
      have hcap : k ≤ d := (row_cap9 ho).1
      have HJC0 : ∀ W, Below wr.heap.size wr W → Calls Tryd.prog 39 #[.slice B k d, .string ⟨#[44]⟩] W fun e w' => e = .returned (.string ⟨(Lib.join ((xs.map clT).map (·.data.toList)) [44]).toArray⟩) ∧ Below W.heap.size W w' := fun W hW => by
        rcases Nat.eq_zero_or_pos k with h0 | h0
        · have hx : xs = [] := List.length_eq_zero_iff.1 (by rw [HN.out]; exact h0)
          rw [h0, hx]
          exact (Tryd.strings_Join_none B d ⟨#[44]⟩ W).mono fun e w' ⟨he, hw⟩ => ⟨he, hw ▸ Below.refl _ _⟩
        · obtain ⟨g, hB⟩ : ∃ g, B = some ⟨g, 0, none⟩ := by
            rcases ho.2 with ⟨h1, _⟩ | ⟨g, cap, cur, hv, _⟩
            · injection h1 with _ h5 _
              omega
            · injection hv with h1 _ _
              exact ⟨g, h1⟩
          subst hB
          have hlt := (ho.lt g rfl).2
          have h := Tryd.strings_Join g 0 d (xs.map clT) ⟨#[44]⟩ W (fun j x hx => by
            have h2 := ho.cells (g := g) rfl j (.string x) (by unfold clS; rw [List.getElem?_map] at hx ⊢; cases hq : xs[j]? with | none => rw [hq] at hx; simp at hx | some q => rw [hq] at hx; simp at hx ⊢; exact hx)
            rw [show (⟨g, 0, none⟩ : Addr).add j = ⟨g, 0 + j, none⟩ by unfold Addr.add; split <;> simp_all] at h2
            exact (hW.cell (p := ⟨g, 0 + j, none⟩) hlt).trans h2) (Nat.lt_of_lt_of_le hlt hW.size) (by rw [List.length_map, HN.out]; omega) (by rw [List.length_map, HN.out]; exact hcap) (by show (Lib.join ((xs.map clT).map (·.data.toList)) [44]).length ≤ _; have h9 := HS.out; rw [HE.out, cat_size] at h9; simp only [ByteArray.size, List.size_toArray] at h9; omega)
          rw [List.length_map, HN.out] at h
          exact h
      have HJC := Lib.hid HJC0
      have hsz := HS.out
      rw [HE.out] at hsz
      generalize Lib.join ((xs.map clT).map (·.data.toList)) [44] = J at *
      have e7 := cat_run9 (dT m ++ ⟨#[58]⟩) ⟨J.toArray⟩ (by rw [cat_size] at hsz; omega)
      have HBW := Lib.hid (HB0.out.trans (hb.mono HB0.out.size))
      clear ho hown HJC0 hsz hcap
      go_wp2_with (first
        | (go_at_call 38; refine (itoa9 m _ (by omega) (by omega) (HTR.out _ (Below.refl _ _))).mono ?_; rintro e w3 ⟨rfl, b3⟩; have HB3 := Lib.hid b3; clear b3)
        | (go_at_call 39; refine (HJC.out _ HB3.out).mono ?_; rintro e w4 ⟨rfl, b4⟩; have HB4 := Lib.hid (HB3.out.trans (b4.mono HB3.out.size)); clear b4))
      go_ret
      exact ⟨by rw [HE.out]; rfl, HBW.out.trans (HB4.out.mono HBW.out.size)⟩
set_option maxRecDepth 4000 in
theorem impl_PuzzleText_no (m : Int) (A : Option Addr) (n c lo : Nat) (xs : List Clu) (w : World) (hn : xs.length = n) (hm : n ≤ 1048576) (ha : Own w lo w.heap.size A (c64 xs)) (hno : okp9 m xs = false) :
    Calls Tryd.prog 15 #[.agg #[.int .i64 m, .slice A n c]] w fun e w' => e = .returned (.tuple #[.string ⟨#[]⟩, .bool false]) ∧ Below w.heap.size w w' := by
  have b0 : Below w.heap.size w (w.alloc (.cells #[.int .i64 m, .slice A n c] 24)) := (Below.refl _ _).alloc (Nat.le_refl _) _
  have HP := Lib.hid (isPuzzle_any m A n c _ _ xs _ hn hm (ha.below b0 (Nat.le_refl _)) b0.size)
  rw [hno] at HP
  have HB0 := Lib.hid b0
  clear ha b0 hno
  go_enter Tryd.func15, Tryd.ntmps15
  go_wp2_with (go_at_call 25; refine HP.out.mono ?_; rintro e w1 ⟨rfl, b1⟩; have HB1 := Lib.hid b1; clear b1)
  go_ret2
  exact ⟨rfl, HB0.out.trans (HB1.out.mono HB0.out.size)⟩
set_option maxRecDepth 4000 in
theorem impl_PuzzleText_yes (m : Int) (A : Option Addr) (n c lo : Nat) (xs : List Clu) (w : World) (hn : xs.length = n) (ha : Own w lo w.heap.size A (c64 xs)) (hok : okp9 m xs = true) (ht : Tab9 w) :
    Calls Tryd.prog 15 #[.agg #[.int .i64 m, .slice A n c]] w fun e w' => e = .returned (.tuple #[.string (pzR m xs n), .bool true]) ∧ Below w.heap.size w w' := by
  have h6 : n ≤ 6 := by
    have h := hok
    unfold okp9 at h
    simp only [Bool.and_eq_true, decide_eq_true_iff] at h
    omega
  have b0 : Below w.heap.size w (w.alloc (.cells #[.int .i64 m, .slice A n c] 24)) := (Below.refl _ _).alloc (Nat.le_refl _) _
  have HQ0 : Hid ((w.alloc (.cells #[.int .i64 m, .slice A n c] 24)).cell? ⟨w.heap.size, 0, none⟩ = some (.int .i64 m) ∧ (w.alloc (.cells #[.int .i64 m, .slice A n c] 24)).cell? ⟨w.heap.size, 1, none⟩ = some (.slice A n c)) := Lib.hid ⟨by simp [go_sem], by simp [go_sem]⟩
  have HZ0 : Hid (w.heap.size < (w.alloc (.cells #[.int .i64 m, .slice A n c] 24)).heap.size) := Lib.hid (by simp)
  have HP := Lib.hid (isPuzzle_any m A n c _ _ xs _ hn (by omega) (ha.below b0 (Nat.le_refl _)) b0.size)
  have HT := Lib.hid fun (W : World) (hW : Below w.heap.size w W) => pzText_any m A n c lo xs W hn ((ha.below hW (Nat.le_refl _)).wide (Nat.le_refl _) hW.size) hok (tab_below9 ht hW)
  rw [hok] at HP
  have HB0 := Lib.hid b0
  clear ha b0 hok ht
  go_enter Tryd.func15, Tryd.ntmps15
  go_wp2_with (first
    | (go_at_call 25; refine HP.out.mono ?_; rintro e w1 ⟨rfl, b1⟩; have HB1 := Lib.hid (HB0.out.trans (b1.mono HB0.out.size)); have c0 := (b1.cell (p := ⟨w.heap.size, 0, none⟩) HZ0.out).trans HQ0.out.1; have c1 := (b1.cell (p := ⟨w.heap.size, 1, none⟩) HZ0.out).trans HQ0.out.2; clear b1)
    | (go_at_call 26; refine (HT.out _ HB1.out).mono ?_; rintro e w2 ⟨rfl, b2⟩; have HB2 := Lib.hid (HB1.out.trans (b2.mono HB1.out.size)); clear b2))
  go_ret2
  exact ⟨rfl, HB2.out⟩
end Go.Proofs.YtljleceepghfjaaDoor
