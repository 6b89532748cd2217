/- The texts XDtA XDtB XDtC XDtD XDtE XDtF XDtG XDtH XDtI XDtJ XDtK XDtL joined. -/
import Derived.Test.YtkjibcnddknbjaaDoorMtB
import Derived.Lib.Hide
import Derived.Deep.DeepCutAuto
import Derived.Lib.OthersKept
import Derived.WalkSmall
import Derived.Laws.OwnMore
import Derived.Laws.AppendOwnNone
/- Chapter 7: the specification's parts of a text. -/
namespace Go.Proofs.YtkjibcnddknbjaaDoor
open Go.ChangeShapes Go.WideShapes Go.ChangeAt Go.RowKit

theorem infoStr : (Tryd.prog.info? 9).map (fun i => (i.zero, i.size, i.bytes)) = some (some (.string ⟨#[]⟩), 1, 16) := by kernel_rfl
/-- Texts as cells. -/
def strs (xs : List (List UInt8)) : List Value := xs.map fun x => .string (bt x)
theorem strs_app (xs : List (List UInt8)) (x : List UInt8) : strs xs ++ [.string (bt x)] = strs (xs ++ [x]) := by simp [strs]
theorem strs_len (xs : List (List UInt8)) : (strs xs).length = xs.length := by simp [strs]
theorem ba_get (s : ByteArray) (k : Nat) (h : k < s.size) : s.data.toList[k]? = some s[k] := by
  have : k < s.data.toList.length := by simpa using h
  rw [List.getElem?_eq_getElem this]
  simp [ByteArray.getElem_eq_getElem_data]
theorem ba_cut (s : ByteArray) (i j : Nat) : s.extract i j = bt ((s.data.toList.take j).drop i) := by
  have h := bt_cut s.data.toList i j
  rw [← bt_of] at h
  exact h
set_option maxRecDepth 4000 in
set_option maxHeartbeats 1600000 in
theorem l1Split_any (s : ByteArray) (w : World) (hs : s.size ≤ 1000000) :
    Calls Tryd.prog 12 #[.string s, .int .u8 47] w fun e w' => (∃ A c, e = .returned (.slice A (parts s.data.toList 47).length c) ∧ w'.ownsRow w.heap.size 9 1 (.slice A (parts s.data.toList 47).length c) (parts s.data.toList 47).length (strs (parts s.data.toList 47))) ∧ Below w.heap.size w w' := by
  obtain ⟨i0, hi0, hz0, hz1, hz2⟩ := info_parts infoStr
  have HP : Hid (parts s.data.toList 47 = (upP s.data.toList 47 s.size).1 ++ [(s.data.toList.take s.size).drop (upP s.data.toList 47 s.size).2]) := Lib.hid (by rw [List.take_of_length_le (by simp)]; simp [parts])
  have HU := Lib.hid fun k => upP_le s.data.toList 47 k
  have HL := Lib.hid fun k => upP_len s.data.toList 47 k
  have HSU := Lib.hid fun k => (show upP s.data.toList 47 (k + 1) = if s.data.toList[k]? = some 47 then ((upP s.data.toList 47 k).1 ++ [(s.data.toList.take k).drop (upP s.data.toList 47 k).2], k + 1) else upP s.data.toList 47 k from rfl)
  have HC := Lib.hid fun i j => ba_cut s i j
  go_enter Tryd.func12, Tryd.ntmps12
  go_wp2
  go_loopw [5, 6, 7] (fun v f i wr => ∃ k : Nat, k ≤ s.size ∧ i = .int .i64 (k : Int) ∧ f = .int .i64 ((upP s.data.toList 47 k).2 : Int) ∧ Hid (wr.ownsRow w.heap.size 9 1 v (upP s.data.toList 47 k).1.length (strs (upP s.data.toList 47 k).1)) ∧ Hid (Below w.heap.size w wr)) (fun _ _ i _ => s.size - (intOf i).toNat)
  case atStart => exact ⟨0, by omega, by simp, by simp [upP], Lib.hid (World.ownsRow_nil _ _ _ _), Lib.hid (Below.refl _ _)⟩
  case round =>
    obtain ⟨k, hk, rfl, rfl, hown, hb⟩ := hrel
    by_cases hlt : k < s.size
    · have hlt2 : (k : Int) < (s.size : Int) := by omega
      have hg := ba_get s k hlt
      have hsu := HSU.out k
      have hu := HU.out k
      have hl := HL.out k
      have hcut := HC.out (upP s.data.toList 47 k).2 k
      generalize upP s.data.toList 47 k = st at *
      obtain ⟨P, f⟩ := st
      simp only at hu hl hcut hown hsu ⊢
      by_cases hc : s[k] = 47
      · have hB : ((s[k].toNat : Int) == 47) = true := by rw [hc]; rfl
        rw [hg, hc, if_pos rfl] at hsu
        have HSK := Lib.hid hsu
        have HCUT := Lib.hid hcut
        have hf0 : (0 : Int) ≤ (f : Int) := by omega
        have hf1 : (f : Int) ≤ (k : Int) := by omega
        clear hsu hg hc hcut
        go_wp2_with (at_builtin; refine wpList_append_own _ rfl _ _ 25 rfl w.heap.size 9 i0 (.string ⟨#[]⟩) 1 16 Tryd.underlying25 hi0 hz0 hz1 hz2 rfl (by decide) _ _ _ rfl (hown.out.alloc _) ⟨wr.heap.size, 0, none⟩ 1 1 [.string (s.extract f k)] rfl rfl ?c1 ?c2 ?c3 ?c4 ?c5 ?_)
        case c1 =>
          intro j u hj
          match j, hj with
          | 0, hj => simp at hj; subst hj; simp [Addr.add]
        case c2 => intro u hu; simp at hu; subst hu; rfl
        case c3 => unfold maxLen; omega
        case c4 => omega
        case c5 => have := hb.out.size; simp; omega
        · intro v' w4 hown' hgrow _
          have HO4 := Lib.hid hown'
          have HB4 := Lib.hid ((hb.out.alloc hb.out.size _).grown hgrow (by have := hb.out.size; simp; omega) fun g hg => (hown.out.lt g hg).1)
          clear hown' hgrow hown hb
          go_wp2
          go_roundw
          case rel =>
            refine ⟨k + 1, by omega, by go_num, by rw [HSK.out]; go_num, Lib.hid ?_, HB4⟩
            rw [HSK.out]
            simp only [List.length_append, List.length_singleton]
            rw [← strs_app, ← HCUT.out]
            exact HO4.out
          case measure => simp [intOf]; omega
      · have hB : ((s[k].toNat : Int) == 47) = false := by
          have : ¬ s[k].toNat = 47 := fun e => hc (UInt8.toNat_inj.1 e)
          simp
          omega
        have hne : ¬ (s.data.toList[k]? = some 47) := by rw [hg]; exact fun e => hc (Option.some.inj e)
        rw [if_neg hne] at hsu
        have HSK := Lib.hid hsu
        clear hsu hg hc hcut hne
        go_wp2
        go_roundw
        case rel => exact ⟨k + 1, by omega, by go_num, by rw [HSK.out], by rw [HSK.out]; exact hown, hb⟩
        case measure => simp [intOf]; omega
    · obtain rfl : k = s.size := by omega
      have hu := HU.out s.size
      have hl := HL.out s.size
      have hcut := HC.out (upP s.data.toList 47 s.size).2 s.size
      have hpp := HP.out
      generalize upP s.data.toList 47 s.size = st at *
      obtain ⟨P, f⟩ := st
      simp only at hu hl hcut hown hpp ⊢
      have HPP := Lib.hid hpp
      have HCUT := Lib.hid hcut
      have HE : Hid ((parts s.data.toList 47).length = P.length + 1) := Lib.hid (by rw [hpp]; simp)
      have hf0 : (0 : Int) ≤ (f : Int) := by omega
      have hf1 : (f : Int) ≤ (s.size : Int) := by omega
      clear hpp hcut
      go_wp2_with (at_builtin; refine wpList_append_own _ rfl _ _ 25 rfl w.heap.size 9 i0 (.string ⟨#[]⟩) 1 16 Tryd.underlying25 hi0 hz0 hz1 hz2 rfl (by decide) _ _ _ rfl (hown.out.alloc _) ⟨wr.heap.size, 0, none⟩ 1 1 [.string (s.extract f s.size)] rfl rfl ?c1 ?c2 ?c3 ?c4 ?c5 ?_)
      case c2 => rfl
      case c3 => unfold maxLen; omega
      case c4 => omega
      case c5 => have := hb.out.size; simp; omega
      · intro v' w4 hown' hgrow _
        obtain ⟨A, c, rfl⟩ := row_form hown'
        have HO4 := Lib.hid hown'
        have HB4 := Lib.hid ((hb.out.alloc hb.out.size _).grown hgrow (by have := hb.out.size; simp; omega) fun g hg => (hown.out.lt g hg).1)
        clear hown' hgrow hown hb
        go_wp2
        go_ret
        refine ⟨⟨A, c, by rw [HE.out]; rfl, ?_⟩, HB4.out⟩
        rw [HE.out, HPP.out, ← strs_app, ← HCUT.out]
        exact HO4.out
end Go.Proofs.YtkjibcnddknbjaaDoor
/- Chapter 7: the specification's rows of a picture. -/
namespace Go.Proofs.YtkjibcnddknbjaaDoor
open Go.ChangeShapes Go.WideShapes Go.ChangeAt Go.RowKit

/-- A row as it must be. -/
def okRow (W : Nat) (r : List UInt8) : Bool := decide (r.length = W) && r.all isSgn
theorem rowsOk_iff (R : List (List UInt8)) : rowsOk R = true ↔ R.length ≤ 24 ∧ 1 ≤ (R.headD []).length ∧ (R.headD []).length ≤ 24 ∧ ∀ j (h : j < R.length), okRow (R.headD []).length R[j] = true := by
  unfold rowsOk
  simp only [Bool.and_eq_true, decide_eq_true_eq]
  constructor
  · rintro ⟨⟨⟨a, b⟩, c⟩, d⟩
    refine ⟨a, b, c, fun j h => ?_⟩
    have := (List.all_eq_true.1 d) _ (List.getElem_mem h)
    simpa [okRow] using this
  · rintro ⟨a, b, c, d⟩
    refine ⟨⟨⟨a, b⟩, c⟩, List.all_eq_true.2 fun r hr => ?_⟩
    obtain ⟨j, hj, rfl⟩ := List.getElem_of_mem hr
    have := d j hj
    simpa [okRow] using this
/-- What doRows answers, R the parts of the text. -/
def DoQ (R : List (List UInt8)) (w : World) (e : Ending) (w' : World) : Prop :=
  ((rowsOk R = true ∧ ∃ A c, e = .returned (.tuple #[.slice A R.length c, .bool true]) ∧ w'.ownsRow w.heap.size 9 1 (.slice A R.length c) R.length (strs R)) ∨
    (rowsOk R = false ∧ e = .returned (.tuple #[.slice none 0 0, .bool false]))) ∧ Below w.heap.size w w'
theorem sg_of (c : UInt8) : isSgn c = true ↔ ¬ ((c.toNat : Int) ≠ 111 ∧ (c.toNat : Int) ≠ 46) := by
  unfold isSgn
  simp only [Bool.or_eq_true, beq_iff_eq, ← UInt8.toNat_inj]
  have e1 : (111 : UInt8).toNat = 111 := rfl
  have e2 : (46 : UInt8).toNat = 46 := rfl
  rw [e1, e2]
  omega
set_option maxRecDepth 4000 in
set_option maxHeartbeats 1600000 in
theorem doRows_of (s : ByteArray) (R : List (List UInt8)) (w : World) (h62 : (s.size : Int) ≤ 600) (hn0 : 1 ≤ R.length) (hn1 : R.length ≤ 601)
    (hS : ∀ W : World, Calls Tryd.prog 12 #[.string s, .int .u8 47] W fun e w' => (∃ A c, e = .returned (.slice A R.length c) ∧ w'.ownsRow W.heap.size 9 1 (.slice A R.length c) R.length (strs R)) ∧ Below W.heap.size W w') :
    Calls Tryd.prog 6 #[.string s] w (DoQ R w) := by
  have HS := Lib.hid hS
  have HOK := Lib.hid (rowsOk_iff R)
  obtain ⟨n, hn⟩ : ∃ n, n = R.length := ⟨_, rfl⟩
  have HN := Lib.hid hn
  have hQ : Hid (∀ e w', DoQ R w e w' = (((rowsOk R = true ∧ ∃ A c, e = .returned (.tuple #[.slice A n c, .bool true]) ∧ w'.ownsRow w.heap.size 9 1 (.slice A n c) n (strs R)) ∨ (rowsOk R = false ∧ e = .returned (.tuple #[.slice none 0 0, .bool false]))) ∧ Below w.heap.size w w')) := Lib.hid fun e w' => by rw [hn]; rfl
  rw [← hn] at hn0 hn1 HS
  clear hS hn
  go_enter Tryd.func6, Tryd.ntmps6
  go_upto_region 4 with (go_at_call 12; refine (HS.out _).mono ?_; rintro e w1 ⟨⟨A, c, rfl, hrow⟩, hb1⟩; have HR := Lib.hid hrow; have HB := Lib.hid hb1; clear hrow hb1)
  obtain ⟨g, o, hA, hg1, hg2⟩ : ∃ g o, A = some ⟨g, o, none⟩ ∧ w.heap.size ≤ g ∧ g < w1.heap.size := by
    obtain ⟨g, o, a, b, c, _⟩ := (own_of_row HR.out).at_ (k := 0) (by rw [strs_len, ← HN.out]; omega)
    exact ⟨g, o, a, b, c⟩
  subst hA
  have HC : Hid (∀ j : Nat, j < n → w1.cell? ⟨g, o + j, none⟩ = some (.string (bt (R.getD j [])))) := Lib.hid fun j hj => by
    have hjl : j < R.length := by rw [← HN.out]; exact hj
    obtain ⟨g', o', hA, _, _, q, _⟩ := (own_of_row HR.out).at_ (k := j) (by rw [strs_len]; exact hjl)
    obtain ⟨rfl, rfl⟩ : g = g' ∧ o = o' := by simpa using hA
    rw [q]
    simp [strs, List.getD, hjl]
  have c0 : w1.cell? ⟨g, o, none⟩ = some (.string (bt (R.getD 0 []))) := HC.out 0 (by omega)
  have hW0 : (bt (R.getD 0 [])).size = (R.headD []).length := by
    rw [bt_size]
    cases R with
    | nil => rfl
    | cons r rs => rfl
  generalize bt (R.getD 0 []) = t0 at *
  obtain ⟨W, hW⟩ : ∃ W, W = t0.size := ⟨_, rfl⟩
  rw [← hW] at hW0
  rw [← hW0] at HOK
  have HWZ := Lib.hid hW
  clear HS hW0 hW
  by_cases hbig : 24 < n
  · have hno : rowsOk R = false := by
      cases hr : rowsOk R
      · rfl
      · have := (HOK.out.1 hr).1
        rw [← HN.out] at this
        omega
    have HNO := Lib.hid hno
    have hb2 : (24 : Int) < (n : Int) := by omega
    clear hno hbig
    go_wp2
    go_ret2
    rw [hQ.out]
    exact ⟨.inr ⟨HNO.out, rfl⟩, HB.out⟩
  · have hb2 : (n : Int) ≤ 24 := by omega
    by_cases hw : (t0.size : Int) < 1 ∨ 24 < (t0.size : Int)
    · have HI := Lib.hid (betr_no hw)
      have hno : rowsOk R = false := by
        cases hr : rowsOk R
        · rfl
        · have := HOK.out.1 hr
          have := HWZ.out
          omega
      have HNO := Lib.hid hno
      clear hno hw
      go_wp2_with (go_at_call 13; refine (rin_any _ _ _ _).mono ?_; rw [HI.out]; rintro e w' ⟨rfl, rfl⟩)
      go_ret2
      rw [hQ.out]
      exact ⟨.inr ⟨HNO.out, rfl⟩, HB.out⟩
    · have HI := Lib.hid (betr_yes (x := (t0.size : Int)) (lo := 1) (hi := 24) (by omega) (by omega))
      have ht0 : (1 : Int) ≤ (t0.size : Int) := by omega
      have ht1 : (t0.size : Int) ≤ 24 := by omega
      clear hw
      go_wp2_with (go_at_call 13; refine (rin_any _ _ _ _).mono ?_; rw [HI.out]; rintro e w' ⟨rfl, rfl⟩)
      have HBAD : Hid (∀ j, j < n → okRow W (R.getD j []) = false → rowsOk R = false) := Lib.hid fun j hj hb => by
        cases hr : rowsOk R
        · rfl
        · have hjl : j < R.length := by rw [← HN.out]; exact hj
          have := (HOK.out.1 hr).2.2.2 j hjl
          have e : R.getD j [] = R[j] := by simp [List.getD, hjl]
          rw [e, this] at hb
          exact hb
      have HALL : Hid ((∀ j, j < n → okRow W (R.getD j []) = true) → rowsOk R = true) := Lib.hid fun ha => by
        refine HOK.out.2 ⟨by rw [← HN.out]; omega, by have := HWZ.out; omega, by have := HWZ.out; omega, fun j hj => ?_⟩
        have := ha j (by rw [HN.out]; exact hj)
        have e : R.getD j [] = R[j] := by simp [List.getD, hj]
        rwa [e] at this
      clear HOK
      go_loopw [26] (fun i wr => wr = w1 ∧ ∃ j : Nat, j ≤ n ∧ i = .int .i64 (j : Int) ∧ Hid (∀ k, k < j → okRow W (R.getD k []) = true)) (fun i _ => n - (intOf i).toNat)
      case atStart => exact ⟨rfl, 0, by omega, by simp, Lib.hid fun k hk => by omega⟩
      case round =>
        obtain ⟨rfl, j, hj, rfl, hok⟩ := hrel
        by_cases hlt : j < n
        · have hlt2 : (j : Int) < (n : Int) := by omega
          have cj := HC.out j hlt
          have hts : (bt (R.getD j [])).size = (R.getD j []).length := bt_size _
          have htg : ∀ (x : Nat) (h : x < (bt (R.getD j [])).size), (R.getD j [])[x]? = some (bt (R.getD j []))[x] := fun x h => by have := ba_get (bt (R.getD j [])) x h; rwa [bt_list] at this
          have hbad := HBAD.out j hlt
          generalize hr : R.getD j [] = r at *
          generalize bt r = t at *
          have HTS := Lib.hid hts
          have HTG := Lib.hid htg
          have HBJ := Lib.hid hbad
          have HRJ := Lib.hid hr
          clear hts htg hbad hr
          by_cases hsz : t.size = t0.size
          · have hB : ((t.size : Int) != (t0.size : Int)) = false := by simp [hsz]
            have HSZ := Lib.hid hsz
            have ht24 : (t.size : Int) ≤ 24 := by omega
            clear hsz
            go_wp2
            go_loopw [7] (fun i w2 => w2 = wr ∧ ∃ x : Nat, x ≤ t.size ∧ i = .int .i64 (x : Int) ∧ Hid (∀ (k : Nat) (h : k < t.size), k < x → isSgn t[k] = true)) (fun i _ => t.size - (intOf i).toNat)
            case atStart => exact ⟨rfl, 0, by omega, by simp, Lib.hid fun k h hk => by omega⟩
            case round =>
              obtain ⟨rfl, x, hx, rfl, hsg⟩ := hrel
              by_cases hxl : x < t.size
              · have hxl2 : (x : Int) < (t.size : Int) := by omega
                have hnext : isSgn t[x] = true → Hid (∀ (k : Nat) (h : k < t.size), k < x + 1 → isSgn t[k] = true) := fun hc => Lib.hid fun k h hk => by
                  rcases Nat.lt_or_ge k x with h1 | h1
                  · exact hsg.out k h h1
                  · obtain rfl : k = x := by omega
                    exact hc
                have HNX := Lib.hid hnext
                clear hnext
                by_cases e1 : (t[x].toNat : Int) = 111
                · have hB1 : ((t[x].toNat : Int) != 111) = false := by simpa using e1
                  have HS2 := Lib.hid (HNX.out ((sg_of t[x]).2 (fun h => h.1 e1)))
                  clear e1
                  go_wp2
                  go_roundw
                  case rel => exact ⟨trivial, x + 1, by omega, by go_num, HS2.out⟩
                  case measure => simp [intOf]; omega
                · have hB1 : ((t[x].toNat : Int) != 111) = true := by simpa using e1
                  by_cases e2 : (t[x].toNat : Int) = 46
                  · have hB2 : ((t[x].toNat : Int) != 46) = false := by simpa using e2
                    have HS2 := Lib.hid (HNX.out ((sg_of t[x]).2 (fun h => h.2 e2)))
                    clear e1 e2
                    go_wp2
                    go_roundw
                    case rel => exact ⟨trivial, x + 1, by omega, by go_num, HS2.out⟩
                    case measure => simp [intOf]; omega
                  · have hB2 : ((t[x].toNat : Int) != 46) = true := by simpa using e2
                    have hns : isSgn t[x] = false := by
                      cases hs : isSgn t[x]
                      · rfl
                      · exact absurd ⟨e1, e2⟩ ((sg_of t[x]).1 hs)
                    have hno : rowsOk R = false := HBJ.out (by
                      have hg := HTG.out x hxl
                      unfold okRow
                      have hall : r.all isSgn = false := by
                        rw [List.all_eq_false]
                        have hlx : x < r.length := by have := HTS.out; omega
                        rw [List.getElem?_eq_getElem hlx] at hg
                        exact ⟨t[x], by rw [← Option.some.inj hg]; exact List.getElem_mem hlx, by rw [hns]; simp⟩
                      rw [hall, Bool.and_false])
                    have HNO := Lib.hid hno
                    clear e1 e2 hns hno
                    go_wp2_with fail
                    go_ret2
                    rw [hQ.out]
                    exact ⟨.inr ⟨HNO.out, rfl⟩, HB.out⟩
              · obtain rfl : x = t.size := by omega
                have hok2 : Hid (∀ k, k < j + 1 → okRow W (R.getD k []) = true) := Lib.hid fun k hk => by
                  rcases Nat.lt_or_ge k j with h1 | h1
                  · exact hok.out k h1
                  · obtain rfl : k = j := by omega
                    rw [HRJ.out]
                    unfold okRow
                    have hl : r.length = W := by
                      have := HTS.out
                      have := HSZ.out
                      have := HWZ.out
                      omega
                    rw [hl]
                    simp only [decide_true, Bool.true_and, List.all_eq_true]
                    intro c hc
                    obtain ⟨y, hy, rfl⟩ := List.getElem_of_mem hc
                    have hyt : y < t.size := by have := HTS.out; omega
                    have hg := HTG.out y hyt
                    rw [List.getElem?_eq_getElem hy] at hg
                    rw [Option.some.inj hg]
                    exact hsg.out y hyt hyt
                go_wp2
                go_roundw
                case rel => exact ⟨trivial, j + 1, by omega, by go_num, hok2⟩
                case measure => simp [intOf]; omega
          · have hB : ((t.size : Int) != (t0.size : Int)) = true := by
              have : ¬ (t.size : Int) = (t0.size : Int) := by omega
              simpa using this
            have hno : rowsOk R = false := HBJ.out (by
              unfold okRow
              have : ¬ r.length = W := by
                have := HTS.out
                have := HWZ.out
                omega
              simp [this])
            have HNO := Lib.hid hno
            clear hsz hno
            go_wp2_with fail
            go_ret2
            rw [hQ.out]
            exact ⟨.inr ⟨HNO.out, rfl⟩, HB.out⟩
        · obtain rfl : j = n := by omega
          have HYES := Lib.hid (HALL.out hok.out)
          go_wp2
          go_ret2
          rw [hQ.out]
          exact ⟨.inl ⟨HYES.out, _, c, rfl, HR.out⟩, HB.out⟩
theorem doRows_any (s : ByteArray) (w : World) (hs : s.size ≤ 10000000) :
    Calls Tryd.prog 6 #[.string s] w (DoQ (parts s.data.toList 47) w) := by
  by_cases h6 : 600 < s.size
  · have hno : rowsOk (parts s.data.toList 47) = false := by
      cases hp : rowsOk (parts s.data.toList 47)
      · rfl
      · have := pic_600 (l := s.data.toList) hp
        simp at this
        omega
    have HN := Lib.hid hno
    have h62 : (600 : Int) < (s.size : Int) := by omega
    clear hno h6
    go_enter Tryd.func6, Tryd.ntmps6
    go_wp2
    go_ret2
    exact ⟨.inr ⟨HN.out, rfl⟩, Below.refl _ _⟩
  · have hPb := parts_len s.data.toList 47
    exact doRows_of s _ w (by omega) hPb.1 (by have := hPb.2; simp at this; omega) fun W => l1Split_any s W (by omega)
end Go.Proofs.YtkjibcnddknbjaaDoor
/- Chapter 7: the specification's texts of rows, dots counted; the laws IsPicture, CountDots, SizeOfPicture. -/
namespace Go.Proofs.YtkjibcnddknbjaaDoor
open Go.ChangeShapes Go.WideShapes Go.ChangeAt Go.RowKit

theorem cat7 (x y : ByteArray) (h : x.size + y.size ≤ 1000000) (W : World) : (Op.stringOp .add x y).run Tryd.prog W = .ok (.string (x ++ y)) W := run_string_add_sum W x y (by omega)
theorem slash_app (a r : List UInt8) : bt a ++ (⟨#[47]⟩ ++ bt r) = bt (a ++ (47 :: r)) := by
  rw [show (⟨#[47]⟩ : ByteArray) = bt [47] from rfl, bt_app, bt_app]
  rfl
theorem joinP_take (R : List (List UInt8)) (j : Nat) (h1 : 1 ≤ j) (h : j < R.length) : joinP 47 (R.take (j + 1)) = joinP 47 (R.take j) ++ (47 :: R.getD j []) := by
  have hne : R.take j ≠ [] := by
    intro e
    have := congrArg List.length e
    rw [List.length_take] at this
    simp only [List.length_nil] at this
    omega
  rw [List.take_succ_eq_append_getElem h, joinP_snoc _ _ _ hne]
  simp [List.getD, h]
theorem joinP_le (R : List (List UInt8)) (hr : ∀ r ∈ R, r.length ≤ 100) (j : Nat) : (joinP 47 (R.take j)).length ≤ j * 101 := by
  induction j with
  | zero => simp [joinP]
  | succ j ih =>
    rcases Nat.lt_or_ge j R.length with h | h
    · rcases Nat.eq_zero_or_pos j with rfl | hj
      · cases R with
        | nil => simp at h
        | cons r rs =>
          have := hr r (by simp)
          simp [joinP]
          omega
      · rw [joinP_take R j hj h]
        have : (R.getD j []).length ≤ 100 := by
          have e : R.getD j [] = R[j] := by simp [List.getD, h]
          rw [e]
          exact hr _ (List.getElem_mem h)
        rw [List.length_append, List.length_cons]
        omega
    · rw [List.take_of_length_le (by omega)]
      rw [List.take_of_length_le (by omega)] at ih
      omega
set_option maxRecDepth 4000 in
set_option maxHeartbeats 800000 in
theorem doText_any (g o n c : Nat) (R : List (List UInt8)) (w : World) (hn : n = R.length) (h1 : 1 ≤ n) (h2 : n ≤ 1000) (hnc : n ≤ c) (hr : ∀ r ∈ R, r.length ≤ 100)
    (hC : ∀ j : Nat, j < n → w.cell? ⟨g, o + j, none⟩ = some (.string (bt (R.getD j [])))) :
    Calls Tryd.prog 8 #[.slice (some ⟨g, o, none⟩) n c] w fun e w' => e = .returned (.string (bt (joinP 47 R))) ∧ w = w' := by
  have HC := Lib.hid hC
  have c0 : w.cell? ⟨g, o, none⟩ = some (.string (bt (R.getD 0 []))) := hC 0 (by omega)
  have HJ := Lib.hid fun j (a : 1 ≤ j) (b : j < n) => joinP_take R j a (by omega)
  have HL := Lib.hid fun j => joinP_le R hr j
  have HF : Hid (joinP 47 (R.take n) = joinP 47 R) := Lib.hid (by rw [List.take_of_length_le (by omega)])
  have H1 : Hid (R.getD 0 [] = joinP 47 (R.take 1)) := Lib.hid (by
    cases R with
    | nil => simp [joinP]
    | cons r rs => simp [joinP])
  have HRL : Hid (∀ j, j < n → (R.getD j []).length ≤ 100) := Lib.hid fun j hj => by
    have hjl : j < R.length := by omega
    have e : R.getD j [] = R[j] := by simp [List.getD, hjl]
    rw [e]
    exact hr _ (List.getElem_mem hjl)
  rw [H1.out] at c0
  clear hC hr hn H1
  have h10 : (1 : Int) ≤ (n : Int) := by omega
  have h11 : (0 : Int) < (n : Int) := by omega
  by_cases hn1 : n = 1
  · subst hn1
    rw [HF.out] at c0
    go_enter Tryd.func8, Tryd.ntmps8
    go_wp2_with fail
    all_goals
      go_loopw [12, 3] (fun i v wr => wr = w ∧ i = .int .i64 0 ∧ v = .string (bt (joinP 47 R))) (fun _ _ _ => 0)
      case atStart => exact ⟨rfl, by simp, rfl⟩
      case round =>
        obtain ⟨rfl, rfl, rfl⟩ := hrel
        go_wp2
        go_ret
        exact ⟨rfl, rfl⟩
  · have hc1 : ¬ c = 1 := by omega
    have hl : IntKind.i64.wrap ((n : Int) - 1) = (n : Int) - 1 := IntWalk.i64_in _ (by omega)
    go_enter Tryd.func8, Tryd.ntmps8
    go_wp2_with fail
    go_loopw [12, 3] (fun i v wr => wr = w ∧ ∃ j : Nat, j ≤ n - 1 ∧ i = .int .i64 (j : Int) ∧ v = .string (bt (joinP 47 (R.take (j + 1))))) (fun i _ _ => n - (intOf i).toNat)
    case atStart => exact ⟨rfl, 0, by omega, by simp, by simp⟩
    case round =>
      obtain ⟨rfl, j, hj, rfl, rfl⟩ := hrel
      by_cases hlt : j < n - 1
      · have hlt2 : (j : Int) < ((n - 1 : Nat) : Int) := by omega
        have cj := HC.out (j + 1) (by omega)
        have e1 := HJ.out (j + 1) (by omega) (by omega)
        have l1 := HL.out (j + 1)
        have l2 := HRL.out (j + 1) (by omega)
        generalize joinP 47 (R.take (j + 1)) = acc at *
        generalize R.getD (j + 1) [] = r at *
        have k1 := cat7 ⟨#[47]⟩ (bt r) (by simp [bt, ByteArray.size]; omega)
        have k2 := cat7 (bt acc) (⟨#[47]⟩ ++ bt r) (by simp [bt, ByteArray.size]; omega)
        rw [slash_app, ← e1] at k2
        have HE := Lib.hid e1
        clear e1 l1 l2
        have cj2 : wr.cell? ⟨g, o + 1 + j, none⟩ = some (.string (bt r)) := by rw [show o + 1 + j = o + (j + 1) by omega]; exact cj
        go_wp2
        go_roundw
        case rel => exact ⟨trivial, j + 1, by omega, by go_num, rfl⟩
        case measure => simp [intOf]; omega
      · obtain rfl : j = n - 1 := by omega
        have e : R.take (n - 1 + 1) = R.take n := by rw [show n - 1 + 1 = n by omega]
        rw [e, HF.out]
        go_wp2
        go_ret
        exact ⟨rfl, rfl⟩
end Go.Proofs.YtkjibcnddknbjaaDoor
/- Chapter 7: rows of a picture in memory; CountDots, SizeOfPicture, by the specification. -/
namespace Go.Proofs.YtkjibcnddknbjaaDoor
open Go.ChangeShapes Go.WideShapes Go.ChangeAt Go.RowKit

/-- Texts that lie in a block of their own. -/
structure RowsAt (w : World) (lo g n : Nat) (R : List (List UInt8)) : Prop where
  cell : ∀ j, j < n → w.cell? ⟨g, j, none⟩ = some (.string (bt (R.getD j [])))
  lo : lo ≤ g
  hi : g < w.heap.size
  n : n = R.length
theorem RowsAt.under {w W : World} {lo g n k : Nat} {R : List (List UInt8)} (h : RowsAt w lo g n R) (hb : Below k w W) (hk : g < k) : RowsAt W lo g n R :=
  ⟨fun j hj => (hb.cell (p := ⟨g, j, none⟩) hk).trans (h.cell j hj), h.lo, Nat.lt_of_lt_of_le h.hi hb.size, h.n⟩
theorem RowsAt.below {w W : World} {lo g n : Nat} {R : List (List UInt8)} (h : RowsAt w lo g n R) (hb : Below w.heap.size w W) : RowsAt W lo g n R := h.under hb h.hi
theorem rows_of_row {w : World} {lo : Nat} {V : Value} {R : List (List UInt8)} (h : w.ownsRow lo 9 1 V R.length (strs R)) (h1 : 1 ≤ R.length) :
    ∃ g c, V = .slice (some ⟨g, 0, none⟩) R.length c ∧ R.length ≤ c ∧ RowsAt w lo g R.length R := by
  have hh := h
  rcases h.2 with ⟨_, h0⟩ | ⟨g, c, cur, rfl, hlo, hcell, hc, hmax, hsz, htk⟩
  · omega
  · refine ⟨g, c, rfl, hc, fun j hj => ?_, hlo, (hh.lt g rfl).2, rfl⟩
    obtain ⟨g', o', hA, _, _, q, _⟩ := (own_of_row hh).at_ (k := j) (by rw [strs_len]; exact hj)
    obtain ⟨rfl, rfl⟩ : g = g' ∧ 0 = o' := by simpa using hA
    rw [Nat.zero_add] at q
    rw [q]
    simp [strs, List.getD, hj]
theorem doRows_yes (s : ByteArray) (w : World) (hs : s.size ≤ 10000000) (h : isPic s.data.toList = true) :
    Calls Tryd.prog 6 #[.string s] w fun e w' => ∃ g c, e = .returned (.tuple #[.slice (some ⟨g, 0, none⟩) (pH s.data.toList) c, .bool true]) ∧ pH s.data.toList ≤ c ∧ RowsAt w' w.heap.size g (pH s.data.toList) (parts s.data.toList 47) ∧ Below w.heap.size w w' := by
  refine (doRows_any s w hs).mono ?_
  rintro e w' ⟨⟨_, A, c, rfl, hrow⟩ | ⟨h2, _⟩, hb⟩
  · obtain ⟨g, c', hV, hc, hr⟩ := rows_of_row hrow (pic_b h).h0
    rw [hV]
    exact ⟨g, c', rfl, hc, hr, hb⟩
  · have : isPic s.data.toList = false := h2
    rw [h] at this
    cases this
theorem doRows_no (s : ByteArray) (w : World) (hs : s.size ≤ 10000000) (h : isPic s.data.toList = false) :
    Calls Tryd.prog 6 #[.string s] w fun e w' => e = .returned (.tuple #[.slice none 0 0, .bool false]) ∧ Below w.heap.size w w' := by
  refine (doRows_any s w hs).mono ?_
  rintro e w' ⟨⟨h2, _⟩ | ⟨_, rfl⟩, hb⟩
  · have : isPic s.data.toList = true := h2
    rw [h] at this
    cases this
  · exact ⟨rfl, hb⟩
end Go.Proofs.YtkjibcnddknbjaaDoor
/- Chapter 7: the specification's pictures of marked places. -/
namespace Go.Proofs.YtkjibcnddknbjaaDoor
open Go.ChangeShapes Go.WideShapes Go.ChangeAt Go.RowKit

/-- The first x signs of a row. -/
def rowK (W : Nat) (d : Nat → Bool) (y x : Nat) : List UInt8 := (List.range x).map fun x => sgn (d (y * W + x))
theorem rowK_succ (W : Nat) (d : Nat → Bool) (y x : Nat) : rowK W d y (x + 1) = rowK W d y x ++ [sgn (d (y * W + x))] := by simp [rowK, List.range_succ]
theorem rowK_all (W : Nat) (d : Nat → Bool) (y : Nat) : rowK W d y W = gRow W d y := rfl
theorem rowK_len (W : Nat) (d : Nat → Bool) (y x : Nat) : (rowK W d y x).length = x := by simp [rowK]
theorem gRows_succ (W y : Nat) (d : Nat → Bool) : gRows W (y + 1) d = gRows W y d ++ [gRow W d y] := by simp [gRows, List.range_succ]
theorem sgn_app (a : List UInt8) (b : Bool) : bt a ++ bt [sgn b] = bt (a ++ [sgn b]) := bt_app _ _
end Go.Proofs.YtkjibcnddknbjaaDoor
/- Chapter 7: the specification's rows mirrored. -/
namespace Go.Proofs.YtkjibcnddknbjaaDoor
open Go.ChangeShapes Go.WideShapes Go.ChangeAt Go.RowKit

theorem bt_cut1 (r : List UInt8) (x : Nat) (hx : x < r.length) : (bt r).extract x (x + 1) = bt [r.getD x 0] := by
  rw [show (bt r).extract x (x + 1) = bt ((r.take (x + 1)).drop x) from by rw [ba_cut]; rfl, List.take_succ_eq_append_getElem hx, List.drop_append]
  simp [List.getD, hx, List.drop_of_length_le, Nat.min_eq_left (Nat.le_of_lt hx)]
theorem rev_succ (r : List UInt8) (t : Nat) (h : t < r.length) : r.reverse.take (t + 1) = r.reverse.take t ++ [r.getD (r.length - 1 - t) 0] := by
  rw [List.take_succ_eq_append_getElem (by rw [List.length_reverse]; exact h), List.getElem_reverse]
  simp [List.getD, show r.length - 1 - t < r.length by omega]
theorem map_succ (R : List (List UInt8)) (f : List UInt8 → List UInt8) (j : Nat) (h : j < R.length) : (R.take (j + 1)).map f = (R.take j).map f ++ [f (R.getD j [])] := by
  rw [List.take_succ_eq_append_getElem h, List.map_append]
  simp [List.getD, h]
set_option maxRecDepth 4000 in
set_option maxHeartbeats 1600000 in
theorem doMirror_any (g n c : Nat) (R : List (List UInt8)) (w : World) (lo : Nat) (hr : RowsAt w lo g n R) (h1 : 1 ≤ n) (h2 : n ≤ 100) (hnc : n ≤ c) (hl : ∀ j, (R.getD j []).length ≤ 100) :
    Calls Tryd.prog 7 #[.slice (some ⟨g, 0, none⟩) n c] w fun e w' => ∃ g' c', e = .returned (.slice (some ⟨g', 0, none⟩) n c') ∧ n ≤ c' ∧ RowsAt w' w.heap.size g' n (R.map List.reverse) ∧ Below w.heap.size w w' := by
  obtain ⟨i0, hi0, hz0, hz1, hz2⟩ := info_parts infoStr
  have HC := Lib.hid hr.cell
  have hg := hr.hi
  have hn := hr.n
  have HL := Lib.hid hl
  have HM := Lib.hid fun j (h : j < n) => map_succ R List.reverse j (by omega)
  have HML : Hid (∀ j, j ≤ n → ((R.take j).map List.reverse).length = j) := Lib.hid fun j hj => by rw [List.length_map, List.length_take]; omega
  have HMA : Hid ((R.take n).map List.reverse = R.map List.reverse) := Lib.hid (by rw [List.take_of_length_le (by omega)])
  have HRN : Hid (R.length = n) := Lib.hid hn.symm
  clear hr hl hn
  go_enter Tryd.func7, Tryd.ntmps7
  go_wp2
  go_loopw [3, 10] (fun v i wr => ∃ j : Nat, j ≤ n ∧ i = .int .i64 (j : Int) ∧ Hid (wr.ownsRow w.heap.size 9 1 v ((R.take j).map List.reverse).length (strs ((R.take j).map List.reverse))) ∧ Hid (Below w.heap.size w wr)) (fun _ i _ => n - (intOf i).toNat)
  case atStart => exact ⟨0, by omega, by simp, Lib.hid (World.ownsRow_nil _ _ _ _), Lib.hid (Below.refl _ _)⟩
  case round =>
    obtain ⟨j, hj, rfl, hown, hb⟩ := hrel
    by_cases hlt : j < n
    · have hlt2 : (j : Int) < (n : Int) := by omega
      have c0 : wr.cell? ⟨g, j, none⟩ = some (.string (bt (R.getD j []))) := (hb.out.cell (p := ⟨g, j, none⟩) hg).trans (HC.out j hlt)
      have hrl := HL.out j
      have hm := HM.out j hlt
      have hml := HML.out j hj
      generalize R.getD j [] = r at *
      generalize (R.take j).map List.reverse = X at *
      have HS := Lib.hid fun t h => rev_succ r t h
      have HX := Lib.hid fun x h => bt_cut1 r x h
      have HRA : Hid (r.reverse.take r.length = r.reverse) := Lib.hid (List.take_of_length_le (by simp))
      have hsz : (bt r).size = r.length := bt_size r
      have HSU := Lib.hid hm
      clear hm
      obtain ⟨L, hL⟩ : ∃ L, L = r.length := ⟨_, rfl⟩
      have HLL := Lib.hid hL
      have HSZ : Hid ((bt r).size = L) := Lib.hid (hsz.trans hL.symm)
      rw [← hL] at hrl hsz
      clear hL
      generalize hbr : bt r = B at *
      have HBR := Lib.hid hbr
      clear hbr
      go_wp2
      go_loopw [6, 7] (fun v i w2 => w2 = wr ∧ ∃ t : Nat, t ≤ L ∧ i = .int .i64 (((L - t : Nat) : Int) - 1) ∧ v = .string (bt (r.reverse.take t))) (fun _ i _ => (intOf i + 1).toNat)
      case atStart => exact ⟨rfl, 0, by omega, by simp, by simp [bt]⟩
      case round =>
        obtain ⟨rfl, t, ht, rfl, rfl⟩ := hrel
        by_cases htl : t < L
        · obtain ⟨x, hx⟩ : ∃ x, L - t = x + 1 := ⟨L - t - 1, by omega⟩
          have hxe : (((L - t : Nat) : Int) - 1) = (x : Int) := by omega
          rw [hxe]
          have hx0 : (x : Int) ≥ 0 := by omega
          have hx1 : (x : Int) + 1 ≤ (L : Int) := by omega
          have hx2 : ((x : Int) + 1).toNat = x + 1 := by omega
          have hs := HS.out t (by rw [← HLL.out]; exact htl)
          have hcx := HX.out x (by rw [← HLL.out]; omega)
          rw [show r.length - 1 - t = x by rw [← HLL.out]; omega] at hs
          generalize r.getD x 0 = u at *
          have k1 := cat7 (bt (r.reverse.take t)) (bt [u]) (by simp [bt, ByteArray.size]; omega)
          rw [bt_app, ← hs] at k1
          clear hs hxe
          go_wp2
          go_roundw
          case rel => exact ⟨trivial, t + 1, by omega, by rw [show L - (t + 1) = x by omega], rfl⟩
          case measure => simp [intOf] <;> omega
        · obtain rfl : t = L := by omega
          have HRA2 : Hid (r.reverse.take t = r.reverse) := Lib.hid (by rw [HLL.out]; exact HRA.out)
          rw [HRA2.out]
          go_wp2_with (at_builtin; refine wpList_append_own _ rfl _ _ 25 rfl w.heap.size 9 i0 (.string ⟨#[]⟩) 1 16 Tryd.underlying25 hi0 hz0 hz1 hz2 rfl (by decide) _ _ _ rfl (hown.out.alloc _) ⟨wr.heap.size, 0, none⟩ 1 1 [.string (bt r.reverse)] rfl rfl ?c1 ?c2 ?c3 ?c4 ?c5 ?_)
          case c1 =>
            intro j u hj
            match j, hj with
            | 0, hj => simp at hj; subst hj; simp [Addr.add]
          case c2 => intro u hu; simp at hu; subst hu; rfl
          case c3 => unfold maxLen; omega
          case c4 => omega
          case c5 => have := hb.out.size; simp; omega
          · intro v' w4 hown' hgrow _
            have HO4 : Hid (w4.ownsRow w.heap.size 9 1 v' ((R.take (j + 1)).map List.reverse).length (strs ((R.take (j + 1)).map List.reverse))) := Lib.hid (by
              rw [HSU.out, ← strs_app, List.length_append, hml]
              exact hown')
            have HB4 := Lib.hid ((hb.out.alloc hb.out.size _).grown hgrow (by have := hb.out.size; simp; omega) fun g hg => (hown.out.lt g hg).1)
            clear hown' hgrow hown hb
            go_wp2
            go_roundw
            case rel => exact ⟨j + 1, by omega, by go_num, HO4, HB4⟩
            case measure => simp [intOf]; omega
    · obtain rfl : j = n := by omega
      have hml := HML.out j (Nat.le_refl _)
      obtain ⟨g2, c2, rfl, hc2, hr⟩ := rows_of_row hown.out (by rw [hml]; exact h1)
      rw [hml] at hc2
      have hr2 : RowsAt wr w.heap.size g2 j (R.map List.reverse) := by
        have := hr
        rw [HMA.out, List.length_map, HRN.out] at this
        exact this
      rw [hml]
      clear hml
      go_wp2
      go_ret
      exact ⟨g2, c2, rfl, hc2, hr2, hb.out⟩
end Go.Proofs.YtkjibcnddknbjaaDoor
/- Chapter 7: the specification's rows turned by a quarter. -/
namespace Go.Proofs.YtkjibcnddknbjaaDoor
open Go.ChangeShapes Go.WideShapes Go.ChangeAt Go.RowKit

/-- The first t signs of column x from below. -/
def clm (W H : Nat) (d : Nat → Bool) (x t : Nat) : List UInt8 := (List.range t).map fun j => sgn (d ((H - 1 - j) * W + x))
theorem clm_succ (W H : Nat) (d : Nat → Bool) (x t : Nat) : clm W H d x (t + 1) = clm W H d x t ++ [sgn (d ((H - 1 - t) * W + x))] := by simp [clm, List.range_succ]
theorem clm_len (W H : Nat) (d : Nat → Bool) (x t : Nat) : (clm W H d x t).length = t := by simp [clm]
theorem clm_all (W H : Nat) (d : Nat → Bool) (x : Nat) : clm W H d x H = gRow H (tD W H d) x := by
  unfold clm gRow
  refine List.map_congr_left fun j hj => ?_
  have hj2 : j < H := List.mem_range.1 hj
  have h0 : 0 < H := by omega
  unfold tD
  rw [Nat.mul_comm x H, Nat.mul_add_mod, Nat.mod_eq_of_lt hj2, Nat.mul_add_div h0, Nat.div_eq_of_lt hj2, Nat.add_zero]
theorem gRow_at (W : Nat) (d : Nat → Bool) (y x : Nat) (h : x < W) : (gRow W d y).getD x 0 = sgn (d (y * W + x)) := by simp [gRow, List.getD, h]
theorem gRows_at (W H : Nat) (d : Nat → Bool) (y : Nat) (h : y < H) : (gRows W H d).getD y [] = gRow W d y := by simp [gRows, List.getD, h]
theorem sgn_128 (b : Bool) : (sgn b).toNat < 128 := by cases b <;> decide
theorem bt_at (r : List UInt8) (x : Nat) (h : x < (bt r).size) : (bt r)[x]'h = r.getD x 0 := by
  have h2 : x < r.length := by rw [← bt_size r]; exact h
  simp only [List.getD, List.getElem?_eq_getElem h2]
  rfl
theorem gRow_128 (W : Nat) (d : Nat → Bool) (y x : Nat) (h : x < (bt (gRow W d y)).size) : ((bt (gRow W d y))[x]'h).toNat < 128 := by
  rw [bt_at, gRow_at _ _ _ _ (by rw [bt_size, gRow_len] at h; exact h)]
  exact sgn_128 _
set_option maxRecDepth 4000 in
set_option maxHeartbeats 1600000 in
theorem doTurn_any (g W H c lo : Nat) (d : Nat → Bool) (w : World) (w0 : 1 ≤ W) (w1 : W ≤ 50) (h0 : 1 ≤ H) (h1 : H ≤ 50) (hnc : H ≤ c) (hr : RowsAt w lo g H (gRows W H d)) :
    Calls Tryd.prog 9 #[.slice (some ⟨g, 0, none⟩) H c] w fun e w' => ∃ g' c', e = .returned (.slice (some ⟨g', 0, none⟩) W c') ∧ W ≤ c' ∧ RowsAt w' w.heap.size g' W (gRows H W (tD W H d)) ∧ Below w.heap.size w w' := by
  obtain ⟨i0, hi0, hz0, hz1, hz2⟩ := info_parts infoStr
  have HC : Hid (∀ y, y < H → w.cell? ⟨g, y, none⟩ = some (.string (bt (gRow W d y)))) := Lib.hid fun y hy => by rw [hr.cell y hy, gRows_at W H d y hy]
  have c0 := HC.out 0 (by omega)
  have hg := hr.hi
  have HGL : Hid (∀ x, (gRows H x (tD W H d)).length = x) := Lib.hid fun x => gRows_len H x _
  have HGS : Hid (∀ x, gRows H (x + 1) (tD W H d) = gRows H x (tD W H d) ++ [clm W H d x H]) := Lib.hid fun x => by rw [gRows_succ, clm_all]
  have hh : (0 : Int) < (H : Int) := by omega
  have H128 := Lib.hid fun x h => gRow_128 W d 0 x h
  have hsz : (bt (gRow W d 0)).size = W := by rw [bt_size, gRow_len]
  obtain ⟨s, hs⟩ : ∃ s, s = bt (gRow W d 0) := ⟨_, rfl⟩
  rw [← hs] at c0 hsz H128
  clear hr hs
  have hk0 : (w.iter s 0).heap[w.heap.size]? = some (.stringIter s 0) := by
    have h5 := World.iter_heap w s 0
    simpa using h5
  have hb0 : Hid (Below w.heap.size w (w.iter s 0)) := Lib.hid ((Below.refl _ w).alloc (Nat.le_refl _) _)
  have hz0' : Hid (w.heap.size + 1 ≤ (w.iter s 0).heap.size) := Lib.hid (by simp [World.iter])
  have HK0 := Lib.hid hk0
  clear hk0
  go_enter Tryd.func9, Tryd.ntmps9
  go_wp2
  go_loopw [3] (fun v wr => ∃ x : Nat, x ≤ W ∧ Hid (wr.heap[w.heap.size]? = some (.stringIter s x)) ∧ Hid (wr.ownsRow (w.heap.size + 1) 9 1 v (gRows H x (tD W H d)).length (strs (gRows H x (tD W H d)))) ∧ Hid (Below w.heap.size w wr) ∧ Hid (w.heap.size + 1 ≤ wr.heap.size)) (fun _ wr => W - wr.iterPos w.heap.size)
  case atStart => exact ⟨0, by omega, HK0, Lib.hid (World.ownsRow_nil _ _ _ _), hb0, hz0'⟩
  case round =>
    obtain ⟨x, hx, hk, hown, hb, hsz1⟩ := hrel
    clear HK0 hb0 hz0'
    by_cases hlt : x < W
    · have hxs : x < s.size := by omega
      have h128 := H128.out x hxs
      have hnext : ∀ ty, (Instr.next (.pointer (some ⟨w.heap.size, 0, none⟩)) true ty).run Tryd.prog wr = _ := fun ty => Lib.run_next_ascii_at wr w.heap.size s x ty hk.out hxs h128
      have hk1 := Lib.hid (Lib.iterAt_heap wr w.heap.size s x (x + 1) hk.out)
      have hb1 := Lib.hid (Lib.below_iterAt hb.out (Nat.le_refl _) s (x + 1))
      have hown1 := Lib.hid (ownsRow_iterAt hown.out (Nat.lt_succ_self _) s (x + 1))
      have hs2 : Hid (w.heap.size + 1 ≤ (wr.iterAt w.heap.size s (x + 1)).heap.size) := Lib.hid (by rw [Lib.iterAt_size]; exact hsz1.out)
      have hmu : wr.iterPos w.heap.size = x := by simp [World.iterPos, hk.out]
      generalize wr.iterAt w.heap.size s (x + 1) = W1 at hnext hk1 hb1 hown1 hs2
      have HC1 : Hid (∀ y, y < H → W1.cell? ⟨g, y, none⟩ = some (.string (bt (gRow W d y)))) := Lib.hid fun y hy => (hb1.out.cell (p := ⟨g, y, none⟩) hg).trans (HC.out y hy)
      have HCS := Lib.hid fun t => clm_succ W H d x t
      have HCL := Lib.hid fun t => clm_len W H d x t
      go_wp2
      go_loopw [5, 6] (fun v i w2 => w2 = W1 ∧ ∃ t : Nat, t ≤ H ∧ i = .int .i64 (((H - t : Nat) : Int) - 1) ∧ v = .string (bt (clm W H d x t))) (fun _ i _ => (intOf i + 1).toNat)
      case atStart => exact ⟨rfl, 0, by omega, by simp, by simp [bt, clm]⟩
      case round =>
        obtain ⟨rfl, t, ht, rfl, rfl⟩ := hrel
        by_cases htl : t < H
        · obtain ⟨y, hy⟩ : ∃ y, H - t = y + 1 := ⟨H - t - 1, by omega⟩
          have hye : (((H - t : Nat) : Int) - 1) = (y : Int) := by omega
          rw [hye]
          have hy0 : (y : Int) ≥ 0 := by omega
          have hy1 : (y : Int) < (H : Int) := by omega
          have cy := HC1.out y (by omega)
          have hs := HCS.out t
          have hl := HCL.out t
          rw [show H - 1 - t = y by omega] at hs
          have hcx := bt_cut1 (gRow W d y) x (by rw [gRow_len]; exact hlt)
          have hsr : (bt (gRow W d y)).size = W := by rw [bt_size, gRow_len]
          rw [gRow_at W d y x hlt] at hcx
          generalize bt (gRow W d y) = B at *
          generalize sgn (d (y * W + x)) = u at *
          generalize clm W H d x t = a at *
          have hx1 : (x : Int) + 1 ≤ (W : Int) := by omega
          have hx2 : ((x : Int) + 1).toNat = x + 1 := by omega
          have k1 := cat7 (bt a) (bt [u]) (by simp [bt, ByteArray.size]; omega)
          rw [bt_app, ← hs] at k1
          clear hs hye hl
          go_wp2
          go_roundw
          case rel => exact ⟨trivial, t + 1, by omega, by rw [show H - (t + 1) = y by omega], rfl⟩
          case measure => simp [intOf]
        · obtain rfl : t = H := by omega
          have hgl := HGL.out x
          have hgs := HGS.out x
          have hcl := HCL.out t
          have hx1 : x ≤ 50 := by omega
          generalize gRows t x (tD W t d) = X at *
          generalize clm W t d x t = a at *
          go_wp2_with (at_builtin; refine wpList_append_own _ rfl _ _ 25 rfl (w.heap.size + 1) 9 i0 (.string ⟨#[]⟩) 1 16 Tryd.underlying25 hi0 hz0 hz1 hz2 rfl (by decide) _ _ _ rfl (hown1.out.alloc _) ⟨wr.heap.size, 0, none⟩ 1 1 [.string (bt a)] rfl rfl ?c1 ?c2 ?c3 ?c4 ?c5 ?_)
          case c1 =>
            intro j u hj
            match j, hj with
            | 0, hj => simp at hj; subst hj; simp [Addr.add]
          case c2 => intro u hu; simp at hu; subst hu; rfl
          case c3 => unfold maxLen; omega
          case c4 => omega
          case c5 => have := hs2.out; simp; omega
          · intro v' w4 hown' hgrow _
            have HB5 : Hid (Below (w.heap.size + 1) wr w4) := Lib.hid (((Below.refl _ wr).alloc hs2.out _).grown hgrow (by have := hs2.out; simp; omega) fun g hg => (hown1.out.lt g hg).1)
            have HO4 : Hid (w4.ownsRow (w.heap.size + 1) 9 1 v' (gRows t (x + 1) (tD W t d)).length (strs (gRows t (x + 1) (tD W t d)))) := Lib.hid (by
              rw [hgs, ← strs_app, List.length_append, hgl]
              exact hown')
            have HB4 : Hid (Below w.heap.size w w4) := Lib.hid (hb1.out.trans ⟨HB5.out.os, HB5.out.tape, HB5.out.output, HB5.out.size, fun k hk => HB5.out.block k (by omega)⟩)
            have HK4 : Hid (w4.heap[w.heap.size]? = some (.stringIter s (x + 1))) := Lib.hid ((HB5.out.block _ (Nat.lt_succ_self _)).trans hk1.out)
            have HS4 : Hid (w.heap.size + 1 ≤ w4.heap.size) := Lib.hid (Nat.le_trans hs2.out HB5.out.size)
            have hmu2 : w4.iterPos w.heap.size = x + 1 := by simp [World.iterPos, HK4.out]
            have HMU := Lib.hid hmu
            have HMU2 := Lib.hid hmu2
            clear hmu hmu2 hown' hgrow hown1 hb1 hown hb hk hk1 hnext HB5 hgl hgs hcl
            go_wp2
            go_roundw
            case rel => exact ⟨x + 1, by omega, HK4, HO4, HB4, HS4⟩
            case measure => rw [HMU.out, HMU2.out]; omega
    · obtain rfl : x = W := by omega
      have hnext : ∀ ty, (Instr.next (.pointer (some ⟨w.heap.size, 0, none⟩)) true ty).run Tryd.prog wr = _ := fun ty => Lib.run_next_end_at wr w.heap.size s x ty hk.out (by omega)
      have hgl := HGL.out x
      obtain ⟨g2, c2, rfl, hc2, hr⟩ := rows_of_row hown.out (by rw [hgl]; exact w0)
      rw [hgl] at hc2
      have hr2 : RowsAt wr w.heap.size g2 x (gRows H x (tD x H d)) := by
        have h3 : RowsAt wr (w.heap.size + 1) g2 (gRows H x (tD x H d)).length (gRows H x (tD x H d)) := hr
        rw [hgl] at h3
        exact ⟨h3.cell, by have := h3.lo; omega, h3.hi, h3.n⟩
      rw [hgl]
      clear hgl
      go_wp2
      go_ret
      exact ⟨g2, c2, rfl, hc2, hr2, hb.out⟩
end Go.Proofs.YtkjibcnddknbjaaDoor
/- Chapter 7: rows of marks in memory; the specification's marks of a picture. -/
namespace Go.Proofs.YtkjibcnddknbjaaDoor
open Go.ChangeShapes Go.WideShapes Go.ChangeAt Go.RowKit

theorem infoBool : (Tryd.prog.info? 4).map (fun i => (i.zero, i.size, i.bytes)) = some (some (.bool false), 1, 1) := by kernel_rfl
/-- The marks d 0, .., d (n - 1). -/
def tbs (d : Nat → Bool) (n : Nat) : List Value := (List.range n).map fun i => Value.bool (d i)
theorem tbs_len (d : Nat → Bool) (n : Nat) : (tbs d n).length = n := by simp [tbs]
theorem tbs_get (d : Nat → Bool) (n j : Nat) (h : j < n) : (tbs d n)[j]? = some (.bool (d j)) := by simp [tbs, h]
theorem tbs_succ (d : Nat → Bool) (n : Nat) : tbs d (n + 1) = tbs d n ++ [.bool (d n)] := by simp [tbs, List.range_succ]
/-- d, but b at j. -/
def updB (d : Nat → Bool) (j : Nat) (b : Bool) : Nat → Bool := fun m => if m = j then b else d m
theorem tbs_set (d : Nat → Bool) (n j : Nat) (b : Bool) : (tbs d n).set j (.bool b) = tbs (updB d j b) n := by
  apply List.ext_getElem?
  intro i
  by_cases hi : i < n
  · rw [tbs_get _ _ _ hi, List.getElem?_set]
    by_cases e : j = i
    · subst e; simp [tbs_len, hi, updB]
    · have e2 : ¬ i = j := fun h => e h.symm
      rw [if_neg e, tbs_get _ _ _ hi]
      simp [updB, e2]
  · rw [List.getElem?_eq_none (by simp [tbs_len]; omega), List.getElem?_eq_none (by simp [tbs_len]; omega)]
theorem tbs_congr {d e : Nat → Bool} {n : Nat} (h : ∀ m, m < n → d m = e m) : tbs d n = tbs e n := by
  unfold tbs
  exact List.map_congr_left fun i hi => by rw [h i (List.mem_range.1 hi)]
/-- Block g is a row of the call's own that has the marks d 0, .., d (n - 1). -/
def Marks (w : World) (base g n c : Nat) (d : Nat → Bool) : Prop := w.ownsRow base 4 1 (.slice (some ⟨g, 0, none⟩) n c) n (tbs d n)
section
variable {w w' : World} {base g n c : Nat} {d e : Nat → Bool}
theorem Marks.cell (h : Marks w base g n c d) {j : Nat} (hj : j < n) : w.cell? ⟨g, j, none⟩ = some (.bool (d j)) := by
  rw [World.ownsRow.cellAt h j (by omega)]
  simp [tbs_get d n j hj]
theorem Marks.frozen (h : Marks w base g n c d) (j : Nat) : w.frozen? ⟨g, j, none⟩ = false := World.ownsRow.frozenAt h j
theorem Marks.set (h : Marks w base g n c d) (j : Nat) (b : Bool) : Marks (w.setCell ⟨g, j, none⟩ (.bool b)) base g n c (updB d j b) := by
  have h1 := (World.ownsRow.stored h j (.bool b)).1
  rw [tbs_set] at h1
  exact h1
theorem Marks.congr (h : Marks w base g n c d) (he : ∀ m, m < n → d m = e m) : Marks w base g n c e := by
  unfold Marks at h ⊢
  rwa [tbs_congr he] at h
theorem Marks.lt (h : Marks w base g n c d) : base ≤ g ∧ g < w.heap.size := World.ownsRow.lt h g rfl
theorem Marks.below {B : Nat} (h : Marks w base g n c d) (hb : Below B w w') (hB : w.heap.size ≤ B) : Marks w' base g n c d := row_below h hb hB
theorem Marks.mono {lo : Nat} (h : Marks w base g n c d) (hb : lo ≤ base) : Marks w lo g n c d := by
  refine ⟨h.1, ?_⟩
  rcases h.2 with h2 | ⟨a, b, u, q, r, s⟩
  · exact .inl h2
  · exact .inr ⟨a, b, u, q, by omega, s⟩
theorem marks_made (h : w.ownsRow base 4 1 (.slice (some ⟨g, 0, none⟩) n c) n (madeCells (Value.bool false).cells (n * 1)).toList) : Marks w base g n c (fun _ => false) := by
  unfold Marks
  have e : (madeCells (Value.bool false).cells (n * 1)).toList = tbs (fun _ => false) n := by
    rw [Nat.mul_one]
    show (madeCells #[Value.bool false] n).toList = _
    rw [toList_madeCells_one]
    apply List.ext_getElem?
    intro j
    by_cases hj : j < n
    · simp [tbs_get _ n j hj, hj]
    · rw [List.getElem?_eq_none (by simp; omega), List.getElem?_eq_none (by simp [tbs_len]; omega)]
  rwa [e] at h
end
theorem marks_of_row {w : World} {lo n : Nat} {V : Value} {d : Nat → Bool} (h : w.ownsRow lo 4 1 V n (tbs d n)) (h1 : 1 ≤ n) : ∃ g c, V = .slice (some ⟨g, 0, none⟩) n c ∧ n ≤ c ∧ c ≤ maxLen ∧ Marks w lo g n c d := by
  have hh := h
  rcases h.2 with ⟨_, h0⟩ | ⟨g, c, cur, rfl, hlo, hcell, hc, hmax, hsz, htk⟩
  · omega
  · exact ⟨g, c, rfl, hc, hmax, hh⟩
/-- A string's iterator moved on leaves a row a row. -/
theorem own_iterAt {w : World} {base : Nat} {e : TypeId} {size : Nat} {v : Value} {n : Nat} {xs : List Value} (h : w.ownsRow base e size v n xs) {k : Nat} {s : ByteArray} {pos : Nat} (hk : w.heap[k]? = some (.stringIter s pos)) (p : Nat) : (w.iterAt k s p).ownsRow base e size v n xs := by
  refine ⟨h.1, ?_⟩
  rcases h.2 with h2 | ⟨g, cap, cur, a, b, c, d⟩
  · exact .inl h2
  · refine .inr ⟨g, cap, cur, a, b, ?_, d⟩
    have hne : g ≠ k := by
      intro e1
      rw [e1, hk] at c
      cases c
    rw [Lib.iterAt_other _ _ _ _ _ hne]
    exact c
theorem iter_grown {w w' : World} {base : Nat} {e : TypeId} {size : Nat} {v : Value} {n : Nat} {xs : List Value} (h : w.ownsRow base e size v n xs) (hg : w.grownBy w' v.ownBlock) {k : Nat} {s : ByteArray} {pos : Nat} (hk : w.heap[k]? = some (.stringIter s pos)) : w'.heap[k]? = some (.stringIter s pos) := by
  have hlt : k < w.heap.size := (Array.getElem?_eq_some_iff.1 hk).1
  rw [hg.block k hlt ?_]
  · exact hk
  · intro e1
    rcases h.2 with ⟨h2, _⟩ | ⟨g, cap, cur, a, b, c, d⟩
    · rw [h2] at e1; cases e1
    · rw [a] at e1
      have e2 : k = g := by simpa [Value.ownBlock] using e1
      rw [← e2, hk] at c
      cases c
theorem iter_alloc {w : World} {k : Nat} {s : ByteArray} {pos : Nat} (hk : w.heap[k]? = some (.stringIter s pos)) (o : Obj) : (w.alloc o).heap[k]? = some (.stringIter s pos) := by
  have hlt : k < w.heap.size := (Array.getElem?_eq_some_iff.1 hk).1
  rw [(World.grownBy_alloc w o none).block k hlt (by simp)]
  exact hk
end Go.Proofs.YtkjibcnddknbjaaDoor
/- Chapter 7: the specification's places beside one. -/
namespace Go.Proofs.YtkjibcnddknbjaaDoor
open Go.ChangeShapes Go.WideShapes Go.ChangeAt Go.RowKit

theorem infoInt7 : (Tryd.prog.info? 3).map (fun i => (i.zero, i.size, i.bytes)) = some (some (.int .i64 0), 1, 8) := by kernel_rfl
/-- Places as numbers. -/
def ofN (xs : List Nat) : List Int := xs.map fun (x : Nat) => (x : Int)
/-- A row of the call's own that grows number by number. -/
structure Grw (w0 w : World) (v : Value) (xs : List Int) : Prop where
  row : w.ownsRow w0.heap.size 3 1 v xs.length (i64s xs)
  below : Below w0.heap.size w0 w
theorem Grw.cast {w0 w : World} {v : Value} {xs ys : List Int} (h : Grw w0 w v xs) (e : xs = ys) : Grw w0 w v ys := e ▸ h
theorem grw_nil (w : World) : Grw w w (.slice none 0 0) [] := ⟨World.ownsRow_nil _ _ _ _, Below.refl _ _⟩
end Go.Proofs.YtkjibcnddknbjaaDoor
/- Chapter 7: the specification's border. -/
namespace Go.Proofs.YtkjibcnddknbjaaDoor
open Go.ChangeShapes Go.WideShapes Go.ChangeAt Go.RowKit

/-- The border among the first a places. -/
def pbr (W H : Nat) (d : Nat → Bool) (a : Nat) (i : Nat) : Bool := decide (i < a) && brd W H d i
theorem pbr_zero (W H : Nat) (d : Nat → Bool) (i : Nat) : pbr W H d 0 i = false := by simp [pbr]
theorem pbr_succ (W H : Nat) (d : Nat → Bool) (a i : Nat) : updB (pbr W H d a) a (brd W H d a) i = pbr W H d (a + 1) i := by
  unfold updB pbr
  by_cases h : i = a
  · subst h
    simp
  · rw [if_neg h]
    have : (i < a) ↔ (i < a + 1) := by omega
    simp only [this]
theorem pbr_all (W H : Nat) (d : Nat → Bool) (n i : Nat) (h : i < n) : pbr W H d n i = brd W H d i := by simp [pbr, h]
/-- Whether a place is open by its first k places beside. -/
def opn (W H : Nat) (d : Nat → Bool) (i k : Nat) : Bool := decide ((nbs W H i).length < 4) || ((nbs W H i).take k).any fun j => !d j
theorem opn_succ (W H : Nat) (d : Nat → Bool) (i k : Nat) (h : k < (nbs W H i).length) : opn W H d i (k + 1) = (opn W H d i k || !d ((nbs W H i)[k])) := by
  unfold opn
  rw [List.take_succ_eq_append_getElem h, List.any_append]
  simp [Bool.or_assoc]
theorem opn_all (W H : Nat) (d : Nat → Bool) (i : Nat) : brd W H d i = (d i && opn W H d i (nbs W H i).length) := by
  unfold brd opn
  rw [List.take_length]
end Go.Proofs.YtkjibcnddknbjaaDoor
/- Chapter 7: the specification's border taken away. -/
namespace Go.Proofs.YtkjibcnddknbjaaDoor
open Go.ChangeShapes Go.WideShapes Go.ChangeAt Go.RowKit

/-- The dots left when the first a places are taken. -/
def ptk (W H : Nat) (d : Nat → Bool) (a : Nat) (i : Nat) : Bool := if i < a then tkn W H d i else d i
theorem ptk_zero (W H : Nat) (d : Nat → Bool) (i : Nat) : d i = ptk W H d 0 i := by simp [ptk]
theorem ptk_yes (W H : Nat) (d : Nat → Bool) (a i : Nat) (h : brd W H d a = true) : updB (ptk W H d a) a false i = ptk W H d (a + 1) i := by
  unfold updB ptk
  by_cases e : i = a
  · subst e
    rw [if_pos rfl, if_pos (by omega)]
    simp [tkn, h]
  · rw [if_neg e]
    have : (i < a) ↔ (i < a + 1) := by omega
    simp only [this]
theorem ptk_no (W H : Nat) (d : Nat → Bool) (a i : Nat) (h : brd W H d a = false) : ptk W H d a i = ptk W H d (a + 1) i := by
  unfold ptk
  by_cases e : i = a
  · subst e
    rw [if_neg (by omega), if_pos (by omega)]
    simp [tkn, h]
  · have : (i < a) ↔ (i < a + 1) := by omega
    simp only [this]
theorem ptk_all (W H : Nat) (d : Nat → Bool) (n i : Nat) (h : i < n) : ptk W H d n i = tkn W H d i := by simp [ptk, h]
theorem Marks.put {w : World} {base g n c b j : Nat} {d : Nat → Bool} (h : Marks w base g n c d) (hb : b < base) (v : Value) : Marks (w.setCell ⟨b, j, none⟩ v) base g n c d :=
  ownsRow_setCell_below h hb v
theorem grownBy_of_below {w w' : World} (h : Below w.heap.size w w') (row : Option Nat) : w.grownBy w' row := ⟨h.os, h.tape, h.output, h.size, fun k hk _ => h.block k hk⟩
theorem grownBy_trans {w w1 w2 : World} {row : Option Nat} (h : w.grownBy w1 row) (k : w1.grownBy w2 row) : w.grownBy w2 row :=
  ⟨k.os.trans h.os, k.tape.trans h.tape, k.output.trans h.output, Nat.le_trans h.size k.size, fun i hi hr => (k.block i (Nat.lt_of_lt_of_le hi h.size) hr).trans (h.block i hi hr)⟩
theorem grownBy_set {w w1 : World} {g j : Nat} (h : w.grownBy w1 (some g)) (v : Value) : w.grownBy (w1.setCell ⟨g, j, none⟩ v) (some g) := by
  have hb := (Below.refl g w1).setCell (p := ⟨g, j, none⟩) (Nat.le_refl _) v
  refine grownBy_trans h ⟨hb.os, hb.tape, hb.output, hb.size, fun i hi hr => ?_⟩
  have hne : ¬ i = g := fun e => hr (by rw [e])
  simp only [World.setCell]
  rw [Array.getElem?_modify, if_neg (fun e => hne e.symm)]
end Go.Proofs.YtkjibcnddknbjaaDoor
/- Chapter 7: the specification's pictures turned, mirrored, with other dots, their borders. -/
namespace Go.Proofs.YtkjibcnddknbjaaDoor
open Go.ChangeShapes Go.WideShapes Go.ChangeAt Go.RowKit

theorem below_weak {j k : Nat} {a b : World} (h : Below k a b) (hj : j ≤ k) : Below j a b := ⟨h.os, h.tape, h.output, h.size, fun i hi => h.block i (by omega)⟩
/-- A text is the picture of W columns and H rows with the dots d. -/
structure IsP (s : ByteArray) (W H n : Nat) (d : Nat → Bool) : Prop where
  w0 : 1 ≤ W
  w1 : W ≤ 24
  h0 : 1 ≤ H
  h1 : H ≤ 24
  n : n = W * H
  rows : ∀ w : World, Calls Tryd.prog 6 #[.string s] w fun e w' => ∃ g c, e = .returned (.tuple #[.slice (some ⟨g, 0, none⟩) H c, .bool true]) ∧ H ≤ c ∧ RowsAt w' w.heap.size g H (gRows W H d) ∧ Below w.heap.size w w'
theorem isP_of (s : ByteArray) (hs : s.size ≤ 2000000) (h : isPic s.data.toList = true) : IsP s (pW s.data.toList) (pH s.data.toList) (pW s.data.toList * pH s.data.toList) (pD s.data.toList) := by
  have hb := pic_b h
  refine ⟨hb.w0, hb.w1, hb.h0, hb.h1, rfl, fun w => ?_⟩
  rw [pic_rows h]
  exact doRows_yes s w (by omega) h
theorem text_of {W H c g lo : Nat} {d : Nat → Bool} {w : World} (hr : RowsAt w lo g H (gRows W H d)) (hc : H ≤ c) (w1 : W ≤ 24) (h0 : 1 ≤ H) (h1 : H ≤ 50) :
    Calls Tryd.prog 8 #[.slice (some ⟨g, 0, none⟩) H c] w fun e w' => e = .returned (.string (bt (gText W H d))) ∧ w = w' :=
  doText_any g 0 H c (gRows W H d) w (gRows_len W H d).symm h0 (by omega) hc (fun r hr => by obtain ⟨y, _, rfl⟩ := List.mem_map.1 hr; rw [gRow_len]; omega) (fun j hj => by rw [Nat.zero_add]; exact hr.cell j hj)
theorem rows_rev (W H : Nat) (d : Nat → Bool) (j : Nat) : ((gRows W H d).getD j []).length ≤ 100 ∨ 100 < W := by
  by_cases h : j < H
  · rw [gRows_at W H d j h, gRow_len]
    omega
  · left
    rw [List.getD, List.getElem?_eq_none (by rw [gRows_len]; omega)]
    simp
/-- The other dots among the first a places. -/
def pod (d : Nat → Bool) (a : Nat) (i : Nat) : Bool := if i < a then !d i else d i
theorem pod_zero (d : Nat → Bool) (i : Nat) : d i = pod d 0 i := by simp [pod]
theorem pod_at (d : Nat → Bool) (a : Nat) : pod d a a = d a := by simp [pod]
theorem pod_succ (d : Nat → Bool) (a i : Nat) : updB (pod d a) a (!d a) i = pod d (a + 1) i := by
  unfold updB pod
  by_cases e : i = a
  · subst e
    rw [if_pos rfl, if_pos (by omega)]
  · rw [if_neg e]
    have : (i < a) ↔ (i < a + 1) := by omega
    simp only [this]
theorem pod_all (d : Nat → Bool) (n i : Nat) (h : i < n) : pod d n i = oD d i := by simp [pod, oD, h]
end Go.Proofs.YtkjibcnddknbjaaDoor
