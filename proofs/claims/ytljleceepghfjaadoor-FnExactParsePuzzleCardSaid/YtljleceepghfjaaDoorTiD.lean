/- Chapter 9: the specification's parts of a text, at three signs. -/
import Derived.Test.YtljleceepghfjaaDoorMa
import Derived.Test.YtljleceepghfjaaDoorTiB
namespace Go.Proofs.YtljleceepghfjaaDoor
open Go.ChangeShapes Go.WideShapes Go.ChangeAt Go.RowKit

/-- Texts as cells. -/
def strs (xs : List (List UInt8)) : List Value := xs.map fun x => .string (bt x)
theorem strs_app (xs : List (List UInt8)) (x : List UInt8) : strs xs ++ [.string (bt x)] = strs (xs ++ [x]) := by simp [strs]
theorem strs_len (xs : List (List UInt8)) : (strs xs).length = xs.length := by simp [strs]
theorem ba_get (s : ByteArray) (k : Nat) (h : k < s.size) : s.data.toList[k]? = some s[k] := by
  have : k < s.data.toList.length := by simpa using h
  rw [List.getElem?_eq_getElem this]
  simp [ByteArray.getElem_eq_getElem_data]
theorem ba_cut (s : ByteArray) (i j : Nat) : s.extract i j = bt ((s.data.toList.take j).drop i) := by
  have h := bt_cut s.data.toList i j
  rw [← bt_of] at h
  exact h
set_option maxRecDepth 4000 in
set_option maxHeartbeats 1600000 in
theorem l1Split_58 (s : ByteArray) (w : World) (hs : s.size ≤ 1048576) :
    Calls Tryd.prog 9 #[.string s, .int .u8 58] w fun e w' => (∃ A c, e = .returned (.slice A (parts s.data.toList 58).length c) ∧ w'.ownsRow w.heap.size 9 1 (.slice A (parts s.data.toList 58).length c) (parts s.data.toList 58).length (strs (parts s.data.toList 58))) ∧ Below w.heap.size w w' := by
  obtain ⟨i0, hi0, hz0, hz1, hz2⟩ := info_parts infoStr9
  have HP : Hid (parts s.data.toList 58 = (upP s.data.toList 58 s.size).1 ++ [(s.data.toList.take s.size).drop (upP s.data.toList 58 s.size).2]) := Lib.hid (by rw [List.take_of_length_le (by simp)]; simp [parts])
  have HU := Lib.hid fun k => upP_le s.data.toList 58 k
  have HL := Lib.hid fun k => upP_len s.data.toList 58 k
  have HSU := Lib.hid fun k => (show upP s.data.toList 58 (k + 1) = if s.data.toList[k]? = some 58 then ((upP s.data.toList 58 k).1 ++ [(s.data.toList.take k).drop (upP s.data.toList 58 k).2], k + 1) else upP s.data.toList 58 k from rfl)
  have HC := Lib.hid fun i j => ba_cut s i j
  go_enter Tryd.func9, Tryd.ntmps9
  go_wp2
  go_loopw [5, 6, 7] (fun v f i wr => ∃ k : Nat, k ≤ s.size ∧ i = .int .i64 (k : Int) ∧ f = .int .i64 ((upP s.data.toList 58 k).2 : Int) ∧ Hid (wr.ownsRow w.heap.size 9 1 v (upP s.data.toList 58 k).1.length (strs (upP s.data.toList 58 k).1)) ∧ Hid (Below w.heap.size w wr)) (fun _ _ i _ => s.size - (intOf i).toNat)
  case atStart => exact ⟨0, by omega, by simp, by simp [upP], Lib.hid (World.ownsRow_nil _ _ _ _), Lib.hid (Below.refl _ _)⟩
  case round =>
    obtain ⟨k, hk, rfl, rfl, hown, hb⟩ := hrel
    by_cases hlt : k < s.size
    · have hlt2 : (k : Int) < (s.size : Int) := by omega
      have hg := ba_get s k hlt
      have hsu := HSU.out k
      have hu := HU.out k
      have hl := HL.out k
      have hcut := HC.out (upP s.data.toList 58 k).2 k
      generalize upP s.data.toList 58 k = st at *
      obtain ⟨P, f⟩ := st
      simp only at hu hl hcut hown hsu ⊢
      by_cases hc : s[k] = 58
      · have hB : ((s[k].toNat : Int) == 58) = true := by rw [hc]; rfl
        rw [hg, hc, if_pos rfl] at hsu
        have HSK := Lib.hid hsu
        have HCUT := Lib.hid hcut
        have hf0 : (0 : Int) ≤ (f : Int) := by omega
        have hf1 : (f : Int) ≤ (k : Int) := by omega
        clear hsu hg hc hcut
        go_wp2_with (at_builtin; refine wpList_append_own _ rfl _ _ 30 rfl w.heap.size 9 i0 (.string ⟨#[]⟩) 1 16 Tryd.underlying30 hi0 hz0 hz1 hz2 rfl (by decide) _ _ _ rfl (hown.out.alloc _) ⟨wr.heap.size, 0, none⟩ 1 1 [.string (s.extract f k)] rfl rfl ?c1 ?c2 ?c3 ?c4 ?c5 ?_)
        case c1 =>
          intro j u hj
          match j, hj with
          | 0, hj => simp at hj; subst hj; simp [Addr.add]
        case c2 => intro u hu; simp at hu; subst hu; rfl
        case c3 => unfold maxLen; omega
        case c4 => omega
        case c5 => have := hb.out.size; simp; omega
        · intro v' w4 hown' hgrow _
          have HO4 := Lib.hid hown'
          have HB4 := Lib.hid ((hb.out.alloc hb.out.size _).grown hgrow (by have := hb.out.size; simp; omega) fun g hg => (hown.out.lt g hg).1)
          clear hown' hgrow hown hb
          go_wp2
          go_roundw
          case rel =>
            refine ⟨k + 1, by omega, by go_num, by rw [HSK.out]; go_num, Lib.hid ?_, HB4⟩
            rw [HSK.out]
            simp only [List.length_append, List.length_singleton]
            rw [← strs_app, ← HCUT.out]
            exact HO4.out
          case measure => simp [intOf]; omega
      · have hB : ((s[k].toNat : Int) == 58) = false := by
          have : ¬ s[k].toNat = 58 := fun e => hc (UInt8.toNat_inj.1 e)
          simp
          omega
        have hne : ¬ (s.data.toList[k]? = some 58) := by rw [hg]; exact fun e => hc (Option.some.inj e)
        rw [if_neg hne] at hsu
        have HSK := Lib.hid hsu
        clear hsu hg hc hcut hne
        go_wp2
        go_roundw
        case rel => exact ⟨k + 1, by omega, by go_num, by rw [HSK.out], by rw [HSK.out]; exact hown, hb⟩
        case measure => simp [intOf]; omega
    · obtain rfl : k = s.size := by omega
      have hu := HU.out s.size
      have hl := HL.out s.size
      have hcut := HC.out (upP s.data.toList 58 s.size).2 s.size
      have hpp := HP.out
      generalize upP s.data.toList 58 s.size = st at *
      obtain ⟨P, f⟩ := st
      simp only at hu hl hcut hown hpp ⊢
      have HPP := Lib.hid hpp
      have HCUT := Lib.hid hcut
      have HE : Hid ((parts s.data.toList 58).length = P.length + 1) := Lib.hid (by rw [hpp]; simp)
      have hf0 : (0 : Int) ≤ (f : Int) := by omega
      have hf1 : (f : Int) ≤ (s.size : Int) := by omega
      clear hpp hcut
      go_wp2_with (at_builtin; refine wpList_append_own _ rfl _ _ 30 rfl w.heap.size 9 i0 (.string ⟨#[]⟩) 1 16 Tryd.underlying30 hi0 hz0 hz1 hz2 rfl (by decide) _ _ _ rfl (hown.out.alloc _) ⟨wr.heap.size, 0, none⟩ 1 1 [.string (s.extract f s.size)] rfl rfl ?c1 ?c2 ?c3 ?c4 ?c5 ?_)
      case c2 => rfl
      case c3 => unfold maxLen; omega
      case c4 => omega
      case c5 => have := hb.out.size; simp; omega
      · intro v' w4 hown' hgrow _
        obtain ⟨A, c, rfl⟩ := row_form hown'
        have HO4 := Lib.hid hown'
        have HB4 := Lib.hid ((hb.out.alloc hb.out.size _).grown hgrow (by have := hb.out.size; simp; omega) fun g hg => (hown.out.lt g hg).1)
        clear hown' hgrow hown hb
        go_wp2
        go_ret
        refine ⟨⟨A, c, by rw [HE.out]; rfl, ?_⟩, HB4.out⟩
        rw [HE.out, HPP.out, ← strs_app, ← HCUT.out]
        exact HO4.out
set_option maxRecDepth 4000 in
set_option maxHeartbeats 1600000 in
theorem l1Split_44 (s : ByteArray) (w : World) (hs : s.size ≤ 1048576) :
    Calls Tryd.prog 9 #[.string s, .int .u8 44] w fun e w' => (∃ A c, e = .returned (.slice A (parts s.data.toList 44).length c) ∧ w'.ownsRow w.heap.size 9 1 (.slice A (parts s.data.toList 44).length c) (parts s.data.toList 44).length (strs (parts s.data.toList 44))) ∧ Below w.heap.size w w' := by
  obtain ⟨i0, hi0, hz0, hz1, hz2⟩ := info_parts infoStr9
  have HP : Hid (parts s.data.toList 44 = (upP s.data.toList 44 s.size).1 ++ [(s.data.toList.take s.size).drop (upP s.data.toList 44 s.size).2]) := Lib.hid (by rw [List.take_of_length_le (by simp)]; simp [parts])
  have HU := Lib.hid fun k => upP_le s.data.toList 44 k
  have HL := Lib.hid fun k => upP_len s.data.toList 44 k
  have HSU := Lib.hid fun k => (show upP s.data.toList 44 (k + 1) = if s.data.toList[k]? = some 44 then ((upP s.data.toList 44 k).1 ++ [(s.data.toList.take k).drop (upP s.data.toList 44 k).2], k + 1) else upP s.data.toList 44 k from rfl)
  have HC := Lib.hid fun i j => ba_cut s i j
  go_enter Tryd.func9, Tryd.ntmps9
  go_wp2
  go_loopw [5, 6, 7] (fun v f i wr => ∃ k : Nat, k ≤ s.size ∧ i = .int .i64 (k : Int) ∧ f = .int .i64 ((upP s.data.toList 44 k).2 : Int) ∧ Hid (wr.ownsRow w.heap.size 9 1 v (upP s.data.toList 44 k).1.length (strs (upP s.data.toList 44 k).1)) ∧ Hid (Below w.heap.size w wr)) (fun _ _ i _ => s.size - (intOf i).toNat)
  case atStart => exact ⟨0, by omega, by simp, by simp [upP], Lib.hid (World.ownsRow_nil _ _ _ _), Lib.hid (Below.refl _ _)⟩
  case round =>
    obtain ⟨k, hk, rfl, rfl, hown, hb⟩ := hrel
    by_cases hlt : k < s.size
    · have hlt2 : (k : Int) < (s.size : Int) := by omega
      have hg := ba_get s k hlt
      have hsu := HSU.out k
      have hu := HU.out k
      have hl := HL.out k
      have hcut := HC.out (upP s.data.toList 44 k).2 k
      generalize upP s.data.toList 44 k = st at *
      obtain ⟨P, f⟩ := st
      simp only at hu hl hcut hown hsu ⊢
      by_cases hc : s[k] = 44
      · have hB : ((s[k].toNat : Int) == 44) = true := by rw [hc]; rfl
        rw [hg, hc, if_pos rfl] at hsu
        have HSK := Lib.hid hsu
        have HCUT := Lib.hid hcut
        have hf0 : (0 : Int) ≤ (f : Int) := by omega
        have hf1 : (f : Int) ≤ (k : Int) := by omega
        clear hsu hg hc hcut
        go_wp2_with (at_builtin; refine wpList_append_own _ rfl _ _ 30 rfl w.heap.size 9 i0 (.string ⟨#[]⟩) 1 16 Tryd.underlying30 hi0 hz0 hz1 hz2 rfl (by decide) _ _ _ rfl (hown.out.alloc _) ⟨wr.heap.size, 0, none⟩ 1 1 [.string (s.extract f k)] rfl rfl ?c1 ?c2 ?c3 ?c4 ?c5 ?_)
        case c1 =>
          intro j u hj
          match j, hj with
          | 0, hj => simp at hj; subst hj; simp [Addr.add]
        case c2 => intro u hu; simp at hu; subst hu; rfl
        case c3 => unfold maxLen; omega
        case c4 => omega
        case c5 => have := hb.out.size; simp; omega
        · intro v' w4 hown' hgrow _
          have HO4 := Lib.hid hown'
          have HB4 := Lib.hid ((hb.out.alloc hb.out.size _).grown hgrow (by have := hb.out.size; simp; omega) fun g hg => (hown.out.lt g hg).1)
          clear hown' hgrow hown hb
          go_wp2
          go_roundw
          case rel =>
            refine ⟨k + 1, by omega, by go_num, by rw [HSK.out]; go_num, Lib.hid ?_, HB4⟩
            rw [HSK.out]
            simp only [List.length_append, List.length_singleton]
            rw [← strs_app, ← HCUT.out]
            exact HO4.out
          case measure => simp [intOf]; omega
      · have hB : ((s[k].toNat : Int) == 44) = false := by
          have : ¬ s[k].toNat = 44 := fun e => hc (UInt8.toNat_inj.1 e)
          simp
          omega
        have hne : ¬ (s.data.toList[k]? = some 44) := by rw [hg]; exact fun e => hc (Option.some.inj e)
        rw [if_neg hne] at hsu
        have HSK := Lib.hid hsu
        clear hsu hg hc hcut hne
        go_wp2
        go_roundw
        case rel => exact ⟨k + 1, by omega, by go_num, by rw [HSK.out], by rw [HSK.out]; exact hown, hb⟩
        case measure => simp [intOf]; omega
    · obtain rfl : k = s.size := by omega
      have hu := HU.out s.size
      have hl := HL.out s.size
      have hcut := HC.out (upP s.data.toList 44 s.size).2 s.size
      have hpp := HP.out
      generalize upP s.data.toList 44 s.size = st at *
      obtain ⟨P, f⟩ := st
      simp only at hu hl hcut hown hpp ⊢
      have HPP := Lib.hid hpp
      have HCUT := Lib.hid hcut
      have HE : Hid ((parts s.data.toList 44).length = P.length + 1) := Lib.hid (by rw [hpp]; simp)
      have hf0 : (0 : Int) ≤ (f : Int) := by omega
      have hf1 : (f : Int) ≤ (s.size : Int) := by omega
      clear hpp hcut
      go_wp2_with (at_builtin; refine wpList_append_own _ rfl _ _ 30 rfl w.heap.size 9 i0 (.string ⟨#[]⟩) 1 16 Tryd.underlying30 hi0 hz0 hz1 hz2 rfl (by decide) _ _ _ rfl (hown.out.alloc _) ⟨wr.heap.size, 0, none⟩ 1 1 [.string (s.extract f s.size)] rfl rfl ?c1 ?c2 ?c3 ?c4 ?c5 ?_)
      case c2 => rfl
      case c3 => unfold maxLen; omega
      case c4 => omega
      case c5 => have := hb.out.size; simp; omega
      · intro v' w4 hown' hgrow _
        obtain ⟨A, c, rfl⟩ := row_form hown'
        have HO4 := Lib.hid hown'
        have HB4 := Lib.hid ((hb.out.alloc hb.out.size _).grown hgrow (by have := hb.out.size; simp; omega) fun g hg => (hown.out.lt g hg).1)
        clear hown' hgrow hown hb
        go_wp2
        go_ret
        refine ⟨⟨A, c, by rw [HE.out]; rfl, ?_⟩, HB4.out⟩
        rw [HE.out, HPP.out, ← strs_app, ← HCUT.out]
        exact HO4.out
set_option maxRecDepth 4000 in
set_option maxHeartbeats 1600000 in
theorem l1Split_46 (s : ByteArray) (w : World) (hs : s.size ≤ 1048576) :
    Calls Tryd.prog 9 #[.string s, .int .u8 46] w fun e w' => (∃ A c, e = .returned (.slice A (parts s.data.toList 46).length c) ∧ w'.ownsRow w.heap.size 9 1 (.slice A (parts s.data.toList 46).length c) (parts s.data.toList 46).length (strs (parts s.data.toList 46))) ∧ Below w.heap.size w w' := by
  obtain ⟨i0, hi0, hz0, hz1, hz2⟩ := info_parts infoStr9
  have HP : Hid (parts s.data.toList 46 = (upP s.data.toList 46 s.size).1 ++ [(s.data.toList.take s.size).drop (upP s.data.toList 46 s.size).2]) := Lib.hid (by rw [List.take_of_length_le (by simp)]; simp [parts])
  have HU := Lib.hid fun k => upP_le s.data.toList 46 k
  have HL := Lib.hid fun k => upP_len s.data.toList 46 k
  have HSU := Lib.hid fun k => (show upP s.data.toList 46 (k + 1) = if s.data.toList[k]? = some 46 then ((upP s.data.toList 46 k).1 ++ [(s.data.toList.take k).drop (upP s.data.toList 46 k).2], k + 1) else upP s.data.toList 46 k from rfl)
  have HC := Lib.hid fun i j => ba_cut s i j
  go_enter Tryd.func9, Tryd.ntmps9
  go_wp2
  go_loopw [5, 6, 7] (fun v f i wr => ∃ k : Nat, k ≤ s.size ∧ i = .int .i64 (k : Int) ∧ f = .int .i64 ((upP s.data.toList 46 k).2 : Int) ∧ Hid (wr.ownsRow w.heap.size 9 1 v (upP s.data.toList 46 k).1.length (strs (upP s.data.toList 46 k).1)) ∧ Hid (Below w.heap.size w wr)) (fun _ _ i _ => s.size - (intOf i).toNat)
  case atStart => exact ⟨0, by omega, by simp, by simp [upP], Lib.hid (World.ownsRow_nil _ _ _ _), Lib.hid (Below.refl _ _)⟩
  case round =>
    obtain ⟨k, hk, rfl, rfl, hown, hb⟩ := hrel
    by_cases hlt : k < s.size
    · have hlt2 : (k : Int) < (s.size : Int) := by omega
      have hg := ba_get s k hlt
      have hsu := HSU.out k
      have hu := HU.out k
      have hl := HL.out k
      have hcut := HC.out (upP s.data.toList 46 k).2 k
      generalize upP s.data.toList 46 k = st at *
      obtain ⟨P, f⟩ := st
      simp only at hu hl hcut hown hsu ⊢
      by_cases hc : s[k] = 46
      · have hB : ((s[k].toNat : Int) == 46) = true := by rw [hc]; rfl
        rw [hg, hc, if_pos rfl] at hsu
        have HSK := Lib.hid hsu
        have HCUT := Lib.hid hcut
        have hf0 : (0 : Int) ≤ (f : Int) := by omega
        have hf1 : (f : Int) ≤ (k : Int) := by omega
        clear hsu hg hc hcut
        go_wp2_with (at_builtin; refine wpList_append_own _ rfl _ _ 30 rfl w.heap.size 9 i0 (.string ⟨#[]⟩) 1 16 Tryd.underlying30 hi0 hz0 hz1 hz2 rfl (by decide) _ _ _ rfl (hown.out.alloc _) ⟨wr.heap.size, 0, none⟩ 1 1 [.string (s.extract f k)] rfl rfl ?c1 ?c2 ?c3 ?c4 ?c5 ?_)
        case c1 =>
          intro j u hj
          match j, hj with
          | 0, hj => simp at hj; subst hj; simp [Addr.add]
        case c2 => intro u hu; simp at hu; subst hu; rfl
        case c3 => unfold maxLen; omega
        case c4 => omega
        case c5 => have := hb.out.size; simp; omega
        · intro v' w4 hown' hgrow _
          have HO4 := Lib.hid hown'
          have HB4 := Lib.hid ((hb.out.alloc hb.out.size _).grown hgrow (by have := hb.out.size; simp; omega) fun g hg => (hown.out.lt g hg).1)
          clear hown' hgrow hown hb
          go_wp2
          go_roundw
          case rel =>
            refine ⟨k + 1, by omega, by go_num, by rw [HSK.out]; go_num, Lib.hid ?_, HB4⟩
            rw [HSK.out]
            simp only [List.length_append, List.length_singleton]
            rw [← strs_app, ← HCUT.out]
            exact HO4.out
          case measure => simp [intOf]; omega
      · have hB : ((s[k].toNat : Int) == 46) = false := by
          have : ¬ s[k].toNat = 46 := fun e => hc (UInt8.toNat_inj.1 e)
          simp
          omega
        have hne : ¬ (s.data.toList[k]? = some 46) := by rw [hg]; exact fun e => hc (Option.some.inj e)
        rw [if_neg hne] at hsu
        have HSK := Lib.hid hsu
        clear hsu hg hc hcut hne
        go_wp2
        go_roundw
        case rel => exact ⟨k + 1, by omega, by go_num, by rw [HSK.out], by rw [HSK.out]; exact hown, hb⟩
        case measure => simp [intOf]; omega
    · obtain rfl : k = s.size := by omega
      have hu := HU.out s.size
      have hl := HL.out s.size
      have hcut := HC.out (upP s.data.toList 46 s.size).2 s.size
      have hpp := HP.out
      generalize upP s.data.toList 46 s.size = st at *
      obtain ⟨P, f⟩ := st
      simp only at hu hl hcut hown hpp ⊢
      have HPP := Lib.hid hpp
      have HCUT := Lib.hid hcut
      have HE : Hid ((parts s.data.toList 46).length = P.length + 1) := Lib.hid (by rw [hpp]; simp)
      have hf0 : (0 : Int) ≤ (f : Int) := by omega
      have hf1 : (f : Int) ≤ (s.size : Int) := by omega
      clear hpp hcut
      go_wp2_with (at_builtin; refine wpList_append_own _ rfl _ _ 30 rfl w.heap.size 9 i0 (.string ⟨#[]⟩) 1 16 Tryd.underlying30 hi0 hz0 hz1 hz2 rfl (by decide) _ _ _ rfl (hown.out.alloc _) ⟨wr.heap.size, 0, none⟩ 1 1 [.string (s.extract f s.size)] rfl rfl ?c1 ?c2 ?c3 ?c4 ?c5 ?_)
      case c2 => rfl
      case c3 => unfold maxLen; omega
      case c4 => omega
      case c5 => have := hb.out.size; simp; omega
      · intro v' w4 hown' hgrow _
        obtain ⟨A, c, rfl⟩ := row_form hown'
        have HO4 := Lib.hid hown'
        have HB4 := Lib.hid ((hb.out.alloc hb.out.size _).grown hgrow (by have := hb.out.size; simp; omega) fun g hg => (hown.out.lt g hg).1)
        clear hown' hgrow hown hb
        go_wp2
        go_ret
        refine ⟨⟨A, c, by rw [HE.out]; rfl, ?_⟩, HB4.out⟩
        rw [HE.out, HPP.out, ← strs_app, ← HCUT.out]
        exact HO4.out
end Go.Proofs.YtljleceepghfjaaDoor
