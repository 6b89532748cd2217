/- Chapter 9: the clues of a text, read by the program. -/
import Derived.Test.YtljleceepghfjaaDoorTiN
import Derived.Test.YtljleceepghfjaaDoorTgG
namespace Go.Proofs.YtljleceepghfjaaDoor
open Go.ChangeShapes Go.WideShapes Go.ChangeAt Go.RowKit

theorem c64_snoc9 {cs : List Clu} {k : Nat} (h : k < cs.length) : c64 (cs.take (k + 1)) = c64 (cs.take k) ++ [.int .i64 (cs.getD k clu0).k, .int .i64 (cs.getD k clu0).a, .int .i64 (cs.getD k clu0).b] := by
  rw [take_succ9 cs k h, c64_app]
  rfl
set_option maxRecDepth 4000 in
set_option maxHeartbeats 1600000 in
theorem readClues_at (t : ByteArray) (ps : List ByteArray) (cs : List Clu) (n : Nat) (w : World) (hne : ¬ t = ⟨#[]⟩) (hp : ps.length = n) (hl : cs.length = n) (h7 : n ≤ 7)
    (hs : ∀ W, Below w.heap.size w W → Calls Tryd.prog 23 #[.string t, .string ⟨#[44]⟩, .int .i64 7] W fun e w' => ∃ g c, e = .returned (.slice (some ⟨g, 0, none⟩) n c) ∧ g < w'.heap.size ∧ (∀ j x, ps[j]? = some x → w'.cell? ⟨g, j, none⟩ = some (.string x)) ∧ Below W.heap.size W w')
    (hq : ∀ k, k < n → ∀ W, Below w.heap.size w W → Calls Tryd.prog 24 #[.string (ps.getD k ⟨#[]⟩)] W fun e w' => e = .returned (.agg #[.int .i64 (cs.getD k clu0).k, .int .i64 (cs.getD k clu0).a, .int .i64 (cs.getD k clu0).b]) ∧ Below W.heap.size W w') :
    Calls Tryd.prog 14 #[.string t] w fun e w' => (∃ A c, e = .returned (.slice A n c) ∧ Own w' w.heap.size w'.heap.size A (c64 cs)) ∧ Below w.heap.size w w' := by
  obtain ⟨i0, hi0, hz0, hz1, hz2⟩ := info_parts infoClue
  have HS := Lib.hid hs
  have HQ := Lib.hid hq
  have HP := Lib.hid hp
  have HL := Lib.hid hl
  have hnb : t.toList.isEmpty = false := by
    rw [ByteArray.toList_eq, List.isEmpty_eq_false_iff]
    intro e
    exact hne (ByteArray.ext (Array.toList_inj.1 e))
  clear hs hq hp hl
  go_enter Tryd.func14, Tryd.ntmps14
  go_wp2_with (go_at_call 23; refine (HS.out _ (Below.refl _ _)).mono ?_; rintro e w1 ⟨g, c, rfl, hg, hcl, b1⟩; have HB1 := Lib.hid b1; have HG := Lib.hid hg; have HCL := Lib.hid hcl; clear b1 hg hcl)
  go_loopw [3, 11] (fun v i wr => ∃ k : Nat, k ≤ n ∧ i = .int .i64 (k : Int) ∧ Hid (wr.ownsRow w1.heap.size 34 3 v k (c64 (cs.take k))) ∧ Below w1.heap.size w1 wr) (fun _ i _ => n - (intOf i).toNat)
  case atStart => exact ⟨0, by omega, rfl, Lib.hid (World.ownsRow_nil _ _ _ _), Below.refl _ _⟩
  case round =>
    obtain ⟨k, hk, rfl, hown, hb⟩ := hrel
    by_cases hlt : k < n
    · have hki : (k : Int) < (n : Int) := by omega
      have hx : ps[k]? = some (ps.getD k ⟨#[]⟩) := by
        have hkp : k < ps.length := by rw [HP.out]; exact hlt
        rw [List.getD_eq_getElem?_getD, List.getElem?_eq_getElem hkp, Option.getD_some]
      have p0 := (hb.cell (p := ⟨g, k, none⟩) HG.out).trans (HCL.out k _ hx)
      have HST := Lib.hid (c64_snoc9 (cs := cs) (k := k) (by rw [HL.out]; exact hlt))
      have HQK := Lib.hid (HQ.out k hlt)
      clear hx
      generalize ps.getD k ⟨#[]⟩ = x at *
      generalize cs.getD k clu0 = q at *
      obtain ⟨qk, qa, qb⟩ := q
      simp only at HST HQK
      go_wp2_with (first
        | (go_at_call 24; refine (HQK.out _ (HB1.out.trans (hb.mono HB1.out.size))).mono ?_; rintro e w3 ⟨rfl, b3⟩; have HO3 := Lib.hid (row_below hown.out b3 (Nat.le_refl _)); have HB3 := Lib.hid (hb.trans (b3.mono hb.size)); clear b3)
        | (at_builtin; refine wpList_append_own _ rfl _ _ 22 rfl w1.heap.size 34 i0 (.agg #[.int .i64 0, .int .i64 0, .int .i64 0]) 3 24 Tryd.underlying22 hi0 hz0 hz1 hz2 rfl (by decide) _ _ _ rfl (HO3.out.alloc _) ⟨w3.heap.size, 0, none⟩ 1 1 [.int .i64 qk, .int .i64 qa, .int .i64 qb] rfl rfl ?c1 ?c2 ?c3 ?c4 ?c5 ?_))
      case c1 => intro j u hj; exact World.news_of_block (heap_alloc_new _ _) j u hj
      case c2 => intro u hu; simp at hu; rcases hu with rfl | rfl | rfl <;> rfl
      case c3 => unfold maxLen; omega
      case c4 => omega
      case c5 => have := HB3.out.size; simp; omega
      · intro v' w4 hown' hgrow _
        have HO4 := Lib.hid hown'
        have HB4 := Lib.hid ((HB3.out.alloc HB3.out.size _).grown hgrow (by have := HB3.out.size; simp; omega) fun g hg => (HO3.out.lt g hg).1)
        clear hown' hgrow hown hb p0
        go_wp2
        go_roundw
        case rel => exact ⟨k + 1, by omega, by go_num, Lib.hid (by rw [HST.out]; exact HO4.out), HB4.out⟩
        case measure => simp [intOf]; omega
    · obtain rfl : k = n := by omega
      have ho := hown.out
      rw [List.take_of_length_le (by rw [HL.out]; exact Nat.le_refl _)] at ho
      obtain ⟨B, d, rfl⟩ := row_form ho
      have HO := Lib.hid (own_of_row ho)
      have HBf := Lib.hid (HB1.out.trans (hb.mono HB1.out.size))
      clear ho hown hb
      go_wp2
      go_ret
      exact ⟨⟨B, d, rfl, HO.out.wide HB1.out.size (Nat.le_refl _)⟩, HBf.out⟩
end Go.Proofs.YtljleceepghfjaaDoor
