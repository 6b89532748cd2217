/- The tetrahedra up to a number, as the program lists them. -/
import Derived.Test.YtejjgpmdnnogbaaDoorSoA
import Derived.Test.YtejjgpmdnnogbaaDoorSgN
namespace Go.Proofs.YtejjgpmdnnogbaaDoor
open Go.ChangeShapes Go.WideShapes Go.ChangeAt Go.RowKit

theorem sq3 : Sq (pyr 3) := sq_pyr 3 (by omega)
theorem tab_app (f : Nat → Int) (n : Nat) : i64s (tab f n) ++ [.int .i64 (f n)] = i64s (tab f (n + 1)) := by simp [tab, List.range_succ]
set_option maxHeartbeats 800000 in
theorem tetras_any (N : Nat) (w : World) (hN : N ≤ 1500) :
    Calls Tryd.prog 18 #[.int .i64 N] w fun e w' => (∃ g c, e = .returned (.slice (some ⟨g, 0, none⟩) ((lst (pyr 3) N).toNat + 1) c) ∧ Row w' w.heap.size g ((lst (pyr 3) N).toNat + 1) c (fun j => pyr 3 (j : Int))) ∧ Below w.heap.size w w' := by
  obtain ⟨i0, hi0, hz0, hz1, hz2⟩ := info_parts infoInt
  have p0 := lst_nn sq3 N (by omega)
  have p1 := tet_lst N (by omega) (by omega)
  have HI := Lib.hid fun (k : Int) hk => lst_iff sq3 N k (by omega) hk
  obtain ⟨K, hK⟩ : ∃ K : Nat, lst (pyr 3) N = K := Int.eq_ofNat_of_zero_le p0
  rw [hK] at HI p1
  have e0 : (lst (pyr 3) N).toNat = K := by omega
  rw [e0]
  clear e0 hK p0
  go_enter Tryd.func18, Tryd.ntmps18
  go_wp2
  go_loopw [3, 4] (fun v i wr => ∃ k : Nat, k ≤ K + 1 ∧ i = .int .i64 (k : Int) ∧ Hid (wr.ownsRow w.heap.size 3 1 v k (i64s (tab (fun j => pyr 3 (j : Int)) k))) ∧ Below w.heap.size w wr) (fun _ i _ => K + 1 - (intOf i).toNat)
  case atStart => exact ⟨0, by omega, rfl, Lib.hid (World.ownsRow_nil _ _ _ _), Below.refl _ _⟩
  case round =>
    obtain ⟨k, hk, rfl, hown, hb⟩ := hrel
    have hm := HI.out (k : Int) (by omega)
    by_cases hlt : k < K + 1
    · have hn := hm.2 (by omega)
      clear hm
      go_wp2_with (first
        | (go_at_call 24; refine (pyramidOf_any _ _ _ (by omega) (by omega) (by omega) (by omega)).mono ?_; rintro e w' ⟨rfl, rfl⟩)
        | (at_builtin; refine wpList_append_own _ rfl _ _ 25 rfl w.heap.size 3 i0 (.int .i64 0) 1 8 Tryd.underlying25 hi0 hz0 hz1 hz2 rfl (by decide) _ _ _ rfl (hown.out.alloc _) ⟨wr.heap.size, 0, none⟩ 1 1 [.int .i64 (pyr 3 (k : Int))] rfl rfl ?c1 ?c2 ?c3 ?c4 ?c5 ?_))
      case c1 =>
        intro j u hj
        match j, hj with
        | 0, hj => simp at hj; subst hj; simp [Addr.add]
      case c2 => intro u hu; simp at hu; subst hu; rfl
      case c3 => unfold maxLen; omega
      case c4 => omega
      case c5 => have := hb.size; simp; omega
      · intro v' w1 hown' hgrow _
        rw [tab_app (fun j => pyr 3 (j : Int)) k] at hown'
        have hb1 : Below w.heap.size w w1 := (hb.alloc hb.size _).grown hgrow (by have := hb.size; simp; omega) fun g hg => (hown.out.lt g hg).1
        have HO := Lib.hid hown'
        clear hown' hown hgrow hb
        go_wp2
        go_roundw
        case rel => exact ⟨k + 1, by omega, by go_num, HO, hb1⟩
        case measure => simp [intOf] <;> omega
    · have hn : (N : Int) < pyr 3 (k : Int) := by
        rcases Int.lt_or_le (N : Int) (pyr 3 (k : Int)) with h | h
        · exact h
        · have := hm.1 h; omega
      have hke : k = K + 1 := by omega
      have HK := Lib.hid hke
      rcases hown.out.2 with ⟨_, h0⟩ | ⟨g, c, cur, rfl, _⟩
      · omega
      clear hm hke hlt
      go_wp2_with (go_at_call 24; refine (pyramidOf_any _ _ _ (by omega) (by omega) (by omega) (by omega)).mono ?_; rintro e w' ⟨rfl, rfl⟩)
      go_ret
      obtain rfl := HK.out
      exact ⟨⟨g, c, rfl, hown.out⟩, hb⟩
end Go.Proofs.YtejjgpmdnnogbaaDoor
