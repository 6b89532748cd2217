/- Chapter 8: the laws' helpers: a list that is marked leaves all other blocks alone. -/
import Derived.Test.YtmjgjdebcmbjeaaSuP
namespace Go.Proofs.Ytmjgjdebcmbjeaa
open Go.RowKit

/-- Nothing has turned but in the blocks from lo to hi. -/
def Far (lo hi : Nat) (w w' : World) : Prop := w'.heap.size = w.heap.size ∧ ∀ b, (b < lo ∨ hi ≤ b) → w'.heap[b]? = w.heap[b]?
theorem cell_heap {w w' : World} {a : Addr} (h : w'.heap[a.block]? = w.heap[a.block]?) : w'.cell? a = w.cell? a := by
  unfold World.cell?
  rw [h]
theorem frozen_heap {w w' : World} {a : Addr} (h : w'.heap[a.block]? = w.heap[a.block]?) : w'.frozen? a = w.frozen? a := by
  unfold World.frozen?
  rw [h]
theorem Far.refl (lo hi : Nat) (w : World) : Far lo hi w w := ⟨rfl, fun _ _ => rfl⟩
theorem Far.set_ {lo hi g o : Nat} {w w' : World} (h : Far lo hi w w') (h1 : lo ≤ g) (h2 : g < hi) (v : Value) : Far lo hi w (w'.setCell ⟨g, o, none⟩ v) :=
  ⟨by rw [← h.1]; simp [World.setCell], fun b hb => (Below.heap_setCell _ _ _ _ (fun e => by simp at e; omega)).trans (h.2 b hb)⟩
theorem Own.far8 {lo hi l h : Nat} {w w' : World} {A : Option Addr} {cs : List Value} (ho : Own w l h A cs) (hf : Far lo hi w w') (hd : h ≤ lo ∨ hi ≤ l) : Own w' l h A cs := fun hn => by
  obtain ⟨g, o, e, h1, h2, hc⟩ := ho hn
  refine ⟨g, o, e, h1, h2, fun j u hu => ?_⟩
  have hb : w'.heap[g]? = w.heap[g]? := hf.2 g (by omega)
  rw [cell_heap (a := ⟨g, o + j, none⟩) hb, frozen_heap (a := ⟨g, o + j, none⟩) hb]
  exact hc j u hu
set_option maxHeartbeats 400000 in
theorem markIntS_far8 (A : Option Addr) (n c lo hi : Nat) (cs : List Value) (m : Int) (w : World) (hn : cs.length = n) (hm : n ≤ 1000000000) (m0 : 0 ≤ m) (m1 : m ≤ 1000000000)
    (ha : Own w lo hi A cs) :
    Calls Try.prog 23 #[.slice A n c, .int .i64 m] w fun e w' => e = .returned (.int .i64 (m + n)) ∧ Own w' lo hi A (i64s (marks m n)) ∧ Below lo w w' ∧ Far lo hi w w' := by
  have HA := Lib.hid ha
  have HN := Lib.hid hn
  clear ha hn
  go_enter Try.func23, Try.ntmps23
  go_wp2
  go_loopw [1, 5] (fun v i wr => ∃ k : Nat, k ≤ n ∧ i = .int .i64 k ∧ v = .int .i64 (m + k) ∧ Hid (Own wr lo hi A (i64s (marks m k) ++ cs.drop k)) ∧ Below lo w wr ∧ Hid (Far lo hi w wr)) (fun _ i _ => n - (intOf i).toNat)
  case atStart => exact ⟨0, Nat.zero_le _, rfl, by simp, by simpa [marks] using HA, Below.refl _ _, Lib.hid (Far.refl _ _ _)⟩
  case round =>
    obtain ⟨k, hk, rfl, rfl, HO, hb, HF⟩ := hrel
    by_cases hlt : k < n
    · have hlen : k < (i64s (marks m k) ++ cs.drop k).length := by simp [marks_len, HN.out]; omega
      obtain ⟨g, o, rfl, hg1, hg2, hca, hfa⟩ := HO.out.at_ hlen
      have hown := HO.out.set_ k hlen (.int .i64 (m + k))
      rw [marks_set m cs k (by rw [HN.out]; exact hlt)] at hown
      have HO2 := Lib.hid hown
      have hb2 : Below lo w (wr.setCell ⟨g, o + k, none⟩ (.int .i64 (m + k))) := hb.setCell hg1 _
      have HF2 := Lib.hid (HF.out.set_ (o := o + k) hg1 hg2 (.int .i64 (m + k)))
      generalize (i64s (marks m k) ++ cs.drop k)[k]'hlen = z at hca
      clear hown hlen
      go_wp2
      go_roundw
      case rel => exact ⟨k + 1, by omega, by go_num, by go_num, HO2, hb2, HF2⟩
      case measure => simp [intOf]; omega
    · obtain rfl : k = n := by omega
      have hO := HO.out
      rw [List.drop_eq_nil_of_le (by rw [HN.out]; exact Nat.le_refl _), List.append_nil] at hO
      have HO3 := Lib.hid hO
      clear hO
      go_wp2
      go_ret
      exact ⟨rfl, HO3.out, hb, HF.out⟩
end Go.Proofs.Ytmjgjdebcmbjeaa
