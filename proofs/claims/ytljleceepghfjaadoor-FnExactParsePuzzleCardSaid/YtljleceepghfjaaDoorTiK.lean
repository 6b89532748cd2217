/- Chapter 9: the text of a puzzle, cut up by the library's functions, plainly. -/
import Derived.Test.YtljleceepghfjaaDoorTiG
import Derived.Lib.IndexMore
import Derived.Lib.IndexBytes
import Derived.Lib.Split
namespace Go.Proofs.YtljleceepghfjaaDoor
open Go.ChangeShapes Go.WideShapes Go.ChangeAt Go.RowKit

theorem idx_at (b : UInt8) (x y : List UInt8) (h : ∀ c ∈ x, c ≠ b) : Lib.indexByte (x ++ b :: y) b = (x.length : Int) := by
  induction x with
  | nil => simp [Lib.indexByte]
  | cons c x ih =>
    have hc : c ≠ b := h c (by simp)
    have := ih (fun d hd => h d (by simp [hd]))
    simp [Lib.indexByte, hc, this]
theorem idx_free (b : UInt8) (x : List UInt8) (h : ∀ c ∈ x, c ≠ b) : Lib.indexByte x b = -1 := by
  induction x with
  | nil => simp [Lib.indexByte]
  | cons c x ih =>
    have hc : c ≠ b := h c (by simp)
    have := ih (fun d hd => h d (by simp [hd]))
    simp [Lib.indexByte, hc, this]
theorem cut_at (b : UInt8) (x y : List UInt8) (h : ∀ c ∈ x, c ≠ b) : Lib.cut (x ++ b :: y) [b] = (x, y, true) := by
  unfold Lib.cut
  rw [Lib.index_one, idx_at b x y h, if_pos (by omega)]
  simp
theorem cut_free (b : UInt8) (x : List UInt8) (h : ∀ c ∈ x, c ≠ b) : Lib.cut x [b] = (x, [], false) := by
  unfold Lib.cut
  rw [Lib.index_one, idx_free b x h, if_neg (by omega)]
theorem joinP_cons (b : UInt8) (r x : List UInt8) (rs : List (List UInt8)) : joinP b (r :: x :: rs) = r ++ b :: joinP b (x :: rs) := by
  rw [← join_joinP, ← join_joinP, Lib.join_cons, Lib.join_cons]
  simp [Lib.joinTail]
theorem splitK_join (b : UInt8) : ∀ (rs : List (List UInt8)) (k : Nat), rs ≠ [] → rs.length ≤ k + 1 → (∀ x ∈ rs, ∀ c ∈ x, c ≠ b) → Lib.splitK [b] 0 k (joinP b rs) = rs
  | [], _, h, _, _ => absurd rfl h
  | [r], k, _, _, hf => by
    have hr := idx_free b r (hf r (by simp))
    cases k with
    | zero => rfl
    | succ k =>
      show Lib.splitK [b] 0 (k + 1) r = [r]
      unfold Lib.splitK
      rw [Lib.index_one, hr]
      simp
  | r :: x :: rs, k, _, hl, hf => by
    cases k with
    | zero => simp at hl
    | succ k =>
      have hr := idx_at b r (joinP b (x :: rs)) (hf r (by simp))
      have ih := splitK_join b (x :: rs) k (by simp) (by simp at hl ⊢; omega) (fun y hy => hf y (by simp at hy ⊢; exact .inr hy))
      rw [joinP_cons]
      unfold Lib.splitK
      rw [Lib.index_one, hr, if_neg (by simp)]
      simp [ih]
theorem dL_free (n : Int) (b : UInt8) (hb : b.toNat < 48 ∨ 57 < b.toNat) : ∀ c ∈ dL n, c ≠ b := fun c hc => dig_ne (dL_dig n c hc) hb
theorem cut_pz (m : Int) (cs : List Clu) : Lib.cut (pzL m cs) [58] = (dL m, joinP 44 (cs.map clL), true) := cut_at 58 _ _ (dL_free m 58 (by decide))
theorem clL_two (q : Clu) : clL q = dL q.k ++ 46 :: (dL q.a ++ 46 :: dL q.b) := by
  unfold clL
  rw [joinP_cons, joinP_cons]
  rfl
theorem cut_cl (q : Clu) : Lib.cut (clL q) [46] = (dL q.k, dL q.a ++ 46 :: dL q.b, true) := by
  rw [clL_two]
  exact cut_at 46 _ _ (dL_free _ 46 (by decide))
theorem cut_cl2 (q : Clu) : Lib.cut (dL q.a ++ 46 :: dL q.b) [46] = (dL q.a, dL q.b, true) := cut_at 46 _ _ (dL_free _ 46 (by decide))
theorem clL_free44 (cs : List Clu) : ∀ x ∈ cs.map clL, ∀ c ∈ x, c ≠ 44 := by
  intro x hx c hc
  obtain ⟨q, _, rfl⟩ := List.mem_map.1 hx
  rcases clL_bytes q c hc with h | h
  · exact dig_ne h (by decide)
  · rw [h]; decide
theorem splitN_cs (cs : List Clu) (hne : cs ≠ []) (h6 : cs.length ≤ 6) : Lib.splitN (joinP 44 (cs.map clL)) [44] 7 = cs.map clL := by
  have hm : cs.map clL ≠ [] := by simpa using hne
  have hp := (parts_len (joinP 44 (cs.map clL)) 44).2
  rw [parts_join 44 _ hm (clL_free44 cs), List.length_map] at hp
  have h0 : cs.length ≠ 0 := fun e => hne (List.length_eq_zero_iff.1 e)
  unfold Lib.splitN
  exact splitK_join 44 _ _ hm (by rw [List.length_map]; omega) (clL_free44 cs)
theorem atoi_dL {n : Int} (h0 : 0 ≤ n) (h : n ≤ 999) : Lib.atoiAll (dL n) = .ok n := by
  have := atoi_dec n.toNat (by omega)
  unfold dL
  rw [this]
  congr 1
  omega
end Go.Proofs.YtljleceepghfjaaDoor
