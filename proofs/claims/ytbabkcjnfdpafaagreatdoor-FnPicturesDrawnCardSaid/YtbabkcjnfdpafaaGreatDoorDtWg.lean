/- Plain facts of chapter 7, 6: a flood's queue. No program in sight. -/
import Derived.Test.YtbabkcjnfdpafaaGreatDoorMa
namespace Go.Proofs.YtbabkcjnfdpafaaGreatDoor

theorem nodup_len (n : Nat) : ∀ Q : List Nat, Q.Nodup → (∀ i, i ∈ Q → i < n) → Q.length ≤ n := by
  induction n with
  | zero =>
    intro Q _ h
    cases Q with
    | nil => simp
    | cons x xs => have := h x (by simp); omega
  | succ n ih =>
    intro Q hd h
    by_cases hm : n ∈ Q
    · have h1 := ih (Q.erase n) (hd.erase n) (fun i hi => by
        have h2 := h i (List.mem_of_mem_erase hi)
        have h3 : i ≠ n := fun e => by subst e; exact hd.not_mem_erase hi
        omega)
      rw [List.length_erase_of_mem hm] at h1
      omega
    · have h1 := ih Q hd (fun i hi => by
        have h2 := h i hi
        have h3 : i ≠ n := fun e => hm (by rw [← e]; exact hi)
        omega)
      omega
theorem getD_of (N : List Nat) (s : Nat) (h : s < N.length) : N.getD s 0 = N[s] := by simp [List.getD, h]
/-- What a flood's queue is: all hang together with its begin, none twice; what lies beside its first k, and beside the next one's first t places beside, is in it. -/
structure Gd (W H : Nat) (d : Nat → Bool) (a : Nat) (Q : List Nat) (k t : Nat) : Prop where
  st : a ∈ Q
  cn : ∀ i, i ∈ Q → Conn W H d a i
  nd : Q.Nodup
  cl : ∀ i, i < k → ∀ j, j ∈ nbs W H (Q.getD i 0) → d j = true → j ∈ Q
  pt : ∀ s, s < t → s < (nbs W H (Q.getD k 0)).length → d ((nbs W H (Q.getD k 0)).getD s 0) = true → (nbs W H (Q.getD k 0)).getD s 0 ∈ Q
  kl : k ≤ Q.length
section
variable {W H : Nat} {d : Nat → Bool} {a : Nat} {Q : List Nat} {k t : Nat}
theorem gd_start (h : d a = true) : Gd W H d a [a] 0 0 :=
  ⟨by simp, fun i hi => by simp at hi; subst hi; exact .here h, by simp, fun i hi => by omega, fun s hs => by omega, by simp⟩
theorem gd_at (h : k < Q.length) : Q.getD k 0 ∈ Q := by
  have e : Q.getD k 0 = Q[k] := by simp [List.getD, h]
  rw [e]
  exact List.getElem_mem h
theorem gd_app (j i : Nat) (h : i < Q.length) : (Q ++ [j]).getD i 0 = Q.getD i 0 := by
  simp [List.getD, List.getElem?_append, h]
theorem gd_yes (h : Gd W H d a Q k t) (hk : k < Q.length) (ht : t < (nbs W H (Q.getD k 0)).length) (hd : d ((nbs W H (Q.getD k 0)).getD t 0) = true) (hn : (nbs W H (Q.getD k 0)).getD t 0 ∉ Q) : Gd W H d a (Q ++ [(nbs W H (Q.getD k 0)).getD t 0]) k (t + 1) := by
  have hm : (nbs W H (Q.getD k 0)).getD t 0 ∈ nbs W H (Q.getD k 0) := gd_at ht
  refine ⟨by simp [h.st], fun i hi => ?_, ?_, fun i hi j hj hdj => ?_, fun s hs hs2 hds => ?_, by simp; omega⟩
  · rw [List.mem_append, List.mem_singleton] at hi
    rcases hi with hi | rfl
    · exact h.cn i hi
    · exact .step (h.cn _ (gd_at hk)) hm hd
  · rw [List.nodup_append]
    refine ⟨h.nd, by simp, ?_⟩
    intro x hx y hy
    rw [List.mem_singleton] at hy
    exact fun e => hn (by rw [← hy, ← e]; exact hx)
  · rw [gd_app _ i (by omega)] at hj
    exact List.mem_append_left _ (h.cl i hi j hj hdj)
  · rw [gd_app _ k hk] at hs2 hds ⊢
    rcases Nat.lt_or_ge s t with h1 | h1
    · exact List.mem_append_left _ (h.pt s h1 hs2 hds)
    · obtain rfl : s = t := by omega
      simp
theorem gd_no (ha : a < W * H) (hf : fstP W H d a) (h : Gd W H d a Q k t) (hk : k < Q.length) (ht : t < (nbs W H (Q.getD k 0)).length) (hn : (rem W H d a ((nbs W H (Q.getD k 0)).getD t 0) && !decide ((nbs W H (Q.getD k 0)).getD t 0 ∈ Q)) = false) : Gd W H d a Q k (t + 1) := by
  refine ⟨h.st, h.cn, h.nd, h.cl, fun s hs hs2 hds => ?_, h.kl⟩
  rcases Nat.lt_or_ge s t with h1 | h1
  · exact h.pt s h1 hs2 hds
  · obtain rfl : s = t := by omega
    have hc : Conn W H d a ((nbs W H (Q.getD k 0)).getD s 0) := .step (h.cn _ (gd_at hk)) (gd_at ht) hds
    have hr := rem_of_conn ha hf hc
    rw [hr] at hn
    simpa using hn
theorem gd_next (h : Gd W H d a Q k t) (hk : k < Q.length) (ht : (nbs W H (Q.getD k 0)).length ≤ t) : Gd W H d a Q (k + 1) 0 := by
  refine ⟨h.st, h.cn, h.nd, fun i hi j hj hdj => ?_, fun s hs => by omega, by omega⟩
  rcases Nat.lt_or_ge i k with h1 | h1
  · exact h.cl i h1 j hj hdj
  · obtain rfl : i = k := by omega
    obtain ⟨s, hs, rfl⟩ := List.getElem_of_mem hj
    have e : (nbs W H (Q.getD i 0)).getD s 0 = (nbs W H (Q.getD i 0))[s] := getD_of _ s hs
    have k2 := h.pt s (by omega) hs
    rw [e] at k2
    exact k2 hdj
theorem gd_end (h : Gd W H d a Q k t) (hk : Q.length ≤ k) : ∀ i, pce W H d a i = decide (i ∈ Q) := by
  refine conn_list Q h.st h.cn fun i hi j hj hdj => ?_
  obtain ⟨s, hs, rfl⟩ := List.getElem_of_mem hi
  have e : Q.getD s 0 = Q[s] := by simp [List.getD, hs]
  exact h.cl s (by omega) j (by rw [e]; exact hj) hdj
theorem gd_lt (h : Gd W H d a Q k t) (ha : a < W * H) : ∀ i, i ∈ Q → i < W * H := fun i hi => conn_lt ha (h.cn i hi)
theorem gd_len (h : Gd W H d a Q k t) (ha : a < W * H) : Q.length ≤ W * H := nodup_len _ Q h.nd (gd_lt h ha)
end
end Go.Proofs.YtbabkcjnfdpafaaGreatDoor
