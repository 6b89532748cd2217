/- Chapter 9: the text of a puzzle, read back, plainly. -/
import Derived.Test.YtljleceepghfjaaDoorTiF
import Derived.Test.YtljleceepghfjaaDoorDtN
namespace Go.Proofs.YtljleceepghfjaaDoor
open Go.ChangeShapes Go.WideShapes Go.ChangeAt Go.RowKit

/-- A number's text and a clue's, as lists. -/
def dL (n : Int) : List UInt8 := Lib.decDigits n.toNat
def clL (q : Clu) : List UInt8 := joinP 46 [dL q.k, dL q.a, dL q.b]
/-- A clue read off its text. -/
def rdC (w : List UInt8) : Option Clu := match parts w 46 with
  | [x, y, z] => some ⟨rd9 x, rd9 y, rd9 z⟩
  | _ => none
def rdCs : List (List UInt8) → Option (List Clu)
  | [] => some []
  | w :: ws => match rdC w, rdCs ws with
    | some q, some cs => some (q :: cs)
    | _, _ => none
/-- A puzzle read off its text. -/
def rdP (l : List UInt8) : Option (Int × List Clu) := if 80 < l.length then none else match parts l 58 with
  | [a, b] => match (if b = [] then some [] else rdCs (parts b 44)) with
    | some cs => if okp9 (rd9 a) cs = true then some (rd9 a, cs) else none
    | none => none
  | _ => none
/-- The text of a puzzle as a list. -/
def pzL (m : Int) (cs : List Clu) : List UInt8 := dL m ++ 58 :: joinP 44 (cs.map clL)
theorem join_joinP (b : UInt8) (rs : List (List UInt8)) : Lib.join rs [b] = joinP b rs := by
  cases rs with
  | nil => rfl
  | cons r rs =>
    rw [Lib.join_cons]
    show _ = rs.foldl (fun acc x => acc ++ (b :: x)) r
    induction rs generalizing r with
    | nil => simp [Lib.joinTail]
    | cons x rs ih =>
      rw [List.foldl_cons, ← ih]
      simp [Lib.joinTail]
theorem clT_list (q : Clu) : (clT q).data.toList = clL q := by
  unfold clT clL dT dL joinP
  simp
theorem pzR_list (m : Int) (cs : List Clu) : (pzR m cs cs.length).data.toList = pzL m cs := by
  have h := pzR_join m cs cs.length (Nat.le_refl _)
  rw [List.take_length] at h
  rw [h, join_joinP]
  unfold pzL dT dL
  simp only [ByteArray.data_append, Array.toList_append]
  simp [clT_list]
theorem dL_dig (n : Int) : ∀ c ∈ dL n, 48 ≤ c.toNat ∧ c.toNat ≤ 57 := dec_digits n.toNat
theorem dL_ne (n : Int) : dL n ≠ [] := dec_ne n.toNat
theorem dL_len {n : Int} (h : n ≤ 999) : (dL n).length ≤ 3 := by
  unfold dL
  have h' : n.toNat ≤ 999 := by omega
  generalize n.toNat = u at *
  by_cases h1 : u < 10
  · rw [dec_lo h1]; simp
  · rw [dec_hi h1]
    by_cases h2 : u / 10 < 10
    · rw [dec_lo h2]; simp
    · rw [dec_hi h2, dec_lo (by omega)]; simp
theorem rd9_dL {n : Int} (h0 : 0 ≤ n) (h : n ≤ 999) : rd9 (dL n) = n := by
  have h2 := dL_len h
  unfold dL at h2 ⊢
  rw [rd9_dec (by omega) (by omega)]
  omega
theorem dig_ne {c b : UInt8} (h : 48 ≤ c.toNat ∧ c.toNat ≤ 57) (hb : b.toNat < 48 ∨ 57 < b.toNat) : c ≠ b := by
  intro e
  subst e
  omega
theorem clL_bytes (q : Clu) : ∀ c ∈ clL q, (48 ≤ c.toNat ∧ c.toNat ≤ 57) ∨ c = 46 := by
  intro c hc
  have : c ∈ dL q.k ∨ c = 46 ∨ c ∈ dL q.a ∨ c = 46 ∨ c ∈ dL q.b := by
    simpa [clL, joinP, or_assoc] using hc
  rcases this with h | h | h | h | h
  · exact .inl (dL_dig _ c h)
  · exact .inr h
  · exact .inl (dL_dig _ c h)
  · exact .inr h
  · exact .inl (dL_dig _ c h)
theorem clL_parts (q : Clu) : parts (clL q) 46 = [dL q.k, dL q.a, dL q.b] := by
  refine parts_join 46 _ (by simp) ?_
  intro x hx c hc
  simp at hx
  rcases hx with rfl | rfl | rfl <;> exact dig_ne (dL_dig _ c hc) (by decide)
theorem rdC_text {q : Clu} (h : okc9 q = true) : rdC (clL q) = some q := by
  obtain ⟨⟨a0, a1⟩, ⟨b0, b1⟩, ⟨c0, c1⟩⟩ := okc9_bds h
  unfold rdC
  rw [clL_parts]
  simp only
  rw [rd9_dL a0 (by omega), rd9_dL b0 (by omega), rd9_dL c0 (by omega)]
theorem rdCs_text : ∀ (cs : List Clu), cs.all okc9 = true → rdCs (cs.map clL) = some cs
  | [], _ => rfl
  | q :: cs, h => by
    rw [List.all_cons, Bool.and_eq_true] at h
    rw [List.map_cons, rdCs, rdC_text h.1, rdCs_text cs h.2]
/-- A clue that was read, and is one, is its text. -/
theorem clL_of_rdC {w : List UInt8} {q : Clu} (h : rdC w = some q) (hq : okc9 q = true) : w = clL q := by
  obtain ⟨⟨a0, _⟩, ⟨b0, _⟩, ⟨c0, _⟩⟩ := okc9_bds hq
  unfold rdC at h
  split at h
  · rename_i x y z hp
    injection h with h
    subst h
    simp only at a0 b0 c0
    have hj := join_parts w 46
    rw [hp] at hj
    unfold clL dL
    simp only
    rw [← rd9_text a0, ← rd9_text b0, ← rd9_text c0]
    exact hj.symm
  · cases h
theorem clL_of_rdCs : ∀ (ws : List (List UInt8)) (cs : List Clu), rdCs ws = some cs → cs.all okc9 = true → ws = cs.map clL
  | [], cs, h, _ => by
    simp only [rdCs, Option.some.injEq] at h
    subst h
    rfl
  | w :: ws, cs, h, ha => by
    rw [rdCs] at h
    split at h
    · rename_i q cs' h1 h2
      injection h with h
      subst h
      rw [List.all_cons, Bool.and_eq_true] at ha
      rw [List.map_cons, ← clL_of_rdC h1 ha.1, ← clL_of_rdCs ws cs' h2 ha.2]
    · cases h
theorem okp9_parts {m : Int} {cs : List Clu} (h : okp9 m cs = true) : (1 ≤ m ∧ m ≤ 500) ∧ cs.length ≤ 6 ∧ cs.all okc9 = true := by
  unfold okp9 at h
  simp only [Bool.and_eq_true, decide_eq_true_iff] at h
  exact ⟨h.1.1, h.1.2, h.2⟩
theorem joinP_all {Q : UInt8 → Prop} (b : UInt8) (hb : Q b) : ∀ rs : List (List UInt8), (∀ x ∈ rs, ∀ c ∈ x, Q c) → ∀ c ∈ joinP b rs, Q c
  | [], _ => by intro c hc; simp [joinP] at hc
  | r :: rs, h => by
    show ∀ c ∈ rs.foldl (fun acc x => acc ++ (b :: x)) r, Q c
    have hr : ∀ c ∈ r, Q c := h r (by simp)
    have hs : ∀ x ∈ rs, ∀ c ∈ x, Q c := fun x hx => h x (by simp [hx])
    clear h
    induction rs generalizing r with
    | nil => exact hr
    | cons x rs ih =>
      rw [List.foldl_cons]
      refine ih (r ++ b :: x) (fun c hc => ?_) (fun y hy => hs y (by simp [hy]))
      rw [List.mem_append, List.mem_cons] at hc
      rcases hc with hc | hc | hc
      · exact hr c hc
      · subst hc; exact hb
      · exact hs x (by simp) c hc
theorem joinP_len9 (b : UInt8) : ∀ rs : List (List UInt8), (∀ x ∈ rs, x.length ≤ 11) → (joinP b rs).length ≤ 12 * rs.length
  | [], _ => by simp [joinP]
  | r :: rs, h => by
    have hr : r.length ≤ 11 := h r (by simp)
    have hs : ∀ x ∈ rs, x.length ≤ 11 := fun x hx => h x (by simp [hx])
    clear h
    have key : ∀ (rs : List (List UInt8)) (acc : List UInt8), (∀ x ∈ rs, x.length ≤ 11) → (rs.foldl (fun acc x => acc ++ (b :: x)) acc).length ≤ acc.length + 12 * rs.length := by
      intro rs
      induction rs with
      | nil => intro acc _; simp
      | cons x rs ih =>
        intro acc hx
        have h1 := ih (acc ++ b :: x) (fun y hy => hx y (by simp [hy]))
        have h2 := hx x (by simp)
        rw [List.foldl_cons, List.length_cons]
        rw [List.length_append, List.length_cons] at h1
        omega
    have := key rs r hs
    show (rs.foldl (fun acc x => acc ++ (b :: x)) r).length ≤ _
    rw [List.length_cons]
    omega
theorem clL_len {q : Clu} (h : okc9 q = true) : (clL q).length ≤ 11 := by
  obtain ⟨⟨_, a1⟩, ⟨_, b1⟩, ⟨_, c1⟩⟩ := okc9_bds h
  have l1 := dL_len (n := q.k) (by omega)
  have l2 := dL_len (n := q.a) (by omega)
  have l3 := dL_len (n := q.b) (by omega)
  simp only [clL, joinP, List.foldl_cons, List.foldl_nil, List.length_append, List.length_cons]
  omega
theorem pzL_join (m : Int) (cs : List Clu) : pzL m cs = joinP 58 [dL m, joinP 44 (cs.map clL)] := rfl
theorem clL_ne (q : Clu) : clL q ≠ [] := by
  have h := dL_ne q.k
  unfold clL joinP
  simp [h]
theorem joinP_ne (b : UInt8) (r : List UInt8) (rs : List (List UInt8)) (h : r ≠ []) : joinP b (r :: rs) ≠ [] := by
  show rs.foldl (fun acc x => acc ++ (b :: x)) r ≠ []
  induction rs generalizing r with
  | nil => exact h
  | cons x rs ih => exact ih _ (by simp)
theorem rdP_text {m : Int} {cs : List Clu} (h : okp9 m cs = true) : rdP (pzL m cs) = some (m, cs) := by
  obtain ⟨⟨m1, m5⟩, h6, ha⟩ := okp9_parts h
  have hp : parts (pzL m cs) 58 = [dL m, joinP 44 (cs.map clL)] := by
    rw [pzL_join]
    refine parts_join 58 _ (by simp) ?_
    intro x hx c hc
    simp at hx
    rcases hx with rfl | rfl
    · exact dig_ne (dL_dig _ c hc) (by decide)
    · have := joinP_all (Q := fun c => c ≠ 58) 44 (by decide) (cs.map clL) (by
        intro x hx c hc
        obtain ⟨q, _, rfl⟩ := List.mem_map.1 hx
        rcases clL_bytes q c hc with h | h
        · exact dig_ne h (by decide)
        · rw [h]; decide) c hc
      exact this
  have hlen : ¬ 80 < (pzL m cs).length := by
    have h1 := dL_len (n := m) (by omega)
    have h2 := joinP_len9 44 (cs.map clL) (by
      intro x hx
      obtain ⟨q, hq, rfl⟩ := List.mem_map.1 hx
      exact clL_len (List.all_eq_true.1 ha q hq))
    rw [List.length_map] at h2
    unfold pzL
    rw [List.length_append, List.length_cons]
    omega
  unfold rdP
  rw [if_neg hlen, hp]
  simp only
  have hc : (if joinP 44 (cs.map clL) = [] then some [] else rdCs (parts (joinP 44 (cs.map clL)) 44)) = some cs := by
    cases cs with
    | nil => rfl
    | cons q cs =>
      rw [if_neg (show ¬ joinP 44 ((q :: cs).map clL) = [] from joinP_ne 44 _ _ (clL_ne q)), parts_join 44 _ (by simp) (by
        intro x hx c hc
        obtain ⟨q', _, rfl⟩ := List.mem_map.1 hx
        rcases clL_bytes q' c hc with h | h
        · exact dig_ne h (by decide)
        · rw [h]; decide)]
      exact rdCs_text _ ha
  rw [hc]
  simp only
  rw [rd9_dL (by omega) (by omega), if_pos h]
theorem rdP_some {l : List UInt8} {m : Int} {cs : List Clu} (h : rdP l = some (m, cs)) : okp9 m cs = true ∧ l = pzL m cs := by
  unfold rdP at h
  split at h
  · cases h
  · split at h
    · rename_i a b hp
      split at h
      · rename_i cs' hc
        split at h
        · rename_i hok
          injection h with h
          injection h with h1 h2
          subst h1 h2
          refine ⟨hok, ?_⟩
          obtain ⟨⟨m1, _⟩, _, ha⟩ := okp9_parts hok
          have hj := join_parts l 58
          rw [hp] at hj
          have hb : b = joinP 44 (cs'.map clL) := by
            split at hc
            · rename_i hb
              injection hc with hc
              subst hc
              rw [hb]
              rfl
            · rw [← clL_of_rdCs _ _ hc ha, join_parts]
          rw [← hj, pzL_join]
          unfold dL
          rw [← rd9_text (l := a) (by omega), ← hb]
        · cases h
      · cases h
    · cases h
end Go.Proofs.YtljleceepghfjaaDoor
