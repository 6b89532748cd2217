/- The texts XBase XNum XDtM XDtN XDtP XDtQ XDtW XDuM XDvL XSpA XImA XNuB joined. -/
import Derived.Test.YtbabkcjnfdpafaaGreatDoorRows
import Derived.WalkKit
import Derived.ProofKit
import Derived.OpenShut
import Derived.Lib.Hide
import Derived.Test.YtbabkcjnfdpafaaGreatDoorChecked
/- What every law's last step shares: the call returns true, nothing that was there has turned, so the arguments read as before. -/
namespace Go.Proofs.YtbabkcjnfdpafaaGreatDoor
open Go.ChangeShapes Go.WideShapes Go.ChangeAt Go.RowKit

theorem Tryz.own : ownKnob Tryz.prog.godebug = none := by kernel_rfl
theorem Tryz.laidOut : laidOutB Tryz.prog = true := by kernel_rfl

section
variable {H : Type} {enc : TypeId × Value → H} {P : Program}
theorem all_stay (hl : laidOutB P = true) {W W' : World} (hb : Below W.heap.size W W') :
    ∀ {ts : List TypeId} {vs : List Value} {ds : List (DataW H)} {ps : List MemPlace}, (∀ t ∈ ts, P.readableRec t = true ∧ t < P.types.size) →
      DataW.TrodAll enc P W 0 (fun _ => true) true ts vs ds ps → (∀ x ∈ ps, x.block < W.heap.size) →
      DataW.TrodAll enc P W' 0 (fun b => decide (b < W.heap.size)) true ts vs ds ps
  | [], _, _, _, _, h, _ => by
    obtain ⟨rfl, rfl, rfl⟩ := trodAll_nil h
    exact trodAll_mk0
  | t :: ts, _, _, _, ht, h, hlt => by
    obtain ⟨v, vs1, d, ds1, a, b, rfl, rfl, rfl, h1, h2⟩ := trodAll_cons h
    refine trodAll_cons_mk (Below.trod hl (ht t (by simp)).1 (ht t (by simp)).2 h1 hb fun x hx => hlt x (by simp [hx])) ?_
    exact all_stay hl hb (fun t' h' => ht t' (by simp [h'])) h2 fun x hx => hlt x (by simp [hx])

theorem law_post {f : Func} {s : ChangeSpec} {W W' : World} {args : Array Value} {ds gs : List (DataW H)} {before : List MemPlace} {tb : TypeId}
    (hl : laidOutB P = true) (hr : f.resultTypes = #[tb]) (htb : P.underlying tb = some .bool) (hp : ∀ t ∈ f.params.toList, P.readableRec t = true ∧ t < P.types.size)
    (hW : DataW.Whole enc P f.params.toList s.vars false W args.toList ds gs before)
    (hA : DataW.TrodAll enc P W 0 (fun _ => true) true f.params.toList args.toList ds before)
    (hs1 : (s.fn H (ds ++ gs)).results = [.lit (.bool true)]) (hs2 : (s.fn H (ds ++ gs)).args = ds)
    (hv : DataW.TrodVars enc P W' (fun b => decide (b < W.heap.size)) s.vars (s.fn H (ds ++ gs)).vars [])
    (hb : Below W.heap.size W W') : s.post enc P f false true false false W args (.bool true) W' := by
  refine ⟨ds, gs, before, [], before, [], hW, ?_, ?_, hv, ?_, fun h => by cases h⟩
  · rw [hs1, hr]
    exact trodAll_mk1 (shut_bool htb true)
  · rw [hs2]
    exact all_stay hl hb hp hA fun x hx => hW.lt x hx
  · exact World.keptBut_mono (fun p hp' => ⟨hp', by simp [hp']⟩) (hb.frame (· ∈ before))
end
end Go.Proofs.YtbabkcjnfdpafaaGreatDoor

/- Plain arithmetic of polygonal numbers: no program in sight. -/
namespace Go.Proofs.YtbabkcjnfdpafaaGreatDoor

theorem ret_int {k : IntKind} {a b : Int} (h : a = b) : Ending.returned (.int k a) = .returned (.int k b) := by rw [h]

open Go.RowKit in
/-- What a contract that ends in 'Below' says of old cells and marks, as two rules. -/
theorem bcell {W w1 : World} (hb : Below W.heap.size W w1) : (∀ b o, b < W.heap.size → w1.cell? ⟨b, o, none⟩ = W.cell? ⟨b, o, none⟩) ∧ (∀ b o, b < W.heap.size → w1.frozen? ⟨b, o, none⟩ = W.frozen? ⟨b, o, none⟩) :=
  ⟨fun b o h => hb.cell (p := ⟨b, o, none⟩) h, fun b o h => hb.frozen (p := ⟨b, o, none⟩) h⟩

/-- The polygonal number of a place that may be less than 0. -/
def num (s k : Int) : Int := ((s - 2) * k * k - (s - 4) * k) / 2

theorem even_pr (k : Int) : k * (k - 1) % 2 = 0 := by
  rcases Int.emod_two_eq k with h | h <;> simp [Int.mul_emod, Int.sub_emod, h]

theorem num_twice (s k : Int) : 2 * num s k = (s - 2) * k * k - (s - 4) * k := by
  have h : (s - 2) * k * k - (s - 4) * k = 2 * ((s - 2) * (k * (k - 1) / 2) + k) := by
    have h2 := even_pr k
    have h3 : k * (k - 1) = 2 * (k * (k - 1) / 2) := by omega
    generalize k * (k - 1) / 2 = q at h3
    grind
  unfold num
  rw [h]
  omega

theorem num_zero (s : Int) : num s 0 = 0 := by simp [num]
theorem num_one (s : Int) : num s 1 = 1 := by
  have := num_twice s 1
  grind
theorem num_succ (s k : Int) : num s (k + 1) = num s k + (s - 2) * k + 1 := by
  have h1 := num_twice s k
  have h2 := num_twice s (k + 1)
  grind

theorem sq_nn (k : Int) : 0 ≤ k * k := by
  rcases Int.le_total 0 k with h | h
  · exact Int.mul_nonneg h h
  · have := Int.mul_nonneg (a := -k) (b := -k) (by omega) (by omega)
    grind

/-- twice the number is (s - 3) k (k - 1) and k (k + 1) -/
theorem num_split (s k : Int) : 2 * num s k = (s - 3) * (k * (k - 1)) + k * (k + 1) := by
  have h1 := num_twice s k
  grind

theorem pr_nn (k : Int) : 0 ≤ k * (k - 1) := by
  rcases Int.lt_or_le 0 k with h | h
  · exact Int.mul_nonneg (by omega) (by omega)
  · have := Int.mul_nonneg (a := -k) (b := 1 - k) (by omega) (by omega)
    grind
theorem pr_nn' (k : Int) : 0 ≤ k * (k + 1) := by
  have := pr_nn (k + 1)
  grind

theorem num_nn (s k : Int) (hs : 3 ≤ s) : 0 ≤ num s k := by
  have h1 := num_split s k
  have h2 := Int.mul_nonneg (a := s - 3) (b := k * (k - 1)) (by omega) (pr_nn k)
  have h3 := pr_nn' k
  omega

theorem num_lt_succ (s k : Int) (hs : 3 ≤ s) (hk : 0 ≤ k) : num s k < num s (k + 1) := by
  have h1 := num_succ s k
  have h2 := Int.mul_nonneg (a := s - 2) (b := k) (by omega) hk
  omega

theorem num_lt (s : Int) (hs : 3 ≤ s) (a : Int) (ha : 0 ≤ a) (d : Nat) : num s a < num s (a + d + 1) := by
  induction d with
  | zero => simpa using num_lt_succ s a hs ha
  | succ d ih =>
    have h := num_lt_succ s (a + d + 1) hs (by omega)
    have e : a + ((d + 1 : Nat) : Int) + 1 = a + d + 1 + 1 := by omega
    rw [e]
    omega

theorem num_mono_lt (s : Int) (hs : 3 ≤ s) {a b : Int} (ha : 0 ≤ a) (h : a < b) : num s a < num s b := by
  have := num_lt s hs a ha (b - a - 1).toNat
  have e : a + ((b - a - 1).toNat : Int) + 1 = b := by omega
  rwa [e] at this
theorem num_mono_le (s : Int) (hs : 3 ≤ s) {a b : Int} (ha : 0 ≤ a) (h : a ≤ b) : num s a ≤ num s b := by
  rcases Int.lt_or_eq_of_le h with h | h
  · exact Int.le_of_lt (num_mono_lt s hs ha h)
  · rw [h]; exact Int.le_refl _

theorem num_ge (s k : Int) (hs : 3 ≤ s) : k * (k + 1) ≤ 2 * num s k := by
  have h1 := num_split s k
  have h2 := Int.mul_nonneg (a := s - 3) (b := k * (k - 1)) (by omega) (pr_nn k)
  omega

theorem sq_le (k : Int) (a : Int) (h1 : -a ≤ k) (h2 : k ≤ a) : k * k ≤ a * a := by
  have h3 := Int.mul_nonneg (a := a - k) (b := a + k) (by omega) (by omega)
  grind

/-- What a walk over ((s - 2) k k - (s - 4) k) / 2 asks. -/
structure NumBds (s k : Int) : Prop where
  a0 : -66000000 ≤ (s - 2) * k
  a1 : (s - 2) * k ≤ 66000000
  b0 : 0 ≤ (s - 2) * k * k
  b1 : (s - 2) * k * k ≤ 198000000000000
  c0 : -80000000 ≤ (s - 4) * k
  c1 : (s - 4) * k ≤ 80000000
  d0 : 0 ≤ (s - 2) * k * k - (s - 4) * k

theorem num_bds (s k : Int) (h1 : 3 ≤ s) (h2 : s ≤ 24) (h3 : -3000000 ≤ k) (h4 : k ≤ 3000000) : NumBds s k := by
  have e1 := Int.mul_nonneg (a := s - 2) (b := 3000000 - k) (by omega) (by omega)
  have e2 := Int.mul_nonneg (a := s - 2) (b := 3000000 + k) (by omega) (by omega)
  have e3 := sq_nn k
  have e4 := sq_le k 3000000 h3 h4
  have e5 := Int.mul_nonneg (a := s - 2) (b := k * k) (by omega) e3
  have e6 := Int.mul_nonneg (a := s - 2) (b := 9000000000000 - k * k) (by omega) (by omega)
  have e7 := num_twice s k
  have e8 := num_nn s k h1
  have f1 : (s - 2) * (3000000 - k) = 3000000 * (s - 2) - (s - 2) * k := by grind
  have f2 : (s - 2) * (3000000 + k) = 3000000 * (s - 2) + (s - 2) * k := by grind
  have f5 : (s - 2) * (k * k) = (s - 2) * k * k := by grind
  have f6 : (s - 2) * (9000000000000 - k * k) = 9000000000000 * (s - 2) - (s - 2) * k * k := by grind
  have f8 : (s - 4) * k = (s - 2) * k - 2 * k := by grind
  constructor <;> omega

/-! ### the place of a number -/
def IsPl (s n k : Int) : Prop := 0 ≤ k ∧ num s k ≤ n ∧ n < num s (k + 1)

theorem pl_ex (s : Int) (hs : 3 ≤ s) (n : Nat) : ∃ k, IsPl s n k := by
  induction n with
  | zero => exact ⟨0, by omega, by simp [num_zero], by have := num_one s; simp; omega⟩
  | succ n ih =>
    obtain ⟨k, h0, h1, h2⟩ := ih
    by_cases h : num s (k + 1) ≤ ((n + 1 : Nat) : Int)
    · exact ⟨k + 1, by omega, h, by have := num_lt_succ s (k + 1) hs (by omega); omega⟩
    · exact ⟨k, h0, by omega, by omega⟩

/-- The greatest place whose number is no greater. -/
noncomputable def pl (s n : Int) : Int := Classical.epsilon (IsPl s n)

theorem pl_is (s n : Int) (hs : 3 ≤ s) (hn : 0 ≤ n) : IsPl s n (pl s n) := by
  obtain ⟨m, rfl⟩ := Int.eq_ofNat_of_zero_le hn
  exact Classical.epsilon_spec (pl_ex s hs m)

theorem pl_nn (s n : Int) (hs : 3 ≤ s) (hn : 0 ≤ n) : 0 ≤ pl s n := (pl_is s n hs hn).1
/-- A place fits just if it is no greater. -/
theorem fits_iff (s n k : Int) (hs : 3 ≤ s) (hn : 0 ≤ n) (hk : 0 ≤ k) : num s k ≤ n ↔ k ≤ pl s n := by
  obtain ⟨h0, h1, h2⟩ := pl_is s n hs hn
  constructor
  · intro h
    rcases Int.lt_or_le (pl s n) k with hlt | hle
    · have := num_mono_le s hs (a := pl s n + 1) (b := k) (by omega) (by omega)
      omega
    · exact hle
  · intro h
    have := num_mono_le s hs hk h
    omega
theorem pl_le (s n : Int) (hs : 3 ≤ s) (hn : 0 ≤ n) (h : n ≤ 1000000000000) : pl s n ≤ 1414214 := by
  obtain ⟨h0, h1, h2⟩ := pl_is s n hs hn
  rcases Int.lt_or_le 1414214 (pl s n) with hlt | hle
  · have h3 := num_ge s (pl s n) hs
    have h4 := Int.mul_nonneg (a := pl s n - 1414214) (b := pl s n + 1414214) (by omega) (by omega)
    have h5 : pl s n * (pl s n + 1) = (pl s n - 1414214) * (pl s n + 1414214) + 1414214 * 1414214 + pl s n := by grind
    omega
  · exact hle

end Go.Proofs.YtbabkcjnfdpafaaGreatDoor

/- Plain facts of chapter 7: texts as lists of bytes, parts between separators, texts joined. No program in sight. -/
namespace Go.Proofs.YtbabkcjnfdpafaaGreatDoor

/-- A text of bytes. -/
def bt (l : List UInt8) : ByteArray := ⟨l.toArray⟩
theorem bt_size (l : List UInt8) : (bt l).size = l.length := by simp [bt, ByteArray.size]
theorem bt_of (s : ByteArray) : s = bt s.data.toList := by simp [bt]
theorem bt_list (l : List UInt8) : (bt l).data.toList = l := by simp [bt]
theorem bt_app (a b : List UInt8) : bt a ++ bt b = bt (a ++ b) := by
  apply ByteArray.ext
  simp [bt]
theorem bt_get (l : List UInt8) (k : Nat) (h : k < (bt l).size) : (bt l)[k] = l[k]'(by rw [bt_size] at h; exact h) := by
  simp [bt, ByteArray.getElem_eq_getElem_data]
theorem bt_cut (l : List UInt8) (i j : Nat) : (bt l).extract i j = bt ((l.take j).drop i) := by
  apply ByteArray.ext
  simp [bt, List.extract_toArray, List.extract_eq_take_drop]
  rw [List.drop_take]
theorem bt_inj {a b : List UInt8} (h : bt a = bt b) : a = b := by
  have := congrArg (fun s => s.data.toList) h
  simpa [bt] using this
theorem bt_eq_iff (a b : List UInt8) : bt a = bt b ↔ a = b := ⟨bt_inj, fun h => by rw [h]⟩

/-- The parts between separators that have ended among the first k bytes, and where the next one begins. -/
def upP (l : List UInt8) (b : UInt8) : Nat → List (List UInt8) × Nat
  | 0 => ([], 0)
  | k + 1 => if l[k]? = some b then ((upP l b k).1 ++ [(l.take k).drop (upP l b k).2], k + 1) else upP l b k
def parts (l : List UInt8) (b : UInt8) : List (List UInt8) := (upP l b l.length).1 ++ [l.drop (upP l b l.length).2]
theorem upP_le (l : List UInt8) (b : UInt8) (k : Nat) : (upP l b k).2 ≤ k := by
  induction k with
  | zero => simp [upP]
  | succ k ih =>
    rw [upP]
    split
    · simp
    · omega
theorem upP_len (l : List UInt8) (b : UInt8) (k : Nat) : (upP l b k).1.length ≤ k := by
  induction k with
  | zero => simp [upP]
  | succ k ih =>
    rw [upP]
    split
    · simp; omega
    · omega
theorem parts_len (l : List UInt8) (b : UInt8) : 1 ≤ (parts l b).length ∧ (parts l b).length ≤ l.length + 1 := by
  have := upP_len l b l.length
  simp [parts]
  exact this
/-- Texts with a separator between them. -/
def joinP (b : UInt8) : List (List UInt8) → List UInt8
  | [] => []
  | r :: rs => rs.foldl (fun acc x => acc ++ (b :: x)) r
theorem joinP_snoc (b : UInt8) (rs : List (List UInt8)) (x : List UInt8) (h : rs ≠ []) : joinP b (rs ++ [x]) = joinP b rs ++ (b :: x) := by
  cases rs with
  | nil => exact absurd rfl h
  | cons r rs => simp [joinP]
end Go.Proofs.YtbabkcjnfdpafaaGreatDoor

/- Plain facts of chapter 7, 2: parts of joined texts; pictures as grids of dots. No program in sight. -/
namespace Go.Proofs.YtbabkcjnfdpafaaGreatDoor

theorem joinP_ext (b : UInt8) (p : List (List UInt8)) (x : List UInt8) (c : UInt8) : joinP b (p ++ [x ++ [c]]) = joinP b (p ++ [x]) ++ [c] := by
  cases p with
  | nil => simp [joinP]
  | cons r rs => simp [joinP]
theorem upP_join (l : List UInt8) (b : UInt8) (k : Nat) (hk : k ≤ l.length) : joinP b ((upP l b k).1 ++ [(l.take k).drop (upP l b k).2]) = l.take k := by
  induction k with
  | zero => simp [upP, joinP]
  | succ k ih =>
    have h := ih (by omega)
    have hl := upP_le l b k
    have ht : l.take (k + 1) = l.take k ++ [l[k]] := List.take_succ_eq_append_getElem (by omega)
    rw [upP]
    split
    · rename_i hb
      have hb2 : l[k] = b := by
        rw [List.getElem?_eq_getElem (by omega)] at hb
        exact Option.some.inj hb
      have e : (l.take (k + 1)).drop (k + 1) = [] := by simp
      simp only [e]
      rw [joinP_snoc _ _ _ (by simp), h, ht, hb2]
    · rw [ht, List.drop_append_of_le_length (by rw [List.length_take]; omega), joinP_ext, h]
theorem join_parts (l : List UInt8) (b : UInt8) : joinP b (parts l b) = l := by
  have h := upP_join l b l.length (Nat.le_refl _)
  rw [List.take_length] at h
  exact h
theorem upP_app (l m : List UInt8) (b : UInt8) (k : Nat) (hk : k ≤ l.length) : upP (l ++ m) b k = upP l b k := by
  induction k with
  | zero => rfl
  | succ k ih =>
    rw [upP, upP, ih (by omega), List.getElem?_append_left (by omega), List.take_append_of_le_length (by omega)]
theorem upP_free (l m : List UInt8) (b : UInt8) (hm : ∀ c ∈ m, c ≠ b) (j : Nat) (hj : j ≤ m.length) : upP (l ++ m) b (l.length + j) = upP (l ++ m) b l.length := by
  induction j with
  | zero => rfl
  | succ j ih =>
    rw [show l.length + (j + 1) = (l.length + j) + 1 by omega, upP, if_neg, ih (by omega)]
    rw [List.getElem?_append_right (by omega), show l.length + j - l.length = j by omega, List.getElem?_eq_getElem (by omega)]
    intro e
    exact hm _ (List.getElem_mem _) (Option.some.inj e)
theorem parts_free (l : List UInt8) (b : UInt8) (h : ∀ c ∈ l, c ≠ b) : parts l b = [l] := by
  have e := upP_free [] l b h l.length (Nat.le_refl _)
  simp only [List.nil_append, List.length_nil, Nat.zero_add, upP] at e
  unfold parts
  rw [e]
  rfl
theorem parts_snoc (l x : List UInt8) (b : UInt8) (h : ∀ c ∈ x, c ≠ b) : parts (l ++ b :: x) b = parts l b ++ [x] := by
  have e0 : l ++ b :: x = (l ++ [b]) ++ x := by simp
  have e1 := upP_free (l ++ [b]) x b h x.length (Nat.le_refl _)
  have e2 : upP ((l ++ [b]) ++ x) b (l.length + 1) = (parts l b, l.length + 1) := by
    rw [upP_app _ _ _ _ (by simp), upP, if_pos (by simp), upP_app _ _ _ _ (Nat.le_refl _)]
    simp [parts]
  unfold parts
  rw [e0, show ((l ++ [b]) ++ x).length = (l ++ [b]).length + x.length by simp; omega, e1, show (l ++ [b]).length = l.length + 1 by simp, e2]
  simp [parts]
theorem parts_foldl (b : UInt8) (rs : List (List UInt8)) : ∀ (acc : List UInt8) (P : List (List UInt8)), parts acc b = P → (∀ x ∈ rs, ∀ c ∈ x, c ≠ b) → parts (rs.foldl (fun acc x => acc ++ (b :: x)) acc) b = P ++ rs := by
  induction rs with
  | nil => intro acc P h _; simpa using h
  | cons x rs ih =>
    intro acc P h hf
    rw [List.foldl_cons, ih (acc ++ (b :: x)) (P ++ [x]) (by rw [parts_snoc _ _ _ (hf x (by simp)), h]) (fun y hy => hf y (by simp [hy]))]
    simp
theorem parts_join (b : UInt8) (rs : List (List UInt8)) (hne : rs ≠ []) (hf : ∀ x ∈ rs, ∀ c ∈ x, c ≠ b) : parts (joinP b rs) b = rs := by
  cases rs with
  | nil => exact absurd rfl hne
  | cons r rs =>
    have h := parts_foldl b rs r [r] (parts_free r b (hf r (by simp))) (fun x hx => hf x (by simp [hx]))
    simpa [joinP] using h
theorem upP_part_free (l : List UInt8) (b : UInt8) (k : Nat) (hk : k ≤ l.length) : (∀ x ∈ (upP l b k).1, ∀ c ∈ x, c ≠ b) ∧ (∀ c ∈ (l.take k).drop (upP l b k).2, c ≠ b) := by
  induction k with
  | zero => simp [upP]
  | succ k ih =>
    obtain ⟨h1, h2⟩ := ih (by omega)
    have hl := upP_le l b k
    have ht : l.take (k + 1) = l.take k ++ [l[k]] := List.take_succ_eq_append_getElem (by omega)
    rw [upP]
    split
    · refine ⟨fun x hx => ?_, by simp⟩
      rw [List.mem_append] at hx
      rcases hx with hx | hx
      · exact h1 x hx
      · rw [List.mem_singleton] at hx
        subst hx
        exact h2
    · rename_i hb
      refine ⟨h1, fun c hc => ?_⟩
      rw [ht, List.drop_append_of_le_length (by rw [List.length_take]; omega), List.mem_append] at hc
      rcases hc with hc | hc
      · exact h2 c hc
      · rw [List.mem_singleton] at hc
        rw [hc]
        rintro rfl
        exact hb (List.getElem?_eq_getElem (by omega))
theorem part_free (l : List UInt8) (b : UInt8) : ∀ x ∈ parts l b, ∀ c ∈ x, c ≠ b := by
  obtain ⟨h1, h2⟩ := upP_part_free l b l.length (Nat.le_refl _)
  rw [List.take_length] at h2
  intro x hx
  rw [parts, List.mem_append] at hx
  rcases hx with hx | hx
  · exact h1 x hx
  · rw [List.mem_singleton] at hx
    subst hx
    exact h2

/-! ### pictures -/
/-- A sign. -/
def sgn (d : Bool) : UInt8 := if d then 111 else 46
def isSgn (c : UInt8) : Bool := c == 111 || c == 46
/-- Whether rows are those of a picture. -/
def rowsOk (rs : List (List UInt8)) : Bool := decide (rs.length ≤ 24) && decide (1 ≤ (rs.headD []).length) && decide ((rs.headD []).length ≤ 24) && rs.all (fun r => decide (r.length = (rs.headD []).length) && r.all isSgn)
def isPic (l : List UInt8) : Bool := rowsOk (parts l 47)
/-- The rows of a grid, its text. -/
def gRow (W : Nat) (d : Nat → Bool) (y : Nat) : List UInt8 := (List.range W).map fun x => sgn (d (y * W + x))
def gRows (W H : Nat) (d : Nat → Bool) : List (List UInt8) := (List.range H).map (gRow W d)
def gText (W H : Nat) (d : Nat → Bool) : List UInt8 := joinP 47 (gRows W H d)
/-- The grid of a text. -/
def pW (l : List UInt8) : Nat := ((parts l 47).headD []).length
def pH (l : List UInt8) : Nat := (parts l 47).length
def pD (l : List UInt8) (i : Nat) : Bool := ((parts l 47).getD (i / pW l) []).getD (i % pW l) 0 == 111
theorem gRow_len (W : Nat) (d : Nat → Bool) (y : Nat) : (gRow W d y).length = W := by simp [gRow]
theorem gRows_len (W H : Nat) (d : Nat → Bool) : (gRows W H d).length = H := by simp [gRows]
theorem sgn_ok (d : Bool) : isSgn (sgn d) = true := by cases d <;> decide
theorem sgn_ne (d : Bool) : sgn d ≠ 47 := by cases d <;> decide
theorem sgn_eq (d : Bool) : (sgn d == 111) = d := by cases d <;> decide
theorem gRow_free (W : Nat) (d : Nat → Bool) (y : Nat) : ∀ c ∈ gRow W d y, c ≠ 47 := by
  intro c hc
  obtain ⟨x, _, rfl⟩ := List.mem_map.1 hc
  exact sgn_ne _
theorem gText_parts (W H : Nat) (d : Nat → Bool) (h : 1 ≤ H) : parts (gText W H d) 47 = gRows W H d := by
  refine parts_join 47 _ (fun e => ?_) (fun x hx => ?_)
  · have := gRows_len W H d
    rw [e] at this
    simp at this
    omega
  · obtain ⟨y, _, rfl⟩ := List.mem_map.1 hx
    exact gRow_free W d y
theorem gRows_head (W H : Nat) (d : Nat → Bool) (h : 1 ≤ H) : (gRows W H d).headD [] = gRow W d 0 := by
  obtain ⟨n, rfl⟩ : ∃ n, H = n + 1 := ⟨H - 1, by omega⟩
  simp [gRows, List.range_succ_eq_map]
theorem gText_pic (W H : Nat) (d : Nat → Bool) (w0 : 1 ≤ W) (w1 : W ≤ 24) (h0 : 1 ≤ H) (h1 : H ≤ 24) : isPic (gText W H d) = true := by
  unfold isPic rowsOk
  rw [gText_parts W H d h0, gRows_head W H d h0, gRows_len, gRow_len]
  simp only [Bool.and_eq_true, decide_eq_true_eq, List.all_eq_true]
  refine ⟨⟨⟨h1, w0⟩, w1⟩, fun r hr => ?_⟩
  obtain ⟨y, _, rfl⟩ := List.mem_map.1 hr
  refine ⟨gRow_len _ _ _, fun c hc => ?_⟩
  obtain ⟨x, _, rfl⟩ := List.mem_map.1 hc
  exact sgn_ok _
theorem gText_W (W H : Nat) (d : Nat → Bool) (h : 1 ≤ H) : pW (gText W H d) = W := by rw [pW, gText_parts W H d h, gRows_head W H d h, gRow_len]
theorem gText_H (W H : Nat) (d : Nat → Bool) (h : 1 ≤ H) : pH (gText W H d) = H := by rw [pH, gText_parts W H d h, gRows_len]
theorem gText_D (W H : Nat) (d : Nat → Bool) (h : 1 ≤ H) (i : Nat) (hi : i < W * H) : pD (gText W H d) i = d i := by
  have hw : 0 < W := by
    rcases Nat.eq_zero_or_pos W with e | e
    · rw [e] at hi; simp at hi
    · exact e
  have hy : i / W < H := Nat.div_lt_of_lt_mul hi
  have hx : i % W < W := Nat.mod_lt _ hw
  unfold pD
  rw [gText_W W H d h, gText_parts W H d h]
  have e1 : (gRows W H d).getD (i / W) [] = gRow W d (i / W) := by simp [gRows, List.getD, hy]
  rw [e1]
  have e2 : (gRow W d (i / W)).getD (i % W) 0 = sgn (d (i / W * W + i % W)) := by simp [gRow, List.getD, hx]
  rw [e2, sgn_eq]
  congr 1
  rw [Nat.mul_comm]
  exact Nat.div_add_mod i W
theorem sgn_of {c : UInt8} (h : isSgn c = true) : sgn (c == 111) = c := by
  unfold isSgn at h
  unfold sgn
  by_cases e : c = 111
  · rw [e]; rfl
  · have e1 : (c == 111) = false := by simpa using e
    rw [e1] at h ⊢
    simp at h
    rw [h]
    rfl
/-- What is known of a picture's rows. -/
structure PicB (l : List UInt8) : Prop where
  h0 : 1 ≤ pH l
  h1 : pH l ≤ 24
  w0 : 1 ≤ pW l
  w1 : pW l ≤ 24
  len : ∀ y, y < pH l → ((parts l 47).getD y []).length = pW l
  sg : ∀ y x, y < pH l → x < pW l → isSgn (((parts l 47).getD y []).getD x 0) = true
theorem pic_b {l : List UInt8} (h : isPic l = true) : PicB l := by
  unfold isPic rowsOk at h
  simp only [Bool.and_eq_true, decide_eq_true_eq, List.all_eq_true] at h
  obtain ⟨⟨⟨h1, w0⟩, w1⟩, hr⟩ := h
  have e := fun y (hy : y < (parts l 47).length) => show (parts l 47).getD y [] = (parts l 47)[y] by simp [List.getD, hy]
  refine ⟨(parts_len l 47).1, h1, w0, w1, fun y hy => ?_, fun y x hy hx => ?_⟩
  · have hy2 : y < (parts l 47).length := hy
    rw [e y hy2]
    exact (hr _ (List.getElem_mem _)).1
  · have hy2 : y < (parts l 47).length := hy
    rw [e y hy2]
    have hx2 : x < ((parts l 47)[y]).length := by
      rw [(hr _ (List.getElem_mem hy2)).1]
      exact hx
    have e2 : ((parts l 47)[y]).getD x 0 = ((parts l 47)[y])[x] := by simp [List.getD, hx2]
    rw [e2]
    exact (hr _ (List.getElem_mem _)).2 _ (List.getElem_mem _)
theorem pic_rows {l : List UInt8} (h : isPic l = true) : gRows (pW l) (pH l) (pD l) = parts l 47 := by
  have hb := pic_b h
  refine List.ext_getElem (by rw [gRows_len]; rfl) fun y h1 h2 => ?_
  have hy : y < pH l := h2
  have e : (parts l 47).getD y [] = (parts l 47)[y]'h2 := by simp [List.getD, h2]
  have hl := hb.len y hy
  rw [e] at hl
  simp only [gRows, List.getElem_map, List.getElem_range]
  refine List.ext_getElem (by rw [gRow_len, hl]) fun x h3 h4 => ?_
  have hx : x < pW l := by rw [gRow_len] at h3; exact h3
  have hs := hb.sg y x hy hx
  have e2 : ((parts l 47).getD y []).getD x 0 = ((parts l 47)[y]'h2)[x]'h4 := by rw [e]; simp [List.getD, h4]
  simp only [gRow, List.getElem_map, List.getElem_range]
  have d1 : (y * pW l + x) / pW l = y := by
    rw [Nat.mul_comm, Nat.mul_add_div (by omega), Nat.div_eq_of_lt hx, Nat.add_zero]
  have d2 : (y * pW l + x) % pW l = x := by
    rw [Nat.mul_comm, Nat.mul_add_mod, Nat.mod_eq_of_lt hx]
  unfold pD
  rw [d1, d2, ← e2]
  exact sgn_of hs
theorem pic_text {l : List UInt8} (h : isPic l = true) : gText (pW l) (pH l) (pD l) = l := by
  unfold gText
  rw [pic_rows h, join_parts]
/-- Grids that agree where there are places have one text. -/
theorem gText_congr {W H : Nat} {d e : Nat → Bool} (h : ∀ i, i < W * H → d i = e i) : gText W H d = gText W H e := by
  unfold gText gRows
  congr 1
  refine List.map_congr_left fun y hy => ?_
  refine List.map_congr_left fun x hx => ?_
  rw [List.mem_range] at hy hx
  rw [h]
  have : (y + 1) * W ≤ H * W := Nat.mul_le_mul_right _ (by omega)
  rw [Nat.mul_comm H W] at this
  rw [Nat.succ_mul] at this
  omega
end Go.Proofs.YtbabkcjnfdpafaaGreatDoor

/- Plain facts of chapter 7, 3: lengths of pictures; grids turned, mirrored, joined; dots counted. No program in sight. -/
namespace Go.Proofs.YtbabkcjnfdpafaaGreatDoor

theorem join_len (b : UInt8) (W : Nat) (rs : List (List UInt8)) : ∀ (acc : List UInt8), (∀ r ∈ rs, r.length = W) → (rs.foldl (fun acc x => acc ++ (b :: x)) acc).length = acc.length + rs.length * (W + 1) := by
  induction rs with
  | nil => intro acc _; simp
  | cons r rs ih =>
    intro acc h
    rw [List.foldl_cons, ih _ (fun x hx => h x (by simp [hx]))]
    have := h r (by simp)
    simp [this, Nat.succ_mul]
    omega
theorem pic_len {l : List UInt8} (h : isPic l = true) : l.length + 1 = pH l * (pW l + 1) := by
  have hb := pic_b h
  have e := pic_text h
  have hl : (gText (pW l) (pH l) (pD l)).length + 1 = pH l * (pW l + 1) := by
    have hr : ∀ r ∈ gRows (pW l) (pH l) (pD l), r.length = pW l := by
      intro r hr
      obtain ⟨y, _, rfl⟩ := List.mem_map.1 hr
      exact gRow_len _ _ _
    have hn := gRows_len (pW l) (pH l) (pD l)
    unfold gText
    cases hg : gRows (pW l) (pH l) (pD l) with
    | nil => rw [hg] at hn; simp at hn; have := hb.h0; omega
    | cons r rs =>
      rw [hg] at hn hr
      simp only [joinP]
      rw [join_len 47 (pW l) rs r (fun x hx => hr x (by simp [hx])), hr r (by simp)]
      simp at hn
      rw [← hn, Nat.succ_mul]
      omega
  rw [e] at hl
  exact hl
theorem pic_600 {l : List UInt8} (h : isPic l = true) : l.length ≤ 600 := by
  have e := pic_len h
  have hb := pic_b h
  have := Nat.mul_le_mul hb.h1 (Nat.add_le_add_right hb.w1 1)
  omega
/-- The grid turned by a quarter clockwise, mirrored, with other dots. -/
def tD (W H : Nat) (d : Nat → Bool) (i : Nat) : Bool := d ((H - 1 - i % H) * W + i / H)
def mD (W : Nat) (d : Nat → Bool) (i : Nat) : Bool := d (i / W * W + (W - 1 - i % W))
def oD (d : Nat → Bool) (i : Nat) : Bool := !d i
/-- One grid beside another one, one below another one. -/
def bD (W V : Nat) (d e : Nat → Bool) (i : Nat) : Bool := if i % (W + V) < W then d (i / (W + V) * W + i % (W + V)) else e (i / (W + V) * V + (i % (W + V) - W))
def uD (W H : Nat) (d e : Nat → Bool) (i : Nat) : Bool := if i < W * H then d i else e (i - W * H)
/-- How many dots. -/
def cntB (l : List UInt8) : Nat := l.countP (· == 111)
theorem cntB_succ (l : List UInt8) (k : Nat) (h : k < l.length) : cntB (l.take (k + 1)) = cntB (l.take k) + (if l[k] == 111 then 1 else 0) := by
  rw [List.take_succ_eq_append_getElem h, cntB, cntB, List.countP_append]
  simp [List.countP_cons]
theorem cntB_le (l : List UInt8) : cntB l ≤ l.length := List.countP_le_length
/-- Rows put beside each other, below each other. -/
theorem rows_beside (W V H : Nat) (d e : Nat → Bool) : List.zipWith (· ++ ·) (gRows W H d) (gRows V H e) = gRows (W + V) H (bD W V d e) := by
  refine List.ext_getElem (by simp [gRows]) fun y h1 h2 => ?_
  simp only [List.getElem_zipWith, gRows, List.getElem_map, List.getElem_range]
  refine List.ext_getElem (by simp [gRow]) fun x h3 h4 => ?_
  have hx : x < W + V := by simpa [gRow] using h4
  have d1 : (y * (W + V) + x) / (W + V) = y := by rw [Nat.mul_comm, Nat.mul_add_div (by omega), Nat.div_eq_of_lt hx, Nat.add_zero]
  have d3 : x % (W + V) = x := Nat.mod_eq_of_lt hx
  by_cases c : x < W
  · rw [List.getElem_append_left (by rw [gRow_len]; exact c)]
    simp [gRow, bD, d1, d3, c]
  · rw [List.getElem_append_right (by rw [gRow_len]; omega)]
    simp [gRow, bD, d1, d3, c]
theorem rows_below (W H G : Nat) (d e : Nat → Bool) : gRows W H d ++ gRows W G e = gRows W (H + G) (uD W H d e) := by
  refine List.ext_getElem (by simp [gRows]) fun y h1 h2 => ?_
  have hy : y < H + G := by simpa [gRows] using h2
  by_cases c : y < H
  · rw [List.getElem_append_left (by rw [gRows_len]; exact c)]
    simp only [gRows, List.getElem_map, List.getElem_range]
    refine List.ext_getElem (by simp [gRow]) fun x h3 h4 => ?_
    have hx : x < W := by simpa [gRow] using h4
    have hlt : y * W + x < W * H := by
      have : (y + 1) * W ≤ H * W := Nat.mul_le_mul_right _ (by omega)
      rw [Nat.mul_comm H W, Nat.succ_mul] at this
      omega
    simp [gRow, uD, hlt]
  · rw [List.getElem_append_right (by rw [gRows_len]; omega)]
    simp only [gRows, List.getElem_map, List.getElem_range, List.length_map, List.length_range]
    refine List.ext_getElem (by simp [gRow]) fun x h3 h4 => ?_
    have hx : x < W := by simpa [gRow] using h4
    have hge : ¬ y * W + x < W * H := by
      have : H * W ≤ y * W := Nat.mul_le_mul_right _ (by omega)
      rw [Nat.mul_comm H W] at this
      omega
    have e1 : (y - H) * W = y * W - W * H := by rw [Nat.sub_mul, Nat.mul_comm H W]
    have e2 : W * H ≤ y * W := by
      have : H * W ≤ y * W := Nat.mul_le_mul_right _ (by omega)
      rw [Nat.mul_comm H W] at this
      exact this
    have e3 : y * W + x - W * H = (y - H) * W + x := by omega
    simp [gRow, uD, hge, e3]
end Go.Proofs.YtbabkcjnfdpafaaGreatDoor

/- Plain facts of chapter 7, 4: rows turned and mirrored; borders and layers. No program in sight. -/
namespace Go.Proofs.YtbabkcjnfdpafaaGreatDoor

theorem rows_turn (W H : Nat) (d : Nat → Bool) : ((List.range W).map fun x => (List.range H).map fun j => sgn (d ((H - 1 - j) * W + x))) = gRows H W (tD W H d) := by
  unfold gRows
  refine List.map_congr_left fun x _ => ?_
  unfold gRow
  refine List.map_congr_left fun j hj => ?_
  rw [List.mem_range] at hj
  have d1 : (x * H + j) / H = x := by rw [Nat.mul_comm, Nat.mul_add_div (by omega), Nat.div_eq_of_lt hj, Nat.add_zero]
  have d2 : (x * H + j) % H = j := by rw [Nat.mul_comm, Nat.mul_add_mod, Nat.mod_eq_of_lt hj]
  rw [tD, d1, d2]
theorem rows_mirror (W H : Nat) (d : Nat → Bool) : (gRows W H d).map List.reverse = gRows W H (mD W d) := by
  unfold gRows
  rw [List.map_map]
  refine List.map_congr_left fun y _ => ?_
  refine List.ext_getElem (by simp [gRow]) fun x h1 h2 => ?_
  have hx : x < W := by simpa [gRow] using h2
  have d1 : (y * W + x) / W = y := by rw [Nat.mul_comm, Nat.mul_add_div (by omega), Nat.div_eq_of_lt hx, Nat.add_zero]
  have d3 : x % W = x := Nat.mod_eq_of_lt hx
  simp [gRow, mD, d1, d3]
/-- The places beside one, in the specification's order. -/
def nbs (W H i : Nat) : List Nat :=
  (if 0 < i % W then [i - 1] else []) ++ (if i % W < W - 1 then [i + 1] else []) ++ (if W ≤ i then [i - W] else []) ++ (if i < W * (H - 1) then [i + W] else [])
theorem nbs_lt {W H i j : Nat} (hi : i < W * H) (hj : j ∈ nbs W H i) : j < W * H := by
  have hw : 0 < W := by
    rcases Nat.eq_zero_or_pos W with e | e
    · rw [e] at hi; simp at hi
    · exact e
  have hh : 0 < H := by
    rcases Nat.eq_zero_or_pos H with e | e
    · rw [e] at hi; simp at hi
    · exact e
  have em := Nat.div_add_mod i W
  have hd : i / W < H := Nat.div_lt_of_lt_mul hi
  have hle : W * (i / W + 1) ≤ W * H := Nat.mul_le_mul_left W hd
  rw [Nat.mul_add, Nat.mul_one] at hle
  have hm := Nat.mod_lt i hw
  have hh1 : W * (H - 1) + W = W * H := by
    obtain ⟨n, rfl⟩ : ∃ n, H = n + 1 := ⟨H - 1, by omega⟩
    rw [Nat.add_sub_cancel, Nat.mul_add, Nat.mul_one]
  unfold nbs at hj
  simp only [List.mem_append] at hj
  rcases hj with ((hj | hj) | hj) | hj
  · split at hj
    · simp at hj; omega
    · simp at hj
  · split at hj
    · simp at hj; omega
    · simp at hj
  · split at hj
    · simp at hj; omega
    · simp at hj
  · split at hj
    · simp at hj; omega
    · simp at hj
/-- Whether a place is a dot of the border; the dots that stay. -/
def brd (W H : Nat) (d : Nat → Bool) (i : Nat) : Bool := d i && (decide ((nbs W H i).length < 4) || (nbs W H i).any fun j => !d j)
def tkn (W H : Nat) (d : Nat → Bool) (i : Nat) : Bool := d i && !brd W H d i
/-- How many of the first n. -/
def cnt (f : Nat → Bool) (n : Nat) : Nat := (List.range n).countP f
theorem cnt_succ (f : Nat → Bool) (n : Nat) : cnt f (n + 1) = cnt f n + (if f n then 1 else 0) := by
  simp [cnt, List.range_succ, List.countP_append, List.countP_cons]
theorem cnt_le (f : Nat → Bool) (n : Nat) : cnt f n ≤ n := by
  have := List.countP_le_length (p := f) (l := List.range n)
  simpa [cnt] using this
/-- What layers there are, in at most so many rounds. -/
def lys (W H : Nat) : Nat → (Nat → Bool) → List Int
  | 0, _ => []
  | n + 1, d => if cnt (brd W H d) (W * H) = 0 then [] else (cnt (brd W H d) (W * H) : Int) :: lys W H n (tkn W H d)
theorem cnt_tkn (W H : Nat) (d : Nat → Bool) (n : Nat) : cnt (tkn W H d) n + cnt (brd W H d) n = cnt d n := by
  induction n with
  | zero => rfl
  | succ n ih =>
    rw [cnt_succ, cnt_succ, cnt_succ, ← ih]
    have hb : brd W H d n = true → d n = true := by
      unfold brd
      cases d n <;> simp
    have e : tkn W H d n = (d n && !brd W H d n) := rfl
    rw [e]
    cases h1 : d n <;> cases h2 : brd W H d n <;> simp_all <;> omega
end Go.Proofs.YtbabkcjnfdpafaaGreatDoor

/- Plain facts of chapter 7, 5: pieces: places that hang together. No program in sight. -/
namespace Go.Proofs.YtbabkcjnfdpafaaGreatDoor

/-- From a dot to the dots beside it, and on. -/
inductive Conn (W H : Nat) (d : Nat → Bool) (a : Nat) : Nat → Prop
  | here : d a = true → Conn W H d a a
  | step {i j : Nat} : Conn W H d a i → j ∈ nbs W H i → d j = true → Conn W H d a j
theorem nbs_mem (W H i j : Nat) : j ∈ nbs W H i ↔ (0 < i % W ∧ j = i - 1) ∨ (i % W < W - 1 ∧ j = i + 1) ∨ (W ≤ i ∧ j = i - W) ∨ (i < W * (H - 1) ∧ j = i + W) := by
  unfold nbs
  simp only [List.mem_append]
  constructor
  · rintro (((h | h) | h) | h)
    · split at h
      · simp at h; exact .inl ⟨by assumption, h⟩
      · simp at h
    · split at h
      · simp at h; exact .inr (.inl ⟨by assumption, h⟩)
      · simp at h
    · split at h
      · simp at h; exact .inr (.inr (.inl ⟨by assumption, h⟩))
      · simp at h
    · split at h
      · simp at h; exact .inr (.inr (.inr ⟨by assumption, h⟩))
      · simp at h
  · rintro (⟨h, rfl⟩ | ⟨h, rfl⟩ | ⟨h, rfl⟩ | ⟨h, rfl⟩)
    · simp [h]
    · simp [h]
    · simp [h]
    · simp [h]
theorem nbs_symm {W H i j : Nat} (hi : i < W * H) (h : j ∈ nbs W H i) : i ∈ nbs W H j := by
  have hw : 0 < W := by
    rcases Nat.eq_zero_or_pos W with e | e
    · rw [e] at hi; simp at hi
    · exact e
  have hh : 0 < H := by
    rcases Nat.eq_zero_or_pos H with e | e
    · rw [e] at hi; simp at hi
    · exact e
  have hh1 : W * (H - 1) + W = W * H := by
    obtain ⟨n, rfl⟩ : ∃ n, H = n + 1 := ⟨H - 1, by omega⟩
    rw [Nat.add_sub_cancel, Nat.mul_add, Nat.mul_one]
  have em := Nat.div_add_mod i W
  have hm := Nat.mod_lt i hw
  rw [nbs_mem] at h ⊢
  rcases h with ⟨h, rfl⟩ | ⟨h, rfl⟩ | ⟨h, rfl⟩ | ⟨h, rfl⟩
  · right; left
    have e : (i - 1) % W = i % W - 1 := by
      have : i - 1 = W * (i / W) + (i % W - 1) := by omega
      rw [this, Nat.mul_add_mod, Nat.mod_eq_of_lt (by omega)]
    rw [e]
    omega
  · left
    have e : (i + 1) % W = i % W + 1 := by
      have : i + 1 = W * (i / W) + (i % W + 1) := by omega
      rw [this, Nat.mul_add_mod, Nat.mod_eq_of_lt (by omega)]
    rw [e]
    omega
  · right; right; right
    omega
  · right; right; left
    omega
section
variable {W H : Nat} {d : Nat → Bool} {a i j : Nat}
theorem conn_dot (h : Conn W H d a i) : d i = true := by
  cases h with
  | here h => exact h
  | step _ _ h => exact h
theorem conn_start (h : Conn W H d a i) : d a = true := by
  induction h with
  | here h => exact h
  | step _ _ _ ih => exact ih
theorem conn_lt (ha : a < W * H) (h : Conn W H d a i) : i < W * H := by
  induction h with
  | here _ => exact ha
  | step _ hj _ ih => exact nbs_lt ih hj
theorem conn_trans (h : Conn W H d a i) (k : Conn W H d i j) : Conn W H d a j := by
  induction k with
  | here _ => exact h
  | step _ hj hd ih => exact .step ih hj hd
theorem conn_symm (ha : a < W * H) (h : Conn W H d a i) : Conn W H d i a := by
  induction h with
  | here h => exact .here h
  | step hc hj hd ih => exact conn_trans (.step (.here hd) (nbs_symm (conn_lt ha hc) hj) (conn_dot hc)) ih
end
/-- The first place of its piece. -/
def fstP (W H : Nat) (d : Nat → Bool) (a : Nat) : Prop := d a = true ∧ ∀ b, b < a → ¬ Conn W H d b a
open Classical in
/-- The piece of a place; what the pieces of the places before leave; the pieces of the first n places. -/
noncomputable def pce (W H : Nat) (d : Nat → Bool) (a : Nat) (i : Nat) : Bool := decide (Conn W H d a i)
open Classical in
noncomputable def rem (W H : Nat) (d : Nat → Bool) (a : Nat) (i : Nat) : Bool := d i && decide (∀ b, b < a → ¬ Conn W H d b i)
open Classical in
noncomputable def pcs (W H : Nat) (d : Nat → Bool) : Nat → List (List UInt8)
  | 0 => []
  | a + 1 => pcs W H d a ++ (if fstP W H d a then [gText W H (pce W H d a)] else [])
section
variable {W H : Nat} {d : Nat → Bool} {a i j : Nat}
theorem rem_zero (W H : Nat) (d : Nat → Bool) (i : Nat) : d i = rem W H d 0 i := by simp [rem]
theorem rem_iff : rem W H d a i = true ↔ d i = true ∧ ∀ b, b < a → ¬ Conn W H d b i := by simp [rem]
theorem rem_fst : rem W H d a a = true ↔ fstP W H d a := by rw [rem_iff]; rfl
theorem rem_no (h : ¬ fstP W H d a) : rem W H d a i = rem W H d (a + 1) i := by
  rw [Bool.eq_iff_iff, rem_iff, rem_iff]
  constructor
  · rintro ⟨h1, h2⟩
    refine ⟨h1, fun b hb hc => ?_⟩
    rcases Nat.lt_or_ge b a with hb2 | hb2
    · exact h2 b hb2 hc
    · obtain rfl : b = a := by omega
      apply h
      refine ⟨conn_start hc, fun c hca hcc => h2 c hca (conn_trans hcc hc)⟩
  · rintro ⟨h1, h2⟩
    exact ⟨h1, fun b hb => h2 b (by omega)⟩
theorem rem_yes (h : fstP W H d a) : rem W H d (a + 1) i = (rem W H d a i && !pce W H d a i) := by
  rw [Bool.eq_iff_iff, rem_iff, Bool.and_eq_true, rem_iff]
  constructor
  · rintro ⟨h1, h2⟩
    exact ⟨⟨h1, fun b hb => h2 b (by omega)⟩, by simp [pce, h2 a (by omega)]⟩
  · rintro ⟨⟨h1, h2⟩, h3⟩
    refine ⟨h1, fun b hb hc => ?_⟩
    rcases Nat.lt_or_ge b a with hb2 | hb2
    · exact h2 b hb2 hc
    · obtain rfl : b = a := by omega
      simp [pce, hc] at h3
/-- What hangs together with a first place is left. -/
theorem rem_of_conn (ha : a < W * H) (h : fstP W H d a) (hc : Conn W H d a i) : rem W H d a i = true := by
  rw [rem_iff]
  exact ⟨conn_dot hc, fun b hb hb2 => h.2 b hb (conn_trans hb2 (conn_symm ha hc))⟩
/-- A list that a place begins, in which all hang together with it, and that is closed, is its piece. -/
theorem conn_list (Q : List Nat) (ha : a ∈ Q) (h1 : ∀ i, i ∈ Q → Conn W H d a i) (h2 : ∀ i, i ∈ Q → ∀ j, j ∈ nbs W H i → d j = true → j ∈ Q) : ∀ i, pce W H d a i = decide (i ∈ Q) := by
  intro i
  unfold pce
  rw [decide_eq_decide]
  constructor
  · intro hc
    induction hc with
    | here _ => exact ha
    | step _ hj hd ih => exact h2 _ ih _ hj hd
  · exact h1 i
theorem pcs_len (W H : Nat) (d : Nat → Bool) (a : Nat) : (pcs W H d a).length ≤ a := by
  induction a with
  | zero => simp [pcs]
  | succ a ih =>
    rw [pcs, List.length_append]
    split <;> simp <;> omega
end
end Go.Proofs.YtbabkcjnfdpafaaGreatDoor

/- Chapter 7: dots as sets of places, held against grids. No program in sight. -/
namespace Go.Proofs.YtbabkcjnfdpafaaGreatDoor

/-- Whether a place lies in a picture of W columns and H rows; the dots of a grid as a set of places; the grid of a set, its text. -/
def inP (W H : Nat) (x y : Int) : Bool := decide (0 ≤ x ∧ x < (W : Int) ∧ 0 ≤ y ∧ y < (H : Int))
def gS (W H : Nat) (d : Nat → Bool) (x y : Int) : Bool := inP W H x y && d (y.toNat * W + x.toNat)
def sD (W : Nat) (S : Int → Int → Bool) (i : Nat) : Bool := S ((i % W : Nat) : Int) ((i / W : Nat) : Int)
def sT (W H : Nat) (S : Int → Int → Bool) : List UInt8 := gText W H (sD W S)
/-- A set of places of a picture. -/
def Bd (W H : Nat) (S : Int → Int → Bool) : Prop := ∀ x y, S x y = true → 0 ≤ x ∧ x < (W : Int) ∧ 0 ≤ y ∧ y < (H : Int)
/-- One place more, one less; those of one set that are in no other one; those of both. -/
def aS (S : Int → Int → Bool) (a b : Int) (x y : Int) : Bool := S x y || (decide (x = a) && decide (y = b))
def rS (S : Int → Int → Bool) (a b : Int) (x y : Int) : Bool := S x y && !(decide (x = a) && decide (y = b))
def dS (S T : Int → Int → Bool) (x y : Int) : Bool := S x y && !T x y
def uS (S T : Int → Int → Bool) (x y : Int) : Bool := S x y || T x y
/-- Whether a place is beside one of a set; the border of a set; those of a set that are beside one of another one. -/
def nS (T : Int → Int → Bool) (x y : Int) : Bool := T (x - 1) y || T (x + 1) y || T x (y - 1) || T x (y + 1)
def bS (S : Int → Int → Bool) (x y : Int) : Bool := S x y && !(S (x - 1) y && S (x + 1) y && S x (y - 1) && S x (y + 1))
def nbS (S T : Int → Int → Bool) (x y : Int) : Bool := S x y && nS T x y

theorem inP_iff {W H : Nat} {x y : Int} : inP W H x y = true ↔ 0 ≤ x ∧ x < (W : Int) ∧ 0 ≤ y ∧ y < (H : Int) := by simp [inP]
theorem gS_bd (W H : Nat) (d : Nat → Bool) : Bd W H (gS W H d) := by
  intro x y h
  unfold gS at h
  rw [Bool.and_eq_true] at h
  exact inP_iff.1 h.1
theorem Bd.no {W H : Nat} {S : Int → Int → Bool} (h : Bd W H S) {x y : Int} (hn : ¬ (0 ≤ x ∧ x < (W : Int) ∧ 0 ≤ y ∧ y < (H : Int))) : S x y = false := by
  cases hs : S x y
  · rfl
  · exact absurd (h x y hs) hn
theorem Bd.mono {W H W' H' : Nat} {S : Int → Int → Bool} (h : Bd W H S) (hw : W ≤ W') (hh : H ≤ H') : Bd W' H' S := fun x y hs => by
  have := h x y hs
  omega
theorem Bd.sub {W H : Nat} {S T : Int → Int → Bool} (h : Bd W H S) (hs : ∀ x y, T x y = true → S x y = true) : Bd W H T := fun x y ht => h x y (hs x y ht)
theorem gS_nat (W H : Nat) (d : Nat → Bool) (x y : Nat) (hx : x < W) (hy : y < H) : gS W H d (x : Int) (y : Int) = d (y * W + x) := by
  unfold gS
  rw [inP_iff.2 (by omega)]
  simp
theorem place_lt {W H x y : Nat} (hx : x < W) (hy : y < H) : y * W + x < W * H := by
  have h : (y + 1) * W ≤ H * W := Nat.mul_le_mul_right _ (by omega)
  rw [Nat.mul_comm H W, Nat.succ_mul] at h
  omega
theorem place_x {W x y : Nat} (hx : x < W) : (y * W + x) % W = x := by rw [Nat.mul_comm, Nat.mul_add_mod, Nat.mod_eq_of_lt hx]
theorem place_y {W x y : Nat} (hx : x < W) : (y * W + x) / W = y := by rw [Nat.mul_comm, Nat.mul_add_div (by omega), Nat.div_eq_of_lt hx, Nat.add_zero]
theorem place_of {W H i : Nat} (hi : i < W * H) : i % W < W ∧ i / W < H ∧ i / W * W + i % W = i := by
  have hw : 0 < W := by
    rcases Nat.eq_zero_or_pos W with e | e
    · rw [e] at hi; simp at hi
    · exact e
  refine ⟨Nat.mod_lt _ hw, Nat.div_lt_of_lt_mul hi, ?_⟩
  rw [Nat.mul_comm]
  exact Nat.div_add_mod i W
theorem sD_gS {W H : Nat} (d : Nat → Bool) {i : Nat} (hi : i < W * H) : sD W (gS W H d) i = d i := by
  obtain ⟨h1, h2, h3⟩ := place_of hi
  unfold sD
  rw [gS_nat W H d _ _ h1 h2, h3]
theorem sT_gS (W H : Nat) (d : Nat → Bool) : sT W H (gS W H d) = gText W H d := gText_congr fun _ hi => sD_gS d hi
/-- A set and a grid that agree. -/
theorem sT_of {W H : Nat} {S : Int → Int → Bool} {d : Nat → Bool} (h : ∀ x y : Nat, x < W → y < H → S (x : Int) (y : Int) = d (y * W + x)) : sT W H S = gText W H d := gText_congr fun i hi => by
  obtain ⟨h1, h2, h3⟩ := place_of hi
  unfold sD
  rw [h _ _ h1 h2, h3]
theorem sT_congr {W H : Nat} {S T : Int → Int → Bool} (h : ∀ x y, inP W H x y = true → S x y = T x y) : sT W H S = sT W H T := gText_congr fun i hi => by
  obtain ⟨h1, h2, h3⟩ := place_of hi
  unfold sD
  generalize i % W = a at *
  generalize i / W = b at *
  exact h _ _ (inP_iff.2 (by omega))
theorem eq_gS {W H : Nat} {S : Int → Int → Bool} {d : Nat → Bool} (hb : Bd W H S) (h : ∀ x y : Nat, x < W → y < H → S (x : Int) (y : Int) = d (y * W + x)) (x y : Int) : S x y = gS W H d x y := by
  by_cases hp : 0 ≤ x ∧ x < (W : Int) ∧ 0 ≤ y ∧ y < (H : Int)
  · obtain ⟨a, rfl⟩ := Int.eq_ofNat_of_zero_le hp.1
    obtain ⟨b, rfl⟩ := Int.eq_ofNat_of_zero_le hp.2.2.1
    rw [h a b (by omega) (by omega), gS_nat W H d a b (by omega) (by omega)]
  · rw [hb.no hp, (gS_bd W H d).no hp]

/-! ### turned, mirrored, with other dots, joined -/
theorem sT_turn (W H : Nat) (d : Nat → Bool) : sT H W (fun x y => gS W H d y ((H : Int) - 1 - x)) = gText H W (tD W H d) := sT_of fun x y hx hy => by
  show gS W H d (y : Int) ((H : Int) - 1 - x) = tD W H d (y * H + x)
  rw [show (H : Int) - 1 - (x : Int) = ((H - 1 - x : Nat) : Int) by omega, gS_nat W H d _ _ hy (by omega)]
  unfold tD
  rw [place_x hx, place_y hx]
theorem turn_bd {W H : Nat} {S : Int → Int → Bool} (h : Bd W H S) : Bd H W (fun x y => S y ((H : Int) - 1 - x)) := fun x y hs => by
  have := h _ _ hs
  omega
theorem sT_mirror (W H : Nat) (d : Nat → Bool) : sT W H (fun x y => gS W H d ((W : Int) - 1 - x) y) = gText W H (mD W d) := sT_of fun x y hx hy => by
  show gS W H d ((W : Int) - 1 - x) (y : Int) = mD W d (y * W + x)
  rw [show (W : Int) - 1 - (x : Int) = ((W - 1 - x : Nat) : Int) by omega, gS_nat W H d _ _ (by omega) hy]
  unfold mD
  rw [place_x hx, place_y hx]
theorem mirror_bd {W H : Nat} {S : Int → Int → Bool} (h : Bd W H S) : Bd W H (fun x y => S ((W : Int) - 1 - x) y) := fun x y hs => by
  have := h _ _ hs
  omega
theorem sT_other (W H : Nat) (d : Nat → Bool) : sT W H (fun x y => inP W H x y && !gS W H d x y) = gText W H (oD d) := sT_of fun x y hx hy => by
  show (inP W H (x : Int) (y : Int) && !gS W H d (x : Int) (y : Int)) = oD d (y * W + x)
  rw [gS_nat W H d _ _ hx hy, inP_iff.2 (by omega)]
  rfl
theorem sT_beside (W V H : Nat) (d e : Nat → Bool) : sT (W + V) H (uS (fun x y => gS V H e (x - W) y) (gS W H d)) = gText (W + V) H (bD W V d e) := sT_of fun x y hx hy => by
  show (gS V H e ((x : Int) - W) (y : Int) || gS W H d (x : Int) (y : Int)) = bD W V d e (y * (W + V) + x)
  unfold bD
  rw [place_x hx, place_y hx]
  by_cases h : x < W
  · rw [if_pos h, (gS_bd V H e).no (by omega), gS_nat W H d _ _ h hy]
    rfl
  · rw [if_neg h, (gS_bd W H d).no (by omega), show (x : Int) - (W : Int) = ((x - W : Nat) : Int) by omega, gS_nat V H e _ _ (by omega) hy, Bool.or_false]
theorem beside_bd {W V H : Nat} {S T : Int → Int → Bool} (h : Bd W H S) (k : Bd V H T) : Bd (W + V) H (uS (fun x y => T (x - W) y) S) := fun x y hs => by
  unfold uS at hs
  rw [Bool.or_eq_true] at hs
  rcases hs with hs | hs
  · have := k _ _ hs
    omega
  · have := h _ _ hs
    omega
theorem sT_below (W H G : Nat) (d e : Nat → Bool) : sT W (H + G) (uS (fun x y => gS W G e x (y - H)) (gS W H d)) = gText W (H + G) (uD W H d e) := sT_of fun x y hx hy => by
  show (gS W G e (x : Int) ((y : Int) - H) || gS W H d (x : Int) (y : Int)) = uD W H d e (y * W + x)
  unfold uD
  by_cases h : y < H
  · rw [if_pos (place_lt hx h), (gS_bd W G e).no (by omega), gS_nat W H d _ _ hx h]
    rfl
  · have e1 : W * H ≤ y * W := by
      have : H * W ≤ y * W := Nat.mul_le_mul_right _ (by omega)
      rw [Nat.mul_comm H W] at this
      exact this
    have e2 : (y - H) * W = y * W - W * H := by rw [Nat.sub_mul, Nat.mul_comm H W]
    rw [if_neg (by omega), (gS_bd W H d).no (by omega), show (y : Int) - (H : Int) = ((y - H : Nat) : Int) by omega, gS_nat W G e _ _ hx (by omega), Bool.or_false, e2]
    congr 1
    omega
theorem below_bd {W H G : Nat} {S T : Int → Int → Bool} (h : Bd W H S) (k : Bd W G T) : Bd W (H + G) (uS (fun x y => T x (y - H)) S) := fun x y hs => by
  unfold uS at hs
  rw [Bool.or_eq_true] at hs
  rcases hs with hs | hs
  · have := k _ _ hs
    omega
  · have := h _ _ hs
    omega

/-! ### borders -/
theorem nbs_any (W H : Nat) (d : Nat → Bool) (x y : Nat) (hx : x < W) (hy : y < H) (f : Bool → Bool) (h0 : f false = true) :
    (decide ((nbs W H (y * W + x)).length < 4) || (nbs W H (y * W + x)).any fun j => f (d j)) = (f (gS W H d ((x : Int) - 1) y) || f (gS W H d ((x : Int) + 1) y) || f (gS W H d x ((y : Int) - 1)) || f (gS W H d x ((y : Int) + 1))) := by
  have hp := place_lt hx hy
  have hh : W * (H - 1) + W = W * H := by
    obtain ⟨n, rfl⟩ : ∃ n, H = n + 1 := ⟨H - 1, by omega⟩
    rw [Nat.add_sub_cancel, Nat.mul_add, Nat.mul_one]
  have c3 : W ≤ y * W + x ↔ 0 < y := by
    constructor
    · intro h
      rcases Nat.eq_zero_or_pos y with e | e
      · rw [e] at h; omega
      · exact e
    · intro h
      have := Nat.mul_le_mul_right W h
      omega
  have c4 : y * W + x < W * (H - 1) ↔ y < H - 1 := by
    constructor
    · intro h
      rcases Nat.lt_or_ge y (H - 1) with e | e
      · exact e
      · have := Nat.mul_le_mul_left W e
        rw [Nat.mul_comm W y] at this
        omega
    · intro h
      exact place_lt hx h
  have g1 : gS W H d ((x : Int) - 1) y = if 0 < x then d (y * W + x - 1) else false := by
    split
    · rw [show (x : Int) - 1 = ((x - 1 : Nat) : Int) by omega, gS_nat W H d _ _ (by omega) hy]
      congr 1
      omega
    · exact (gS_bd W H d).no (by omega)
  have g2 : gS W H d ((x : Int) + 1) y = if x < W - 1 then d (y * W + x + 1) else false := by
    split
    · rw [show (x : Int) + 1 = ((x + 1 : Nat) : Int) by omega, gS_nat W H d _ _ (by omega) hy]
      rfl
    · exact (gS_bd W H d).no (by omega)
  have g3 : gS W H d x ((y : Int) - 1) = if 0 < y then d (y * W + x - W) else false := by
    split
    · rename_i h
      rw [show (y : Int) - 1 = ((y - 1 : Nat) : Int) by omega, gS_nat W H d _ _ hx (by omega)]
      congr 1
      rw [Nat.sub_mul, Nat.one_mul]
      have := c3.2 h
      have := Nat.mul_le_mul_right W h
      omega
    · exact (gS_bd W H d).no (by omega)
  have g4 : gS W H d x ((y : Int) + 1) = if y < H - 1 then d (y * W + x + W) else false := by
    split
    · rw [show (y : Int) + 1 = ((y + 1 : Nat) : Int) by omega, gS_nat W H d _ _ hx (by omega), Nat.succ_mul]
      congr 1
      omega
    · exact (gS_bd W H d).no (by omega)
  rw [g1, g2, g3, g4]
  unfold nbs
  rw [place_x hx]
  simp only [c3, c4]
  by_cases a1 : 0 < x <;> by_cases a2 : x < W - 1 <;> by_cases a3 : 0 < y <;> by_cases a4 : y < H - 1 <;> simp [a1, a2, a3, a4, h0, Bool.or_assoc]
theorem brd_set (W H : Nat) (d : Nat → Bool) (x y : Int) : bS (gS W H d) x y = gS W H (brd W H d) x y := by
  refine eq_gS (d := brd W H d) ((gS_bd W H d).sub fun x y h => by unfold bS at h; exact (Bool.and_eq_true_iff.1 h).1) (fun x y hx hy => ?_) x y
  have h := nbs_any W H d x y hx hy (fun b => !b) rfl
  unfold bS brd
  rw [gS_nat W H d _ _ hx hy, h]
  cases d (y * W + x) <;> simp
theorem tkn_set (W H : Nat) (d : Nat → Bool) (x y : Int) : dS (gS W H d) (bS (gS W H d)) x y = gS W H (tkn W H d) x y := by
  refine eq_gS (d := tkn W H d) ((gS_bd W H d).sub fun x y h => by unfold dS at h; exact (Bool.and_eq_true_iff.1 h).1) (fun x y hx hy => ?_) x y
  unfold dS
  rw [brd_set, gS_nat W H _ _ _ hx hy, gS_nat W H _ _ _ hx hy]
  rfl
end Go.Proofs.YtbabkcjnfdpafaaGreatDoor

/- Chapter 7: the least one of texts; pictures turned and mirrored, as sets. No program in sight. -/
namespace Go.Proofs.YtbabkcjnfdpafaaGreatDoor
open Go.Op

theorem less_irrefl : ∀ x : List UInt8, bytesLess x x = false
  | [] => rfl
  | a :: x => by
    simp only [bytesLess, less_irrefl x, Bool.and_false, Bool.or_false, decide_eq_false_iff_not]
    exact UInt8.lt_irrefl a
theorem less_cons {a b : UInt8} {x y : List UInt8} : bytesLess (a :: x) (b :: y) = true ↔ a < b ∨ (a = b ∧ bytesLess x y = true) := by
  simp [bytesLess]
theorem less_trans : ∀ {x y z : List UInt8}, bytesLess x y = true → bytesLess y z = true → bytesLess x z = true
  | _, [], _, h, _ => by simp [bytesLess] at h
  | _, _ :: _, [], _, k => by simp [bytesLess] at k
  | [], _ :: _, _ :: _, _, _ => rfl
  | a :: x, b :: y, c :: z, h, k => by
    rw [less_cons] at h k ⊢
    rcases h with h | ⟨rfl, h⟩
    · rcases k with k | ⟨rfl, k⟩
      · exact .inl (UInt8.lt_trans h k)
      · exact .inl h
    · rcases k with k | ⟨rfl, k⟩
      · exact .inl k
      · exact .inr ⟨rfl, less_trans h k⟩
theorem less_tri : ∀ x y : List UInt8, bytesLess x y = true ∨ x = y ∨ bytesLess y x = true
  | [], [] => .inr (.inl rfl)
  | [], _ :: _ => .inl rfl
  | _ :: _, [] => .inr (.inr rfl)
  | a :: x, b :: y => by
    have ht : a < b ∨ a = b ∨ b < a := by
      rcases Nat.lt_trichotomy a.toNat b.toNat with h | h | h
      · exact .inl (UInt8.lt_iff_toNat_lt.2 h)
      · exact .inr (.inl (UInt8.toNat_inj.1 h))
      · exact .inr (.inr (UInt8.lt_iff_toNat_lt.2 h))
    rcases ht with h | rfl | h
    · exact .inl (less_cons.2 (.inl h))
    · rcases less_tri x y with h | rfl | h
      · exact .inl (less_cons.2 (.inr ⟨rfl, h⟩))
      · exact .inr (.inl rfl)
      · exact .inr (.inr (less_cons.2 (.inr ⟨rfl, h⟩)))
    · exact .inr (.inr (less_cons.2 (.inl h)))
/-- The lesser one of two texts. -/
def mn (a b : List UInt8) : List UInt8 := if bytesLess b a then b else a
theorem mn_other (a b : List UInt8) : (if bytesLess a b || a == b then a else b) = mn a b := by
  unfold mn
  rcases less_tri a b with h | rfl | h
  · have k : bytesLess b a = false := by
      cases e : bytesLess b a with
      | false => rfl
      | true => have := less_trans h e; rw [less_irrefl] at this; cases this
    simp [h, k]
  · simp [less_irrefl]
  · have k : bytesLess a b = false := by
      cases e : bytesLess a b with
      | false => rfl
      | true => have := less_trans h e; rw [less_irrefl] at this; cases this
    have k2 : a ≠ b := fun e => by rw [e, less_irrefl] at h; cases h
    simp [h, k, k2]
/-- A least one of a list. -/
def Low (m : List UInt8) (X : List (List UInt8)) : Prop := m ∈ X ∧ ∀ x, x ∈ X → bytesLess x m = false
theorem low_one (m : List UInt8) : Low m [m] := ⟨by simp, fun x h => by
  rw [List.mem_singleton.1 h]
  exact less_irrefl m⟩
theorem low_mn {m s : List UInt8} {X : List (List UInt8)} (h : Low m X) : Low (mn m s) (s :: X) := by
  unfold mn
  cases e : bytesLess s m with
  | true =>
    rw [if_pos rfl]
    refine ⟨by simp, fun x hx => ?_⟩
    rcases List.mem_cons.1 hx with rfl | hx
    · exact less_irrefl _
    · cases k : bytesLess x s with
      | false => rfl
      | true => have := less_trans k e; rw [h.2 x hx] at this; cases this
  | false =>
    rw [if_neg (by simp)]
    refine ⟨List.mem_cons_of_mem _ h.1, fun x hx => ?_⟩
    rcases List.mem_cons.1 hx with rfl | hx
    · exact e
    · exact h.2 x hx
theorem low_same {m m' : List UInt8} {X Y : List (List UInt8)} (h : Low m X) (k : Low m' Y) (h1 : ∀ x, x ∈ X → x ∈ Y) (h2 : ∀ x, x ∈ Y → x ∈ X) : m = m' := by
  have a := k.2 m (h1 m h.1)
  have b := h.2 m' (h2 m' k.1)
  rcases less_tri m m' with e | e | e
  · rw [a] at e; cases e
  · exact e
  · rw [b] at e; cases e

/-- A picture: columns, rows, dots. Turned; mirrored; its text. -/
abbrev Pc := Nat × Nat × (Int → Int → Bool)
def trn (q : Pc) : Pc := (q.2.1, q.1, fun x y => q.2.2 y ((q.2.1 : Int) - 1 - x))
def mir (q : Pc) : Pc := (q.1, q.2.1, fun x y => q.2.2 ((q.1 : Int) - 1 - x) y)
def itr (q : Pc) : Nat → Pc
  | 0 => q
  | k + 1 => trn (itr q k)
def txt (q : Pc) : List UInt8 := sT q.1 q.2.1 q.2.2
/-- The specification's way, and the program's. -/
def bst (L : List UInt8) (q : Pc) : Nat → List UInt8
  | 0 => L
  | k + 1 => mn (bst L q k) (txt (itr q k))
def bsp (L : List UInt8) (q : Pc) : Nat → List UInt8
  | 0 => L
  | k + 1 => mn (mn (bsp L q k) (txt (itr q (k + 1)))) (txt (mir (itr q (k + 1))))
theorem itr_4 (q : Pc) : itr q 4 = q := by
  obtain ⟨W, H, S⟩ := q
  simp only [itr, trn, mir, Prod.mk.injEq, true_and]
  funext x y
  congr 1 <;> omega
theorem mir_1 (q : Pc) : mir (itr q 1) = itr (mir q) 3 := by
  obtain ⟨W, H, S⟩ := q
  simp only [itr, trn, mir, Prod.mk.injEq, true_and]
  funext x y
  congr 1 <;> omega
theorem mir_2 (q : Pc) : mir (itr q 2) = itr (mir q) 2 := by
  obtain ⟨W, H, S⟩ := q
  simp only [itr, trn, mir]
theorem mir_3 (q : Pc) : mir (itr q 3) = itr (mir q) 1 := by
  obtain ⟨W, H, S⟩ := q
  simp only [itr, trn, mir, Prod.mk.injEq, true_and]
  funext x y
  congr 1 <;> omega
/-- Both ways come to the same text. -/
theorem bst_bsp (q : Pc) : bst (bst (txt q) q 4) (mir q) 4 = bsp (txt q) q 4 := by
  refine low_same (X := [txt (itr (mir q) 3), txt (itr (mir q) 2), txt (itr (mir q) 1), txt (mir q), txt (itr q 3), txt (itr q 2), txt (itr q 1), txt q, txt q])
    (Y := [txt (mir q), txt q, txt (itr (mir q) 1), txt (itr q 3), txt (itr (mir q) 2), txt (itr q 2), txt (itr (mir q) 3), txt (itr q 1), txt q]) ?_ ?_ ?_ ?_
  · exact low_mn (low_mn (low_mn (low_mn (low_mn (low_mn (low_mn (low_mn (low_one _))))))))
  · have h : Low (bsp (txt q) q 4) [txt (mir (itr q 4)), txt (itr q 4), txt (mir (itr q 3)), txt (itr q 3), txt (mir (itr q 2)), txt (itr q 2), txt (mir (itr q 1)), txt (itr q 1), txt q] :=
      low_mn (low_mn (low_mn (low_mn (low_mn (low_mn (low_mn (low_mn (low_one _))))))))
    rw [itr_4, mir_1, mir_2, mir_3] at h
    exact h
  · intro x h
    simp only [List.mem_cons, List.not_mem_nil, or_false] at h ⊢
    rcases h with rfl | rfl | rfl | rfl | rfl | rfl | rfl | rfl | rfl <;> simp
  · intro x h
    simp only [List.mem_cons, List.not_mem_nil, or_false] at h ⊢
    rcases h with rfl | rfl | rfl | rfl | rfl | rfl | rfl | rfl | rfl <;> simp
theorem turn_set (W H : Nat) (d : Nat → Bool) : gS H W (tD W H d) = fun x y => gS W H d y ((H : Int) - 1 - x) := by
  funext x y
  refine (eq_gS (d := tD W H d) (S := fun x y => gS W H d y ((H : Int) - 1 - x)) (turn_bd (gS_bd W H d)) (fun x y hx hy => ?_) x y).symm
  show gS W H d (y : Int) ((H : Int) - 1 - x) = tD W H d (y * H + x)
  rw [show (H : Int) - 1 - (x : Int) = ((H - 1 - x : Nat) : Int) by omega, gS_nat W H d _ _ hy (by omega)]
  unfold tD
  rw [place_x hx, place_y hx]
theorem mirror_set (W H : Nat) (d : Nat → Bool) : gS W H (mD W d) = fun x y => gS W H d ((W : Int) - 1 - x) y := by
  funext x y
  refine (eq_gS (d := mD W d) (S := fun x y => gS W H d ((W : Int) - 1 - x) y) (mirror_bd (gS_bd W H d)) (fun x y hx hy => ?_) x y).symm
  show gS W H d ((W : Int) - 1 - x) (y : Int) = mD W d (y * W + x)
  rw [show (W : Int) - 1 - (x : Int) = ((W - 1 - x : Nat) : Int) by omega, gS_nat W H d _ _ (by omega) hy]
  unfold mD
  rw [place_x hx, place_y hx]
/-- A picture as the specification holds it. -/
abbrev Gc := Nat × Nat × (Nat → Bool)
def gtn (q : Gc) : Gc := (q.2.1, q.1, tD q.1 q.2.1 q.2.2)
def gir (q : Gc) : Nat → Gc
  | 0 => q
  | k + 1 => gtn (gir q k)
def pcOf (q : Gc) : Pc := (q.1, q.2.1, gS q.1 q.2.1 q.2.2)
theorem pc_gir (q : Gc) : ∀ k, pcOf (gir q k) = itr (pcOf q) k
  | 0 => rfl
  | k + 1 => by
    rw [itr, ← pc_gir q k]
    show pcOf (gtn (gir q k)) = trn (pcOf (gir q k))
    generalize gir q k = r
    obtain ⟨W, H, d⟩ := r
    simp only [pcOf, gtn, trn, turn_set]
theorem txt_pc (q : Gc) : txt (pcOf q) = gText q.1 q.2.1 q.2.2 := sT_gS _ _ _
theorem gir_bd (q : Gc) (h : 1 ≤ q.1 ∧ q.1 ≤ 24 ∧ 1 ≤ q.2.1 ∧ q.2.1 ≤ 24) : ∀ k, 1 ≤ (gir q k).1 ∧ (gir q k).1 ≤ 24 ∧ 1 ≤ (gir q k).2.1 ∧ (gir q k).2.1 ≤ 24
  | 0 => h
  | k + 1 => by
    have := gir_bd q h k
    exact ⟨this.2.2.1, this.2.2.2, this.1, this.2.1⟩
end Go.Proofs.YtbabkcjnfdpafaaGreatDoor

/- Contracts of the specification's functions of chapter 1: bounds, numbers of places, the place of a number. -/
namespace Go.Proofs.YtbabkcjnfdpafaaGreatDoor
open Go.RowKit

theorem in_yes (n lo hi : Int) (w : World) (h1 : lo ≤ n) (h2 : n ≤ hi) :
    Calls Tryz.prog 42 #[.int .i64 n, .int .i64 lo, .int .i64 hi] w fun e w' => e = .returned (.bool true) ∧ w = w' := by
  go_enter Tryz.func42, Tryz.ntmps42
  go_wp2
  go_ret
  exact ⟨rfl, rfl⟩
theorem in_no (n lo hi : Int) (w : World) (h : n < lo ∨ hi < n) :
    Calls Tryz.prog 42 #[.int .i64 n, .int .i64 lo, .int .i64 hi] w fun e w' => e = .returned (.bool false) ∧ w = w' := by
  rcases Int.lt_or_le n lo with h1 | h1
  · go_enter Tryz.func42, Tryz.ntmps42
    go_wp2
    go_ret
    exact ⟨rfl, rfl⟩
  · have h2 : decide (n ≤ hi) = false := by simp; omega
    go_enter Tryz.func42, Tryz.ntmps42
    go_wp2
    go_ret
    exact ⟨rfl, rfl⟩

end Go.Proofs.YtbabkcjnfdpafaaGreatDoor

/- Contracts of the program's functions of chapter 1: bounds, rules, the search for a last place. -/
namespace Go.Proofs.YtbabkcjnfdpafaaGreatDoor
open Go.RowKit

theorem within_yes (n lo hi : Int) (w : World) (h1 : lo ≤ n) (h2 : n ≤ hi) :
    Calls Tryz.prog 79 #[.int .i64 n, .int .i64 lo, .int .i64 hi] w fun e w' => e = .returned (.bool true) ∧ w = w' := by
  go_enter Tryz.func79, Tryz.ntmps79
  go_wp2
  go_ret
  exact ⟨rfl, rfl⟩
theorem within_no (n lo hi : Int) (w : World) (h : n < lo ∨ hi < n) :
    Calls Tryz.prog 79 #[.int .i64 n, .int .i64 lo, .int .i64 hi] w fun e w' => e = .returned (.bool false) ∧ w = w' := by
  rcases Int.lt_or_le n lo with h1 | h1
  · go_enter Tryz.func79, Tryz.ntmps79
    go_wp2
    go_ret
    exact ⟨rfl, rfl⟩
  · have h2 : decide (n ≤ hi) = false := by simp; omega
    go_enter Tryz.func79, Tryz.ntmps79
    go_wp2
    go_ret
    exact ⟨rfl, rfl⟩


end Go.Proofs.YtbabkcjnfdpafaaGreatDoor

/- Plain arithmetic, 2: centred numbers, numbers of places below 0, roots. -/
namespace Go.Proofs.YtbabkcjnfdpafaaGreatDoor

/-- The centred number of a place. -/
def cen (s k : Int) : Int := s * k * (k - 1) / 2 + 1

theorem cen_twice (s k : Int) : 2 * cen s k = s * (k * (k - 1)) + 2 := by
  have h2 := even_pr k
  have h3 : k * (k - 1) = 2 * (k * (k - 1) / 2) := by omega
  have h4 : s * k * (k - 1) = 2 * (s * (k * (k - 1) / 2)) := by
    generalize k * (k - 1) / 2 = q at h3
    grind
  have h5 : s * (k * (k - 1)) = s * k * (k - 1) := by grind
  unfold cen
  omega
theorem cen_succ (s k : Int) : cen s (k + 1) = cen s k + s * k := by
  have h1 := cen_twice s k
  have h2 := cen_twice s (k + 1)
  grind
theorem cen_one (s : Int) : cen s 1 = 1 := by simp [cen]
theorem cen_lt (s : Int) (hs : 3 ≤ s) (a : Int) (ha : 1 ≤ a) (d : Nat) : cen s a < cen s (a + d + 1) := by
  induction d with
  | zero =>
    have h1 := cen_succ s a
    have h2 := Int.mul_pos (a := s) (b := a) (by omega) (by omega)
    simp
    omega
  | succ d ih =>
    have h1 := cen_succ s (a + d + 1)
    have h2 := Int.mul_pos (a := s) (b := a + d + 1) (by omega) (by omega)
    have e : a + ((d + 1 : Nat) : Int) + 1 = a + d + 1 + 1 := by omega
    rw [e]
    omega
theorem cen_mono (s : Int) (hs : 3 ≤ s) {a b : Int} (ha : 1 ≤ a) (h : a ≤ b) : cen s a ≤ cen s b := by
  rcases Int.lt_or_eq_of_le h with h | h
  · have := cen_lt s hs a ha (b - a - 1).toNat
    have e : a + ((b - a - 1).toNat : Int) + 1 = b := by omega
    rw [e] at this
    omega
  · rw [h]; exact Int.le_refl _

structure CenBds (s k : Int) : Prop where
  a0 : 0 ≤ s * k
  a1 : s * k ≤ 72000000
  b0 : 0 ≤ s * k * (k - 1)
  b1 : s * k * (k - 1) ≤ 216000000000000
theorem cen_bds (s k : Int) (h1 : 3 ≤ s) (h2 : s ≤ 24) (h3 : 0 ≤ k) (h4 : k ≤ 3000000) : CenBds s k := by
  have e1 := Int.mul_nonneg (a := s) (b := k) (by omega) h3
  have e2 := Int.mul_nonneg (a := s) (b := 3000000 - k) (by omega) (by omega)
  have e3 := pr_nn k
  have e4 := sq_le k 3000000 (by omega) h4
  have e5 := Int.mul_nonneg (a := s) (b := k * (k - 1)) (by omega) e3
  have f0 : k * (k - 1) = k * k - k := by grind
  have e6 := Int.mul_nonneg (a := s) (b := 9000000000000 - k * (k - 1)) (by omega) (by omega)
  have f2 : s * (3000000 - k) = 3000000 * s - s * k := by grind
  have f5 : s * (k * (k - 1)) = s * k * (k - 1) := by grind
  have f6 : s * (9000000000000 - k * (k - 1)) = 9000000000000 * s - s * k * (k - 1) := by grind
  constructor <;> omega

def IsCpl (s n k : Int) : Prop := 1 ≤ k ∧ cen s k ≤ n ∧ n < cen s (k + 1)
theorem cpl_ex (s : Int) (hs : 3 ≤ s) (n : Nat) : ∃ k, IsCpl s ((n : Int) + 1) k := by
  induction n with
  | zero =>
    refine ⟨1, by omega, by simp [cen_one], ?_⟩
    have := cen_succ s 1
    rw [cen_one] at this
    omega
  | succ n ih =>
    obtain ⟨k, h0, h1, h2⟩ := ih
    by_cases h : cen s (k + 1) ≤ ((n + 1 : Nat) : Int) + 1
    · refine ⟨k + 1, by omega, h, ?_⟩
      have := cen_lt s hs (k + 1) (by omega) 0
      simp at this
      omega
    · exact ⟨k, h0, by omega, by omega⟩
/-- The greatest place of at least 1 whose centred number is no greater; for 0 it is 0. -/
noncomputable def cpl (s n : Int) : Int := if n = 0 then 0 else Classical.epsilon (IsCpl s n)
theorem cpl_is (s n : Int) (hs : 3 ≤ s) (hn : 1 ≤ n) : IsCpl s n (cpl s n) := by
  have e : n = ((n - 1).toNat : Int) + 1 := by omega
  unfold cpl
  rw [if_neg (by omega)]
  rw [e]
  exact Classical.epsilon_spec (cpl_ex s hs _)
theorem cpl_zero (s : Int) : cpl s 0 = 0 := by simp [cpl]
theorem cpl_nn (s n : Int) (hs : 3 ≤ s) (hn : 0 ≤ n) : 0 ≤ cpl s n := by
  by_cases h : n = 0
  · rw [h, cpl_zero]; omega
  · have := (cpl_is s n hs (by omega)).1
    omega
theorem cfits_iff (s n k : Int) (hs : 3 ≤ s) (hn : 0 ≤ n) (hk : 1 ≤ k) : cen s k ≤ n ↔ k ≤ cpl s n := by
  by_cases h0 : n = 0
  · rw [h0, cpl_zero]
    have := cen_mono s hs (a := 1) (b := k) (by omega) hk
    rw [cen_one] at this
    omega
  · obtain ⟨c0, c1, c2⟩ := cpl_is s n hs (by omega)
    constructor
    · intro h
      rcases Int.lt_or_le (cpl s n) k with hlt | hle
      · have := cen_mono s hs (a := cpl s n + 1) (b := k) (by omega) (by omega)
        omega
      · exact hle
    · intro h
      have := cen_mono s hs hk h
      omega
theorem cpl_le (s n : Int) (hs : 3 ≤ s) (hn : 0 ≤ n) (h : n ≤ 1000000000000) : cpl s n ≤ 1000000 := by
  rcases Int.lt_or_le 1000000 (cpl s n) with hlt | hle
  · have h1 := (cfits_iff s n 1000001 hs hn (by omega)).2 (by omega)
    have h2 := cen_twice s 1000001
    have h3 := Int.mul_le_mul_of_nonneg_right (a := 3) (b := s) (c := 1000001 * (1000001 - 1)) hs (by omega)
    omega
  · exact hle

/-! ### places below 0 -/
theorem neg_twice (s k : Int) : 2 * num s (-k) = (s - 2) * k * k + (s - 4) * k := by
  have := num_twice s (-k)
  grind
theorem neg_succ (s k : Int) : num s (-(k + 1)) = num s (-k) + (s - 2) * k + (s - 3) := by
  have h1 := neg_twice s k
  have h2 := neg_twice s (k + 1)
  grind
theorem neg_le (s : Int) (hs : 3 ≤ s) (a : Int) (ha : 0 ≤ a) (d : Nat) : num s (-a) ≤ num s (-(a + d)) := by
  induction d with
  | zero => simp
  | succ d ih =>
    have h1 := neg_succ s (a + d)
    have h2 := Int.mul_nonneg (a := s - 2) (b := a + d) (by omega) (by omega)
    have e : a + ((d + 1 : Nat) : Int) = a + d + 1 := by omega
    rw [e]
    omega
theorem neg_mono (s : Int) (hs : 3 ≤ s) {a b : Int} (ha : 0 ≤ a) (h : a ≤ b) : num s (-a) ≤ num s (-b) := by
  have := neg_le s hs a ha (b - a).toNat
  have e : a + ((b - a).toNat : Int) = b := by omega
  rwa [e] at this
theorem neg_lt (s : Int) (hs : 3 ≤ s) (k : Int) (hk : 1 ≤ k) : num s (-k) < num s (-(k + 1)) := by
  have h1 := neg_succ s k
  have h2 := Int.mul_pos (a := s - 2) (b := k) (by omega) (by omega)
  omega
/-- the number of -k is at least k (k - 1) / 2 -/
theorem neg_ge (s k : Int) (hs : 3 ≤ s) : k * (k - 1) ≤ 2 * num s (-k) := by
  have h1 := neg_twice s k
  have h2 := Int.mul_nonneg (a := s - 3) (b := k * (k + 1)) (by omega) (pr_nn' k)
  have h3 : (s - 2) * k * k + (s - 4) * k = (s - 3) * (k * (k + 1)) + k * (k - 1) := by grind
  omega

def IsWl (s n k : Int) : Prop := 0 ≤ k ∧ num s (-k) ≤ n ∧ n < num s (-(k + 1))
theorem wl_ex (s : Int) (hs : 3 ≤ s) (n : Nat) : ∃ k, IsWl s n k := by
  induction n with
  | zero =>
    by_cases h : s = 3
    · refine ⟨1, by omega, ?_, ?_⟩
      · have := neg_twice s 1
        subst h
        simp at this ⊢
        omega
      · have := neg_twice s 2
        subst h
        simp at this ⊢
        omega
    · refine ⟨0, by omega, by simp [num_zero], ?_⟩
      have := neg_twice s 1
      simp at this ⊢
      omega
  | succ n ih =>
    obtain ⟨k, h0, h1, h2⟩ := ih
    by_cases h : num s (-(k + 1)) ≤ ((n + 1 : Nat) : Int)
    · exact ⟨k + 1, by omega, h, by have := neg_lt s hs (k + 1) (by omega); omega⟩
    · exact ⟨k, h0, by omega, by omega⟩
noncomputable def wl (s n : Int) : Int := Classical.epsilon (IsWl s n)
theorem wl_is (s n : Int) (hs : 3 ≤ s) (hn : 0 ≤ n) : IsWl s n (wl s n) := by
  obtain ⟨m, rfl⟩ := Int.eq_ofNat_of_zero_le hn
  exact Classical.epsilon_spec (wl_ex s hs m)
theorem wfits_iff (s n k : Int) (hs : 3 ≤ s) (hn : 0 ≤ n) (hk : 0 ≤ k) : num s (-k) ≤ n ↔ k ≤ wl s n := by
  obtain ⟨h0, h1, h2⟩ := wl_is s n hs hn
  constructor
  · intro h
    rcases Int.lt_or_le (wl s n) k with hlt | hle
    · have := neg_mono s hs (a := wl s n + 1) (b := k) (by omega) (by omega)
      omega
    · exact hle
  · intro h
    have := neg_mono s hs hk h
    omega
theorem wl_nn (s n : Int) (hs : 3 ≤ s) (hn : 0 ≤ n) : 0 ≤ wl s n := (wl_is s n hs hn).1
theorem wl_le (s n : Int) (hs : 3 ≤ s) (hn : 0 ≤ n) (h : n ≤ 1000000000000) : wl s n ≤ 1500000 := by
  rcases Int.lt_or_le 1500000 (wl s n) with hlt | hle
  · have h1 := (wfits_iff s n 1500001 hs hn (by omega)).2 (by omega)
    have h2 := neg_ge s 1500001 hs
    omega
  · exact hle
/-- Where a number has a place of each sign, the one that is not below 0 is of no greater size. -/
theorem both (s n : Int) (hs : 3 ≤ s) (hn : 0 ≤ n) (h1 : num s (pl s n) = n) : pl s n ≤ wl s n ∨ num s (-(wl s n)) ≠ n := by
  by_cases h4 : s ≤ 4
  · refine Or.inl ((wfits_iff s n _ hs hn (pl_nn s n hs hn)).1 ?_)
    have e1 := neg_twice s (pl s n)
    have e2 := num_twice s (pl s n)
    have e3 := Int.mul_nonneg (a := 4 - s) (b := pl s n) (by omega) (pl_nn s n hs hn)
    have e4 : (4 - s) * pl s n = -((s - 4) * pl s n) := by grind
    omega
  · by_cases h2 : num s (-(wl s n)) = n
    · refine Or.inl ?_
      have e1 := neg_twice s (wl s n)
      have e2 := num_twice s (pl s n)
      have p0 := pl_nn s n hs hn
      have w0 := wl_nn s n hs hn
      generalize pl s n = k at *
      generalize wl s n = l at *
      rw [h1] at e2
      rw [h2] at e1
      have e3 : (l + k) * ((s - 2) * (k - l) - (s - 4)) = 0 := by grind
      rcases Int.mul_eq_zero.1 e3 with e | e
      · omega
      · exfalso
        rcases Int.lt_or_le l k with hlt | hle
        · have := Int.mul_nonneg (a := s - 2) (b := k - l - 1) (by omega) (by omega)
          have e5 : (s - 2) * (k - l - 1) = (s - 2) * (k - l) - (s - 2) := by grind
          omega
        · have := Int.mul_nonneg (a := s - 2) (b := l - k) (by omega) (by omega)
          have e5 : (s - 2) * (l - k) = -((s - 2) * (k - l)) := by grind
          omega
    · exact Or.inr h2

/-! ### roots -/
def IsRt (n k : Int) : Prop := 0 ≤ k ∧ k * k ≤ n ∧ n < (k + 1) * (k + 1)
theorem sq_mono {a b : Int} (ha : 0 ≤ a) (h : a ≤ b) : a * a ≤ b * b := Int.mul_le_mul h h ha (by omega)
theorem rt_ex (n : Nat) : ∃ k, IsRt n k := by
  induction n with
  | zero => exact ⟨0, by omega, by simp, by simp⟩
  | succ n ih =>
    obtain ⟨k, h0, h1, h2⟩ := ih
    by_cases h : (k + 1) * (k + 1) ≤ ((n + 1 : Nat) : Int)
    · refine ⟨k + 1, by omega, h, ?_⟩
      have e : (k + 1 + 1) * (k + 1 + 1) = (k + 1) * (k + 1) + 2 * k + 3 := by grind
      omega
    · exact ⟨k, h0, by omega, by omega⟩
noncomputable def rt (n : Int) : Int := Classical.epsilon (IsRt n)
theorem rt_is (n : Int) (hn : 0 ≤ n) : IsRt n (rt n) := by
  obtain ⟨m, rfl⟩ := Int.eq_ofNat_of_zero_le hn
  exact Classical.epsilon_spec (rt_ex m)
theorem rfits_iff (n k : Int) (hn : 0 ≤ n) (hk : 0 ≤ k) : k * k ≤ n ↔ k ≤ rt n := by
  obtain ⟨h0, h1, h2⟩ := rt_is n hn
  constructor
  · intro h
    rcases Int.lt_or_le (rt n) k with hlt | hle
    · have := sq_mono (a := rt n + 1) (b := k) (by omega) (by omega)
      omega
    · exact hle
  · intro h
    have := sq_mono hk h
    omega
theorem rt_nn (n : Int) (hn : 0 ≤ n) : 0 ≤ rt n := (rt_is n hn).1
theorem rt_le (n : Int) (hn : 0 ≤ n) (h : n ≤ 4000000000000000000) : rt n ≤ 2000000000 := by
  rcases Int.lt_or_le 2000000000 (rt n) with hlt | hle
  · have h1 := (rfits_iff n 2000000001 hn (by omega)).2 (by omega)
    omega
  · exact hle
theorem rt_uniq (n k : Int) (hn : 0 ≤ n) (h0 : 0 ≤ k) (h1 : k * k ≤ n) (h2 : n < (k + 1) * (k + 1)) : k = rt n := by
  have a := (rfits_iff n k hn h0).1 h1
  have b : ¬ (k + 1 ≤ rt n) := fun h => by
    have := (rfits_iff n (k + 1) hn (by omega)).2 h
    omega
  omega
/-- A power of 2. -/
def P2 (t : Int) : Prop := ∃ j : Nat, t = ((2 ^ j : Nat) : Int)
theorem P2.pos {t : Int} (h : P2 t) : 1 ≤ t := by
  obtain ⟨j, rfl⟩ := h
  have := Nat.pow_pos (n := j) (show 0 < 2 by omega)
  omega
theorem P2.half {t : Int} (h : P2 t) (h1 : t ≠ 1) : P2 (t / 2) ∧ t = 2 * (t / 2) := by
  obtain ⟨j, rfl⟩ := h
  cases j with
  | zero => simp at h1
  | succ j =>
    have e : (2 ^ (j + 1) : Nat) = 2 * 2 ^ j := by rw [Nat.pow_succ]; omega
    rw [e]
    have e2 : (((2 * 2 ^ j : Nat) : Int)) / 2 = ((2 ^ j : Nat) : Int) := by omega
    rw [e2]
    exact ⟨⟨j, rfl⟩, by omega⟩
theorem P2.start : P2 2147483648 := ⟨31, by decide⟩
end Go.Proofs.YtbabkcjnfdpafaaGreatDoor
