/- Sums of different places: the first one; the specification's search. -/
import Derived.Test.YtegbikakfckehaaDoorMb
namespace Go.Proofs.YtegbikakfckehaaDoor
open Go.ChangeShapes Go.WideShapes Go.ChangeAt Go.RowKit

/-- The first list of different places up to k, if there is one. -/
def fd (s : Int) : Nat → Int → List Int
  | 0, _ => []
  | k + 1, m => if 0 < D s k (m - num s ((k : Int) + 1)) then ((k : Int) + 1) :: fd s k (m - num s ((k : Int) + 1)) else fd s k m
theorem fd_miss (s : Int) (k : Nat) (m : Int) (h : ¬ 0 < D s k (m - num s ((k : Int) + 1))) : fd s (k + 1) m = fd s k m ∧ D s (k + 1) m = D s k m := by
  refine ⟨by rw [fd, if_neg h], by rw [D]; omega⟩
theorem fd_hit (s : Int) (k : Nat) (m : Int) (h : 0 < D s k (m - num s ((k : Int) + 1))) : fd s (k + 1) m = ((k : Int) + 1) :: fd s k (m - num s ((k : Int) + 1)) ∧ 0 < D s (k + 1) m := by
  refine ⟨by rw [fd, if_pos h], by rw [D]; omega⟩
theorem fd_zero (s : Int) (hs : 3 ≤ s) (k : Nat) : fd s k 0 = [] := by
  induction k with
  | zero => rfl
  | succ k ih =>
    have h1 := num_pos s ((k : Int) + 1) hs (by omega)
    rw [(fd_miss s k 0 (by rw [D_neg s hs k (0 - num s ((k : Int) + 1)) (by omega)]; omega)).1, ih]
theorem D_k0 (s : Int) (k : Nat) : 0 < D s k 0 := by
  induction k with
  | zero => simp [D]
  | succ k ih => rw [D]; omega
theorem fd_len (s : Int) (k : Nat) : ∀ m : Int, (fd s k m).length ≤ k := by
  induction k with
  | zero => intro m; simp [fd]
  | succ k ih =>
    intro m
    rw [fd]
    split
    · simp only [List.length_cons]; have := ih (m - num s ((k : Int) + 1)); omega
    · have := ih m; omega
theorem fd_down (s : Int) (hs : 3 ≤ s) (m : Int) (j d : Nat) (h : m < num s ((j : Int) + 1)) : fd s (j + d) m = fd s j m ∧ D s (j + d) m = D s j m := by
  induction d with
  | zero => exact ⟨rfl, rfl⟩
  | succ d ih =>
    have h1 := num_mono_le s hs (a := (j : Int) + 1) (b := ((j + d : Nat) : Int) + 1) (by omega) (by omega)
    have h2 := fd_miss s (j + d) m (by rw [D_neg s hs (j + d) (m - num s (((j + d : Nat) : Int) + 1)) (by omega)]; omega)
    rw [← Nat.add_assoc, h2.1, h2.2]
    exact ih

/-- The sum of the numbers of the places 1, .., k. -/
def numSum (s : Int) : Nat → Int
  | 0 => 0
  | k + 1 => numSum s k + num s ((k : Int) + 1)
theorem num_small (s k : Int) (h1 : 3 ≤ s) (h2 : s ≤ 24) (h3 : 0 ≤ k) (h4 : k ≤ 100) : num s k ≤ 1000000 := by
  have h5 := num_mono_le s h1 h3 h4
  have h6 := num_twice s 100
  omega
theorem numSum_bds (s : Int) (h1 : 3 ≤ s) (h2 : s ≤ 24) (k : Nat) (hk : k ≤ 100) : 0 ≤ numSum s k ∧ numSum s k ≤ 1000000 * k := by
  induction k with
  | zero => simp [numSum]
  | succ k ih =>
    have h3 := ih (by omega)
    have h4 := num_small s ((k : Int) + 1) h1 h2 (by omega) (by omega)
    have h5 := num_nn s ((k : Int) + 1) h1
    rw [numSum]
    omega
theorem D_sum (s : Int) (hs : 3 ≤ s) (k : Nat) : ∀ m : Int, 0 < D s k m → m ≤ numSum s k := by
  induction k with
  | zero =>
    intro m h
    rw [D] at h
    by_cases e : m = 0
    · subst e; simp [numSum]
    · rw [if_neg e] at h; omega
  | succ k ih =>
    intro m h
    have h1 := num_nn s ((k : Int) + 1) hs
    rw [D] at h
    rw [numSum]
    by_cases e : 0 < D s k m
    · have := ih m e; omega
    · have := ih (m - num s ((k : Int) + 1)) (by omega); omega

theorem l1Least_any (a b : Int) (w : World) :
    Calls Tryd.prog 64 #[.int .i64 a, .int .i64 b] w fun e w' => e = .returned (.int .i64 (min a b)) ∧ w = w' := by
  by_cases h : a < b
  · have e : min a b = a := by omega
    have H := Lib.hid e
    clear e
    go_enter Tryd.func64, Tryd.ntmps64
    go_wp2
    go_ret
    exact ⟨by rw [H.out]; rfl, rfl⟩
  · have e : min a b = b := by omega
    have H := Lib.hid e
    clear e
    go_enter Tryd.func64, Tryd.ntmps64
    go_wp2
    go_ret
    exact ⟨by rw [H.out]; rfl, rfl⟩
/-- 'append(v, src...)', v the call's own, src whatever slice of one-cell elements that reads as the cells news. -/
theorem wpList_append_src {P : Program} {w : World} {ops : Array Oper} {rest : List Oper} {o : Oper} {a : Act} {Q : Exit → Act → World → Prop} (hgd : o.guard = none) (s x : Operand) (t : TypeId)
    (ho : o.op = .call { callee := .builtin .append, args := #[s, x], argTypes := #[t, t] })
    (base : Nat) (e : TypeId) (i : TypeInfo) (z : Value) (bytes : Nat) (ht : P.underlying t = some (.slice e)) (hi : P.info? e = some i) (hz : i.zero = some z)
    (hsize : i.size = 1) (hby : i.bytes = bytes) (hzs : z.cells.size = 1)
    (v : Value) (n : Nat) (xs : List Value) (hs : a.eval s = v) (hown : w.ownsRow base e 1 v n xs)
    (A : Option Addr) (m c : Nat) (news : List Value) (hx : a.eval x = .slice A m c) (hl : news.length = m) (hi' : Nat) (hsrc : Rd w hi' A news) (h1 : ∀ u ∈ news, u.oneCell' = true)
    (h63 : n + m ≤ maxLen) (hbytes : (n + m) * bytes ≤ 140737488355328) (hbase : base ≤ w.heap.size)
    (h : ∀ v' w', w'.ownsRow base e 1 v' (n + m) (xs ++ news) → w.grownBy w' v.ownBlock → wpList P ops Q rest (a.put o.dst v') w') : wpList P ops Q (o :: rest) a w := by
  cases A with
  | none =>
    have hm : m = 0 := by
      rcases Nat.eq_zero_or_pos m with h0 | h0
      · exact h0
      · obtain ⟨ad, e, _⟩ := hsrc (by omega)
        cases e
    subst hm
    obtain rfl : news = [] := List.length_eq_zero_iff.1 hl
    exact wpList_append_own_zero hgd s x t ho base e i 1 c ht hi v n xs hs hown hx (h v w (by simpa using hown) ⟨rfl, rfl, rfl, Nat.le_refl _, fun _ _ _ => rfl⟩)
  | some ad =>
    refine wpList_append_own w hgd s x t ho base e i z 1 bytes ht hi hz hsize hby hzs (by omega) v n xs hs hown ad m c news hx (by omega) ?_ h1 h63 hbytes hbase (fun v' w' h2 h3 _ => h v' w' h2 h3)
    intro j u hj
    obtain ⟨ad', e, _, h5⟩ := hsrc (by have := (List.getElem?_eq_some_iff.1 hj).1; omega)
    injection e with e
    subst e
    exact h5 j u hj
theorem i64s_one (xs : List Int) : ∀ u ∈ i64s xs, u.oneCell' = true := by
  intro u hu
  simp at hu
  obtain ⟨x, _, rfl⟩ := hu
  rfl

def uok (s : Int) (k : Nat) (m : Int) : Bool := decide (0 < D s k m)
def ufd (s : Int) (k : Nat) (m : Int) : List Int := if 0 < D s k m then fd s k m else []
theorem u_yes {s : Int} {k : Nat} {m : Int} (h : 0 < D s k m) : uok s k m = true ∧ ufd s k m = fd s k m := ⟨by simp [uok, h], by rw [ufd, if_pos h]⟩
theorem u_no {s : Int} {k : Nat} {m : Int} (h : ¬ 0 < D s k m) : uok s k m = false ∧ ufd s k m = [] := ⟨by simp [uok, h], by rw [ufd, if_neg h]⟩

set_option maxHeartbeats 1600000 in
theorem suUnlike_any (s : Int) (h1 : 3 ≤ s) (h2 : s ≤ 24) (k : Nat) : ∀ (m : Int) (w : World), k ≤ 77 → 0 ≤ m → m ≤ 3000 →
    Calls Tryd.prog 50 #[.int .i64 s, .int .i64 m, .int .i64 k] w (ResI (uok s k m) (ufd s k m) w) := by
  induction k using Nat.strongRecOn with
  | ind k ih =>
    intro m w hk hm0 hm1
    obtain ⟨i0, hi0, hz0, hz1, hz2⟩ := info_parts infoInt
    by_cases hm : m = 0
    · subst hm
      have HE : Hid (uok s k 0 = true ∧ ufd s k 0 = []) := Lib.hid ⟨(u_yes (D_k0 s k)).1, by rw [(u_yes (D_k0 s k)).2, fd_zero s h1]⟩
      go_enter Tryd.func50, Tryd.ntmps50
      go_wp2_with fail
      go_ret2
      rw [HE.out.1, HE.out.2]
      exact resI_nil (Below.refl _ _)
    · have hb0 := numSum_bds s h1 h2 k (by omega)
      have hkI : (k : Int) ≤ 77 := by omega
      have HDS := Lib.hid (D_sum s h1 k m)
      have IH := Lib.hid ih
      have hmb : (m == 0) = false := by simpa using hm
      clear ih
      go_enter Tryd.func50, Tryd.ntmps50
      go_wp2_with fail
      go_loopw [8, 9] (fun a i wr => ∃ j : Nat, j ≤ k ∧ i = .int .i64 ((j : Int) + 1) ∧ a = .int .i64 (numSum s j) ∧ w = wr) (fun _ i _ => (k + 1 - (intOf i).toNat))
      case atStart => exact ⟨0, Nat.zero_le _, rfl, rfl, rfl⟩
      case round =>
        obtain ⟨j, hj, rfl, rfl, rfl⟩ := hrel
        by_cases hlt : j < k
        · have hi : (j : Int) + 1 ≤ (k : Int) := by omega
          have hbj := numSum_bds s h1 h2 j (by omega)
          have hnj := num_small s ((j : Int) + 1) h1 h2 (by omega) (by omega)
          have hnn := num_nn s ((j : Int) + 1) h1
          go_wp2_with (go_at_call 65; refine (shNumber_any _ _ _ h1 h2 (by omega) (by omega)).mono ?_; rintro e w' ⟨rfl, rfl⟩)
          go_roundw
          case rel => exact ⟨j + 1, by omega, by go_num, rfl, by first | trivial | rfl⟩
          case measure => simp [intOf]; omega
        · obtain rfl : j = k := by omega
          by_cases hs : numSum s j < m
          · have HE : Hid (uok s j m = false ∧ ufd s j m = []) := by
              have h3 : ¬ 0 < D s j m := fun h => by have := HDS.out h; omega
              exact Lib.hid (u_no h3)
            go_wp2_with fail
            go_ret2
            rw [HE.out.1, HE.out.2]
            exact resI_nil (Below.refl _ _)
          · have p0 := pl_nn s m h1 hm0
            have p1 := pl_77 s m h1 hm0 hm1
            have HPL := Lib.hid (fun q : Int => fits_iff s m q h1 hm0)
            have q0 : (0 : Int) ≤ min (j : Int) (pl s m) := by omega
            have q1 : min (j : Int) (pl s m) ≤ 77 := by omega
            have q2 : min (j : Int) (pl s m) ≤ (j : Int) := by omega
            have q3 : min (j : Int) (pl s m) ≤ pl s m := by omega
            obtain ⟨t, ht⟩ := Int.eq_ofNat_of_zero_le q0
            have HT : Hid (fd s t m = fd s j m ∧ D s t m = D s j m) := by
              refine Lib.hid ?_
              by_cases hjt : t = j
              · subst hjt; exact ⟨rfl, rfl⟩
              · have e : j = t + (j - t) := by omega
                have h5 := fits_iff s m ((t : Int) + 1) h1 hm0 (by omega)
                have h6 := fd_down s h1 m t (j - t) (by
                  rcases Int.lt_or_le m (num s ((t : Int) + 1)) with h | h
                  · exact h
                  · have := h5.1 h; omega)
                rw [← e] at h6
                exact ⟨h6.1.symm, h6.2.symm⟩
            rw [ht] at q1 q2 q3
            have HTT := Lib.hid ht
            clear ht q0
            go_wp2_with (first
              | (go_at_call 51; refine (shBelow_any _ _ _ h1 h2 hm0 (by omega)).mono ?_; rintro e w' ⟨rfl, rfl⟩)
              | (go_at_call 64; refine (l1Least_any _ _ _).mono ?_; rw [HTT.out]; rintro e w' ⟨rfl, rfl⟩))
            go_loopw [10] (fun p wr => ∃ q : Nat, p = .int .i64 q ∧ q ≤ j ∧ (q : Int) ≤ pl s m ∧ Hid (fd s q m = fd s j m ∧ D s q m = D s j m) ∧ Below w.heap.size w wr) (fun p _ => (intOf p).toNat)
            case atStart => exact ⟨t, rfl, by omega, q3, HT, Below.refl _ _⟩
            case round =>
              obtain ⟨q, rfl, hqj, hqp, HQ, hb⟩ := hrel
              cases q with
              | zero =>
                have HE : Hid (uok s j m = false ∧ ufd s j m = []) := by
                  refine Lib.hid (u_no ?_)
                  rw [← HQ.out.2, D, if_neg hm]
                  omega
                go_wp2_with fail
                go_ret2
                rw [HE.out.1, HE.out.2]
                exact resI_nil hb
              | succ q =>
                have hfit := (HPL.out ((q : Int) + 1) (by omega)).2 (by omega)
                have hnn := num_nn s ((q : Int) + 1) h1
                have hge : (1 : Int) ≤ (q : Int) + 1 := by omega
                by_cases hD : 0 < D s q (m - num s ((q : Int) + 1))
                · have HU := Lib.hid (u_yes hD)
                  have HF : Hid (uok s j m = true ∧ ufd s j m = ((q : Int) + 1) :: fd s q (m - num s ((q : Int) + 1))) := by
                    have h7 := fd_hit s q m hD
                    have h8 : 0 < D s j m := by rw [← HQ.out.2]; exact h7.2
                    refine Lib.hid ⟨(u_yes h8).1, ?_⟩
                    rw [(u_yes h8).2, ← HQ.out.1, h7.1]
                  have hlf := fd_len s q (m - num s ((q : Int) + 1))
                  clear hD
                  push_cast
                  go_wp2_with (first
                    | (go_at_call 65; refine (shNumber_any _ _ _ h1 h2 (by omega) (by omega)).mono ?_; rintro e w' ⟨rfl, rfl⟩)
                    | (go_at_call 50; refine (IH.out q (by omega) _ _ (by omega) (by omega) (by omega)).mono ?_; rw [HU.out.1, HU.out.2]; rintro e w2 ⟨A, c, rfl, hown, hb2⟩; have HO := Lib.hid hown; clear hown)
                    | (at_builtin; refine wpList_append_src rfl _ _ 25 rfl w.heap.size 3 i0 (.int .i64 0) 8 Tryd.underlying25 hi0 hz0 hz1 hz2 rfl (.slice (some ⟨w2.heap.size, 0, none⟩) 1 1) 1 [.int .i64 ((q : Int) + 1)] rfl (World.ownsRow_lit w2 #[.int .i64 ((q : Int) + 1)] 1 (Nat.le_trans hb.size hb2.size) (by unfold maxLen; omega) rfl) A _ c (i64s (fd s q (m - num s ((q : Int) + 1)))) rfl (by simp) w2.heap.size (HO.out.rd.below ((Below.refl _ _).alloc (Nat.le_refl _) _) (Nat.le_refl _)) (i64s_one _) (by unfold maxLen; omega) (by omega) (by have := hb.size; have := hb2.size; simp; omega) ?_; intro v' w3 hown' hgrow))
                  · have hb3 : Below w.heap.size w w3 := ((hb.trans (hb2.mono hb.size)).alloc (Nat.le_trans hb.size hb2.size) _).grown hgrow (by have := hb.size; have := hb2.size; simp; omega) fun g hg => by
                      have := hb.size
                      have := hb2.size
                      simp [Value.ownBlock] at hg
                      omega
                    have hlen : 1 + (fd s q (m - num s ((q : Int) + 1))).length = (((q : Int) + 1) :: fd s q (m - num s ((q : Int) + 1))).length := by simp; omega
                    obtain ⟨A', c', rfl⟩ := row_form hown'
                    go_ret2
                    rw [HF.out.1, HF.out.2]
                    refine ⟨A', c', ?_, own_of_row hown', hb3⟩
                    rw [← hlen]
                    rfl
                · have HM := fd_miss s q m hD
                  have HU := Lib.hid (u_no hD)
                  have HQ2 : Hid (fd s q m = fd s j m ∧ D s q m = D s j m) := Lib.hid ⟨by rw [← HM.1]; exact HQ.out.1, by rw [← HM.2]; exact HQ.out.2⟩
                  clear hD HM
                  push_cast
                  go_wp2_with (first
                    | (go_at_call 65; refine (shNumber_any _ _ _ h1 h2 (by omega) (by omega)).mono ?_; rintro e w' ⟨rfl, rfl⟩)
                    | (go_at_call 50; refine (IH.out q (by omega) _ _ (by omega) (by omega) (by omega)).mono ?_; rw [HU.out.1, HU.out.2]; rintro e w2 ⟨A, c, rfl, hown, hb2⟩))
                  go_roundw
                  case rel => exact ⟨q, by go_num, by omega, by omega, HQ2, hb.trans (hb2.mono hb.size)⟩
                  case measure => simp [intOf]
end Go.Proofs.YtegbikakfckehaaDoor
