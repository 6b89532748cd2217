/- Chapter 9, by the program: clues, puzzles, and searches in slices of clues. -/
import Derived.Test.YtljleceepghfjaaDoorTfG
import Derived.Test.YtljleceepghfjaaDoorImB
import Derived.Deep.RegionHeld3
namespace Go.Proofs.YtljleceepghfjaaDoor
open Go.ChangeShapes Go.WideShapes Go.ChangeAt Go.RowKit

theorem iSides9 (s : Int) (w : World) : Calls Tryd.prog 54 #[.int .i64 s] w fun e w' => e = .returned (.bool (betr s 3 24)) ∧ w = w' := by
  by_cases h : s < 3 ∨ 24 < s
  · rw [betr_no h]; exact areSides_no _ _ h
  · rw [betr_yes (x := s) (lo := 3) (hi := 24) (by omega) (by omega)]; exact areSides_yes _ _ (by omega) (by omega)
theorem isGuess_any (n : Int) (w : World) : Calls Tryd.prog 33 #[.int .i64 n] w fun e w' => e = .returned (.bool (betr n 1 500)) ∧ w = w' := by
  go_enter Tryd.func33, Tryd.ntmps33
  go_wp2_with (go_at_call 52; refine (rwithin_any _ _ _ _).mono ?_; rintro e w' ⟨rfl, rfl⟩)
  go_ret
  exact ⟨rfl, rfl⟩
set_option maxHeartbeats 800000 in
theorem isClue_shape (k a b : Int) (w : World) (h : k = 0 ∨ k = 1 ∨ k = 5) : Calls Tryd.prog 36 #[.agg #[.int .i64 k, .int .i64 a, .int .i64 b]] w fun e w' => e = .returned (.bool (betr a 3 24 && decide (b = 0))) ∧ Below w.heap.size w w' := by
  cases hx : betr a 3 24
  · have HX := Lib.hid hx
    clear hx
    rcases h with rfl | rfl | rfl <;> (
      go_enter Tryd.func36, Tryd.ntmps36
      go_wp2_with (go_at_call 54; refine (iSides9 _ _).mono ?_; rw [HX.out]; rintro e w' ⟨rfl, rfl⟩)
      go_ret
      exact ⟨rfl, (Below.refl _ _).alloc (Nat.le_refl _) _⟩)
  · have HX := Lib.hid hx
    clear hx
    by_cases hb : b = 0
    · subst hb
      rcases h with rfl | rfl | rfl <;> (
        go_enter Tryd.func36, Tryd.ntmps36
        go_wp2_with (go_at_call 54; refine (iSides9 _ _).mono ?_; rw [HX.out]; rintro e w' ⟨rfl, rfl⟩)
        go_ret
        exact ⟨ret_bool9 (by simp), (Below.refl _ _).alloc (Nat.le_refl _) _⟩)
    · rcases h with rfl | rfl | rfl <;> (
        go_enter Tryd.func36, Tryd.ntmps36
        go_wp2_with (go_at_call 54; refine (iSides9 _ _).mono ?_; rw [HX.out]; rintro e w' ⟨rfl, rfl⟩)
        go_ret
        exact ⟨ret_bool9 (by simp [hb]), (Below.refl _ _).alloc (Nat.le_refl _) _⟩)
set_option maxHeartbeats 800000 in
theorem isClue_rest (a b : Int) (w : World) : Calls Tryd.prog 36 #[.agg #[.int .i64 2, .int .i64 a, .int .i64 b]] w fun e w' => e = .returned (.bool (betr a 2 100 && betr b 0 (a - 1))) ∧ Below w.heap.size w w' := by
  cases hx : betr a 2 100
  · have HX := Lib.hid hx
    clear hx
    go_enter Tryd.func36, Tryd.ntmps36
    go_wp2_with (go_at_call 52; refine (rwithin_any _ _ _ _).mono ?_; rw [HX.out]; rintro e w' ⟨rfl, rfl⟩)
    go_ret
    exact ⟨rfl, (Below.refl _ _).alloc (Nat.le_refl _) _⟩
  · have HX := Lib.hid hx
    have h1 : 2 ≤ a ∧ a ≤ 100 := of_decide_eq_true hx
    have e1 : IntKind.i64.wrap (a - 1) = a - 1 := IntWalk.i64_in _ (by omega)
    clear hx
    obtain ⟨r, hr⟩ : ∃ r, r = betr b 0 (a - 1) := ⟨_, rfl⟩
    rw [← hr]
    have HR := Lib.hid hr.symm
    clear hr
    go_enter Tryd.func36, Tryd.ntmps36
    go_wp2_with (go_at_call 52; refine (rwithin_any _ _ _ _).mono ?_; (first | rw [HX.out] | rw [HR.out]); rintro e w' ⟨rfl, rfl⟩)
    go_ret
    exact ⟨ret_bool9 (by simp), (Below.refl _ _).alloc (Nat.le_refl _) _⟩
set_option maxHeartbeats 800000 in
theorem isClue_dig (a b : Int) (w : World) : Calls Tryd.prog 36 #[.agg #[.int .i64 3, .int .i64 a, .int .i64 b]] w fun e w' => e = .returned (.bool (betr a 0 100 && decide (b = 0))) ∧ Below w.heap.size w w' := by
  cases hx : betr a 0 100
  · have HX := Lib.hid hx
    clear hx
    go_enter Tryd.func36, Tryd.ntmps36
    go_wp2_with (go_at_call 52; refine (rwithin_any _ _ _ _).mono ?_; rw [HX.out]; rintro e w' ⟨rfl, rfl⟩)
    go_ret
    exact ⟨rfl, (Below.refl _ _).alloc (Nat.le_refl _) _⟩
  · have HX := Lib.hid hx
    clear hx
    by_cases hb : b = 0
    · subst hb
      go_enter Tryd.func36, Tryd.ntmps36
      go_wp2_with (go_at_call 52; refine (rwithin_any _ _ _ _).mono ?_; rw [HX.out]; rintro e w' ⟨rfl, rfl⟩)
      go_ret
      exact ⟨ret_bool9 (by simp), (Below.refl _ _).alloc (Nat.le_refl _) _⟩
    · go_enter Tryd.func36, Tryd.ntmps36
      go_wp2_with (go_at_call 52; refine (rwithin_any _ _ _ _).mono ?_; rw [HX.out]; rintro e w' ⟨rfl, rfl⟩)
      go_ret
      exact ⟨ret_bool9 (by simp [hb]), (Below.refl _ _).alloc (Nat.le_refl _) _⟩
set_option maxHeartbeats 800000 in
theorem isClue_less (a b : Int) (w : World) : Calls Tryd.prog 36 #[.agg #[.int .i64 4, .int .i64 a, .int .i64 b]] w fun e w' => e = .returned (.bool (betr a 0 100 && betr b 3 24)) ∧ Below w.heap.size w w' := by
  cases hx : betr a 0 100
  · have HX := Lib.hid hx
    clear hx
    go_enter Tryd.func36, Tryd.ntmps36
    go_wp2_with (go_at_call 52; refine (rwithin_any _ _ _ _).mono ?_; rw [HX.out]; rintro e w' ⟨rfl, rfl⟩)
    go_ret
    exact ⟨rfl, (Below.refl _ _).alloc (Nat.le_refl _) _⟩
  · have HX := Lib.hid hx
    clear hx
    obtain ⟨r, hr⟩ : ∃ r, r = betr b 3 24 := ⟨_, rfl⟩
    rw [← hr]
    have HR := Lib.hid hr.symm
    clear hr
    go_enter Tryd.func36, Tryd.ntmps36
    go_wp2_with (first
      | (go_at_call 54; refine (iSides9 _ _).mono ?_; rw [HR.out]; rintro e w' ⟨rfl, rfl⟩)
      | (go_at_call 52; refine (rwithin_any _ _ _ _).mono ?_; rw [HX.out]; rintro e w' ⟨rfl, rfl⟩))
    go_ret
    exact ⟨ret_bool9 (by simp), (Below.refl _ _).alloc (Nat.le_refl _) _⟩
set_option maxHeartbeats 800000 in
theorem isClue_none (k a b : Int) (w : World) (h : k < 0 ∨ 5 < k) : Calls Tryd.prog 36 #[.agg #[.int .i64 k, .int .i64 a, .int .i64 b]] w fun e w' => e = .returned (.bool false) ∧ Below w.heap.size w w' := by
  have n0 : k ≠ 0 := by omega
  have n1 : k ≠ 1 := by omega
  have n2 : k ≠ 2 := by omega
  have n3 : k ≠ 3 := by omega
  have n4 : k ≠ 4 := by omega
  have n5 : k ≠ 5 := by omega
  clear h
  go_enter Tryd.func36, Tryd.ntmps36
  go_wp2
  go_ret
  exact ⟨rfl, (Below.refl _ _).alloc (Nat.le_refl _) _⟩
theorem isClue_any (c : Clu) (w : World) : Calls Tryd.prog 36 #[.agg #[.int .i64 c.k, .int .i64 c.a, .int .i64 c.b]] w fun e w' => e = .returned (.bool (okc9 c)) ∧ Below w.heap.size w w' := by
  obtain ⟨k, a, b⟩ := c
  show Calls _ _ #[.agg #[.int .i64 k, .int .i64 a, .int .i64 b]] _ _
  rcases kinds9 k with h | h | h | h | h | h | h
  · rw [okc9_shape (Or.inl h)]; exact isClue_shape k a b w (Or.inl h)
  · rw [okc9_shape (Or.inr (Or.inl h))]; exact isClue_shape k a b w (Or.inr (Or.inl h))
  · rw [okc9_shape (Or.inr (Or.inr h))]; exact isClue_shape k a b w (Or.inr (Or.inr h))
  · subst h; rw [okc9_rest]; exact isClue_rest a b w
  · subst h; rw [okc9_dig]; exact isClue_dig a b w
  · subst h; rw [okc9_less]; exact isClue_less a b w
  · rw [okc9_none h]; exact isClue_none k a b w h


/-! ### searches -/
theorem any9_take {f : Clu → Bool} {cs : List Clu} {k : Nat} (h : k < cs.length) : (cs.take (k + 1)).any f = ((cs.take k).any f || f (cs.getD k clu0)) := by
  rw [take_succ9 cs k h, List.any_append]
  simp
theorem any9_yes {f : Clu → Bool} {cs : List Clu} {k : Nat} (h : k < cs.length) (hf : f (cs.getD k clu0) = true) : cs.any f = true := by
  rw [List.any_eq_true]
  refine ⟨cs.getD k clu0, ?_, hf⟩
  rw [List.getD_eq_getElem?_getD, List.getElem?_eq_getElem h]
  exact List.getElem_mem h
set_option maxHeartbeats 1600000 in
set_option maxRecDepth 4000 in
/-- The first clue for which a function value says yes. -/
theorem indexClue_any (A : Option Addr) (n c lo hi : Nat) (xs : List Clu) (f : Clu → Bool) (fid : Nat) (cap : Array Value) (w : World) (hn : xs.length = n) (hm : n ≤ 1048576) (ha : Own w lo hi A (c64 xs)) (hh : hi ≤ w.heap.size)
    (hcf : ∀ (args : Array Value) (W : World), (callFunc fid args).run Tryd.prog W = .ok (.enter fid args) W)
    (hf : ∀ (k : Nat) (W : World), k < n → Below w.heap.size w W → Calls Tryd.prog fid (#[.agg #[.int .i64 (xs.getD k clu0).k, .int .i64 (xs.getD k clu0).a, .int .i64 (xs.getD k clu0).b]] ++ cap) W fun e W' => e = .returned (.bool (f (xs.getD k clu0))) ∧ Below W.heap.size W W') :
    Calls Tryd.prog 53 #[.slice A n c, .func (.func fid) #[] cap] w fun e w' => (∃ r : Int, e = .returned (.int .i64 r) ∧ decide (0 ≤ r) = xs.any f) ∧ Below w.heap.size w w' := by
  have HA := Lib.hid ha
  have HN := Lib.hid hn
  have HF := Lib.hid hf
  clear ha hn hf
  go_enter Tryd.func53, Tryd.ntmps53
  go_wp2
  go_loopw [5, 8] (fun _ i wr => ∃ k : Nat, k ≤ n ∧ i = .int .i64 (k : Int) ∧ Hid ((xs.take k).any f = false) ∧ Below w.heap.size w wr) (fun _ i _ => n - (intOf i).toNat)
  case atStart => exact ⟨0, by omega, by simp, Lib.hid rfl, Below.refl _ _⟩
  case round =>
    obtain ⟨k, hk, rfl, HK, hb⟩ := hrel
    by_cases hlt : k < n
    · have hki : (k : Int) < (n : Int) := by omega
      have hlx : k < xs.length := by rw [HN.out]; exact hlt
      obtain ⟨g, o, rfl, _, hg, c0, c1, c2⟩ := (HA.out.below hb hh).clue_ hlx
      have HC := Lib.hid fun W hW => HF.out k W hlt hW
      have HY := Lib.hid (any9_take (f := f) hlx)
      have HZ := Lib.hid (any9_yes (f := f) hlx)
      obtain ⟨q, hq⟩ : ∃ q, q = xs.getD k clu0 := ⟨_, rfl⟩
      rw [← hq] at c0 c1 c2 HC HY HZ
      clear hq hlx
      cases hfq : f q with
      | true =>
        rw [hfq] at HC
        have HZ2 := Lib.hid (HZ.out hfq)
        clear hfq HY HZ
        go_wp2_with (refine (HC.out _ hb).mono ?_; rintro e w2 ⟨rfl, hb2⟩)
        go_ret
        exact ⟨⟨_, rfl, by rw [HZ2.out]; simp⟩, hb.trans (hb2.mono hb.size)⟩
      | false =>
        rw [hfq] at HC
        have HY2 : Hid ((xs.take (k + 1)).any f = false) := Lib.hid (by rw [HY.out, HK.out, hfq]; rfl)
        clear hfq HY HZ
        go_wp2_with (refine (HC.out _ hb).mono ?_; rintro e w2 ⟨rfl, hb2⟩)
        go_roundw
        case rel => exact ⟨k + 1, by omega, by go_num, HY2, hb.trans (hb2.mono hb.size)⟩
        case measure => simp [intOf]; omega
    · obtain rfl : k = n := by omega
      have HZ : Hid (xs.any f = false) := Lib.hid (by have := HK.out; rwa [List.take_of_length_le (by rw [HN.out]; exact Nat.le_refl _)] at this)
      go_wp2
      go_ret
      exact ⟨⟨_, rfl, by rw [HZ.out]; rfl⟩, hb⟩
theorem containsClue_any (A : Option Addr) (n c lo hi : Nat) (xs : List Clu) (f : Clu → Bool) (fid : Nat) (cap : Array Value) (w : World) (hn : xs.length = n) (hm : n ≤ 1048576) (ha : Own w lo hi A (c64 xs)) (hh : hi ≤ w.heap.size)
    (hcf : ∀ (args : Array Value) (W : World), (callFunc fid args).run Tryd.prog W = .ok (.enter fid args) W)
    (hf : ∀ (k : Nat) (W : World), k < n → Below w.heap.size w W → Calls Tryd.prog fid (#[.agg #[.int .i64 (xs.getD k clu0).k, .int .i64 (xs.getD k clu0).a, .int .i64 (xs.getD k clu0).b]] ++ cap) W fun e W' => e = .returned (.bool (f (xs.getD k clu0))) ∧ Below W.heap.size W W') :
    Calls Tryd.prog 34 #[.slice A n c, .func (.func fid) #[] cap] w fun e w' => e = .returned (.bool (xs.any f)) ∧ Below w.heap.size w w' := by
  have HI := Lib.hid (indexClue_any A n c lo hi xs f fid cap w hn hm ha hh hcf hf)
  clear hcf hf ha hn
  go_enter Tryd.func34, Tryd.ntmps34
  go_wp2_with (go_at_call 53; refine HI.out.mono ?_; rintro e w1 ⟨⟨r, rfl, hr⟩, hb1⟩; have HR := Lib.hid hr; clear hr)
  go_ret
  exact ⟨ret_bool9 HR.out, hb1⟩
theorem isPuzzle1_any (q : Clu) (w : World) : Calls Tryd.prog 35 #[.agg #[.int .i64 q.k, .int .i64 q.a, .int .i64 q.b]] w fun e w' => e = .returned (.bool (!okc9 q)) ∧ Below w.heap.size w w' := by
  have HC := Lib.hid fun W => isClue_any q W
  have b0 : Below w.heap.size w (w.alloc (.cells #[.int .i64 q.k, .int .i64 q.a, .int .i64 q.b] 34)) := (Below.refl _ _).alloc (Nat.le_refl _) _
  go_enter Tryd.func35, Tryd.ntmps35
  go_wp2_with (go_at_call 36; refine (HC.out _).mono ?_; rintro e w1 ⟨rfl, b1⟩)
  go_ret
  exact ⟨rfl, b0.trans (b1.mono b0.size)⟩
theorem cf_isPuzzle1 : ∀ (args : Array Value) (W : World), (callFunc 35 args).run Tryd.prog W = .ok (.enter 35 args) W := fun _ _ => by kernel_rfl
theorem all9_any (cs : List Clu) (f : Clu → Bool) : cs.all f = !cs.any (fun c => !f c) := by
  induction cs with
  | nil => rfl
  | cons c l ih => simp only [List.all_cons, List.any_cons, ih]; cases f c <;> simp
set_option maxHeartbeats 800000 in
theorem isPuzzle_any (m : Int) (A : Option Addr) (n c lo hi : Nat) (xs : List Clu) (w : World) (hn : xs.length = n) (hm : n ≤ 1048576) (ha : Own w lo hi A (c64 xs)) (hh : hi ≤ w.heap.size) :
    Calls Tryd.prog 25 #[.agg #[.int .i64 m, .slice A n c]] w fun e w' => e = .returned (.bool (okp9 m xs)) ∧ Below w.heap.size w w' := by
  have HE : Hid (okp9 m xs = (betr m 1 500 && decide (n ≤ 6) && !xs.any (fun c => !okc9 c))) := Lib.hid (by rw [← hn, ← all9_any]; rfl)
  have b0 : Below w.heap.size w (w.alloc (.cells #[.int .i64 m, .slice A n c] 24)) := (Below.refl _ _).alloc (Nat.le_refl _) _
  have HB := Lib.hid b0
  have HC := Lib.hid (containsClue_any A n c lo hi xs (fun c => !okc9 c) _ #[] _ hn hm (ha.below b0 hh) (Nat.le_trans hh b0.size) cf_isPuzzle1 (fun k W _ _ => isPuzzle1_any (xs.getD k clu0) W))
  have HN := Lib.hid hn
  clear ha hn b0
  cases hx : betr m 1 500
  · rw [hx] at HE
    have HX := Lib.hid hx
    clear hx HC
    go_enter Tryd.func25, Tryd.ntmps25
    go_wp2_with (go_at_call 33; refine (isGuess_any _ _).mono ?_; rw [HX.out]; rintro e w' ⟨rfl, rfl⟩)
    go_ret
    exact ⟨ret_bool9 (by rw [HE.out]; rfl), HB.out⟩
  · rw [hx] at HE
    have HX := Lib.hid hx
    clear hx
    by_cases h6 : n ≤ 6
    · have HE2 : Hid (okp9 m xs = !xs.any (fun c => !okc9 c)) := Lib.hid (by rw [HE.out, decide_eq_true h6, Bool.true_and, Bool.true_and])
      have h6i : ¬ (6 < (n : Int)) := by omega
      generalize (xs.any fun c => !okc9 c) = r at HC HE2
      go_enter Tryd.func25, Tryd.ntmps25
      go_wp2_with (first
        | (go_at_call 33; refine (isGuess_any _ _).mono ?_; rw [HX.out]; rintro e w' ⟨rfl, rfl⟩)
        | (go_at_call 34; refine HC.out.mono ?_; rintro e w1 ⟨rfl, b1⟩))
      go_ret
      exact ⟨ret_bool9 HE2.out.symm, HB.out.trans (b1.mono HB.out.size)⟩
    · have HE2 : Hid (okp9 m xs = false) := Lib.hid (by rw [HE.out, decide_eq_false h6]; rfl)
      have h6i : 6 < (n : Int) := by omega
      go_enter Tryd.func25, Tryd.ntmps25
      go_wp2_with (go_at_call 33; refine (isGuess_any _ _).mono ?_; rw [HX.out]; rintro e w' ⟨rfl, rfl⟩)
      go_ret
      exact ⟨ret_bool9 (by rw [HE2.out]), HB.out⟩
end Go.Proofs.YtljleceepghfjaaDoor
