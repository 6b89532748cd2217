/- A slice of slices of numbers, the rows in different blocks; what the laws' helpers do with it: compare, mark, look again. -/
import Derived.Test.YtmjgjdebcmbjeaaOwn
import Derived.Deep.AppendLies
namespace Go.Proofs.Ytmjgjdebcmbjeaa
open Go.RowKit

theorem Own.far {w w' : World} {lo hi : Nat} {A : Option Addr} {cs : List Value} {row : Option Nat} (h : Own w lo hi A cs) (hg : w.grownBy w' row) (hh : hi ≤ w.heap.size) (hr : ∀ p, A = some p → 0 < cs.length → some p.block ≠ row) : Own w' lo hi A cs := fun hn => by
  obtain ⟨g, o, e, h1, h2, hc⟩ := h hn
  have hne : some g ≠ row := hr _ e hn
  refine ⟨g, o, e, h1, h2, fun j u hu => ?_⟩
  rw [hg.cell_far ⟨g, o + j, none⟩ (Nat.lt_of_lt_of_le h2 hh) hne, hg.frozen_far ⟨g, o + j, none⟩ (Nat.lt_of_lt_of_le h2 hh) hne]
  exact hc j u hu
theorem grown_set {w wr : World} {g o : Nat} {u : Value} (h : w.grownBy wr (some g)) : w.grownBy (wr.setCell ⟨g, o, none⟩ u) (some g) := by
  have hb : Below g wr (wr.setCell ⟨g, o, none⟩ u) := (Below.refl g wr).setCell (Nat.le_refl _) u
  refine ⟨hb.os.trans h.os, hb.tape.trans h.tape, hb.output.trans h.output, Nat.le_trans h.size hb.size, fun i hi hne => ?_⟩
  rw [← h.block i hi hne]
  exact Below.heap_setCell _ _ _ i (fun e => hne (by rw [e]))

/-- Rows: n of them, F i the numbers of row i, at the address Af i. -/
structure OwnL (w : World) (lo hi : Nat) (A : Option Addr) (n : Nat) (F : Nat → List Int) (Af : Nat → Option Addr) (cf : Nat → Nat) : Prop where
  own : Own w lo hi A ((List.range n).map fun i => .slice (Af i) (F i).length (cf i))
  row : ∀ i, i < n → Own w lo hi (Af i) (i64s (F i))
  off : ∀ i, i < n → 0 < (F i).length → ∀ p q, A = some p → Af i = some q → p.block ≠ q.block
  apart : ∀ i j, i < n → j < n → i ≠ j → 0 < (F i).length → 0 < (F j).length → ∀ p q, Af i = some p → Af j = some q → p.block ≠ q.block
section
variable {w w' : World} {lo hi n : Nat} {A : Option Addr} {F : Nat → List Int} {Af : Nat → Option Addr} {cf : Nat → Nat}
theorem OwnL.below {B : Nat} (h : OwnL w lo hi A n F Af cf) (hb : Below B w w') (hB : hi ≤ B) : OwnL w' lo hi A n F Af cf :=
  ⟨h.own.below hb hB, fun i hi => (h.row i hi).below hb hB, h.off, h.apart⟩
theorem OwnL.drewN (h : OwnL w lo hi A n F Af cf) (k : Nat) : OwnL (w.drewN k) lo hi A n F Af cf := ⟨h.own.drewN k, fun i hi => (h.row i hi).drewN k, h.off, h.apart⟩
theorem OwnL.wide (h : OwnL w lo hi A n F Af cf) {lo' hi' : Nat} (h1 : lo' ≤ lo) (h2 : hi ≤ hi') : OwnL w lo' hi' A n F Af cf := ⟨h.own.wide h1 h2, fun i hi => (h.row i hi).wide h1 h2, h.off, h.apart⟩
theorem OwnL.at_ (h : OwnL w lo hi A n F Af cf) {k : Nat} (hk : k < n) : ∃ g o, A = some ⟨g, o, none⟩ ∧ w.cell? ⟨g, o + k, none⟩ = some (.slice (Af k) (F k).length (cf k)) ∧ Own w lo hi (Af k) (i64s (F k)) := by
  obtain ⟨g, o, e, _, _, hc, _⟩ := h.own.at_ (k := k) (by simpa using hk)
  exact ⟨g, o, e, by simpa using hc, h.row k hk⟩
/-- one row turned, nothing else -/
theorem OwnL.turn (h : OwnL w lo hi A n F Af cf) {k : Nat} (hk : k < n) (xs : List Int) (hx : xs.length = (F k).length) (hg : w.grownBy w' ((Af k).map (·.block))) (hh : hi ≤ w.heap.size) (ho : Own w' lo hi (Af k) (i64s xs)) :
    (0 < xs.length ∨ w = w') → OwnL w' lo hi A n (fun i => if i = k then xs else F i) Af cf := fun hz => by
  have hl : ∀ i, (if i = k then xs else F i).length = (F i).length := fun i => by split <;> simp_all
  refine ⟨?_, fun i hi2 => ?_, fun i hi2 h0 => h.off i hi2 (by rwa [hl] at h0), fun i j hi2 hj hij h0 h1 => h.apart i j hi2 hj hij (by rwa [hl] at h0) (by rwa [hl] at h1)⟩
  · simp only [hl]
    rcases hz with hz | rfl
    · refine h.own.far hg hh fun p hp _ => ?_
      cases hA : Af k with
      | none => simp
      | some q => simpa using h.off k hk (by omega) p q hp hA
    · exact h.own
  · by_cases e : i = k
    · subst e; simpa using ho
    · simp only [if_neg e]
      rcases hz with hz | rfl
      · refine (h.row i hi2).far hg hh fun p hp h0 => ?_
        cases hA : Af k with
        | none => simp
        | some q => simpa using h.apart i k hi2 hk e (by simpa using h0) (by omega) p q hp hA
      · exact h.row i hi2
theorem OwnL.congr {F' : Nat → List Int} (h : OwnL w lo hi A n F Af cf) (he : ∀ i, i < n → F i = F' i) : OwnL w lo hi A n F' Af cf := by
  refine ⟨?_, fun i hi2 => by rw [← he i hi2]; exact h.row i hi2, fun i hi2 h0 => h.off i hi2 (by rwa [he i hi2]), fun i j hi2 hj hij h0 h1 => h.apart i j hi2 hj hij (by rwa [he i hi2]) (by rwa [he j hj])⟩
  have e : ((List.range n).map fun i => Value.slice (Af i) (F i).length (cf i)) = (List.range n).map fun i => Value.slice (Af i) (F' i).length (cf i) := List.map_congr_left fun i hi2 => by rw [he i (List.mem_range.1 hi2)]
  rw [← e]
  exact h.own
end

/-- How many numbers stand in the rows before row k. -/
def pre (F : Nat → List Int) : Nat → Nat
  | 0 => 0
  | k + 1 => pre F k + (F k).length
theorem pre_mono (F : Nat → List Int) {k n : Nat} (h : k ≤ n) : pre F k ≤ pre F n := by
  induction n with
  | zero => have : k = 0 := by omega
            subst this; exact Nat.le_refl _
  | succ n ih =>
    by_cases e : k = n + 1
    · subst e; exact Nat.le_refl _
    · have := ih (by omega)
      rw [pre]; omega
theorem len_pre (F : Nat → List Int) {k n : Nat} (h : k < n) : (F k).length ≤ pre F n := by
  have := pre_mono F (show k + 1 ≤ n by omega)
  rw [pre] at this
  omega
/-- Rows before k marked, the others as they were. -/
def mixL (F : Nat → List Int) (m : Int) (k : Nat) (i : Nat) : List Int := if i < k then marks (m + pre F i) (F i).length else F i

set_option maxHeartbeats 800000 in
theorem eqIntSS_same (A B : Option Addr) (n c d l1 h1 l2 h2 : Nat) (F : Nat → List Int) (Af Bf : Nat → Option Addr) (cf df : Nat → Nat) (w : World) (hm : n ≤ 1000000000) (hp : pre F n ≤ 1000000000)
    (ha : OwnL w l1 h1 A n F Af cf) (hb : OwnL w l2 h2 B n F Bf df) :
    Calls Try.prog 27 #[.slice A n c, .slice B n d] w fun e w' => e = .returned (.bool true) ∧ ∃ q, w' = w.drewN q := by
  have HA := Lib.hid ha
  have HB := Lib.hid hb
  have HP := Lib.hid hp
  clear ha hb hp
  go_enter Try.func27, Try.ntmps27
  go_wp2
  go_loopw [5] (fun i wr => ∃ k q : Nat, k ≤ n ∧ i = .int .i64 k ∧ wr = w.drewN q) (fun i _ => n - (intOf i).toNat)
  case atStart => exact ⟨0, 0, Nat.zero_le _, rfl, rfl⟩
  case round =>
    obtain ⟨k, q, hk, rfl, rfl⟩ := hrel
    by_cases hlt : k < n
    · obtain ⟨g, o, rfl, hca, hoa⟩ := HA.out.at_ hlt
      obtain ⟨g', o', rfl, hcb, hob⟩ := HB.out.at_ hlt
      have hl : (F k).length ≤ 1000000000 := by have := len_pre F hlt; have := HP.out; omega
      have HE := Lib.hid (fun x => eqIntS_same (Af k) (Bf k) (F k).length (cf k) (df k) _ _ _ _ (F k) (w.drewN (q + x)) rfl hl (by rw [← World.drewN_drewN]; exact hoa.drewN x) (by rw [← World.drewN_drewN]; exact hob.drewN x))
      have hi : (k : Int) < (n : Int) := by omega
      generalize Af k = Ak at *
      generalize Bf k = Bk at *
      generalize cf k = ck at *
      generalize df k = dk at *
      generalize (F k).length = lk at *
      clear hoa hob
      go_wp2
      go_quiet (first | (go_at_call 22; refine (HE.out _).mono ?_; rintro e w2 ⟨rfl, m, rfl⟩; exact ⟨rfl, _, by rw [World.drewN_drewN, Nat.add_assoc]⟩))
      go_wp2
      go_roundw
      case rel => exact ⟨k + 1, _, by omega, by go_num, rfl⟩
      case measure => simp [intOf]; omega
    · go_wp2
      go_ret
      exact ⟨rfl, q, rfl⟩

set_option maxHeartbeats 400000 in
/-- 'markIntS' turns no block but its slice's. -/
theorem markIntS_far (A : Option Addr) (n c lo hi : Nat) (cs : List Value) (m : Int) (w : World) (hn : cs.length = n) (hm : n ≤ 1000000000) (m0 : 0 ≤ m) (m1 : m ≤ 2000000000)
    (ha : Own w lo hi A cs) :
    Calls Try.prog 23 #[.slice A n c, .int .i64 m] w fun e w' => e = .returned (.int .i64 (m + n)) ∧ Own w' lo hi A (i64s (marks m n)) ∧ w.grownBy w' (A.map (·.block)) ∧ (0 < n ∨ w = w') := by
  have HA := Lib.hid ha
  have HN := Lib.hid hn
  clear ha hn
  go_enter Try.func23, Try.ntmps23
  go_wp2
  go_loopw [1, 5] (fun v i wr => ∃ k : Nat, k ≤ n ∧ i = .int .i64 k ∧ v = .int .i64 (m + k) ∧ Hid (Own wr lo hi A (i64s (marks m k) ++ cs.drop k)) ∧ Hid (w.grownBy wr (A.map (·.block)) ∧ (0 < n ∨ w = wr))) (fun _ i _ => n - (intOf i).toNat)
  case atStart => exact ⟨0, Nat.zero_le _, rfl, by simp, by simpa [marks] using HA, Lib.hid ⟨⟨rfl, rfl, rfl, Nat.le_refl _, fun _ _ _ => rfl⟩, Or.inr rfl⟩⟩
  case round =>
    obtain ⟨k, hk, rfl, rfl, HO, HG⟩ := hrel
    by_cases hlt : k < n
    · have hlen : k < (i64s (marks m k) ++ cs.drop k).length := by simp [marks_len, HN.out]; omega
      obtain ⟨g, o, rfl, hg1, hg2, hca, hfa⟩ := HO.out.at_ hlen
      have hown := HO.out.set_ k hlen (.int .i64 (m + k))
      rw [marks_set m cs k (by rw [HN.out]; exact hlt)] at hown
      have HO2 := Lib.hid hown
      have HG2 : Hid (w.grownBy (wr.setCell ⟨g, o + k, none⟩ (.int .i64 (m + k))) ((some (⟨g, o, none⟩ : Addr)).map (·.block)) ∧ (0 < n ∨ w = wr.setCell ⟨g, o + k, none⟩ (.int .i64 (m + k)))) := Lib.hid ⟨grown_set HG.out.1, Or.inl (by omega)⟩
      generalize (i64s (marks m k) ++ cs.drop k)[k]'hlen = z at hca
      clear hown hlen
      go_wp2
      go_roundw
      case rel => exact ⟨k + 1, by omega, by go_num, by go_num, HO2, HG2⟩
      case measure => simp [intOf]; omega
    · obtain rfl : k = n := by omega
      have hO := HO.out
      rw [List.drop_eq_nil_of_le (by rw [HN.out]; exact Nat.le_refl _), List.append_nil] at hO
      have HO3 := Lib.hid hO
      clear hO
      go_wp2
      go_ret
      exact ⟨rfl, HO3.out, HG.out.1, HG.out.2⟩

theorem mix_step {w : World} {lo hi n : Nat} {A : Option Addr} {F : Nat → List Int} {Af : Nat → Option Addr} {cf : Nat → Nat} {m : Int} {k : Nat}
    (h : OwnL w lo hi A n (fun i => if i = k then marks (m + pre F k) (F k).length else mixL F m k i) Af cf) : OwnL w lo hi A n (mixL F m (k + 1)) Af cf :=
  h.congr fun i _ => by
    simp only [mixL]
    by_cases e : i = k
    · subst e; simp
    · by_cases e2 : i < k
      · simp [e, e2, show i < k + 1 by omega]
      · simp [e, e2, show ¬ i < k + 1 by omega]
theorem mix_k (F : Nat → List Int) (m : Int) (k : Nat) : mixL F m k k = F k := by simp [mixL]

set_option maxHeartbeats 800000 in
theorem markIntSS_any (A : Option Addr) (n c lo hi : Nat) (F : Nat → List Int) (Af : Nat → Option Addr) (cf : Nat → Nat) (m : Int) (w : World) (hm : n ≤ 1000000000) (hp : pre F n ≤ 1000000000) (m0 : 0 ≤ m) (m1 : m ≤ 1000000000) (hh : hi ≤ w.heap.size)
    (ha : OwnL w lo hi A n F Af cf) :
    Calls Try.prog 28 #[.slice A n c, .int .i64 m] w fun e w' => e = .returned (.int .i64 (m + pre F n)) ∧ OwnL w' lo hi A n (mixL F m n) Af cf ∧ Below lo w w' := by
  have HA := Lib.hid ha
  have HP := Lib.hid hp
  have HH := Lib.hid hh
  clear ha hp hh
  go_enter Try.func28, Try.ntmps28
  go_wp2
  go_loopw [1, 5] (fun v i wr => ∃ k : Nat, k ≤ n ∧ i = .int .i64 k ∧ v = .int .i64 (m + pre F k) ∧ Hid (OwnL wr lo hi A n (mixL F m k) Af cf) ∧ Below lo w wr) (fun _ i _ => n - (intOf i).toNat)
  case atStart => exact ⟨0, Nat.zero_le _, rfl, by simp [pre], Lib.hid (HA.out.congr fun i _ => by simp [mixL]), Below.refl _ _⟩
  case round =>
    obtain ⟨k, hk, rfl, rfl, HO, hb⟩ := hrel
    by_cases hlt : k < n
    · have hpk : pre F k ≤ 1000000000 := Nat.le_trans (pre_mono F hk) HP.out
      have hl : (F k).length ≤ 1000000000 := Nat.le_trans (len_pre F hlt) HP.out
      obtain ⟨g, o, rfl, hca, hoa⟩ := HO.out.at_ hlt
      rw [mix_k] at hca hoa
      have HM := Lib.hid (markIntS_far (Af k) (F k).length (cf k) lo hi (i64s (F k)) (m + pre F k) wr (by simp) hl (by omega) (by omega) hoa)
      have HPK : Hid (pre F (k + 1) = pre F k + (F k).length) := Lib.hid rfl
      have HT : Hid (∀ w2 : World, Own w2 lo hi (Af k) (i64s (marks (m + pre F k) (F k).length)) → wr.grownBy w2 ((Af k).map (·.block)) → (0 < (F k).length ∨ wr = w2) → OwnL w2 lo hi (some ⟨g, o, none⟩) n (mixL F m (k + 1)) Af cf ∧ Below lo w w2) := by
        refine Lib.hid fun w2 h1 h2 h3 => ⟨mix_step (HO.out.turn hlt _ (by rw [marks_len, mix_k]) h2 (Nat.le_trans HH.out hb.size) h1 (by rw [marks_len]; exact h3)), ?_⟩
        rcases h3 with h3 | rfl
        · obtain ⟨g2, o2, e2, h4, _⟩ := hoa (by simpa using h3)
          rw [e2] at h2
          have hlo : lo ≤ wr.heap.size := by
            obtain ⟨_, _, _, h5, h6, _⟩ := hoa (by simpa using h3)
            have := HH.out
            have := hb.size
            omega
          exact hb.grown h2 hlo (fun r hr => by cases hr; exact h4)
        · exact hb
      have hi : (k : Int) < (n : Int) := by omega
      have HL := Lib.hid hl
      generalize Af k = Ak at hca HM HT
      generalize cf k = ck at hca HM
      clear hoa hl
      go_wp2_with (go_at_call 23; refine HM.out.mono ?_; rintro e w2 ⟨rfl, h1, h2, h3⟩; have HW := Lib.hid (HT.out w2 h1 h2 h3); clear h1 h2 h3)
      go_roundw
      case rel => exact ⟨k + 1, by omega, by go_num, by rw [HPK.out]; go_num, Lib.hid HW.out.1, HW.out.2⟩
      case measure => simp [intOf]; omega
    · obtain rfl : k = n := by omega
      go_wp2
      go_ret
      exact ⟨rfl, HO.out, hb⟩

set_option maxHeartbeats 400000 in
theorem heldIntS_any' (A : Option Addr) (n c lo hi : Nat) (m : Int) (w : World) (hm : n ≤ 1000000000) (m0 : 0 ≤ m) (m1 : m ≤ 2000000000)
    (ha : Own w lo hi A (i64s (marks m n))) :
    Calls Try.prog 24 #[.slice A n c, .int .i64 m] w fun e w' => e = .returned (.int .i64 (m + n)) ∧ w = w' := by
  have HA := Lib.hid ha
  clear ha
  go_enter Try.func24, Try.ntmps24
  go_wp2
  go_loop [1, 5] (fun v i => ∃ k : Nat, k ≤ n ∧ i = .int .i64 k ∧ v = .int .i64 (m + k)) (fun _ i => n - (intOf i).toNat)
  case atStart => exact ⟨0, Nat.zero_le _, rfl, by simp⟩
  case round =>
    obtain ⟨k, hk, rfl, rfl⟩ := hrel
    by_cases hlt : k < n
    · obtain ⟨g, o, rfl, _, _, hca, _⟩ := HA.out.at_ (k := k) (by simp [marks_len]; exact hlt)
      have hcx : w.cell? ⟨g, o + k, none⟩ = some (.int .i64 (m + k)) := by
        rw [hca]
        simp [marks]
      clear hca
      go_wp2
      go_round
      case rel => exact ⟨k + 1, by omega, by go_num, by go_num⟩
      case measure => simp [intOf]; omega
    · obtain rfl : k = n := by omega
      go_wp2
      go_ret
      exact ⟨rfl, rfl⟩
set_option maxHeartbeats 800000 in
theorem heldIntSS_any (A : Option Addr) (n c lo hi : Nat) (F : Nat → List Int) (Af : Nat → Option Addr) (cf : Nat → Nat) (m : Int) (w : World) (hm : n ≤ 1000000000) (hp : pre F n ≤ 1000000000) (m0 : 0 ≤ m) (m1 : m ≤ 1000000000)
    (ha : OwnL w lo hi A n (mixL F m n) Af cf) :
    Calls Try.prog 29 #[.slice A n c, .int .i64 m] w fun e w' => e = .returned (.int .i64 (m + pre F n)) ∧ w = w' := by
  have HA := Lib.hid ha
  have HP := Lib.hid hp
  clear ha hp
  go_enter Try.func29, Try.ntmps29
  go_wp2
  go_loopw [1, 5] (fun v i wr => ∃ k : Nat, k ≤ n ∧ i = .int .i64 k ∧ v = .int .i64 (m + pre F k) ∧ w = wr) (fun _ i _ => n - (intOf i).toNat)
  case atStart => exact ⟨0, Nat.zero_le _, rfl, by simp [pre], rfl⟩
  case round =>
    obtain ⟨k, hk, rfl, rfl, rfl⟩ := hrel
    by_cases hlt : k < n
    · have hpk : pre F k ≤ 1000000000 := Nat.le_trans (pre_mono F hk) HP.out
      have hl : (F k).length ≤ 1000000000 := Nat.le_trans (len_pre F hlt) HP.out
      obtain ⟨g, o, rfl, hca, hoa⟩ := HA.out.at_ hlt
      have e : mixL F m n k = marks (m + pre F k) (F k).length := by rw [mixL, if_pos hlt]
      rw [e] at hca hoa
      rw [marks_len] at hca
      have HM := Lib.hid (heldIntS_any' (Af k) (F k).length (cf k) lo hi (m + pre F k) w hl (by omega) (by omega) hoa)
      have HPK : Hid (pre F (k + 1) = pre F k + (F k).length) := Lib.hid rfl
      have hi : (k : Int) < (n : Int) := by omega
      generalize Af k = Ak at hca HM
      generalize cf k = ck at hca HM
      clear hoa e
      go_wp2_with (go_at_call 24; refine HM.out.mono ?_; rintro e w2 ⟨rfl, rfl⟩)
      go_roundw
      case rel => exact ⟨k + 1, by omega, by go_num, by rw [HPK.out]; go_num, by first | rfl | trivial⟩
      case measure => simp [intOf]; omega
    · obtain rfl : k = n := by omega
      go_wp2
      go_ret
      exact ⟨rfl, rfl⟩

/-- Row i of a list of lists. -/
def rowsOf (xss : List (List Int)) (i : Nat) : List Int := xss.getD i []
/-- What a function with a slice of slices of numbers and a bool hands back: the lists xss, in memory of its own. -/
def ResSS (ok : Bool) (xss : List (List Int)) (w : World) (e : Ending) (w' : World) : Prop :=
  ∃ A c Af cf, e = .returned (.tuple #[.slice A xss.length c, .bool ok]) ∧ OwnL w' w.heap.size w'.heap.size A xss.length (rowsOf xss) Af cf ∧ Below w.heap.size w w'
theorem resSS_nil {ok : Bool} {w w' : World} (hb : Below w.heap.size w w') : ResSS ok [] w (.returned (.tuple #[.slice none 0 0, .bool ok])) w' :=
  ⟨none, 0, fun _ => none, fun _ => 0, rfl, ⟨Own.none_, fun i hi => absurd hi (by simp), fun i hi => absurd hi (by simp), fun i j hi => absurd hi (by simp)⟩, hb⟩
/-- The lists' lengths together are at most their number by the longest one's. -/
theorem pre_le (F : Nat → List Int) (n L : Nat) (h : ∀ i, i < n → (F i).length ≤ L) : pre F n ≤ n * L := by
  induction n with
  | zero => simp [pre]
  | succ n ih =>
    have h1 := ih (fun i hi => h i (by omega))
    have h2 := h n (by omega)
    rw [pre, Nat.succ_mul]
    omega
end Go.Proofs.Ytmjgjdebcmbjeaa
