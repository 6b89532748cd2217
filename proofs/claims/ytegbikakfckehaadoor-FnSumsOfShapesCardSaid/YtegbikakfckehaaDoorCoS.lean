/- Sets of counts by place: which numbers of parts a number can have, a bit each; the program's table. -/
import Derived.Test.YtegbikakfckehaaDoorCoR
namespace Go.Proofs.YtegbikakfckehaaDoor
open Go.ChangeShapes Go.WideShapes Go.ChangeAt Go.RowKit

/-- The bits at which f holds, below n. -/
def msk (f : Nat → Bool) : Nat → Nat
  | 0 => 0
  | n + 1 => msk f n ||| (if f n then 2 ^ n else 0)
theorem msk_bit (f : Nat → Bool) (n i : Nat) : (msk f n).testBit i = (decide (i < n) && f i) := by
  induction n with
  | zero => simp [msk]
  | succ n ih =>
    rw [msk, Nat.testBit_or, ih]
    by_cases h : f n
    · rw [if_pos h, Nat.testBit_two_pow]
      by_cases e : n = i
      · subst e; simp [h]
      · have e2 : (i < n + 1) = (i < n) := propext (by omega)
        simp [e, e2]
    · rw [if_neg h]
      by_cases e : n = i
      · subst e; simp [h]
      · have e2 : (i < n + 1) = (i < n) := propext (by omega)
        simp [e2]
theorem msk_lt (f : Nat → Bool) (n : Nat) : msk f n < 2 ^ n := by
  apply Nat.lt_pow_two_of_testBit
  intro i hi
  rw [msk_bit]
  simp
  omega
/-- Which numbers of parts below 32 a number m can have, of places up to k. -/
def T (s : Int) (k : Nat) (m : Int) : Nat := msk (fun i => decide (0 < W s k i m)) 32
theorem T_lt (s : Int) (k : Nat) (m : Int) : T s k m < 4294967296 := msk_lt _ 32
theorem T_bit (s : Int) (k : Nat) (m : Int) (i : Nat) : (T s k m).testBit i = (decide (i < 32) && decide (0 < W s k i m)) := msk_bit _ 32 i
theorem T_step (s : Int) (k : Nat) (m : Int) : T s (k + 1) m = T s k m ||| ((T s (k + 1) (m - num s ((k : Int) + 1)) <<< 1) % 4294967296) := by
  apply Nat.eq_of_testBit_eq
  intro i
  rw [Nat.testBit_or, show (4294967296 : Nat) = 2 ^ 32 from rfl, Nat.testBit_mod_two_pow, Nat.testBit_shiftLeft, T_bit, T_bit, T_bit]
  cases i with
  | zero => simp [W_k0]
  | succ i =>
    rw [W_kk]
    by_cases h : i + 1 < 32
    · have h2 : i < 32 := by omega
      have e : decide (0 < W s k (i + 1) m + W s (k + 1) i (m - num s ((k : Int) + 1))) = (decide (0 < W s k (i + 1) m) || decide (0 < W s (k + 1) i (m - num s ((k : Int) + 1)))) := by
        by_cases h3 : 0 < W s k (i + 1) m
        · simp [h3]; omega
        · by_cases h4 : 0 < W s (k + 1) i (m - num s ((k : Int) + 1))
          · have h5 : 0 < W s k (i + 1) m + W s (k + 1) i (m - num s ((k : Int) + 1)) := by omega
            simp [h4, h5]
          · have e1 : W s k (i + 1) m = 0 := by omega
            have e2 : W s (k + 1) i (m - num s ((k : Int) + 1)) = 0 := by omega
            simp [e1, e2]
      simp [h, h2, e]
    · simp [h]
theorem T_above (s : Int) (hs : 3 ≤ s) (k : Nat) (m : Int) (h : m < num s ((k : Int) + 1)) : T s (k + 1) m = T s k m := by
  apply Nat.eq_of_testBit_eq
  intro i
  rw [T_bit, T_bit, W_above s hs k i m h]
theorem t_zero (s : Int) (m : Nat) : (T s 0 (m : Int) : Int) = if m = 0 then 1 else 0 := by
  have e : T s 0 (m : Int) = if m = 0 then 1 else 0 := by
    apply Nat.eq_of_testBit_eq
    intro i
    rw [T_bit, W_00]
    by_cases h : m = 0
    · subst h
      cases i with
      | zero => simp
      | succ i => simp [Nat.testBit_succ]
    · have h2 : ¬ (i = 0 ∧ (m : Int) = 0) := by omega
      simp [h, h2]
  rw [e]
  split <;> rfl
theorem bits_or_u32_nat (a b : Nat) (ha : a < 4294967296) (hb : b < 4294967296) : bits .or .u32 (a : Int) (b : Int) = ((a ||| b : Nat) : Int) := by
  have hx : a ||| b < 2 ^ 32 := Nat.or_lt_two_pow (by omega) (by omega)
  have h1 : (BitVec.ofInt 32 (a : Int)).toNat = a := by
    rw [BitVec.ofInt_natCast, BitVec.toNat_ofNat]; exact Nat.mod_eq_of_lt (by omega)
  have h2 : (BitVec.ofInt 32 (b : Int)).toNat = b := by
    rw [BitVec.ofInt_natCast, BitVec.toNat_ofNat]; exact Nat.mod_eq_of_lt (by omega)
  show IntKind.u32.wrap ((BitVec.ofInt 32 (a : Int) ||| BitVec.ofInt 32 (b : Int)).toNat : Int) = _
  rw [BitVec.toNat_or, h1, h2]
  have e : ∀ n : Int, IntKind.u32.wrap n = n % 4294967296 := fun n => by simp [IntKind.wrap, IntKind.signed, IntKind.bits]
  rw [e]
  omega
theorem or_step (y z : Nat) (hy : y < 4294967296) : bits .or .u32 (y : Int) ((z : Int) * 2 % 4294967296) = ((y ||| ((z <<< 1) % 4294967296) : Nat) : Int) := by
  have e : (z : Int) * (2 : Int) % (4294967296 : Int) = (((z <<< 1) % 4294967296 : Nat) : Int) := by
    rw [Nat.shiftLeft_eq]
    omega
  rw [e, bits_or_u32_nat _ _ hy (Nat.mod_lt _ (by omega))]
/-- Sets up to k, but up to k + 1 for the sums below p. -/
def tmix (s : Int) (k : Nat) (p : Int) : Nat → Int := fun m => if (m : Int) < p then (T s (k + 1) m : Int) else (T s k m : Int)

set_option maxHeartbeats 3200000 in
theorem countsByPlace_some (s : Int) (N base0 g0 c0 : Nat) (w : World) (h1 : 3 ≤ s) (h2 : s ≤ 24) (hN : N ≤ 3000) (hN1 : 1 ≤ N) (hnb : Row w base0 g0 ((pl s N).toNat + 1) c0 (fun j => num s (j : Int))) :
    Calls Tryd.prog 69 #[.slice (some ⟨g0, 0, none⟩) ((pl s N).toNat + 1) c0, .int .i64 N] w fun e w' => (∃ v rs, e = .returned v ∧ rs.length = (pl s N).toNat + 1 ∧ Rcs w' w.heap.size v rs (N + 1) (fun j m => T s j m)) ∧ Below w.heap.size w w' := by
  obtain ⟨i0, hi0, hz0, hz1, hz2⟩ := info_parts infoCo
  obtain ⟨ir, hir, hzr0, hzr1, hzr2⟩ := info_parts infoCos
  have p0 := pl_nn s N h1 (by omega)
  have p1 := pl_77 s N h1 (by omega) (by omega)
  have hK : (pl s N).toNat ≤ 77 := by omega
  have hgl := hnb.lt
  have hcap : (pl s N).toNat + 1 ≤ c0 := by
    rcases hnb.2 with ⟨h, _⟩ | ⟨g, cap, cur, h, _, _, h3, _⟩
    · cases h
    · injection h with _ _ h; subst h; exact h3
  have HPL := Lib.hid (fun k : Int => fits_iff s N k h1 (by omega))
  have hK1 : 1 ≤ (pl s N).toNat := by
    have := pl_pos s N h1 (by omega)
    omega
  have HKK : Hid (((pl s N).toNat : Int) = pl s N) := Lib.hid (by omega)
  generalize (pl s N).toNat = K at *
  have HNB := Lib.hid hnb
  have hc1 : ¬ c0 = 1 := by omega
  have hk1 : (1 : Int) ≤ (K : Int) + 1 := by omega
  clear hnb
  go_enter Tryd.func69, Tryd.ntmps69
  go_wp2_with (at_make; refine wpList_make_full _ rfl _ _ 73 rfl w.heap.size 78 i0 (.int .u32 0) 1 Tryd.underlying73 hi0 hz0 hz1 _ _ _ _ (N + 1) rfl rfl (by push_cast; rfl) (by push_cast; rfl) (by rw [hz2]; omega) (by unfold maxLen; omega) (Nat.le_refl _) ?_; intro w1 hown1 hgrow1; have hr1 := roc_made hown1; have d0 := hr1.cell (j := 0) (by omega); have f0 := hr1.frozen 0)
  have hb1 : Below w.heap.size w w1 := (Below.refl _ _).grown hgrow1 (Nat.le_refl _) (fun g hg => by cases hg)
  have hr2 := (hr1.set 0 1).congr (f' := fun m => T s 0 m) (fun m hm => by rw [t_zero]; simp [upd])
  have hz1' := hr1.lt
  obtain ⟨w2, hw2⟩ : ∃ w2, w2 = (w1.setCell ⟨w.heap.size, 0, none⟩ (.int .u32 1)).alloc (.cells #[.slice (some ⟨w.heap.size, 0, none⟩) (N + 1) (N + 1)] 73) := ⟨_, rfl⟩
  have hb2 : Below w.heap.size w w2 := by rw [hw2]; exact (hb1.setCell (Nat.le_refl _) _).alloc (by simpa using hb1.size) _
  have hrow0 : Roc w2 w.heap.size w.heap.size (N + 1) (N + 1) (fun m => T s 0 m) := by rw [hw2]; exact World.ownsRow.alloc hr2 _
  have hrws0 : Rcs w2 w.heap.size (.slice (some ⟨w1.heap.size, 0, none⟩) 1 1) [.slice (some ⟨w.heap.size, 0, none⟩) (N + 1) (N + 1)] (N + 1) (fun j m => T s j m) := by
    refine ⟨?_, fun j u hu => ?_⟩
    · rw [hw2]
      have := World.ownsRow_lit (w1.setCell ⟨w.heap.size, 0, none⟩ (.int .u32 1)) (base := w.heap.size) (e := 73) (size := 1) #[.slice (some ⟨w.heap.size, 0, none⟩) (N + 1) (N + 1)] 1 (by simpa using hb1.size) (by unfold maxLen; omega) rfl
      simpa using this
    · match j, hu with
      | 0, hu => simp at hu; exact ⟨_, _, hu.symm, hrow0⟩
  rw [← hw2]
  have HR0 := Lib.hid hrow0
  have HS0 := Lib.hid hrws0
  clear hw2 hown1 hgrow1 hr1 d0 f0 hr2 hb1 hz1' hrow0 hrws0
  go_loopw [5, 6, 20] (fun row v i wr => ∃ (j g c : Nat) (rs : List Value), j ≤ K ∧ i = .int .i64 j ∧ row = .slice (some ⟨g, 0, none⟩) (N + 1) c ∧ rs.length = j + 1 ∧ Hid (Roc wr w.heap.size g (N + 1) c (fun m => T s j m)) ∧ Hid (Rcs wr w.heap.size v rs (N + 1) (fun j m => T s j m)) ∧ Below w.heap.size w wr) (fun _ _ i _ => K - (intOf i).toNat)
  case atStart => exact ⟨0, _, _, _, Nat.zero_le _, rfl, rfl, rfl, HR0, HS0, hb2⟩
  case round =>
    obtain ⟨j, g, c, rs, hj, rfl, rfl, hrl, hrow, hrws, hb⟩ := hrel
    by_cases hlt : j < K
    · have hjI : (j : Int) < (K : Int) := by omega
      have hxn := (HPL.out ((j : Int) + 1) (by omega)).2 (by rw [← HKK.out]; omega)
      have hx1 := num_pos s ((j : Int) + 1) h1 (by omega)
      have hcn : wr.cell? ⟨g0, 1 + j, none⟩ = some (.int .i64 (num s ((j : Int) + 1))) := by
        have h := (hb.cell (p := ⟨g0, j + 1, none⟩) hgl.2).trans (HNB.out.cell (j := j + 1) (by omega))
        rw [Nat.add_comm 1 j, h]
        push_cast
        rfl
      obtain ⟨x, hx⟩ : ∃ x, x = num s ((j : Int) + 1) := ⟨_, rfl⟩
      have HX := Lib.hid hx
      rw [← hx] at hcn hxn hx1
      clear hx
      go_wp2_with (go_at_call 75; refine (cloneCo_any _ _ _ _ _ _ (by omega) (by omega) hrow.out).mono ?_; rintro e wc ⟨⟨g', c', rfl, hrc⟩, hbc⟩)
      have HRC := Lib.hid hrc
      have hrcl := hrc.lt
      have hgold := hrow.out.lt
      clear hrc hcn
      go_loopw [9] (fun p wr2 => ∃ q : Int, p = .int .i64 q ∧ x ≤ q ∧ q ≤ (N : Int) + 1 ∧ Hid (Roc wr2 wr.heap.size g' (N + 1) c' (tmix s j q)) ∧ Below wr.heap.size wr wr2) (fun p _ => ((N : Int) + 1 - intOf p).toNat)
      case atStart => exact ⟨x, rfl, by omega, by omega, Lib.hid (HRC.out.congr (fun m hm => by
        simp only [tmix]
        by_cases e : (m : Int) < x
        · rw [if_pos e, T_above s h1 j m (by rw [← HX.out]; exact e)]
        · rw [if_neg e])), hbc⟩
      case round =>
        obtain ⟨q, rfl, hq0, hq1, hrow2, hb2⟩ := hrel
        by_cases hge : q ≤ (N : Int)
        · obtain ⟨a, rfl⟩ := Int.eq_ofNat_of_zero_le (show 0 ≤ q by omega)
          obtain ⟨b, hbq⟩ := Int.eq_ofNat_of_zero_le (show 0 ≤ (a : Int) - x by omega)
          have ca := hrow2.out.cell (j := a) (by omega)
          have cb := hrow2.out.cell (j := b) (by omega)
          have fa := hrow2.out.frozen a
          have ea : tmix s j a a = (T s j a : Int) := by simp [tmix]
          have eb : tmix s j a b = (T s (j + 1) b : Int) := by simp [tmix]; omega
          have e3 : T s (j + 1) (a : Int) = T s j a ||| ((T s (j + 1) b <<< 1) % 4294967296) := by rw [T_step, ← HX.out, hbq]
          have hlt1 := T_lt s j a
          have hlt2 := T_lt s (j + 1) b
          rw [ea] at ca
          rw [eb] at cb
          have hset := (hrow2.out.set a (T s (j + 1) (a : Int))).congr (f' := tmix s j ((a : Int) + 1)) (fun m hm => by
            simp only [upd, tmix]
            by_cases e : m = a
            · subst e; simp; omega
            · by_cases e2 : (m : Int) < (a : Int)
              · simp [e, e2]; omega
              · have e4 : ¬ ((m : Int) < (a : Int) + 1) := by omega
                simp [e, e2, e4])
          have hb3 := hb2.setCell (p := ⟨g', a, none⟩) hrcl.1 (.int .u32 (T s (j + 1) (a : Int)))
          rw [e3] at hset hb3
          generalize T s j (a : Int) = y at *
          generalize T s (j + 1) (b : Int) = z at *
          have HS := Lib.hid hset
          have HB3 := Lib.hid hb3
          have hor := or_step y z hlt1
          have w1e : IntKind.i64.wrap (b : Int) = (b : Int) := IntWalk.i64_in _ (by omega)
          have i1 : (0 : Int) ≤ (a : Int) := by omega
          have i2 : (a : Int) < (N : Int) + 1 := by omega
          have i3 : (0 : Int) ≤ (b : Int) := by omega
          have i4 : (b : Int) < (N : Int) + 1 := by omega
          clear hset ea eb e3 hrow2 hrow hb3 hrws
          go_wp2
          go_region
          all_goals (go_wp2; go_roundw)
          case rel => exact ⟨(a : Int) + 1, rfl, by omega, by omega, Lib.hid HS.out.drew, HB3.out.drew⟩
          case measure => simp [intOf]; omega
        · have hfin := hrow2.out.congr (f' := fun m => (T s (j + 1) m : Int)) (fun m hm => by
            simp only [tmix]
            rw [if_pos (by omega)])
          have hws2 := hrws.out.below hb2 (Nat.le_refl _)
          have hfw := hfin.wide hb.size
          rw [← hrl] at hfw
          have HF := Lib.hid hfw
          have HW3 := Lib.hid hws2
          have hb4 : Below w.heap.size w wr := hb.trans (hb2.mono hb.size)
          have HRL := Lib.hid hrl
          clear hfin hws2 hfw hrow2 hrow hrws hrl
          go_wp2_with (at_builtin; refine wpList_append_own _ rfl _ _ 75 rfl w.heap.size 73 ir (.slice none 0 0) 1 24 Tryd.underlying75 hir hzr0 hzr1 hzr2 rfl (by decide) _ rs.length rs rfl (HW3.out.1.alloc _) ⟨wr.heap.size, 0, none⟩ 1 1 [.slice (some ⟨g', 0, none⟩) (N + 1) c'] rfl rfl ?c1 ?c2 ?c3 ?c4 ?c5 ?_)
          case c2 => rfl
          case c3 => have := HRL.out; unfold maxLen; omega
          case c4 => have := HRL.out; omega
          case c5 => have := hb4.size; simp; omega
          · intro v' w5 hown' hgrow _
            have happ := HW3.out.app HF.out hown' hgrow
            have hb5 : Below w.heap.size w w5 := (hb4.alloc hb4.size _).grown hgrow (by have := hb4.size; simp; omega) fun g hg => (HW3.out.1.lt g hg).1
            have h6 := happ.2
            rw [HRL.out] at h6
            have H5 := Lib.hid happ.1
            have H6 := Lib.hid h6
            clear hown' hgrow happ h6
            go_wp2
            go_roundw
            case rel => exact ⟨j + 1, _, _, _, by omega, by go_num, rfl, by simp [HRL.out], H6, H5, hb5⟩
            case measure => simp [intOf]; omega
    · obtain rfl : j = K := by omega
      go_wp2
      go_ret
      exact ⟨⟨_, _, rfl, hrl, hrws.out⟩, hb⟩
set_option maxHeartbeats 1600000 in
theorem countsByPlace_none (s : Int) (g0 c0 : Nat) (w : World) (hc : 1 ≤ c0) :
    Calls Tryd.prog 69 #[.slice (some ⟨g0, 0, none⟩) 1 c0, .int .i64 0] w fun e w' => (∃ v rs, e = .returned v ∧ rs.length = 1 ∧ Rcs w' w.heap.size v rs 1 (fun j m => T s j m)) ∧ Below w.heap.size w w' := by
  obtain ⟨i0, hi0, hz0, hz1, hz2⟩ := info_parts infoCo
  go_enter Tryd.func69, Tryd.ntmps69
  go_wp2_with (at_make; refine wpList_make_full _ rfl _ _ 73 rfl w.heap.size 78 i0 (.int .u32 0) 1 Tryd.underlying73 hi0 hz0 hz1 _ _ _ _ 1 rfl rfl (by rfl) (by rfl) (by rw [hz2]; omega) (by unfold maxLen; omega) (Nat.le_refl _) ?_; intro w1 hown1 hgrow1; have hr1 := roc_made hown1; have d0 := hr1.cell (j := 0) (by omega); have f0 := hr1.frozen 0)
  all_goals
    have hb1 : Below w.heap.size w w1 := (Below.refl _ _).grown hgrow1 (Nat.le_refl _) (fun g hg => by cases hg)
    have hr2 := (hr1.set 0 1).congr (f' := fun m => T s 0 m) (fun m hm => by rw [t_zero]; simp [upd])
    obtain ⟨w2, hw2⟩ : ∃ w2, w2 = (w1.setCell ⟨w.heap.size, 0, none⟩ (.int .u32 1)).alloc (.cells #[.slice (some ⟨w.heap.size, 0, none⟩) 1 1] 73) := ⟨_, rfl⟩
    have hb2 : Below w.heap.size w w2 := by rw [hw2]; exact (hb1.setCell (Nat.le_refl _) _).alloc (by simpa using hb1.size) _
    have hrow0 : Roc w2 w.heap.size w.heap.size 1 1 (fun m => T s 0 m) := by rw [hw2]; exact World.ownsRow.alloc hr2 _
    have hrws0 : Rcs w2 w.heap.size (.slice (some ⟨w1.heap.size, 0, none⟩) 1 1) [.slice (some ⟨w.heap.size, 0, none⟩) 1 1] 1 (fun j m => T s j m) := by
      refine ⟨?_, fun j u hu => ?_⟩
      · rw [hw2]
        have := World.ownsRow_lit (w1.setCell ⟨w.heap.size, 0, none⟩ (.int .u32 1)) (base := w.heap.size) (e := 73) (size := 1) #[.slice (some ⟨w.heap.size, 0, none⟩) 1 1] 1 (by simpa using hb1.size) (by unfold maxLen; omega) rfl
        simpa using this
      · match j, hu with
        | 0, hu => simp at hu; exact ⟨_, _, hu.symm, hrow0⟩
    rw [← hw2]
    have HS0 := Lib.hid hrws0
    clear hw2 hown1 hgrow1 hr1 d0 f0 hr2 hb1 hrow0 hrws0
    refine wp_loop_rounds 1 ?_
    rw [rounds_succ]
    go_wp2
    go_ret
    exact ⟨⟨_, _, rfl, rfl, HS0.out⟩, hb2⟩
theorem countsByPlace_any (s : Int) (N base0 g0 c0 : Nat) (w : World) (h1 : 3 ≤ s) (h2 : s ≤ 24) (hN : N ≤ 3000) (hnb : Row w base0 g0 ((pl s N).toNat + 1) c0 (fun j => num s (j : Int))) :
    Calls Tryd.prog 69 #[.slice (some ⟨g0, 0, none⟩) ((pl s N).toNat + 1) c0, .int .i64 N] w fun e w' => (∃ v rs, e = .returned v ∧ rs.length = (pl s N).toNat + 1 ∧ Rcs w' w.heap.size v rs (N + 1) (fun j m => T s j m)) ∧ Below w.heap.size w w' := by
  rcases Nat.eq_zero_or_pos N with h | h
  · subst h
    have hc : 1 ≤ c0 := by
      rcases hnb.2 with ⟨h, _⟩ | ⟨g, cap, cur, h, _, _, h3, _⟩
      · cases h
      · injection h with _ _ h; omega
    have e : (pl s ((0 : Nat) : Int)).toNat = 0 := by rw [show (((0 : Nat) : Int)) = 0 from rfl, pl_zero s h1]; rfl
    rw [e]
    exact countsByPlace_none s g0 c0 w hc
  · exact countsByPlace_some s N base0 g0 c0 w h1 h2 hN h hnb
end Go.Proofs.YtegbikakfckehaaDoor
