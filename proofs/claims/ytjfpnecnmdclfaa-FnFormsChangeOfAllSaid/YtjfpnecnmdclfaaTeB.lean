/- Chapter 8, by the specification: the value of a form, kept in two parts. -/
import Derived.Test.YtjfpnecnmdclfaaTeA
import Derived.Test.YtjfpnecnmdclfaaMe
import Derived.Test.YtjfpnecnmdclfaaTbP
namespace Go.Proofs.Ytjfpnecnmdclfaa
open Go.RowKit

theorem infoBig : (Try.prog.info? 79).map (fun i => (i.zero, i.size, i.bytes)) = some (some (.agg #[.int .i64 0, .int .i64 0]), 2, 16) := by kernel_rfl
/-- A row of pairs: number j of it in the cells 2 j and 2 j + 1. -/
def Row2 (w : World) (base g n : Nat) (F : Nat → Int) : Prop := w.ownsRow base 79 2 (.slice (some ⟨g, 0, none⟩) n n) n (i64s (tab F (n * 2)))
section
variable {w w' : World} {base g n : Nat} {F F' : Nat → Int}
theorem Row2.cell (h : Row2 w base g n F) {j : Nat} (hj : j < n * 2) : w.cell? ⟨g, j, none⟩ = some (.int .i64 (F j)) := by
  rw [World.ownsRow.cellAt h j hj]
  simp [tab_get F (n * 2) j hj]
theorem Row2.frozen (h : Row2 w base g n F) (j : Nat) : w.frozen? ⟨g, j, none⟩ = false := World.ownsRow.frozenAt h j
theorem Row2.set (h : Row2 w base g n F) (j : Nat) (x : Int) : Row2 (w.setCell ⟨g, j, none⟩ (.int .i64 x)) base g n (upd F j x) := by
  have h1 := (World.ownsRow.stored h j (.int .i64 x)).1
  rw [i64s_set, tab_set] at h1
  exact h1
theorem Row2.congr (h : Row2 w base g n F) (he : ∀ m, m < n * 2 → F m = F' m) : Row2 w base g n F' := by
  unfold Row2 at h ⊢
  rwa [tab_congr he] at h
theorem Row2.lt (h : Row2 w base g n F) : base ≤ g ∧ g < w.heap.size := World.ownsRow.lt h g rfl
theorem Row2.below {B : Nat} (h : Row2 w base g n F) (hb : Below B w w') (hB : w.heap.size ≤ B) : Row2 w' base g n F := row_below h hb hB
end
theorem made_pairs (n : Nat) : (madeCells #[.int .i64 0, .int .i64 0] n).toList = i64s (tab (fun _ => 0) n) := by
  apply List.ext_getElem?
  intro j
  by_cases hj : j < n
  · have h2 : [Value.int .i64 0, Value.int .i64 0][j % 2]?.getD default = .int .i64 0 := by
      rcases Nat.mod_two_eq_zero_or_one j with h | h <;> rw [h] <;> rfl
    simp [madeCells, tab_get _ n j hj, hj]
    exact h2
  · rw [List.getElem?_eq_none (by simp [madeCells]; omega), List.getElem?_eq_none (by simp [tab_len]; omega)]
/-- The parts hold the numbers ys, the first i of them led on. -/
def Big8 (ys : List Int) (n i : Nat) (F : Nat → Int) : Prop := ∀ j, j < n → -1000000000000000 < F (j * 2 + 1) ∧ F (j * 2 + 1) < 1000000000000000 ∧ F (j * 2) * 1000000000000000 + F (j * 2 + 1) = led8 ys i j
def ini8 (xs : List Int) (k j : Nat) : Int := if j % 2 = 1 ∧ j / 2 < k then xs.getD (j / 2) 0 else 0
theorem ini8_set (xs : List Int) (k : Nat) : ∀ j, upd (upd (ini8 xs k) (k * 2) 0) (k * 2 + 1) (xs.getD k 0) j = ini8 xs (k + 1) j := fun j => by
  unfold upd ini8
  by_cases h1 : j = k * 2 + 1
  · subst h1
    rw [if_pos rfl, if_pos (by omega), show (k * 2 + 1) / 2 = k by omega]
  · rw [if_neg h1]
    by_cases h2 : j = k * 2
    · subst h2
      rw [if_pos rfl, if_neg (by omega)]
    · rw [if_neg h2]
      by_cases h3 : j % 2 = 1 ∧ j / 2 < k
      · rw [if_pos h3, if_pos (by omega)]
      · rw [if_neg h3, if_neg (by omega)]
theorem ini8_zero (xs : List Int) (j : Nat) : ini8 xs 0 j = 0 := by
  unfold ini8
  rw [if_neg (by omega)]
theorem big8_ini {xs : List Int} (h : Bd 1000000 xs) (n : Nat) : Big8 xs n 0 (ini8 xs n) := fun j hj => by
  have e1 : ini8 xs n (j * 2 + 1) = xs.getD j 0 := by
    unfold ini8
    rw [if_pos (by omega), show (j * 2 + 1) / 2 = j by omega]
  have e2 : ini8 xs n (j * 2) = 0 := by
    unfold ini8
    rw [if_neg (by omega)]
  have e3 : led8 xs 0 j = xs.getD j 0 := by
    unfold led8
    rw [if_neg (by omega)]
  rw [e1, e2, e3]
  have := h j
  omega
theorem big8_end {ys : List Int} {n k : Nat} {F : Nat → Int} (h : Big8 ys n k F) (hn : ys.length = n) (hk : k + 1 = n ∨ n = 0) : Big8 (stp8 ys) n 0 F := fun j hj => by
  obtain ⟨h1, h2, h3⟩ := h j hj
  refine ⟨h1, h2, ?_⟩
  rw [h3]
  unfold led8
  rw [if_neg (Nat.not_lt_zero _), stp8_at]
  by_cases hjk : j < k
  · rw [if_pos hjk]
  · rw [if_neg hjk]
    have e : ys.getD (j + 1) 0 = 0 := by
      rw [List.getD_eq_getElem?_getD, List.getElem?_eq_none (by omega)]
      rfl
    rw [e]
    omega
theorem big8_step {ys : List Int} {n k : Nat} {F : Nat → Int} (h : Big8 ys n k F) (hk : k + 1 < n) (hh r : Int) (hr1 : -1000000000000000 < r) (hr2 : r < 1000000000000000)
    (he : hh * 1000000000000000 + r = F (k * 2) * 1000000000000000 + F (k * 2 + 1) + (F ((k + 1) * 2) * 1000000000000000 + F ((k + 1) * 2 + 1))) : Big8 ys n (k + 1) (upd (upd F (k * 2) hh) (k * 2 + 1) r) := fun j hj => by
  by_cases hjk : j = k
  · subst hjk
    have a := (h j (by omega)).2.2
    have b := (h (j + 1) (by omega)).2.2
    have ea : led8 ys j j = ys.getD j 0 := by unfold led8; rw [if_neg (by omega)]
    have eb : led8 ys j (j + 1) = ys.getD (j + 1) 0 := by unfold led8; rw [if_neg (by omega)]
    have ec : led8 ys (j + 1) j = ys.getD j 0 + ys.getD (j + 1) 0 := by unfold led8; rw [if_pos (by omega)]
    have e1 : upd (upd F (j * 2) hh) (j * 2 + 1) r (j * 2 + 1) = r := by unfold upd; rw [if_pos rfl]
    have e2 : upd (upd F (j * 2) hh) (j * 2 + 1) r (j * 2) = hh := by unfold upd; rw [if_neg (by omega), if_pos rfl]
    rw [e1, e2, ec, ← ea, ← eb, ← a, ← b]
    exact ⟨hr1, hr2, he⟩
  · have e1 : upd (upd F (k * 2) hh) (k * 2 + 1) r (j * 2 + 1) = F (j * 2 + 1) := by unfold upd; rw [if_neg (by omega), if_neg (by omega)]
    have e2 : upd (upd F (k * 2) hh) (k * 2 + 1) r (j * 2) = F (j * 2) := by unfold upd; rw [if_neg (by omega), if_neg (by omega)]
    rw [e1, e2]
    obtain ⟨h1, h2, h3⟩ := h j hj
    refine ⟨h1, h2, ?_⟩
    rw [h3]
    unfold led8
    by_cases h4 : j < k
    · rw [if_pos h4, if_pos (by omega)]
    · rw [if_neg h4, if_neg (by omega)]
theorem four_alloc8 {w : World} {g a b c d : Nat} {v1 v2 v3 v4 : Option Value} (h : w.cell? ⟨g, a, none⟩ = v1 ∧ w.cell? ⟨g, b, none⟩ = v2 ∧ w.cell? ⟨g, c, none⟩ = v3 ∧ w.cell? ⟨g, d, none⟩ = v4) (hg : g < w.heap.size) (ob : Obj) : (w.alloc ob).cell? ⟨g, a, none⟩ = v1 ∧ (w.alloc ob).cell? ⟨g, b, none⟩ = v2 ∧ (w.alloc ob).cell? ⟨g, c, none⟩ = v3 ∧ (w.alloc ob).cell? ⟨g, d, none⟩ = v4 := by
  have hb := (Below.refl w.heap.size w).alloc (Nat.le_refl _) ob
  exact ⟨(hb.cell (p := ⟨g, a, none⟩) hg).trans h.1, (hb.cell (p := ⟨g, b, none⟩) hg).trans h.2.1, (hb.cell (p := ⟨g, c, none⟩) hg).trans h.2.2.1, (hb.cell (p := ⟨g, d, none⟩) hg).trans h.2.2.2⟩
/-- What is handed back of a value. -/
def vans8 (v : Int) : Ending := if -1000000000000000 ≤ v ∧ v ≤ 1000000000000000 then .returned (.tuple #[.int .i64 v, .bool true]) else .returned (.tuple #[.int .i64 0, .bool false])
set_option maxRecDepth 8000 in
set_option maxHeartbeats 6400000 in
theorem dfValue_any (A : Option Addr) (n c lo hi N : Nat) (xs : List Int) (w : World) (hn : xs.length = n) (hm : n ≤ 12) (hN : N ≤ 1000) (hbd : Bd 1000000 xs) (ha : Own w lo hi A (i64s xs)) (hh : hi ≤ w.heap.size) :
    Calls Try.prog 76 #[.slice A n c, .int .i64 (N : Int)] w fun e w' => e = vans8 (val8 xs N) ∧ Below w.heap.size w w' := by
  obtain ⟨i0, hi0, hz0, hz1, hz2⟩ := info_parts infoBig
  have HA := Lib.hid ha
  have HN := Lib.hid hn
  have HG3 := Lib.hid (show ∀ k, k < n → (i64s xs)[k]? = some (.int .i64 (xs.getD k 0)) from fun k hk => by simp [List.getD_eq_getElem?_getD, hn, hk])
  have HIL : Hid ((i64s xs).length = n) := Lib.hid (by simp [hn])
  have HSet := Lib.hid (ini8_set xs)
  have HZ := Lib.hid (ini8_zero xs)
  have HI := Lib.hid (big8_ini hbd n)
  have HIt := Lib.hid fun m (h : m ≤ 1000) j => itr_bd hbd (by rw [hn]; exact hm) m h j
  have HLn := Lib.hid fun m => its_len8 xs m
  have HV := Lib.hid (val_itr xs N)
  have HS0 : Hid (itr8 stp8 0 xs = xs) := Lib.hid rfl
  have HSs := Lib.hid (show ∀ m, itr8 stp8 (m + 1) xs = stp8 (itr8 stp8 m xs) from fun _ => rfl)
  obtain ⟨e0, he0⟩ : ∃ e0, e0 = vans8 (val8 xs N) := ⟨_, rfl⟩
  rw [← he0]
  have HE := Lib.hid he0
  clear hbd ha hn he0
  go_enter Try.func76, Try.ntmps76
  go_wp2_with (at_make; refine wpList_make_full _ rfl _ _ 77 rfl w.heap.size 79 i0 (.agg #[.int .i64 0, .int .i64 0]) 2 Try.underlying77 hi0 hz0 hz1 _ _ _ _ n rfl rfl rfl rfl (by rw [hz2]; omega) (by unfold maxLen; omega) (Nat.le_refl _) ?_; intro w1 hown1 hgrow1)
  have HB1 : Hid (Below w.heap.size w w1) := Lib.hid ((Below.refl _ _).grown hgrow1 (Nat.le_refl _) (fun g hg => by cases hg))
  have HR1 : Hid (Row2 w1 w.heap.size w.heap.size n (ini8 xs 0)) := Lib.hid (by
    have h1 : Row2 w1 w.heap.size w.heap.size n (fun _ => 0) := by
      unfold Row2
      rw [← made_pairs]
      exact hown1
    exact h1.congr fun m _ => (HZ.out m).symm)
  clear hown1 hgrow1
  go_loopw [18] (fun i wr => ∃ k : Nat, k ≤ n ∧ i = .int .i64 (k : Int) ∧ Hid (Row2 wr w.heap.size w.heap.size n (ini8 xs k)) ∧ Hid (Below w.heap.size w wr)) (fun i _ => n - (intOf i).toNat)
  case atStart => exact ⟨0, by omega, by simp, HR1, HB1⟩
  case round =>
    obtain ⟨k, hk, rfl, hR, hbl⟩ := hrel
    by_cases hlt : k < n
    · have hki : (k : Int) < (n : Int) := by omega
      have hk0 : (0 : Int) ≤ (k : Int) := by omega
      obtain ⟨ga, o, rfl, hg0, hg1, hcs⟩ := (HA.out.below hbl.out hh) (by rw [HIL.out]; omega)
      have c0 := (hcs _ _ (HG3.out k hlt)).1
      have k0 := hR.out.cell (j := k * 2) (by omega)
      have k1 := hR.out.cell (j := k * 2 + 1) (by omega)
      have z0 := hR.out.frozen (k * 2)
      have z1 := hR.out.frozen (k * 2 + 1)
      have HS := Lib.hid (HSet.out k)
      generalize xs.getD k 0 = x at *
      have hR2 := (hR.out.set (k * 2) 0).set (k * 2 + 1) x
      have hgl := hR.out.lt
      have HR2 : Hid (Row2 ((wr.setCell ⟨w.heap.size, k * 2, none⟩ (.int .i64 0)).setCell ⟨w.heap.size, k * 2 + 1, none⟩ (.int .i64 x)) w.heap.size w.heap.size n (ini8 xs (k + 1))) := Lib.hid (hR2.congr fun j _ => HS.out j)
      have HB2 : Hid (Below w.heap.size w ((wr.setCell ⟨w.heap.size, k * 2, none⟩ (.int .i64 0)).setCell ⟨w.heap.size, k * 2 + 1, none⟩ (.int .i64 x))) := Lib.hid ((hbl.out.setCell (p := ⟨w.heap.size, k * 2, none⟩) hgl.1 _).setCell (p := ⟨w.heap.size, k * 2 + 1, none⟩) hgl.1 _)
      have k1b : (wr.setCell ⟨w.heap.size, k * 2, none⟩ (.int .i64 0)).cell? ⟨w.heap.size, k * 2 + 1, none⟩ = some (.int .i64 (ini8 xs k (k * 2 + 1))) := (World.cell?_setCell_other _ _ _ _ (fun e => by injection e with _ e2 _; omega)).trans k1
      have z1b : (wr.setCell ⟨w.heap.size, k * 2, none⟩ (.int .i64 0)).frozen? ⟨w.heap.size, k * 2 + 1, none⟩ = false := (World.frozen?_setCell _ _ _ _).trans z1
      clear hcs hR2 hgl
      go_wp2
      go_roundw
      case rel => exact ⟨k + 1, by omega, by go_num, HR2, HB2⟩
      case measure => simp [intOf]; omega
    · obtain rfl : k = n := by omega
      have HRb := hR
      have HBb := hbl
      clear hR hbl hlt hk
      go_wp2
      go_loopw [1] (fun v wr => ∃ (r m : Nat) (F : Nat → Int), r + m = N ∧ v = .int .i64 (r : Int) ∧ Hid (Big8 (itr8 stp8 m xs) k 0 F) ∧ Hid (Row2 wr w.heap.size w.heap.size k F) ∧ Hid (Below w.heap.size w wr)) (fun v _ => (intOf v).toNat)
      case atStart => exact ⟨N, 0, ini8 xs k, by omega, by simp, Lib.hid (by rw [HS0.out]; exact HI.out), HRb, HBb⟩
      case round =>
        obtain ⟨r, m, F, hrm, rfl, hB, hR, hbl⟩ := hrel
        clear HRb HBb
        by_cases hr0 : 0 < r
        · have hri : (r : Int) > 0 := by omega
          obtain ⟨r1, hr1⟩ : ∃ r1, r = r1 + 1 := ⟨r - 1, by omega⟩
          have er : IntKind.i64.wrap ((r : Int) - 1) = (r1 : Int) := by rw [IntWalk.i64_in _ (by omega)]; omega
          have HR1' := Lib.hid hr1
          clear hr1
          go_wp2
          go_loopw [9] (fun i wi => ∃ (q : Nat) (G : Nat → Int), (q + 1 ≤ k ∨ q = 0) ∧ i = .int .i64 (q : Int) ∧ Hid (Big8 (itr8 stp8 m xs) k q G) ∧ Hid (Row2 wi w.heap.size w.heap.size k G) ∧ Hid (Below w.heap.size w wi)) (fun i _ => k - (intOf i).toNat)
          case atStart => exact ⟨0, F, .inr rfl, by simp, hB, hR, hbl⟩
          case round =>
            obtain ⟨q, G, hq, rfl, hBq, hRq, hblq⟩ := hrel
            clear hB hR hbl
            have e1 : IntKind.i64.wrap ((q : Int) + 1) = (q : Int) + 1 := IntWalk.i64_in _ (by omega)
            by_cases hlt : q + 1 < k
            · obtain ⟨p, hp⟩ : ∃ p, p = q + 1 := ⟨_, rfl⟩
              have hpi : (p : Int) < (k : Int) := by omega
              have hqi : (q : Int) < (k : Int) := by omega
              have hq0 : (0 : Int) ≤ (q : Int) := by omega
              have hp0 : (0 : Int) ≤ (p : Int) := by omega
              have e2 : IntKind.i64.wrap ((q : Int) + 1) = (p : Int) := by rw [e1]; omega
              have a0 := hRq.out.cell (j := q * 2) (by omega)
              have a1 := hRq.out.cell (j := q * 2 + 1) (by omega)
              have a2 := hRq.out.cell (j := p * 2) (by omega)
              have a3 := hRq.out.cell (j := p * 2 + 1) (by omega)
              have z0 := hRq.out.frozen (q * 2)
              have z1 := hRq.out.frozen (q * 2 + 1)
              have v0 := hBq.out q (by omega)
              have v1 := hBq.out p (by omega)
              have w0 := HIt.out m (by omega) q
              have w1' := HIt.out m (by omega) p
              have l0 : led8 (itr8 stp8 m xs) q q = (itr8 stp8 m xs).getD q 0 := by unfold led8; rw [if_neg (by omega)]
              have l1 : led8 (itr8 stp8 m xs) q p = (itr8 stp8 m xs).getD p 0 := by unfold led8; rw [if_neg (by omega)]
              rw [l0] at v0
              rw [l1] at v1
              have HSt := Lib.hid fun hh r h1 h2 he => big8_step hBq.out (by omega : q + 1 < k) hh r h1 h2 he
              rw [← hp] at HSt
              have hgl := hRq.out.lt
              have hSets := fun (x y : Int) => (hRq.out.set (q * 2) x).set (q * 2 + 1) y
              generalize hd0 : G (q * 2) = H0 at *
              generalize hd1 : G (q * 2 + 1) = L0 at *
              generalize hd2 : G (p * 2) = H1' at *
              generalize hd3 : G (p * 2 + 1) = L1 at *
              generalize (itr8 stp8 m xs).getD q 0 = V0 at *
              generalize (itr8 stp8 m xs).getD p 0 = V1 at *
              obtain ⟨qd, rm, eqd, erm, hr1, hr2, hqr, hq2, hq3⟩ := big_parts (L0 + L1) (by omega) (by omega)
              have f1 : IntKind.i64.wrap (H0 + H1') = H0 + H1' := IntWalk.i64_in _ (by omega)
              have f2 : IntKind.i64.wrap (L0 + L1) = L0 + L1 := IntWalk.i64_in _ (by omega)
              have f3 : IntKind.i64.wrap qd = qd := IntWalk.i64_in _ (by omega)
              have f4 : IntKind.i64.wrap rm = rm := IntWalk.i64_in _ (by omega)
              have f5 : IntKind.i64.wrap (H0 + H1' + qd) = H0 + H1' + qd := IntWalk.i64_in _ (by omega)
              have HBn : Hid (Big8 (itr8 stp8 m xs) k p (upd (upd G (q * 2) (H0 + H1' + qd)) (q * 2 + 1) rm)) := Lib.hid (HSt.out _ _ hr1 hr2 (by omega))
              have hgB : w.heap.size < wr.heap.size := hgl.2
              have hlb := hgl.1
              have HP := Lib.hid hp
              have g0 : wr.drew.cell? ⟨w.heap.size, q * 2, none⟩ = some (.int .i64 H0) ∧ wr.drew.cell? ⟨w.heap.size, q * 2 + 1, none⟩ = some (.int .i64 L0) ∧ wr.drew.cell? ⟨w.heap.size, p * 2, none⟩ = some (.int .i64 H1') ∧ wr.drew.cell? ⟨w.heap.size, p * 2 + 1, none⟩ = some (.int .i64 L1) := ⟨a0, a1, a2, a3⟩
              have g00 : wr.cell? ⟨w.heap.size, q * 2, none⟩ = some (.int .i64 H0) ∧ wr.cell? ⟨w.heap.size, q * 2 + 1, none⟩ = some (.int .i64 L0) ∧ wr.cell? ⟨w.heap.size, p * 2, none⟩ = some (.int .i64 H1') ∧ wr.cell? ⟨w.heap.size, p * 2 + 1, none⟩ = some (.int .i64 L1) := ⟨a0, a1, a2, a3⟩
              have gA := four_alloc8 g00 hgB (.cells #[.int .i64 0, .int .i64 0] 79)
              have gB := four_alloc8 g00 hgB (.cells #[.int .i64 (H0 + H1'), .int .i64 (L0 + L1)] 79)
              have hne := Nat.ne_of_lt hgB
              have HA0 := Lib.hid a0
              have HA1 := Lib.hid a1
              have HZ0 := Lib.hid z0
              have HZ1 := Lib.hid z1
              have HRset := Lib.hid hSets
              clear HRset v0 v1 w0 w1' l0 l1 HSt hd0 hd1 hd2 hd3 hr1 hr2 hqr hq2 hq3 e1 hp hlt a0 a1 a2 a3 g00 z0 z1 hSets
              go_wp2
              go_region_held3 (fun w' => w'.cell? ⟨w.heap.size, q * 2, none⟩ = some (.int .i64 H0) ∧ w'.cell? ⟨w.heap.size, q * 2 + 1, none⟩ = some (.int .i64 L0) ∧ w'.cell? ⟨w.heap.size, p * 2, none⟩ = some (.int .i64 H1') ∧ w'.cell? ⟨w.heap.size, p * 2 + 1, none⟩ = some (.int .i64 L1))
                (first | with_reducible exact g0 | exact gA | exact gB | exact g0)
                (fail)
              have k0 : (wr.alloc (.cells #[.int .i64 (H0 + H1'), .int .i64 (L0 + L1)] 79)).drew.cell? ⟨wr.heap.size, 0, none⟩ = some (.int .i64 (H0 + H1')) := by simp [go_sem]
              have k1 : (wr.alloc (.cells #[.int .i64 (H0 + H1'), .int .i64 (L0 + L1)] 79)).drew.cell? ⟨wr.heap.size, 1, none⟩ = some (.int .i64 (L0 + L1)) := by simp [go_sem]
              have y0 : (wr.alloc (.cells #[.int .i64 (H0 + H1'), .int .i64 (L0 + L1)] 79)).drew.frozen? ⟨wr.heap.size, 0, none⟩ = false := by simp [go_sem]
              have y1 : (wr.alloc (.cells #[.int .i64 (H0 + H1'), .int .i64 (L0 + L1)] 79)).drew.frozen? ⟨wr.heap.size, 1, none⟩ = false := by simp [go_sem]
              have hbA := ((Below.refl wr.heap.size wr).alloc (Nat.le_refl _) (.cells #[.int .i64 (H0 + H1'), .int .i64 (L0 + L1)] 79)).drew
              clear g0 gA gB
              generalize (wr.alloc (.cells #[.int .i64 (H0 + H1'), .int .i64 (L0 + L1)] 79)).drew = w2 at *
              obtain ⟨B, hBw⟩ : ∃ B, B = wr.heap.size := ⟨_, rfl⟩
              have hb3 : Below wr.heap.size wr ((w2.setCell ⟨B, 0, none⟩ (.int .i64 (H0 + H1' + qd))).setCell ⟨B, 1, none⟩ (.int .i64 rm)) := (hbA.setCell (p := ⟨B, 0, none⟩) (Nat.le_of_eq hBw.symm) _).setCell (p := ⟨B, 1, none⟩) (Nat.le_of_eq hBw.symm) _
              rw [← hBw] at k0 k1 y0 y1 ⊢
              have s0 := (hb3.cell (p := ⟨w.heap.size, q * 2, none⟩) hgB).trans HA0.out
              have s1 := (hb3.cell (p := ⟨w.heap.size, q * 2 + 1, none⟩) hgB).trans HA1.out
              have x0 := (hb3.frozen (p := ⟨w.heap.size, q * 2, none⟩) hgB).trans HZ0.out
              have x1 := (hb3.frozen (p := ⟨w.heap.size, q * 2 + 1, none⟩) hgB).trans HZ1.out
              have hR3 := hRq.out.below hb3 (Nat.le_refl _)
              have HR5 := Lib.hid ((hR3.set (q * 2) (H0 + H1' + qd)).set (q * 2 + 1) rm)
              have HB3 := hblq.out.trans (hb3.mono hblq.out.size)
              have HB5 := Lib.hid ((HB3.setCell (p := ⟨w.heap.size, q * 2, none⟩) (Nat.le_refl _) (.int .i64 (H0 + H1' + qd))).setCell (p := ⟨w.heap.size, q * 2 + 1, none⟩) (Nat.le_refl _) (.int .i64 rm))
              have t1 : (((w2.setCell ⟨B, 0, none⟩ (.int .i64 (H0 + H1' + qd))).setCell ⟨B, 1, none⟩ (.int .i64 rm)).setCell ⟨w.heap.size, q * 2, none⟩ (.int .i64 (H0 + H1' + qd))).cell? ⟨w.heap.size, q * 2 + 1, none⟩ = some (.int .i64 L0) := (World.cell?_setCell_other _ _ _ _ (fun e => by injection e with _ e2 _; omega)).trans s1
              have u1 : (((w2.setCell ⟨B, 0, none⟩ (.int .i64 (H0 + H1' + qd))).setCell ⟨B, 1, none⟩ (.int .i64 rm)).setCell ⟨w.heap.size, q * 2, none⟩ (.int .i64 (H0 + H1' + qd))).frozen? ⟨w.heap.size, q * 2 + 1, none⟩ = false := (World.frozen?_setCell _ _ _ _).trans x1
              have m0 : (w2.setCell ⟨B, 0, none⟩ (.int .i64 (H0 + H1' + qd))).cell? ⟨B, 1, none⟩ = some (.int .i64 (L0 + L1)) := (World.cell?_setCell_other _ _ _ _ (by simp)).trans k1
              have m1 : ((w2.setCell ⟨B, 0, none⟩ (.int .i64 (H0 + H1' + qd))).setCell ⟨B, 1, none⟩ (.int .i64 rm)).cell? ⟨B, 0, none⟩ = some (.int .i64 (H0 + H1' + qd)) := (World.cell?_setCell_other _ _ _ _ (by simp)).trans (World.cell?_setCell_same _ _ _ k0)
              have m2 : ((w2.setCell ⟨B, 0, none⟩ (.int .i64 (H0 + H1' + qd))).setCell ⟨B, 1, none⟩ (.int .i64 rm)).cell? ⟨B, 1, none⟩ = some (.int .i64 rm) := World.cell?_setCell_same _ _ _ m0
              have m3 : (w2.setCell ⟨B, 0, none⟩ (.int .i64 (H0 + H1' + qd))).frozen? ⟨B, 1, none⟩ = false := (World.frozen?_setCell _ _ _ _).trans y1
              clear hb3 hbA hR3 HB3 s1 x1 hBw
              go_wp2
              exact ⟨⟨p, _, .inl (by have := HP.out; omega), rfl, HBn, HR5, HB5⟩, by have := HP.out; simp [intOf]; omega⟩
            · have hlt2 : ¬ (q : Int) + 1 < (k : Int) := by omega
              have HBe : Hid (Big8 (itr8 stp8 (m + 1) xs) k 0 G) := Lib.hid (by rw [HSs.out]; exact big8_end hBq.out (by rw [HLn.out, HN.out]) (by omega))
              clear hlt
              go_wp2
              have hr1 := HR1'.out
              exact ⟨⟨r1, m + 1, G, by omega, rfl, HBe, hRq, hblq⟩, by simp [intOf]; omega⟩
        · obtain rfl : r = 0 := by omega
          obtain rfl : m = N := by omega
          by_cases hk0 : k = 0
          · have hx : xs = [] := List.eq_nil_of_length_eq_zero (HN.out.trans hk0)
            have hE : e0 = .returned (.tuple #[.int .i64 0, .bool true]) := by
              rw [HE.out, HV.out, hx]
              have e : ∀ m, itr8 stp8 m [] = [] := fun m => List.eq_nil_of_length_eq_zero (its_len8 [] m)
              rw [e]
              rfl
            subst hE
            have hki : (k : Int) = 0 := by omega
            clear hk0 hx
            go_wp2
            go_ret2
            exact ⟨rfl, hbl.out⟩
          · have hki : ¬ (k : Int) = 0 := by omega
            have hk1 : (0 : Int) < (k : Int) := by omega
            have c0 := hR.out.cell (j := 0) (by omega)
            have c1 := hR.out.cell (j := 1) (by omega)
            obtain ⟨l1, l2, l3⟩ := hB.out 0 (by omega)
            have hv : led8 (itr8 stp8 m xs) 0 0 = val8 xs m := by rw [HV.out]; unfold led8; rw [if_neg (by omega)]
            rw [hv, Nat.zero_mul, Nat.zero_add] at l3
            rw [Nat.zero_mul, Nat.zero_add] at l1 l2
            have hbv := HIt.out m hN 0
            rw [← HV.out] at hbv
            generalize val8 xs m = v at *
            generalize F 0 = h at *
            generalize F 1 = l at *
            clear hk0 hv
            by_cases h1 : h > 0
            · have h2 : ¬ h < 0 := by omega
              by_cases h3 : l < 0
              · obtain ⟨a, ha⟩ : ∃ a, a = h - 1 := ⟨_, rfl⟩
                obtain ⟨b, hb⟩ : ∃ b, b = l + 1000000000000000 := ⟨_, rfl⟩
                have f1 : IntKind.i64.wrap (h - 1) = a := by rw [ha]; exact IntWalk.i64_in _ (by omega)
                have f2 : IntKind.i64.wrap (l + 1000000000000000) = b := by rw [hb]; exact IntWalk.i64_in _ (by omega)
                have f3 : ¬ b = 0 := by omega
                have f4 : ¬ a < 0 := by omega
                by_cases h4 : a = 0
                · obtain rfl : a = 0 := h4
                  have hE : e0 = .returned (.tuple #[.int .i64 (b), .bool true]) := by rw [HE.out, vans8, if_pos (by omega), show v = b by omega]
                  subst hE
                  try clear l1
                  try clear l2
                  try clear l3
                  try clear hbv
                  try clear ha
                  try clear hb
                  try clear h4
                  try clear f4
                  go_wp2
                  go_region
                  all_goals
                    go_wp2
                    go_ret2
                    exact ⟨rfl, hbl.out.drew⟩
                · by_cases h5 : a = 1
                  · obtain rfl : a = 1 := h5
                    have hE : e0 = .returned (.tuple #[.int .i64 0, .bool false]) := by rw [HE.out, vans8, if_neg (by omega)]
                    subst hE
                    try clear l1
                    try clear l2
                    try clear l3
                    try clear hbv
                    try clear ha
                    try clear hb
                    try clear h4
                    try clear h5
                    try clear f4
                    go_wp2
                    go_region
                    all_goals
                      go_wp2
                      go_ret2
                      exact ⟨rfl, hbl.out.drew⟩
                  · have f5 : ¬ a = -1 := by omega
                    have hE : e0 = .returned (.tuple #[.int .i64 0, .bool false]) := by rw [HE.out, vans8, if_neg (by omega)]
                    subst hE
                    try clear l1
                    try clear l2
                    try clear l3
                    try clear hbv
                    try clear ha
                    try clear hb
                    go_wp2
                    go_region
                    all_goals
                      go_wp2
                      go_ret2
                      exact ⟨rfl, hbl.out.drew⟩
              · by_cases h4 : h = 1
                · by_cases h5 : l = 0
                  · obtain rfl : h = 1 := h4
                    obtain rfl : l = 0 := h5
                    have hE : e0 = .returned (.tuple #[.int .i64 (1000000000000000), .bool true]) := by rw [HE.out, vans8, if_pos (by omega), show v = 1000000000000000 by omega]
                    subst hE
                    try clear l1
                    try clear l2
                    try clear l3
                    try clear hbv
                    try clear h1
                    try clear h2
                    try clear h3
                    try clear h4
                    try clear h5
                    go_wp2
                    go_region
                    all_goals
                      go_wp2
                      go_ret2
                      exact ⟨rfl, hbl.out.drew⟩
                  · obtain rfl : h = 1 := h4
                    have hE : e0 = .returned (.tuple #[.int .i64 0, .bool false]) := by rw [HE.out, vans8, if_neg (by omega)]
                    subst hE
                    try clear l1
                    try clear l2
                    try clear l3
                    try clear hbv
                    try clear h1
                    try clear h2
                    try clear h4
                    go_wp2
                    go_region
                    all_goals
                      go_wp2
                      go_ret2
                      exact ⟨rfl, hbl.out.drew⟩
                · have f5 : ¬ h = 0 := by omega
                  have f6 : ¬ h = -1 := by omega
                  have hE : e0 = .returned (.tuple #[.int .i64 0, .bool false]) := by rw [HE.out, vans8, if_neg (by omega)]
                  subst hE
                  try clear l1
                  try clear l2
                  try clear l3
                  try clear hbv
                  go_wp2
                  go_region
                  all_goals
                    go_wp2
                    go_ret2
                    exact ⟨rfl, hbl.out.drew⟩
            · by_cases h2 : h < 0
              · by_cases h3 : l > 0
                · obtain ⟨a, ha⟩ : ∃ a, a = h + 1 := ⟨_, rfl⟩
                  obtain ⟨b, hb⟩ : ∃ b, b = l - 1000000000000000 := ⟨_, rfl⟩
                  have f1 : IntKind.i64.wrap (h + 1) = a := by rw [ha]; exact IntWalk.i64_in _ (by omega)
                  have f2 : IntKind.i64.wrap (l - 1000000000000000) = b := by rw [hb]; exact IntWalk.i64_in _ (by omega)
                  have f3 : ¬ b = 0 := by omega
                  by_cases h4 : a = 0
                  · obtain rfl : a = 0 := h4
                    have hE : e0 = .returned (.tuple #[.int .i64 (b), .bool true]) := by rw [HE.out, vans8, if_pos (by omega), show v = b by omega]
                    subst hE
                    try clear l1
                    try clear l2
                    try clear l3
                    try clear hbv
                    try clear ha
                    try clear hb
                    try clear h4
                    go_wp2
                    go_region
                    all_goals
                      go_wp2
                      go_ret2
                      exact ⟨rfl, hbl.out.drew⟩
                  · by_cases h5 : a = -1
                    · obtain rfl : a = -1 := h5
                      have hE : e0 = .returned (.tuple #[.int .i64 0, .bool false]) := by rw [HE.out, vans8, if_neg (by omega)]
                      subst hE
                      try clear l1
                      try clear l2
                      try clear l3
                      try clear hbv
                      try clear ha
                      try clear hb
                      try clear h4
                      try clear h5
                      go_wp2
                      go_region
                      all_goals
                        go_wp2
                        go_ret2
                        exact ⟨rfl, hbl.out.drew⟩
                    · have f5 : ¬ a = 1 := by omega
                      have hE : e0 = .returned (.tuple #[.int .i64 0, .bool false]) := by rw [HE.out, vans8, if_neg (by omega)]
                      subst hE
                      try clear l1
                      try clear l2
                      try clear l3
                      try clear hbv
                      try clear ha
                      try clear hb
                      go_wp2
                      go_region
                      all_goals
                        go_wp2
                        go_ret2
                        exact ⟨rfl, hbl.out.drew⟩
                · by_cases h4 : h = -1
                  · by_cases h5 : l = 0
                    · obtain rfl : h = -1 := h4
                      obtain rfl : l = 0 := h5
                      have hE : e0 = .returned (.tuple #[.int .i64 (-1000000000000000), .bool true]) := by rw [HE.out, vans8, if_pos (by omega), show v = -1000000000000000 by omega]
                      subst hE
                      try clear l1
                      try clear l2
                      try clear l3
                      try clear hbv
                      try clear h1
                      try clear h2
                      try clear h3
                      try clear h4
                      try clear h5
                      go_wp2
                      go_region
                      all_goals
                        go_wp2
                        go_ret2
                        exact ⟨rfl, hbl.out.drew⟩
                    · obtain rfl : h = -1 := h4
                      have hE : e0 = .returned (.tuple #[.int .i64 0, .bool false]) := by rw [HE.out, vans8, if_neg (by omega)]
                      subst hE
                      try clear l1
                      try clear l2
                      try clear l3
                      try clear hbv
                      try clear h1
                      try clear h2
                      try clear h4
                      go_wp2
                      go_region
                      all_goals
                        go_wp2
                        go_ret2
                        exact ⟨rfl, hbl.out.drew⟩
                  · have f5 : ¬ h = 0 := by omega
                    have f6 : ¬ h = 1 := by omega
                    have hE : e0 = .returned (.tuple #[.int .i64 0, .bool false]) := by rw [HE.out, vans8, if_neg (by omega)]
                    subst hE
                    try clear l1
                    try clear l2
                    try clear l3
                    try clear hbv
                    go_wp2
                    go_region
                    all_goals
                      go_wp2
                      go_ret2
                      exact ⟨rfl, hbl.out.drew⟩
              · obtain rfl : h = 0 := by omega
                have hE : e0 = .returned (.tuple #[.int .i64 (l), .bool true]) := by rw [HE.out, vans8, if_pos (by omega), show v = l by omega]
                subst hE
                try clear l1
                try clear l2
                try clear l3
                try clear hbv
                try clear h1
                try clear h2
                go_wp2
                go_region
                all_goals
                  go_wp2
                  go_ret2
                  exact ⟨rfl, hbl.out.drew⟩
end Go.Proofs.Ytjfpnecnmdclfaa
