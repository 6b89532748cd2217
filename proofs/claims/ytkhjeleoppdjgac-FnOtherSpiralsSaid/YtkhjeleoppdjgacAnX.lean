/- Hexagon spirals, triangles and zigzags: how what the functions answer hangs together. -/
import Derived.Test.YtkhjeleoppdjgacAnV
namespace Go.Proofs.Ytkhjeleoppdjgac

/-- One of the six steps. -/
def isNei (d e : Int) : Prop := (d = 1 ∧ e = 0) ∨ (d = 0 ∧ e = 1) ∨ (d = -1 ∧ e = 1) ∨ (d = -1 ∧ e = 0) ∨ (d = 0 ∧ e = -1) ∨ (d = 1 ∧ e = -1)
theorem hat_step {r k : Int} (h1 : 1 ≤ r) (h2 : 1 ≤ k) (h3 : k < 6 * r) : isNei ((hat r (k + 1)).1 - (hat r k).1) ((hat r (k + 1)).2 - (hat r k).2) := by
  unfold isNei
  rcases hat_cases (k := k) h1 with ⟨a, e⟩ | ⟨a, b, e⟩ | ⟨a, b, e⟩ | ⟨a, b, e⟩ | ⟨a, b, e⟩ | ⟨a, e⟩ <;> rw [e] <;>
    rcases hat_cases (k := k + 1) h1 with ⟨a', e'⟩ | ⟨a', b', e'⟩ | ⟨a', b', e'⟩ | ⟨a', b', e'⟩ | ⟨a', b', e'⟩ | ⟨a', e'⟩ <;> rw [e'] <;> simp only <;> omega
theorem hp_zero : hp 0 = (0, 0) := by
  have h : hx 0 = 0 := hx_uniq 0 0 (by omega) ⟨by omega, fun h => by omega, by omega⟩
  unfold hp
  rw [if_pos h]
theorem hp_next (n : Int) (h0 : 0 ≤ n) : isNei ((hp (n + 1)).1 - (hp n).1) ((hp (n + 1)).2 - (hp n).2) := by
  have h := hx_is n h0
  have hz := hex_zero h h0
  obtain ⟨r, hr⟩ : ∃ r, r = hx n := ⟨_, rfl⟩
  rw [← hr] at h hz
  have rr := h.nn
  obtain ⟨p1, p2⟩ := hex_prod r
  obtain ⟨q1, q2⟩ := hex_prod (r + 1)
  have e3 : (r + 1) * (r + 1) = r * r + 2 * r + 1 := by grind
  rcases Int.lt_or_le 0 r with h1 | h1
  · have ob := hof_bds h (by omega)
    have e1 : hp n = hat r (n - 3 * r * (r - 1)) := by unfold hp; rw [← hr, if_neg (by omega)]
    rcases Int.lt_or_le (n - 3 * r * (r - 1)) (6 * r) with h2 | h2
    · have hi : IsHex (n + 1) r := ⟨rr, fun h3 => by have := h.lo h3; omega, by omega⟩
      have e2 : hp (n + 1) = hat r (n - 3 * r * (r - 1) + 1) := by
        unfold hp
        rw [hx_uniq _ _ (by omega) hi, if_neg (by omega)]
        congr 1
        omega
      rw [e1, e2]
      exact hat_step (by omega) ob.1 h2
    · have hk : n - 3 * r * (r - 1) = 6 * r := by omega
      have hi : IsHex (n + 1) (r + 1) := ⟨by omega, fun _ => by omega, by omega⟩
      have e2 : hp (n + 1) = hat (r + 1) 1 := by
        unfold hp
        rw [hx_uniq _ _ (by omega) hi, if_neg (by omega)]
        congr 1
        omega
      rw [e1, e2, hk]
      unfold isNei
      rcases hat_cases (r := r) (k := 6 * r) (by omega) with ⟨a, e⟩ | ⟨a, b, e⟩ | ⟨a, b, e⟩ | ⟨a, b, e⟩ | ⟨a, b, e⟩ | ⟨a, e⟩ <;> rw [e] <;>
        rcases hat_cases (r := r + 1) (k := 1) (by omega) with ⟨a', e'⟩ | ⟨a', b', e'⟩ | ⟨a', b', e'⟩ | ⟨a', b', e'⟩ | ⟨a', b', e'⟩ | ⟨a', e'⟩ <;> rw [e'] <;> simp only <;> omega
  · have hn0 : n = 0 := hz.1 (by omega)
    subst hn0
    have hi : IsHex (0 + 1) 1 := ⟨by omega, fun _ => by omega, by omega⟩
    have e2 : hp (0 + 1) = hat 1 1 := by
      unfold hp
      rw [hx_uniq _ _ (by omega) hi, if_neg (by omega)]
      rfl
    rw [hp_zero, e2]
    exact .inl ⟨rfl, rfl⟩
theorem hbe_get (x y : Int) (j : Nat) (h : j < 6) : (hbe x y 6)[j]? = some (hn (x + (nei[j]'h).1) (y + (nei[j]'h).2)) := by
  have e : nei.length = 6 := rfl
  rw [hbe, List.getElem?_map, List.getElem?_take_of_lt (by omega), List.getElem?_eq_getElem (by rw [e]; exact h)]
  rfl
theorem mem_hbe (x y d e : Int) (h : isNei d e) : hn (x + d) (y + e) ∈ hbe x y 6 := by
  rcases h with ⟨rfl, rfl⟩ | ⟨rfl, rfl⟩ | ⟨rfl, rfl⟩ | ⟨rfl, rfl⟩ | ⟨rfl, rfl⟩ | ⟨rfl, rfl⟩
  · exact List.mem_of_getElem? (hbe_get x y 0 (by omega))
  · exact List.mem_of_getElem? (hbe_get x y 1 (by omega))
  · exact List.mem_of_getElem? (hbe_get x y 2 (by omega))
  · exact List.mem_of_getElem? (hbe_get x y 3 (by omega))
  · exact List.mem_of_getElem? (hbe_get x y 4 (by omega))
  · exact List.mem_of_getElem? (hbe_get x y 5 (by omega))
theorem nei_ne : ∀ (i j : Fin 6), i ≠ j → nei[i] ≠ nei[j] := by decide
theorem nei_is : ∀ (i : Nat) (h : i < 6), hsz (-(nei[i]'h).1) (-(nei[i]'h).2) = 1 := by decide
theorem isHexSpot_of {x y : Int} (h : -400 ≤ x ∧ x ≤ 400 ∧ -400 ≤ y ∧ y ≤ 400 ∧ -400 ≤ x + y ∧ x + y ≤ 400) : isHexSpot x y = true := by
  simp [isHexSpot, isSpot, betr]
  omega
structure Hpf (n : Int) : Prop where
  n0 : 0 ≤ n
  n1 : n ≤ 1000000
  r : 0 ≤ hrV n ∧ hrV n ≤ 600
  fx : -(hrV n) ≤ hpx n ∧ hpx n ≤ hrV n
  fy : -(hrV n) ≤ hpy n ∧ hpy n ≤ hrV n
  len : (hbV n).length = 6
  up : n + 1 ∈ hbV n
  down : 0 < n → n - 1 ∈ hbV n
  p1 : 0 ≤ 3 * hrV n * (hrV n + 1) ∧ 3 * hrV n * (hrV n + 1) ≤ 1100000
  hi : n ≤ 3 * hrV n * (hrV n + 1)
  p2 : 0 < hrV n → 0 ≤ 3 * hrV n * (hrV n - 1) ∧ 3 * hrV n * (hrV n - 1) < n
  el : ∀ i, i < 6 → 0 ≤ (hbV n).getD i 0 ∧ (hbV n).getD i 0 ≤ 2000000 ∧ (hbV n).getD i 0 ∉ (hbV n).take i ∧ ((hbV n).getD i 0 ≤ 1000000 → d6B n ((hbV n).getD i 0) = true ∧ hdV n ((hbV n).getD i 0) = 1)
  zero : d6B n 0 = true ∧ hdV n 0 = hrV n
  back : hrV n ≤ 400 → isHexSpot (hpx n) (hpy n) = true ∧ hnV (hpx n) (hpy n) = n
  cen : 0 < hrV n → gnB 6 (hrV n) = true ∧ cnV 6 (hrV n) = 3 * hrV n * (hrV n - 1) + 1
theorem hpf_of {n : Int} (h : n6B n = true) : Hpf n := by
  obtain ⟨h0, h1⟩ := n6_iff.1 h
  have er : hrV n = hx n := by rw [hrV, h, cond_true]
  have ex : hpx n = (hp n).1 := by rw [hpx, h, cond_true]
  have ey : hpy n = (hp n).2 := by rw [hpy, h, cond_true]
  have eb : hbV n = hbe (hp n).1 (hp n).2 6 := by rw [hbV, h, cond_true]
  have r5 := hx_le n h0 (by omega)
  have hr := hx_is n h0
  have sb := hp_bds n h0
  have ss := hp_size n h0
  have hb := hn_hp n h0
  have rr := hr.nn
  obtain ⟨p1, p2⟩ := hex_prod (hx n)
  have q0 := sq_mono (a := 0) (b := hx n) (by omega) rr
  have q1 := sq_mono (a := hx n) (b := 578) rr (by omega)
  have q2 : hx n * 1 ≤ hx n * hx n ∨ hx n = 0 := by
    rcases Int.lt_or_le 0 (hx n) with hp | hp
    · exact .inl (Int.mul_le_mul_of_nonneg_left (by omega) rr)
    · exact .inr (by omega)
  have hg : ∀ (i : Nat) (hi : i < 6), (hbV n).getD i 0 = hn ((hp n).1 + (nei[i]'hi).1) ((hp n).2 + (nei[i]'hi).2) := fun i hi => by
    rw [eb, List.getD_eq_getElem?_getD, hbe_get _ _ i hi]
    rfl
  refine ⟨h0, h1, by omega, by omega, by omega, by rw [eb, hbe_len _ _ _ (by omega)], ?_, ?_, by rw [er]; omega, by rw [er]; exact hr.hi, ?_, ?_, ?_, ?_, ?_⟩
  · have hu := hn_hp (n + 1) (by omega)
    have := mem_hbe (hp n).1 (hp n).2 _ _ (hp_next n h0)
    rw [show (hp n).1 + ((hp (n + 1)).1 - (hp n).1) = (hp (n + 1)).1 from by omega, show (hp n).2 + ((hp (n + 1)).2 - (hp n).2) = (hp (n + 1)).2 from by omega, hu] at this
    rw [eb]
    exact this
  · intro hp0
    have hu := hn_hp (n - 1) (by omega)
    have hs := hp_next (n - 1) (by omega)
    rw [show n - 1 + 1 = n from by omega] at hs
    have hs2 : isNei ((hp (n - 1)).1 - (hp n).1) ((hp (n - 1)).2 - (hp n).2) := by unfold isNei at *; omega
    have := mem_hbe (hp n).1 (hp n).2 _ _ hs2
    rw [show (hp n).1 + ((hp (n - 1)).1 - (hp n).1) = (hp (n - 1)).1 from by omega, show (hp n).2 + ((hp (n - 1)).2 - (hp n).2) = (hp (n - 1)).2 from by omega, hu] at this
    rw [eb]
    exact this
  · rw [er]
    intro hp0
    have := hr.lo (by omega)
    omega
  · intro i hi
    have hbd := nei_b i hi
    have hsz : hsz ((hp n).1 + (nei[i]'hi).1) ((hp n).2 + (nei[i]'hi).2) ≤ 579 := by unfold hsz ab at ss ⊢; omega
    have l1 := hn_le hsz
    have l0 := hn_nn ((hp n).1 + (nei[i]'hi).1) ((hp n).2 + (nei[i]'hi).2)
    have hh := hp_hn ((hp n).1 + (nei[i]'hi).1) ((hp n).2 + (nei[i]'hi).2)
    refine ⟨by rw [hg i hi]; exact l0, by rw [hg i hi]; omega, ?_, fun hm => ?_⟩
    · rw [hg i hi]
      intro hmem
      obtain ⟨j, hj, he⟩ := List.getElem_of_mem hmem
      have hj2 : j < i := by simp only [List.length_take] at hj; omega
      have hj6 : j < nei.length := by show j < 6; omega
      rw [List.getElem_take] at he
      have e2 := hg j (by omega)
      rw [List.getD_eq_getElem?_getD, List.getElem?_eq_getElem (by simp only [List.length_take] at hj; omega)] at e2
      simp only [Option.getD_some] at e2
      rw [he] at e2
      have g1 := hp_hn ((hp n).1 + (nei[j]'hj6).1) ((hp n).2 + (nei[j]'hj6).2)
      have g0 : ((hp n).1 + (nei[i]'hi).1, (hp n).2 + (nei[i]'hi).2) = ((hp n).1 + (nei[j]'hj6).1, (hp n).2 + (nei[j]'hj6).2) := hh.symm.trans ((congrArg hp e2).trans g1)
      injection g0 with g2 g3
      refine nei_ne ⟨i, hi⟩ ⟨j, by omega⟩ (by intro e; injection e; omega) ?_
      show nei[i]'hi = nei[j]'hj6
      exact Prod.ext (by omega) (by omega)
    · rw [hg i hi] at hm ⊢
      have hd : d6B n (hn ((hp n).1 + (nei[i]'hi).1) ((hp n).2 + (nei[i]'hi).2)) = true := d6_iff.2 ⟨⟨h0, h1⟩, l0, hm⟩
      refine ⟨hd, ?_⟩
      rw [hdV, hd, cond_true, hdst, hh]
      have := nei_is i hi
      rw [← this]
      congr 1 <;> simp only <;> omega
  · have hd : d6B n 0 = true := d6_iff.2 ⟨⟨h0, h1⟩, by omega, by omega⟩
    refine ⟨hd, ?_⟩
    rw [hdV, hd, cond_true, hdst, hp_zero, er, ← ss]
    simp
  · rw [er, ex, ey]
    intro h4
    have hs : isHexSpot (hp n).1 (hp n).2 = true := isHexSpot_of (by unfold hsz ab at ss; omega)
    exact ⟨hs, by rw [hnV, hs, cond_true, hb]⟩
  · rw [er]
    intro hp0
    have hg2 : gnB 6 (hx n) = true := by rw [gnB]; simp; omega
    refine ⟨hg2, ?_⟩
    rw [cnV, hg2, cond_true]
    have t := cen_twice 6 (hx n)
    have e4 : hx n * (hx n - 1) = hx n * hx n - hx n := by grind
    omega
structure Hnf (x y : Int) : Prop where
  fx : -400 ≤ x ∧ x ≤ 400
  fy : -400 ≤ y ∧ y ≤ 400
  b : n6B (hnV x y) = true
  sx : hpx (hnV x y) = x
  sy : hpy (hnV x y) = y
theorem hnf_of {x y : Int} (h : isHexSpot x y = true) : Hnf x y := by
  obtain ⟨a0, a1, a2, a3, _, _, hc⟩ := isHexSpot_bds h
  have e : hnV x y = hn x y := by rw [hnV, h, cond_true]
  have hc2 : -400 ≤ x + y ∧ x + y ≤ 400 := by simpa [betr] using hc
  have hl : hsz x y ≤ 400 := by unfold hsz ab; omega
  have l1 := hn_le hl
  have l0 := hn_nn x y
  have b : n6B (hnV x y) = true := n6_iff.2 (by rw [e]; omega)
  have s := hp_hn x y
  exact ⟨⟨a0, a1⟩, ⟨a2, a3⟩, b, by rw [hpx, b, cond_true, e, s], by rw [hpy, b, cond_true, e, s]⟩
structure Hdf (a b : Int) : Prop where
  fa : 0 ≤ a ∧ a ≤ 1000000
  fb : 0 ≤ b ∧ b ≤ 1000000
  t : d6B b a = true
  c : hdV b a = hdV a b
  z : hdV a b = 0 ↔ a = b
theorem hdf_of {a b : Int} (h : d6B a b = true) : Hdf a b := by
  obtain ⟨ha, hb⟩ := d6_iff.1 h
  have t : d6B b a = true := d6_iff.2 ⟨hb, ha⟩
  refine ⟨ha, hb, t, ?_, ?_⟩
  · rw [hdV, hdV, h, t, cond_true, cond_true]
    unfold hdst hsz ab
    omega
  · rw [hdV, h, cond_true]
    constructor
    · intro h
      have : hp a = hp b := by
        have e1 : (hp a).1 = (hp b).1 := by unfold hdst hsz ab at h; omega
        have e2 : (hp a).2 = (hp b).2 := by unfold hdst hsz ab at h; omega
        exact Prod.ext e1 e2
      rw [← hn_hp a ha.1, this, hn_hp b hb.1]
    · rintro rfl
      unfold hdst hsz ab
      omega
theorem num3_succ (y : Int) : num 3 (y + 1) = num 3 y + y + 1 := by
  have a := num_twice 3 y
  have b := num_twice 3 (y + 1)
  grind
theorem num3_half (y : Int) : y * (y + 1) / 2 = num 3 y := by
  have a := num_twice 3 y
  have : y * (y + 1) = (3 - 2) * y * y - (3 - 4) * y := by grind
  omega
theorem pl3_of (y x : Int) (hy : 0 ≤ y) (h0 : 0 ≤ x) (h1 : x ≤ y) : pl 3 (num 3 y + x) = y := by
  have n0 := num_nn 3 y (by omega)
  have s := num3_succ y
  have a := (fits_iff 3 (num 3 y + x) y (by omega) (by omega) hy).1 (by omega)
  have p0 := pl_nn 3 (num 3 y + x) (by omega) (by omega)
  rcases Int.lt_or_eq_of_le a with h | h
  · have := (fits_iff 3 (num 3 y + x) (y + 1) (by omega) (by omega) (by omega)).2 (by omega)
    omega
  · exact h.symm
structure Tif (t : Int) : Prop where
  n0 : 0 ≤ t
  n1 : t ≤ 1000000
  fx : 0 ≤ tix t ∧ tix t ≤ tiy t
  fy : 0 ≤ tiy t ∧ tiy t ≤ 1414214
  p : 0 ≤ tiy t * (tiy t + 1) ∧ tiy t * (tiy t + 1) ≤ 2000000
  eq : tiy t * (tiy t + 1) / 2 + tix t = t
theorem tif_of {t : Int} (h : n6B t = true) : Tif t := by
  obtain ⟨h0, h1⟩ := n6_iff.1 h
  have ex : tix t = inl t := by rw [tix, h, cond_true]
  have ey : tiy t = ln t := by rw [tiy, h, cond_true]
  obtain ⟨l0, l1, m0, m1, hk⟩ := ln_b t h0 h1
  have s := num3_succ (ln t)
  have hh := num3_half (ln t)
  have up : t < num 3 (ln t + 1) := by
    rcases Int.lt_or_le t (num 3 (ln t + 1)) with h2 | h2
    · exact h2
    · have := (fits_iff 3 t (ln t + 1) (by omega) h0 (by omega)).1 h2
      unfold ln at this
      omega
  have q : ln t * (ln t + 1) = 2 * num 3 (ln t) := by
    have a := num_twice 3 (ln t)
    have : ln t * (ln t + 1) = (3 - 2) * ln t * ln t - (3 - 4) * ln t := by grind
    omega
  exact ⟨h0, h1, by rw [ex, ey]; omega, by rw [ey]; omega, by rw [ey]; omega, by rw [ex, ey]; omega⟩
structure Trf (x y : Int) : Prop where
  b : n6B (tnV x y) = true
  sx : tix (tnV x y) = x
  sy : tiy (tnV x y) = y
theorem trf_of {x y : Int} (h : triOk x y = true) : Trf x y := by
  obtain ⟨y0, y1, x0, x1⟩ := triOk_bds h
  have e : tnV x y = num 3 y + x := by rw [tnV, h, cond_true]
  have nb := num3_b y y0 (by omega)
  have b : n6B (tnV x y) = true := n6_iff.2 (by rw [e]; omega)
  have p := pl3_of y x y0 x0 x1
  refine ⟨b, ?_, ?_⟩
  · rw [tix, b, cond_true, inl, e, p]; omega
  · rw [tiy, b, cond_true, ln, e, p]
structure Zzf (x y : Int) : Prop where
  b : n6B (znV x y) = true
  sx : zgx (znV x y) = x
  sy : zgy (znV x y) = y
theorem zzf_of {x y : Int} (h : zzOk x y = true) : Zzf x y := by
  obtain ⟨x0, x1, y0, y1⟩ := zzOk_bds h
  have e : znV x y = zzN x y := by rw [znV, h, cond_true]
  have nb := num3_b (x + y) (by omega) (by omega)
  have b : n6B (znV x y) = true := n6_iff.2 (by rw [e]; unfold zzN; split <;> omega)
  by_cases hp : (x + y) % 2 = 1
  · have ez : zzN x y = num 3 (x + y) + x := by rw [zzN, if_pos hp]
    have p := pl3_of (x + y) x (by omega) x0 (by omega)
    have el : ln (znV x y) = x + y := by rw [e, ez, ln, p]
    have ei : inl (znV x y) = x := by rw [e, ez, inl, p]; omega
    exact ⟨b, by rw [zgx, b, cond_true, el, ei, zzX, if_pos hp], by rw [zgy, b, cond_true, el, ei, zzY, if_pos hp]; omega⟩
  · have ez : zzN x y = num 3 (x + y) + y := by rw [zzN, if_neg hp]
    have p := pl3_of (x + y) y (by omega) y0 (by omega)
    have el : ln (znV x y) = x + y := by rw [e, ez, ln, p]
    have ei : inl (znV x y) = y := by rw [e, ez, inl, p]; omega
    exact ⟨b, by rw [zgx, b, cond_true, el, ei, zzX, if_neg hp]; omega, by rw [zgy, b, cond_true, el, ei, zzY, if_neg hp]⟩
structure Zsf (w : Int) : Prop where
  n0 : 0 ≤ w
  n1 : w ≤ 1000000
  fx : 0 ≤ zgx w ∧ zgx w ≤ 1414214
  fy : 0 ≤ zgy w ∧ zgy w ≤ 1414214
  s0 : 0 ≤ zgx w + zgy w ∧ zgx w + zgy w ≤ 1414214
  p : 0 ≤ (zgx w + zgy w) * (zgx w + zgy w + 1) ∧ (zgx w + zgy w) * (zgx w + zgy w + 1) ≤ 2000000
  k0 : 0 ≤ w - (zgx w + zgy w) * (zgx w + zgy w + 1) / 2
  k1 : w - (zgx w + zgy w) * (zgx w + zgy w + 1) / 2 ≤ zgx w + zgy w
  eo : ((zgx w + zgy w) % 2 = 0 ∧ w - (zgx w + zgy w) * (zgx w + zgy w + 1) / 2 = zgy w) ∨ ((zgx w + zgy w) % 2 = 1 ∧ w - (zgx w + zgy w) * (zgx w + zgy w + 1) / 2 = zgx w)
theorem zsf_of {w : Int} (h : n6B w = true) : Zsf w := by
  obtain ⟨h0, h1, fx, fy, p, eq⟩ := tif_of h
  have ei : tix w = inl w := by rw [tix, h, cond_true]
  have el : tiy w = ln w := by rw [tiy, h, cond_true]
  rw [ei, el] at fx eq
  rw [el] at fy p
  have ex : zgx w = zzX (ln w) (inl w) := by rw [zgx, h, cond_true]
  have ey : zgy w = zzY (ln w) (inl w) := by rw [zgy, h, cond_true]
  have hs : zgx w + zgy w = ln w := by rw [ex, ey]; unfold zzX zzY; split <;> omega
  refine ⟨h0, h1, ?_, ?_, by rw [hs]; omega, by rw [hs]; exact p, by rw [hs]; omega, by rw [hs]; omega, ?_⟩
  · rw [ex]; unfold zzX; split <;> omega
  · rw [ey]; unfold zzY; split <;> omega
  · rw [hs, ex, ey]
    unfold zzX zzY
    split <;> omega
end Go.Proofs.Ytkhjeleoppdjgac
