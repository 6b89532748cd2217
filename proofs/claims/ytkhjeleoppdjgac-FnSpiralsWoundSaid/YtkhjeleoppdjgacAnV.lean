/- Square spirals: how what the functions answer hangs together. -/
import Derived.Test.YtkhjeleoppdjgacAnU
import Derived.Test.YtkhjeleoppdjgacAnD
import Derived.Test.YtkhjeleoppdjgacAnB
namespace Go.Proofs.Ytkhjeleoppdjgac

theorem nu_par (x y : Int) : (nu x y - (x + y)) % 2 = 0 := by
  have h0 := sz_nn x y
  have e : (2 * sz x y - 1) * (2 * sz x y - 1) = 4 * (sz x y * sz x y) - 4 * sz x y + 1 := by grind
  unfold nu
  by_cases h : sz x y = 0
  · rw [if_pos h]
    have : x = 0 ∧ y = 0 := by unfold sz ab at h; omega
    obtain ⟨rfl, rfl⟩ := this
    rfl
  · rw [if_neg h]
    generalize sz x y * sz x y = q at e
    obtain ⟨s, hs⟩ : ∃ s, s = sz x y := ⟨_, rfl⟩
    have hb : (y = -s) ∨ (x = s) ∨ (y = s) ∨ (x = -s) := by rw [hs]; unfold sz ab; omega
    rw [← hs] at e ⊢
    unfold onK
    split
    · omega
    · split
      · omega
      · split
        · omega
        · have hx : x = -s := by omega
          omega
theorem sp_next (n : Int) (hn : 0 ≤ n) : ((sp (n + 1)).1 - (sp n).1 = 1 ∧ (sp (n + 1)).2 - (sp n).2 = 0) ∨ ((sp (n + 1)).1 - (sp n).1 = -1 ∧ (sp (n + 1)).2 - (sp n).2 = 0) ∨
    ((sp (n + 1)).1 - (sp n).1 = 0 ∧ (sp (n + 1)).2 - (sp n).2 = 1) ∨ ((sp (n + 1)).1 - (sp n).1 = 0 ∧ (sp (n + 1)).2 - (sp n).2 = -1) := by
  have h := rg_is n hn
  have hz := ring_zero h hn
  obtain ⟨r, hr⟩ : ∃ r, r = rg n := ⟨_, rfl⟩
  rw [← hr] at h hz
  have h0 := h.nn
  rcases Int.lt_or_le 0 r with h1 | h1
  · have ob := off_bds h (by omega)
    have e1 : sp n = at_ r (off n r) := by unfold sp; rw [← hr, if_neg (by omega)]
    have sq1 := sq_ring r
    rcases Int.lt_or_le (off n r) (8 * r) with h2 | h2
    · have hi : IsRing (n + 1) r := ⟨h0, fun h3 => by have := h.lo h3; omega, by unfold off at h2; omega⟩
      have e2 : sp (n + 1) = at_ r (off n r + 1) := by
        unfold sp
        rw [rg_uniq _ _ (by omega) hi, if_neg (by omega)]
        congr 1
        unfold off
        omega
      rw [e1, e2, at_step (by omega) ob.1 h2]
      unfold stp
      split
      · omega
      · split
        · simp only; omega
        · split
          · simp only; omega
          · split
            · simp only; omega
            · simp only; omega
    · have hk : off n r = 8 * r := by omega
      have hi : IsRing (n + 1) (r + 1) := by
        have hq : (2 * (r + 1) - 1) * (2 * (r + 1) - 1) = (2 * r + 1) * (2 * r + 1) := by grind
        have hq2 : (2 * (r + 1) + 1) * (2 * (r + 1) + 1) = (2 * r + 1) * (2 * r + 1) + 8 * (r + 1) := by grind
        unfold off at hk
        exact ⟨by omega, fun _ => by omega, by omega⟩
      have ho : off (n + 1) (r + 1) = 1 := by
        have hq : (2 * (r + 1) - 1) * (2 * (r + 1) - 1) = (2 * r + 1) * (2 * r + 1) := by grind
        unfold off at hk ⊢
        omega
      have e2 : sp (n + 1) = at_ (r + 1) 1 := by
        unfold sp
        rw [rg_uniq _ _ (by omega) hi, if_neg (by omega), ho]
      rw [e1, e2, hk, at_one (by omega), at_four (by omega) (by omega)]
      simp only
      omega
  · have hn0 : n = 0 := hz.1 (by omega)
    subst hn0
    have hi : IsRing (0 + 1) 1 := ⟨by omega, fun _ => by omega, by omega⟩
    have e1 : sp 0 = (0, 0) := by unfold sp; rw [← hr, if_pos (by omega)]
    have e2 : sp (0 + 1) = (1, 0) := by
      unfold sp
      rw [rg_uniq _ _ (by omega) hi, if_neg (by omega)]
      rfl
    rw [e1, e2]
    simp only
    omega
theorem sp_up (n : Int) (hn : 0 ≤ n) : rg (n + 1) ≤ rg n + 1 := by
  have a := sp_size n hn
  have b := sp_size (n + 1) (by omega)
  have c := sp_next n hn
  unfold sz ab at a b
  omega
theorem isSpot_of {x y : Int} (h : -400 ≤ x ∧ x ≤ 400 ∧ -400 ≤ y ∧ y ≤ 400) : isSpot x y = true := by
  simp [isSpot, betr]
  omega
structure Spf (n : Int) : Prop where
  n0 : 0 ≤ n
  n1 : n ≤ 1000000
  r : 0 ≤ rgV n ∧ rgV n ≤ 500
  x : -(rgV n) ≤ spx n ∧ spx n ≤ rgV n
  y : -(rgV n) ≤ spy n ∧ spy n ≤ rgV n
  size : (ab (spx n) < ab (spy n) ∧ ab (spy n) = rgV n) ∨ (¬ ab (spx n) < ab (spy n) ∧ ab (spx n) = rgV n)
  unit : (-1 ≤ stx n ∧ stx n ≤ 1) ∧ (-1 ≤ sty n ∧ sty n ≤ 1) ∧ ab (stx n) + ab (sty n) = 1
  len : (beV n).length = 4
  up : n + 1 ∈ beV n
  down : 0 < n → n - 1 ∈ beV n
  back : rgV n < 400 → isSpot (spx n) (spy n) = true ∧ nuV (spx n) (spy n) = n
  next : rgV n < 400 → isSpot (spx n + stx n) (spy n + sty n) = true ∧ nuV (spx n + stx n) (spy n + sty n) = n + 1
  east : rgV n < 400 → isSpot (spx n + 1) (spy n) = true ∧ nuV (spx n + 1) (spy n) = (beV n).getD 0 0
  ring : rgV n ≤ 499 → r6B (rgV n) = true ∧ loV (rgV n) ≤ n ∧ n ≤ hiV (rgV n)
  par : ∀ k, k < 4 → ((beV n).getD k 0 - n) % 2 = 1
  bd : ∀ k, k < 4 → 0 ≤ (beV n).getD k 0 ∧ (beV n).getD k 0 ≤ 2000000
theorem spf_of {n : Int} (h : n6B n = true) : Spf n := by
  obtain ⟨h0, h1⟩ := n6_iff.1 h
  have er : rgV n = rg n := by rw [rgV, h, cond_true]
  have ex : spx n = (sp n).1 := by rw [spx, h, cond_true]
  have ey : spy n = (sp n).2 := by rw [spy, h, cond_true]
  have eu : stx n = (sp (n + 1)).1 - (sp n).1 := by rw [stx, h, cond_true]
  have ev : sty n = (sp (n + 1)).2 - (sp n).2 := by rw [sty, h, cond_true]
  have eb : beV n = bes (sp n).1 (sp n).2 := by rw [beV, h, cond_true]
  have r5 := rg_le5 n h0 (by omega)
  have hr := rg_is n h0
  have hz := ring_zero hr h0
  have sb := sp_bds n h0
  have ss := sp_size n h0
  have sn := sp_next n h0
  have hb := nu_sp n h0
  have hup := nu_sp (n + 1) (by omega)
  have num : ∀ x y, isSpot x y = true → nuV x y = nu x y := fun x y hs => by rw [nuV, hs, cond_true]
  have rr := hr.nn
  refine ⟨h0, h1, by omega, by omega, by omega, ?_, ?_, by rw [eb]; rfl, ?_, ?_, fun h4 => ?_, fun h4 => ?_, fun h4 => ?_, fun h4 => ?_, ?_, ?_⟩
  · rw [ex, ey, er]; unfold sz ab at ss; unfold ab; omega
  · rw [eu, ev]; unfold ab; omega
  · rw [eb, ← hup]
    simp only [bes, List.mem_cons, List.not_mem_nil, or_false]
    rcases sn with ⟨a, b⟩ | ⟨a, b⟩ | ⟨a, b⟩ | ⟨a, b⟩
    · exact .inl (by congr 1 <;> omega)
    · exact .inr (.inr (.inl (by congr 1 <;> omega)))
    · exact .inr (.inl (by congr 1 <;> omega))
    · exact .inr (.inr (.inr (by congr 1 <;> omega)))
  · intro hp
    have sm := sp_next (n - 1) (by omega)
    have hd := nu_sp (n - 1) (by omega)
    rw [show n - 1 + 1 = n from by omega] at sm
    rw [eb, ← hd]
    simp only [bes, List.mem_cons, List.not_mem_nil, or_false]
    rcases sm with ⟨a, b⟩ | ⟨a, b⟩ | ⟨a, b⟩ | ⟨a, b⟩
    · exact .inr (.inr (.inl (by congr 1 <;> omega)))
    · exact .inl (by congr 1 <;> omega)
    · exact .inr (.inr (.inr (by congr 1 <;> omega)))
    · exact .inr (.inl (by congr 1 <;> omega))
  · have hs : isSpot (spx n) (spy n) = true := isSpot_of (by omega)
    exact ⟨hs, by rw [num _ _ hs, ex, ey, hb]⟩
  · have hs : isSpot (spx n + stx n) (spy n + sty n) = true := isSpot_of (by omega)
    refine ⟨hs, ?_⟩
    rw [num _ _ hs, ex, ey, eu, ev, show (sp n).1 + ((sp (n + 1)).1 - (sp n).1) = (sp (n + 1)).1 from by omega, show (sp n).2 + ((sp (n + 1)).2 - (sp n).2) = (sp (n + 1)).2 from by omega]
    exact hup
  · have hs : isSpot (spx n + 1) (spy n) = true := isSpot_of (by omega)
    refine ⟨hs, ?_⟩
    rw [num _ _ hs, ex, ey, eb]
    rfl
  · have h6 : r6B (rgV n) = true := r6_iff.2 ⟨by omega, h4⟩
    refine ⟨h6, ?_⟩
    rw [loV, hiV, h6, cond_true, cond_true, er]
    unfold ringLo ringHi
    by_cases hr0 : rg n = 0
    · rw [if_pos hr0, if_pos hr0]; have := hz.1 hr0; omega
    · rw [if_neg hr0, if_neg hr0]; have := hr.lo (by omega); have := hr.hi; omega
  · intro k hk
    rw [eb]
    have q := nu_par (sp n).1 (sp n).2
    rw [hb] at q
    have q1 := nu_par ((sp n).1 + 1) (sp n).2
    have q2 := nu_par (sp n).1 ((sp n).2 + 1)
    have q3 := nu_par ((sp n).1 - 1) (sp n).2
    have q4 := nu_par (sp n).1 ((sp n).2 - 1)
    match k, hk with
    | 0, _ => simp only [bes, List.getD_cons_zero]; omega
    | 1, _ => simp only [bes, List.getD_cons_succ, List.getD_cons_zero]; omega
    | 2, _ => simp only [bes, List.getD_cons_succ, List.getD_cons_zero]; omega
    | 3, _ => simp only [bes, List.getD_cons_succ, List.getD_cons_zero]; omega
  · intro k hk
    rw [eb]
    have bd : ∀ x y : Int, -501 ≤ x → x ≤ 501 → -501 ≤ y → y ≤ 501 → 0 ≤ nu x y ∧ nu x y ≤ 2000000 := fun x y a b c d => by
      have hl : sz x y ≤ 501 := by unfold sz ab; omega
      have := nu_le hl
      have := nu_nn x y
      omega
    match k, hk with
    | 0, _ => exact bd _ _ (by omega) (by omega) (by omega) (by omega)
    | 1, _ => exact bd _ _ (by omega) (by omega) (by omega) (by omega)
    | 2, _ => exact bd _ _ (by omega) (by omega) (by omega) (by omega)
    | 3, _ => exact bd _ _ (by omega) (by omega) (by omega) (by omega)
structure Nuf (x y : Int) : Prop where
  fx : -400 ≤ x ∧ x ≤ 400
  fy : -400 ≤ y ∧ y ≤ 400
  b : n6B (nuV x y) = true
  sx : spx (nuV x y) = x
  sy : spy (nuV x y) = y
theorem nuf_of {x y : Int} (h : isSpot x y = true) : Nuf x y := by
  obtain ⟨a0, a1, a2, a3⟩ := isSpot_bds h
  have e : nuV x y = nu x y := by rw [nuV, h, cond_true]
  have hl : sz x y ≤ 400 := by unfold sz ab; omega
  have l1 := nu_le hl
  have l0 := nu_nn x y
  have b : n6B (nuV x y) = true := n6_iff.2 (by rw [e]; omega)
  have s := sp_nu x y
  exact ⟨⟨a0, a1⟩, ⟨a2, a3⟩, b, by rw [spx, b, cond_true, e, s], by rw [spy, b, cond_true, e, s]⟩
structure Rif (r : Int) : Prop where
  b : r6B (r - 1) = true
  lt : loV (r - 1) < loV r
  lo : 0 ≤ loV r ∧ loV r ≤ 1000000
  hi : 0 ≤ hiV r ∧ hiV r ≤ 1000000
  eight : hiV r - loV r + 1 = 8 * r
  rb : rtB (loV r) = true
  rt : rtV (loV r) = 2 * r - 1
  sq : (2 * r - 1) * (2 * r - 1) = loV r
theorem rif_of {r : Int} (h : r6B r = true) (h0 : 0 < r) : Rif r := by
  obtain ⟨_, h1⟩ := r6_iff.1 h
  have b : r6B (r - 1) = true := r6_iff.2 (by omega)
  have el : loV r = (2 * r - 1) * (2 * r - 1) := by rw [loV, h, cond_true, ringLo, if_neg (by omega)]
  have eh : hiV r = (2 * r + 1) * (2 * r + 1) - 1 := by rw [hiV, h, cond_true, ringHi, if_neg (by omega)]
  have q := sq_ring r
  have l0 := sq_mono (a := 1) (b := 2 * r - 1) (by omega) (by omega)
  have l1 := sq_mono (a := 2 * r - 1) (b := 997) (by omega) (by omega)
  have rb : rtB (loV r) = true := by rw [rtB]; simp; omega
  refine ⟨b, ?_, by omega, by omega, by omega, rb, ?_, el.symm⟩
  · rw [loV, b, cond_true, ringLo]
    by_cases h2 : r - 1 = 0
    · rw [if_pos h2]; omega
    · rw [if_neg h2, el]
      have : (2 * (r - 1) - 1) * (2 * (r - 1) - 1) = (2 * r - 1) * (2 * r - 1) - 4 * (2 * r - 1) + 4 := by grind
      omega
  · rw [rtV, rb, cond_true, el, rt_sq _ (by omega)]
theorem dst_le (n : Int) (hn : 0 ≤ n) (k : Nat) : dst (n + k) n ≤ k := by
  induction k with
  | zero => simp [dst, ab]
  | succ k ih =>
    have s := sp_next (n + k) (by omega)
    rw [show n + ((k + 1 : Nat) : Int) = n + k + 1 from by omega]
    unfold dst ab at *
    omega
theorem dst_comm (a b : Int) : dst a b = dst b a := by unfold dst ab; omega
theorem dst_nn (a b : Int) : 0 ≤ dst a b := by unfold dst ab; omega
theorem dst_zero (a b : Int) (ha : 0 ≤ a) (hb : 0 ≤ b) : dst a b = 0 ↔ a = b := by
  constructor
  · intro h
    have : sp a = sp b := by
      have e1 : (sp a).1 = (sp b).1 := by unfold dst ab at h; omega
      have e2 : (sp a).2 = (sp b).2 := by unfold dst ab at h; omega
      exact Prod.ext e1 e2
    rw [← nu_sp a ha, this, nu_sp b hb]
  · rintro rfl
    unfold dst ab
    omega
theorem dst_ab (a b : Int) (ha : 0 ≤ a) (hb : 0 ≤ b) : dst a b ≤ ab (a - b) := by
  rcases Int.le_total a b with h | h
  · have := dst_le a ha (b - a).toNat
    rw [show a + ((b - a).toNat : Int) = b from by omega, dst_comm] at this
    unfold ab
    omega
  · have := dst_le b hb (a - b).toNat
    rw [show b + ((a - b).toNat : Int) = a from by omega] at this
    unfold ab
    omega
structure Dsf (a b : Int) : Prop where
  fa : 0 ≤ a ∧ a ≤ 1000000
  fb : 0 ≤ b ∧ b ≤ 1000000
  t : d6B b a = true
  c : dsV b a = dsV a b
  z : dsV a b = 0 ↔ a = b
  n : 0 ≤ dsV a b
  l : dsV a b ≤ ab (a - b)
theorem dsf_of {a b : Int} (h : d6B a b = true) : Dsf a b := by
  obtain ⟨ha, hb⟩ := d6_iff.1 h
  have t : d6B b a = true := d6_iff.2 ⟨hb, ha⟩
  have e : dsV a b = dst a b := by rw [dsV, h, cond_true]
  have e2 : dsV b a = dst b a := by rw [dsV, t, cond_true]
  exact ⟨ha, hb, t, by rw [e, e2, dst_comm], by rw [e]; exact dst_zero a b ha.1 hb.1, by rw [e]; exact dst_nn a b, by rw [e]; exact dst_ab a b ha.1 hb.1⟩
theorem dg_len {a b n : Int} (h : dgOk a b n = true) : ((dgV a b n).length : Int) = n ∧ n ≤ 400 := by
  obtain ⟨_, _, _, _, n0, n1⟩ := dgOk_bds h
  rw [dgV, h, cond_true, dgs_len]
  omega
theorem dg_one {n : Int} (h : dgOk 1 1 n = true) (k : Nat) (hk : k < (dgV 1 1 n).length) : (dgV 1 1 n)[k]? = some (2 * (k : Int) * (2 * k - 1)) := by
  rw [dgV, h, cond_true, dgs_len] at hk
  rw [dgV, h, cond_true, dgs, List.getElem?_map, List.getElem?_range hk]
  simp only [Option.map_some, Int.mul_one, Option.some.injEq]
  have hs : sz (k : Int) (k : Int) = k := by unfold sz ab; omega
  unfold nu
  rw [hs]
  by_cases h0 : (k : Int) = 0
  · rw [if_pos h0, h0]; rfl
  · rw [if_neg h0]
    unfold onK
    rw [if_neg (by omega), if_pos rfl]
    grind
structure Wnf (x y a b : Int) : Prop where
  s : isSpot x y = true
  fx : -400 ≤ x ∧ x ≤ 400
  fy : -400 ≤ y ∧ y ≤ 400
  fa : 0 ≤ a ∧ a ≤ 20
  fb : 0 ≤ b ∧ b ≤ 20
  len : ((wiV x y a b).length : Int) = b
  row : ∀ j : Nat, j < b.toNat → ∃ r : List Int, (wiV x y a b)[j]? = some r ∧ (r.length : Int) = a
  cor : 0 < a → 0 < b → ∃ r : List Int, (wiV x y a b)[0]? = some r ∧ (r.length : Int) = a ∧ r[0]? = some (nuV x y)
  las : 0 < a → 0 < b → x + a ≤ 400 → -400 ≤ y - b → isSpot (x + a - 1) (y - b + 1) = true ∧ ∃ r : List Int, (wiV x y a b)[b.toNat - 1]? = some r ∧ (r.length : Int) = a ∧ r[a.toNat - 1]? = some (nuV (x + a - 1) (y - b + 1))
theorem wnf_of {x y a b : Int} (h : wnOk x y a b = true) : Wnf x y a b := by
  obtain ⟨s, a0, a1, b0, b1⟩ := wnOk_bds h
  obtain ⟨x0, x1, y0, y1⟩ := isSpot_bds s
  have e : wiV x y a b = wnd x y a.toNat b.toNat := by rw [wiV, h, cond_true]
  have hr : ∀ j : Nat, j < b.toNat → (wiV x y a b)[j]? = some (wro x (y - j) a.toNat) := fun j hj => by
    rw [e, wnd, List.getElem?_map, List.getElem?_range hj]
    rfl
  have hl : ∀ (t : Int) (k : Nat), k < a.toNat → (wro x t a.toNat)[k]? = some (nu (x + k) t) := fun t k hk => by
    rw [wro, List.getElem?_map, List.getElem?_range hk]
    rfl
  refine ⟨s, ⟨x0, x1⟩, ⟨y0, y1⟩, ⟨a0, a1⟩, ⟨b0, b1⟩, by rw [e, wnd]; simp; omega, fun j hj => ⟨_, hr j hj, by rw [wro_len]; omega⟩, fun ha hb => ?_, fun ha hb hx hy => ?_⟩
  · refine ⟨_, hr 0 (by omega), by rw [wro_len]; omega, ?_⟩
    rw [hl _ 0 (by omega), nuV, s, cond_true]
    simp
  · have hs : isSpot (x + a - 1) (y - b + 1) = true := isSpot_of (by omega)
    refine ⟨hs, _, hr (b.toNat - 1) (by omega), by rw [wro_len]; omega, ?_⟩
    rw [hl _ _ (by omega), nuV, hs, cond_true]
    congr 2 <;> omega
end Go.Proofs.Ytkhjeleoppdjgac
