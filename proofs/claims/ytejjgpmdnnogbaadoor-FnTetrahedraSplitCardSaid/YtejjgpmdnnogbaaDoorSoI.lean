/- The laws FnExactFewestTetrahedra, FnExactFirstTetrahedra: the program's parts are the specification's, whatever the number. No condition. -/
import Derived.Test.YtejjgpmdnnogbaaDoorSoH
import Derived.Test.YtejjgpmdnnogbaaDoorSgW
namespace Go.Proofs.YtejjgpmdnnogbaaDoor
open Go.ChangeShapes Go.WideShapes Go.ChangeAt Go.RowKit Go.Maps

/-- The greatest last place of c + 1 parts of m, none beyond K (0 where there is none). -/
def gtop (s : Int → Int) (c : Nat) (m : Int) : Nat → Nat
  | 0 => 0
  | k + 1 => if 0 < gW s (k + 1) c (m - s ((k : Int) + 1)) then k + 1 else gtop s c m k
/-- The first list of c parts of m, none beyond K. -/
def gfl (s : Int → Int) : Nat → Int → Nat → List Int
  | 0, _, _ => []
  | c + 1, m, K => (gtop s c m K : Int) :: gfl s c (m - s (gtop s c m K : Int)) (gtop s c m K)
theorem gfl_len (s : Int → Int) (c : Nat) : ∀ (m : Int) (K : Nat), (gfl s c m K).length = c := by
  induction c with
  | zero => intro m K; rfl
  | succ c ih => intro m K; rw [gfl, List.length_cons, ih]
theorem gtop_hit (s : Int → Int) (c : Nat) (m : Int) (k : Nat) (h : 0 < gW s (k + 1) c (m - s ((k : Int) + 1))) : gtop s c m (k + 1) = k + 1 ∧ 0 < gW s (k + 1) (c + 1) m :=
  ⟨by rw [gtop, if_pos h], by rw [gW_kk]; omega⟩
theorem gtop_miss (s : Int → Int) (c : Nat) (m : Int) (k : Nat) (h : ¬ 0 < gW s (k + 1) c (m - s ((k : Int) + 1))) : gtop s c m (k + 1) = gtop s c m k ∧ gW s (k + 1) (c + 1) m = gW s k (c + 1) m :=
  ⟨by rw [gtop, if_neg h], by rw [gW_kk]; omega⟩
theorem gtop_eq (s : Int → Int) (c : Nat) (m : Int) (K t : Nat) (h1 : 1 ≤ t) (hK : t ≤ K) (h : 0 < gW s t c (m - s (t : Int))) (h2 : ∀ j : Nat, t < j → j ≤ K → ¬ 0 < gW s j c (m - s (j : Int))) : gtop s c m K = t := by
  induction K with
  | zero => omega
  | succ K ih =>
    by_cases e : t = K + 1
    · subst e
      exact (gtop_hit s c m K (by simpa using h)).1
    · have h3 := h2 (K + 1) (by omega) (by omega)
      rw [(gtop_miss s c m K (by simpa using h3)).1]
      exact ih (by omega) fun j hj hj2 => h2 j hj (by omega)
theorem gnone_rep {s : Int → Int} {k c : Nat} {m : Int} (hs : Sq s) (i : Nat) (hi : i ≤ c) (hr : gRep s i m) (h0 : 1 ≤ c → gNone s m (c - 1) k) : 0 < gW s k i m := by
  cases i with
  | zero =>
    have := (gRep_zero s m).1 hr
    subst this
    rw [gW_k0]
    simp
  | succ i =>
    obtain ⟨K', hK'⟩ := hr
    obtain ⟨l, hl, hw⟩ := gW_top s K' i m hK'
    have h1 := gRep_nn s hs i _ ⟨l + 1, hw⟩
    have h2 := gNeed_le s hs _ h1 i ⟨l + 1, hw⟩
    have hq : gQ s m (c - 1) (l + 1) := ⟨by push_cast; omega, by push_cast; omega⟩
    have hlk : l + 1 ≤ k := by
      rcases Nat.lt_or_ge k (l + 1) with h3 | h3
      · exact absurd hq (h0 (by omega) (l + 1) h3)
      · exact h3
    exact gW_put s l k i m hlk (Nat.lt_of_lt_of_le hw (gW_le s i _ hlk))
theorem gfl_fp (s : Int → Int) (hs : Sq s) (c : Nat) : ∀ (m : Int) (K : Nat), 0 ≤ m → gNeed s m = c → (1 ≤ c → gNone s m (c - 1) K) → gfl s c m K = gfp s c m K := by
  induction c with
  | zero => intro m K _ _ _; rfl
  | succ c ih =>
    intro m K hm hn h0
    have h1 : gNone s m c K := by simpa using h0 (by omega)
    have hq := gsc_is s m c K hs hm (by omega) h1
    have hl := gsc_le s m c K
    have hab := gsc_above s m c K
    have hno : 1 ≤ c → gNone s (m - s (gsc s m c K : Int)) (c - 1) (gsc s m c K) := fun h => by
      obtain ⟨r, rfl⟩ : ∃ r, c = r + 1 := ⟨c - 1, by omega⟩
      simpa using gnone_next s m r K hs h1
    have e2 : gfp s (c + 1) m K = (gsc s m c K : Int) :: gfp s c (m - s (gsc s m c K : Int)) (gsc s m c K) := rfl
    rw [e2]
    generalize gsc s m c K = t at *
    obtain ⟨hq1, hq2⟩ := hq
    have ht : 1 ≤ t := by
      rcases Nat.eq_zero_or_pos t with h | h
      · subst h
        rw [show (((0 : Nat) : Int)) = 0 from rfl, hs.zero, Int.sub_zero] at hq2
        omega
      · exact h
    have hp := gNeed_put s m (t : Int) (by omega) (by omega) hs
    have hne : gNeed s (m - s (t : Int)) = c := by omega
    have hr := (gNeed_is s hs (m - s (t : Int)) (by omega)).1
    rw [hne] at hr
    have hpos := gnone_rep hs c (Nat.le_refl _) hr hno
    have htop : gtop s c m K = t := gtop_eq s c m K t ht hl hpos fun j hj hj2 hw => by
      have h3 := gRep_nn s hs c _ ⟨j, hw⟩
      have h4 := gNeed_le s hs _ h3 c ⟨j, hw⟩
      exact hab j hj hj2 ⟨by omega, h4⟩
    rw [gfl, htop, ih _ _ (by omega) hne hno]
theorem gtop_down (s : Int → Int) (hs : Sq s) (c : Nat) (m : Int) (hm : 0 ≤ m) (d : Nat) : gtop s c m ((lst s m).toNat + d) = gtop s c m (lst s m).toNat := by
  induction d with
  | zero => rfl
  | succ d ih =>
    have h0 := lst_nn hs m hm
    have h1 := lst_iff hs m (((lst s m).toNat + d : Nat) + 1 : Int) hm (by omega)
    rw [← Nat.add_assoc, (gtop_miss s c m ((lst s m).toNat + d) ?_).1, ih]
    intro h
    have h2 := gRep_nn s hs c _ ⟨_, h⟩
    have := h1.1 (by omega)
    omega
theorem gfl_down (s : Int → Int) (hs : Sq s) (c : Nat) (m : Int) (hm : 0 ≤ m) (K : Nat) (hK : lst s m ≤ K) : gfl s c m K = gfl s c m (lst s m).toNat := by
  cases c with
  | zero => rfl
  | succ c =>
    have h0 := lst_nn hs m hm
    have e := gtop_down s hs c m hm (K - (lst s m).toNat)
    rw [show (lst s m).toNat + (K - (lst s m).toNat) = K from by omega] at e
    rw [gfl, gfl, e]

def uo (i : Nat) (m : Int) (K : Nat) : Bool := decide (0 < gW (pyr 3) K i m)
def ul (i : Nat) (m : Int) (K : Nat) : List Int := if 0 < gW (pyr 3) K i m then gfl (pyr 3) i m K else []
theorem ul_yes {i : Nat} {m : Int} {K : Nat} (h : 0 < gW (pyr 3) K i m) : uo i m K = true ∧ ul i m K = gfl (pyr 3) i m K := ⟨by simp [uo, h], by rw [ul, if_pos h]⟩
theorem ul_no {i : Nat} {m : Int} {K : Nat} (h : ¬ 0 < gW (pyr 3) K i m) : uo i m K = false ∧ ul i m K = [] := ⟨by simp [uo, h], by rw [ul, if_neg h]⟩

set_option maxHeartbeats 3200000 in
theorem soFirst_any (i : Nat) : ∀ (n : Int) (K : Nat) (w : World), i ≤ 5 → 0 ≤ n → n ≤ 1500 → K ≤ 30 →
    Calls Tryd.prog 34 #[.int .i64 n, .int .i64 i, .int .i64 K] w (ResI (uo i n K) (ul i n K) w) := by
  induction i with
  | zero =>
    intro n K w _ h1 h2 hK
    by_cases h : n = 0
    · have HE : Hid (uo 0 n K = true ∧ ul 0 n K = []) := Lib.hid (ul_yes (by rw [gW_k0, if_pos h]; omega))
      subst h
      go_enter Tryd.func34, Tryd.ntmps34
      go_wp2
      go_ret2
      rw [HE.out.1, HE.out.2]
      exact resI_nil (Below.refl _ _)
    · have hb : (n == 0) = false := by simpa using h
      have HE : Hid (uo 0 n K = false ∧ ul 0 n K = []) := Lib.hid (ul_no (by rw [gW_k0, if_neg h]; omega))
      clear h
      go_enter Tryd.func34, Tryd.ntmps34
      go_wp2
      go_ret2
      rw [HE.out.1, HE.out.2]
      exact resI_nil (Below.refl _ _)
  | succ i ih =>
    intro n K w hi h1 h2 hK
    obtain ⟨i0, hi0, hz0, hz1, hz2⟩ := info_parts infoInt
    have IH := Lib.hid ih
    have hcast : ((i + 1 : Nat) : Int) = (i : Int) + 1 := by omega
    rw [hcast]
    have hib : (((i : Int) + 1) == 0) = false := by simp; omega
    have hiI : (i : Int) + 1 ≤ 5 := by omega
    clear ih hcast
    have hKI : (K : Int) ≤ 30 := by omega
    go_enter Tryd.func34, Tryd.ntmps34
    go_wp2
    go_loopw [8] (fun k wr => ∃ j : Nat, j ≤ K ∧ k = .int .i64 j ∧ Hid (gtop (pyr 3) i n j = gtop (pyr 3) i n K ∧ gW (pyr 3) j (i + 1) n = gW (pyr 3) K (i + 1) n) ∧ Below w.heap.size w wr) (fun k _ => (intOf k).toNat)
    case atStart => exact ⟨K, by omega, rfl, Lib.hid ⟨rfl, rfl⟩, Below.refl _ _⟩
    case round =>
      obtain ⟨j, hj, rfl, HQ, hb⟩ := hrel
      by_cases hj0 : j = 0
      · subst hj0
        have HE : Hid (uo (i + 1) n K = false ∧ ul (i + 1) n K = []) := Lib.hid (ul_no (by
          have h := HQ.out.2
          rw [gW_00, if_neg (by omega)] at h
          omega))
        go_wp2
        go_ret2
        rw [HE.out.1, HE.out.2]
        exact resI_nil hb
      · obtain ⟨j', rfl⟩ : ∃ j', j = j' + 1 := ⟨j - 1, by omega⟩
        have hjc : ((j' + 1 : Nat) : Int) = (j' : Int) + 1 := by omega
        rw [hjc]
        have hjI : (j' : Int) + 1 ≤ 30 := by omega
        obtain ⟨q0, q1⟩ := pyr3_few ((j' : Int) + 1) (by omega) (by omega)
        have HPY := Lib.hid fun w => soPyramid_any 3 ((j' : Int) + 1) w (by omega) (by omega) (by omega) (by omega)
        have HM := Lib.hid (gW_most (pyr 3) sq3 (j' + 1) (i + 1) n)
        have HN := Lib.hid fun h => gW_neg (pyr 3) sq3 (j' + 1) i (n - pyr 3 ((j' : Int) + 1)) h
        have HI2 := Lib.hid fun h1 h2 w => IH.out (n - pyr 3 ((j' : Int) + 1)) (j' + 1) w (by omega) h1 h2 (by omega)
        have HHT := Lib.hid (gtop_hit (pyr 3) i n j')
        have HMS := Lib.hid (gtop_miss (pyr 3) i n j')
        have HG : Hid (gtop (pyr 3) i n K = j' + 1 → gfl (pyr 3) (i + 1) n K = ((j' : Int) + 1) :: gfl (pyr 3) i (n - pyr 3 ((j' : Int) + 1)) (j' + 1)) := Lib.hid fun h => by rw [gfl, h]; push_cast; rfl
        have hlf : (gfl (pyr 3) i (n - pyr 3 ((j' : Int) + 1)) (j' + 1)).length ≤ 5 := by rw [gfl_len]; omega
        rw [hjc] at HM HI2
        clear hjc hj0
        generalize pyr 3 ((j' : Int) + 1) = p at *
        have m0 : 0 ≤ p * ((i : Int) + 1) := Int.mul_nonneg q0 (by omega)
        have m1 : p * ((i : Int) + 1) ≤ 4960 * 5 := Int.mul_le_mul q1 hiI (by omega) (by omega)
        by_cases hbr : p * ((i : Int) + 1) < n
        · have HE : Hid (uo (i + 1) n K = false ∧ ul (i + 1) n K = []) := Lib.hid (ul_no (by
            rw [← HQ.out.2]
            intro h2
            have h3 := HM.out h2
            push_cast at h3
            omega))
          have hge : decide (n ≤ p * ((i : Int) + 1)) = false := by simp; omega
          go_wp2_with (go_at_call 39; refine (HPY.out _).mono ?_; rintro e w' ⟨rfl, rfl⟩)
          go_ret2
          rw [HE.out.1, HE.out.2]
          exact resI_nil hb
        · have hge : n ≤ p * ((i : Int) + 1) := by omega
          clear hbr
          by_cases hl : 0 ≤ n - p
          · have HC := Lib.hid (HI2.out hl (by omega))
            by_cases hD : 0 < gW (pyr 3) (j' + 1) i (n - p)
            · have HU := Lib.hid (ul_yes hD)
              have HF : Hid (uo (i + 1) n K = true ∧ ul (i + 1) n K = ((j' : Int) + 1) :: gfl (pyr 3) i (n - p) (j' + 1)) := by
                have h7 := HHT.out hD
                have h8 : 0 < gW (pyr 3) K (i + 1) n := by rw [← HQ.out.2]; exact h7.2
                refine Lib.hid ⟨(ul_yes h8).1, ?_⟩
                rw [(ul_yes h8).2, HG.out (by rw [← HQ.out.1]; exact h7.1)]
              clear hD
              go_wp2_with (first
                | (go_at_call 39; refine (HPY.out _).mono ?_; rintro e w' ⟨rfl, rfl⟩)
                | (go_at_call 34; refine (HC.out _).mono ?_; rw [HU.out.1, HU.out.2]; rintro e w2 ⟨A, c, rfl, hown, hb2⟩; have HO := Lib.hid hown; clear hown)
                | (at_builtin; refine wpList_append_src rfl _ _ 25 rfl w.heap.size 3 i0 (.int .i64 0) 8 Tryd.underlying25 hi0 hz0 hz1 hz2 rfl (.slice (some ⟨w2.heap.size, 0, none⟩) 1 1) 1 [.int .i64 ((j' : Int) + 1)] rfl (World.ownsRow_lit w2 #[.int .i64 ((j' : Int) + 1)] 1 (Nat.le_trans hb.size hb2.size) (by unfold maxLen; omega) rfl) A _ c (i64s (gfl (pyr 3) i (n - p) (j' + 1))) rfl (by simp) w2.heap.size (HO.out.rd.below ((Below.refl _ _).alloc (Nat.le_refl _) _) (Nat.le_refl _)) (i64s_one _) (by unfold maxLen; omega) (by omega) (by have := hb.size; have := hb2.size; simp; omega) ?_; intro v' w3 hown' hgrow))
              · have hb3 : Below w.heap.size w w3 := ((hb.trans (hb2.mono hb.size)).alloc (Nat.le_trans hb.size hb2.size) _).grown hgrow (by have := hb.size; have := hb2.size; simp; omega) fun g hg => by
                  have := hb.size
                  have := hb2.size
                  simp [Value.ownBlock] at hg
                  omega
                have hlen : 1 + (gfl (pyr 3) i (n - p) (j' + 1)).length = (((j' : Int) + 1) :: gfl (pyr 3) i (n - p) (j' + 1)).length := by simp; omega
                obtain ⟨A', c', rfl⟩ := row_form hown'
                go_ret2
                rw [HF.out.1, HF.out.2]
                refine ⟨A', c', ?_, own_of_row hown', hb3⟩
                rw [← hlen]
                rfl
            · have HM2 := HMS.out hD
              have HU := Lib.hid (ul_no hD)
              have HQ2 : Hid (gtop (pyr 3) i n j' = gtop (pyr 3) i n K ∧ gW (pyr 3) j' (i + 1) n = gW (pyr 3) K (i + 1) n) := Lib.hid ⟨by rw [← HM2.1]; exact HQ.out.1, by rw [← HM2.2]; exact HQ.out.2⟩
              clear hD HM2
              go_wp2_with (first
                | (go_at_call 39; refine (HPY.out _).mono ?_; rintro e w' ⟨rfl, rfl⟩)
                | (go_at_call 34; refine (HC.out _).mono ?_; rw [HU.out.1, HU.out.2]; rintro e w2 ⟨A, c, rfl, hown, hb2⟩))
              go_roundw
              case rel => exact ⟨j', by omega, by go_num, HQ2, hb.trans (hb2.mono hb.size)⟩
              case measure => simp [intOf] <;> omega
          · have hl2 : n - p < 0 := by omega
            have HM2 := HMS.out (by rw [HN.out hl2]; omega)
            have HQ2 : Hid (gtop (pyr 3) i n j' = gtop (pyr 3) i n K ∧ gW (pyr 3) j' (i + 1) n = gW (pyr 3) K (i + 1) n) := Lib.hid ⟨by rw [← HM2.1]; exact HQ.out.1, by rw [← HM2.2]; exact HQ.out.2⟩
            clear HM2
            go_wp2_with (first
              | (go_at_call 39; refine (HPY.out _).mono ?_; rintro e w' ⟨rfl, rfl⟩))
            go_roundw
            case rel => exact ⟨j', by omega, by go_num, HQ2, hb⟩
            case measure => simp [intOf] <;> omega

/-- The tetrahedra of a number: the first list of the fewest. -/
noncomputable def tl (n : Int) : List Int := gfl (pyr 3) (gNeed (pyr 3) n) n 30
set_option maxHeartbeats 1600000 in
theorem soFewest_any (N : Nat) (w : World) (hN : N ≤ 1500) :
    Calls Tryd.prog 22 #[.int .i64 N] w fun e w' => (∃ A c, e = .returned (.slice A (gNeed (pyr 3) N) c) ∧ Own w' w.heap.size w'.heap.size A (i64s (tl N))) ∧ Below w.heap.size w w' := by
  have hn := need_tets N (by omega) (by omega)
  have his := gNeed_is (pyr 3) sq3 N (by omega)
  have hl30 := tet_lst N (by omega) (by omega)
  have HR := Lib.hid fun c => gRep_pl (pyr 3) sq3 c N (by omega) 30 (by omega)
  have HF := Lib.hid fun (i : Nat) w hi => soFirst_any i N 30 w hi (by omega) (by omega) (by omega)
  have HY : Hid (uo (gNeed (pyr 3) N) N 30 = true ∧ ul (gNeed (pyr 3) N) N 30 = tl N) := Lib.hid (ul_yes ((HR.out _).1 his.1))
  have HNO : Hid (∀ d, d < gNeed (pyr 3) N → uo d N 30 = false ∧ ul d N 30 = []) := Lib.hid fun d hd => ul_no fun h => his.2 d hd ((HR.out d).2 h)
  have HLN := Lib.hid (gfl_len (pyr 3) (gNeed (pyr 3) N) N 30)
  have HTL : Hid ((tl N).length = gNeed (pyr 3) N) := HLN
  clear his HR hl30
  generalize gNeed (pyr 3) N = D at *
  generalize tl N = L at *
  go_enter Tryd.func22, Tryd.ntmps22
  go_wp2
  go_loopw [3] (fun k wr => ∃ j : Nat, j ≤ D ∧ k = .int .i64 j ∧ Below w.heap.size w wr) (fun k _ => D - (intOf k).toNat)
  case atStart => exact ⟨0, by omega, rfl, Below.refl _ _⟩
  case round =>
    obtain ⟨j, hj, rfl, hb⟩ := hrel
    by_cases hlt : j < D
    · have HN := Lib.hid (HNO.out j hlt)
      go_wp2_with (go_at_call 34; refine (HF.out _ _ (by omega)).mono ?_; rw [HN.out.1, HN.out.2]; rintro e w2 ⟨A, c, rfl, hown, hb2⟩)
      go_roundw
      case rel => exact ⟨j + 1, by omega, by go_num, hb.trans (hb2.mono hb.size)⟩
      case measure => simp [intOf] <;> omega
    · obtain rfl : j = D := by omega
      go_wp2_with (go_at_call 34; refine (HF.out _ _ (by omega)).mono ?_; rw [HY.out.1, HY.out.2]; rintro e w2 ⟨A, c, rfl, hown, hb2⟩)
      go_ret
      exact ⟨⟨A, c, by rw [← HTL.out]; rfl, hown.wide hb.size (Nat.le_refl _)⟩, hb.trans (hb2.mono hb.size)⟩
theorem spec_FewestTetrahedra_no (n : Int) (w : World) (h : n < 0 ∨ 1500 < n) :
    Calls Tryd.prog 10 #[.int .i64 n] w fun e w' => e = .returned (.tuple #[.int .i64 0, .bool false]) ∧ Below w.heap.size w w' := by
  have H : Hid (n < 0 ∨ 1500 < n) := Lib.hid (by omega)
  clear h
  go_enter Tryd.func10, Tryd.ntmps10
  go_wp2_with (first
    | (go_at_call 21; refine (soSplit_no _ _ H.out).mono ?_; rintro e w' ⟨rfl, rfl⟩))
  go_ret2
  exact ⟨rfl, Below.refl _ _⟩
theorem impl_FewestTetrahedra_no (n : Int) (w : World) (h : n < 0 ∨ 1500 < n) :
    Calls Tryd.prog 9 #[.int .i64 n] w fun e w' => e = .returned (.tuple #[.int .i64 0, .bool false]) ∧ Below w.heap.size w w' := by
  have H : Hid (n < 0 ∨ 1500 < n) := Lib.hid (by omega)
  clear h
  go_enter Tryd.func9, Tryd.ntmps9
  go_wp2_with (first
    | (go_at_call 17; refine (isSplit_no _ _ H.out).mono ?_; rintro e w' ⟨rfl, rfl⟩))
  go_ret2
  exact ⟨rfl, Below.refl _ _⟩
theorem spec_FirstTetrahedra_no (n : Int) (w : World) (h : n < 0 ∨ 1500 < n) :
    Calls Tryd.prog 8 #[.int .i64 n] w (ResI false [] w) := by
  have H : Hid (n < 0 ∨ 1500 < n) := Lib.hid (by omega)
  clear h
  go_enter Tryd.func8, Tryd.ntmps8
  go_wp2_with (first
    | (go_at_call 21; refine (soSplit_no _ _ H.out).mono ?_; rintro e w' ⟨rfl, rfl⟩))
  go_ret2
  exact resI_nil (Below.refl _ _)
theorem impl_FirstTetrahedra_no (n : Int) (w : World) (h : n < 0 ∨ 1500 < n) :
    Calls Tryd.prog 7 #[.int .i64 n] w (ResI false [] w) := by
  have H : Hid (n < 0 ∨ 1500 < n) := Lib.hid (by omega)
  clear h
  go_enter Tryd.func7, Tryd.ntmps7
  go_wp2_with (first
    | (go_at_call 17; refine (isSplit_no _ _ H.out).mono ?_; rintro e w' ⟨rfl, rfl⟩))
  go_ret2
  exact resI_nil (Below.refl _ _)
theorem needsU_any (N base0 g0 c0 : Nat) (w : World) (hN : N ≤ 1500) (hnb : Row w base0 g0 ((lst (pyr 3) N).toNat + 1) c0 (fun j => pyr 3 (j : Int))) (hT : TabAt 0 Lib.deBruijn32tab w) (hg : 0 < w.heap.size) :
    Calls Tryd.prog 19 #[.slice (some ⟨g0, 0, none⟩) ((lst (pyr 3) N).toNat + 1) c0, .int .i64 N] w fun e w' => (∃ b, e = .returned (.map (some b)) ∧ w.heap.size ≤ b ∧ w'.ownsMap Tryd.prog 3 (plainElem Tryd.prog 3) b (N + 1) (gND (pyr 3) (N + 1))) ∧ Below w.heap.size w w' :=
  gneedsUpTo_any (pyr 3) N base0 g0 c0 w sq3 (by have := tet_lst N (by omega) (by omega); omega) (fun m hm => by have := need_tets m (by omega) (by omega); omega) (by omega) hnb hT hg
theorem spec_FewestTetrahedra_yes (N : Nat) (w : World) (hN : N ≤ 1500) :
    Calls Tryd.prog 10 #[.int .i64 N] w fun e w' => e = .returned (.tuple #[.int .i64 (gNeed (pyr 3) N), .bool true]) ∧ Below w.heap.size w w' := by
  have i1 : (0 : Int) ≤ (N : Int) := by omega
  have i2 : (N : Int) ≤ 1500 := by omega
  have HF := Lib.hid fun w => soFewest_any N w hN
  go_enter Tryd.func10, Tryd.ntmps10
  go_wp2_with (first
    | (go_at_call 21; refine (soSplit_yes _ _ i1 i2).mono ?_; rintro e w' ⟨rfl, rfl⟩)
    | (go_at_call 22; refine (HF.out _).mono ?_; rintro e w1 ⟨⟨A, c, rfl, ho⟩, hb⟩))
  go_ret2
  exact ⟨rfl, hb⟩
theorem impl_FewestTetrahedra_yes (N : Nat) (w : World) (hN : N ≤ 1500) (ht : Tabd w) :
    Calls Tryd.prog 9 #[.int .i64 N] w fun e w' => e = .returned (.tuple #[.int .i64 (gNeed (pyr 3) N), .bool true]) ∧ Below w.heap.size w w' := by
  have i1 : (0 : Int) ≤ (N : Int) := by omega
  have i2 : (N : Int) ≤ 1500 := by omega
  have p0 := lst_nn sq3 N i1
  have p1 := tet_lst N i1 i2
  have HT := Lib.hid fun w => tetras_any N w hN
  have HU := Lib.hid fun (base0 g0 c0 : Nat) (w : World) hnb ht hg => needsU_any N base0 g0 c0 w hN hnb ht hg
  have HTB := Lib.hid ht
  clear p0 p1
  generalize (lst (pyr 3) N).toNat = K at *
  go_enter Tryd.func9, Tryd.ntmps9
  go_wp2_with (first
    | (go_at_call 17; refine (isSplit_yes _ _ i1 i2).mono ?_; rintro e w' ⟨rfl, rfl⟩)
    | (go_at_call 18; refine (HT.out _).mono ?_; rintro e w0 ⟨⟨g0, c0, rfl, hr0⟩, hb0⟩; have HR0 := Lib.hid hr0; clear hr0)
    | (go_at_call 19; refine (HU.out _ _ _ _ HR0.out (HTB.out.below hb0).tab (HTB.out.below hb0).lt).mono ?_; rintro e w1 ⟨⟨b, rfl, hle, hm⟩, hb⟩; have HM := Lib.hid hm; clear hm)
    | (at_lookup; refine wpList_lookup_own_int _ rfl _ _ 37 rfl 3 3 .i64 keyI Tryd.underlying37 Tryd.underlying3 (zeroI _) b (N + 1) _ rfl HM.out _ _ rfl (keyOf_int_mk Tryd.underlying3 (wf64 _ (by omega) (by omega))) ?_; intro c hat hwc; have hce := glook_need (pyr 3) (N + 1) N (by omega) hat; have HCE := Lib.hid hce; clear hat hwc hce))
  go_ret2
  rw [← HCE.out]
  exact ⟨rfl, hb0.trans (hb.mono hb0.size)⟩
theorem spec_FirstTetrahedra_yes (N : Nat) (w : World) (hN : N ≤ 1500) :
    Calls Tryd.prog 8 #[.int .i64 N] w (ResI true (tl N) w) := by
  have i1 : (0 : Int) ≤ (N : Int) := by omega
  have i2 : (N : Int) ≤ 1500 := by omega
  have HF := Lib.hid fun w => soFewest_any N w hN
  have HL : Hid ((tl N).length = gNeed (pyr 3) N) := Lib.hid (gfl_len _ _ _ _)
  go_enter Tryd.func8, Tryd.ntmps8
  go_wp2_with (first
    | (go_at_call 21; refine (soSplit_yes _ _ i1 i2).mono ?_; rintro e w' ⟨rfl, rfl⟩)
    | (go_at_call 22; refine (HF.out _).mono ?_; rintro e w1 ⟨⟨A, c, rfl, ho⟩, hb⟩))
  go_ret2
  exact ⟨A, c, by rw [HL.out]; rfl, ho, hb⟩
theorem impl_FirstTetrahedra_yes (N : Nat) (w : World) (hN : N ≤ 1500) (ht : Tabd w) :
    Calls Tryd.prog 7 #[.int .i64 N] w (ResI true (tl N) w) := by
  have i1 : (0 : Int) ≤ (N : Int) := by omega
  have i2 : (N : Int) ≤ 1500 := by omega
  have p0 := lst_nn sq3 N i1
  have p1 := tet_lst N i1 i2
  have HT := Lib.hid fun w => tetras_any N w hN
  have HU := Lib.hid fun (base0 g0 c0 : Nat) (w : World) hnb ht hg => needsU_any N base0 g0 c0 w hN hnb ht hg
  have hne := need_tets N i1 i2
  have hE : tl N = gfp (pyr 3) (gNeed (pyr 3) N) N (lst (pyr 3) N).toNat := by
    unfold tl
    rw [gfl_down (pyr 3) sq3 _ N i1 30 (by omega)]
    exact gfl_fp (pyr 3) sq3 _ N _ i1 rfl fun _ => gnone_pl (pyr 3) N _ _ sq3 i1 (by omega)
  have HL : Hid ((tl N).length = gNeed (pyr 3) N) := Lib.hid (gfl_len _ _ _ _)
  have HP := Lib.hid fun (b base0 g0 c0 : Nat) (w : World) hnb hm => gfirstPlaces_any (pyr 3) N (gNeed (pyr 3) N) b base0 g0 c0 w sq3 (by omega) (by omega) hnb (by omega) (fun k h0 h7 => by
    have a := sq3.le h0 h7
    have c : pyr 3 77 = 79079 := by decide
    omega) (Nat.le_refl _) hm
  rw [← hE] at HP
  have HTB := Lib.hid ht
  clear p0 p1 hE
  generalize (lst (pyr 3) N).toNat = K at *
  generalize tl N = L at *
  go_enter Tryd.func7, Tryd.ntmps7
  go_wp2_with (first
    | (go_at_call 17; refine (isSplit_yes _ _ i1 i2).mono ?_; rintro e w' ⟨rfl, rfl⟩)
    | (go_at_call 18; refine (HT.out _).mono ?_; rintro e w0 ⟨⟨g0, c0, rfl, hr0⟩, hb0⟩; have HR0 := Lib.hid hr0; clear hr0)
    | (go_at_call 19; refine (HU.out _ _ _ _ HR0.out (HTB.out.below hb0).tab (HTB.out.below hb0).lt).mono ?_; rintro e w1 ⟨⟨b, rfl, hle, hm⟩, hb⟩; have HM := Lib.hid hm; have HR1 := Lib.hid (HR0.out.below hb (Nat.le_refl _)); clear hm)
    | (at_lookup; refine wpList_lookup_own_int _ rfl _ _ 37 rfl 3 3 .i64 keyI Tryd.underlying37 Tryd.underlying3 (zeroI _) b (N + 1) _ rfl HM.out _ _ rfl (keyOf_int_mk Tryd.underlying3 (wf64 _ (by omega) (by omega))) ?_; intro c hat hwc; have hce := glook_need (pyr 3) (N + 1) N (by omega) hat; subst hce; clear hat hwc)
    | (go_at_call 20; refine (HP.out _ _ _ _ _ HR1.out HM.out).mono ?_; rintro e w2 ⟨⟨A, c, rfl, ho⟩, hb2⟩))
  go_ret2
  have hs1 : w.heap.size ≤ w1.heap.size := Nat.le_trans hb0.size hb.size
  exact ⟨A, c, by rw [HL.out]; rfl, ho.wide hs1 (Nat.le_refl _), (hb0.trans (hb.mono hb0.size)).trans (hb2.mono hs1)⟩
end Go.Proofs.YtejjgpmdnnogbaaDoor
