/- Chapter 7: the specification's pictures of shapes. -/
import Derived.Test.YtbcgidgjdedkiaaDtR
namespace Go.Proofs.Ytbcgidgjdedkiaa
open Go.ChangeShapes Go.WideShapes Go.ChangeAt Go.RowKit

theorem dtMost_any (a b : Int) (w : World) :
    Calls Try.prog 36 #[.int .i64 a, .int .i64 b] w fun e w' => e = .returned (.int .i64 (max a b)) ∧ w = w' := by
  by_cases h : b < a
  · have hq : max a b = a := by omega
    rw [hq]
    go_enter Try.func36, Try.ntmps36
    go_wp2
    go_ret
    exact ⟨rfl, rfl⟩
  · have hq : max a b = b := by omega
    rw [hq]
    go_enter Try.func36, Try.ntmps36
    go_wp2
    go_ret
    exact ⟨rfl, rfl⟩
/-- How far from 0. -/
def far0 (a : Int) : Int := max a (-a)
theorem dtAbs_any (a : Int) (w : World) (h0 : -1000 ≤ a) (h1 : a ≤ 1000) :
    Calls Try.prog 30 #[.int .i64 a] w fun e w' => e = .returned (.int .i64 (far0 a)) ∧ w = w' := by
  go_enter Try.func30, Try.ntmps30
  go_wp2_with (go_at_call 36; refine (dtMost_any _ _ _).mono ?_; rintro e w' ⟨rfl, rfl⟩)
  go_ret
  exact ⟨rfl, rfl⟩
theorem far0_bds (a : Int) (h0 : -1000 ≤ a) (h1 : a ≤ 1000) : 0 ≤ far0 a ∧ far0 a ≤ 1000 := by unfold far0; omega
/-- Whether a place of a shape has a dot, by its kind. -/
def shp (kind : Nat) (k : Nat) (x y : Int) : Bool :=
  if kind = 116 then decide (x ≤ y)
  else if kind = 103 then decide (x = (k : Int) - 1) || decide (y = (k : Int) - 1)
  else if kind = 100 then decide (far0 (x - (k : Int) / 2) + far0 (y - (k : Int) / 2) ≤ (k : Int) / 2)
  else if kind = 104 then decide (far0 (x - (k : Int) / 2 + y - (k : Int) / 2) ≤ (k : Int) / 2)
  else true
def shD (kind k i : Nat) : Bool := shp kind k ((i % k : Nat) : Int) ((i / k : Nat) : Int)
theorem shD_at (kind k x y : Nat) (h : x < k) : shD kind k (y * k + x) = shp kind k (x : Int) (y : Int) := by
  unfold shD
  rw [Nat.mul_comm, Nat.mul_add_mod, Nat.mod_eq_of_lt h, Nat.mul_add_div (by omega), Nat.div_eq_of_lt h, Nat.add_zero]
theorem app_bool {ops : Array Oper} {rest : List Oper} {o : Oper} {a : Act} {Q : Exit → Act → World → Prop} (base : Nat) (w : World) (hgd : o.guard = none) (s x : Operand)
    (ho : o.op = .call { callee := .builtin .append, args := #[s, x], argTypes := #[30, 30] }) (v : Value) (d : Nat → Bool) (n : Nat) (hs : a.eval s = v) (hG : w.ownsRow base 4 1 v n (tbs d n)) (hB : base ≤ w.heap.size) (z : Bool)
    (hx : a.eval x = .slice (some ⟨w.heap.size, 0, none⟩) 1 1) (hz : z = d n) (hl : n ≤ 100000)
    (h : ∀ v' w', w'.ownsRow base 4 1 v' (n + 1) (tbs d (n + 1)) → w.grownBy w' v.ownBlock → wpList Try.prog ops Q rest (a.put o.dst v') w') : wpList Try.prog ops Q (o :: rest) a (w.alloc (.cells #[.bool z] 4)) := by
  obtain ⟨i0, hi0, hz0, hz1, hz2⟩ := info_parts infoBool
  refine wpList_append_own _ hgd s x 30 ho base 4 i0 (.bool false) 1 1 Try.underlying30 hi0 hz0 hz1 hz2 rfl (by decide) v _ _ hs (hG.alloc _) ⟨w.heap.size, 0, none⟩ 1 1 [.bool z] hx rfl ?c1 ?c2 ?c3 ?c4 ?c5 ?_
  case c1 =>
    intro j u hj
    match j, hj with
    | 0, hj => simp at hj; subst hj; simp [Addr.add]
  case c2 => intro u hu; simp at hu; subst hu; rfl
  case c3 => unfold maxLen; omega
  case c4 => omega
  case c5 => simp; omega
  · intro v' w4 hown' hgrow _
    refine h v' w4 ?_ (grownBy_trans (World.grownBy_alloc w _ _) hgrow)
    rw [tbs_succ, ← hz]
    exact hown'
set_option maxRecDepth 4000 in
set_option maxHeartbeats 1600000 in
theorem doShape_t (k n : Nat) (w : World) (hn : n = k * k) (h0 : 1 ≤ k) (h1 : k ≤ 24) :
    Calls Try.prog 19 #[.int .i64 (k : Int), .int .u8 116] w fun e w' => e = .returned (.string (bt (gText k k (shD 116 k)))) ∧ Below w.heap.size w w' := by
  have hn2 : n ≤ 576 := by
    rw [hn]
    exact Nat.mul_le_mul (n₁ := k) (n₂ := 24) (m₁ := k) (m₂ := 24) h1 h1
  have hn0 : 1 ≤ n := by
    rw [hn]
    exact Nat.mul_pos h0 h0
  have HA := Lib.hid fun x y (h : x < k) => shD_at 116 k x y h
  have HMK := Lib.hid fun g c lo w' (b : Marks w' lo g n c (shD 116 k)) => make_of b hn h0 h1 h0 h1
  have HS : Hid (∀ x y, shp 116 k x y = _) := Lib.hid fun x y => rfl
  have HSM := Lib.hid fun y => Nat.succ_mul y k
  have HLE : Hid (∀ y, y < k → y * k + k ≤ n) := Lib.hid fun y hy => by rw [hn, ← Nat.succ_mul]; exact Nat.mul_le_mul_right k hy
  have HN := Lib.hid hn
  clear hn
  generalize shD 116 k = d at *
  go_enter Try.func19, Try.ntmps19
  go_wp2
  go_loopw [5, 7] (fun v i wr => ∃ y : Nat, y ≤ k ∧ i = .int .i64 (y : Int) ∧ Hid (wr.ownsRow w.heap.size 4 1 v (y * k) (tbs d (y * k))) ∧ Hid (Below w.heap.size w wr)) (fun _ i _ => k - (intOf i).toNat)
  case atStart => exact ⟨0, by omega, by simp, Lib.hid (by rw [Nat.zero_mul]; exact World.ownsRow_nil _ _ _ _), Lib.hid (Below.refl _ _)⟩
  case round =>
    obtain ⟨y, hy, rfl, hown, hb⟩ := hrel
    by_cases hlt : y < k
    · have hlt2 : (y : Int) < (k : Int) := by omega
      have hle := HLE.out y hlt
      have hsm := Lib.hid (HSM.out y)
      have HAY := Lib.hid fun x h => HA.out x y h
      generalize y * k = M at *
      go_wp2
      go_loopw [5, 8] (fun v i w2 => ∃ x : Nat, x ≤ k ∧ i = .int .i64 (x : Int) ∧ Hid (w2.ownsRow w.heap.size 4 1 v (M + x) (tbs d (M + x))) ∧ Hid (Below w.heap.size w w2)) (fun _ i _ => k - (intOf i).toNat)
      case atStart => exact ⟨0, by omega, by simp, hown, hb⟩
      case round =>
        clear hown hb
        obtain ⟨x, hx, rfl, hown, hb⟩ := hrel
        by_cases hxl : x < k
        · have hxl2 : (x : Int) < (k : Int) := by omega
          have hda := Lib.hid (HAY.out x hxl)
          have hMx : M + x ≤ 100000 := by omega
          have hS := hb.out.size
          go_wp2_with (first
            | (at_builtin; refine app_bool w.heap.size _ rfl _ _ rfl _ d (M + x) rfl hown.out hS _ rfl ?hz hMx ?_; rotate_left; intro v' w4 hG4 hg4))
          case hz =>
            rw [hda.out]
            simp [shp]
          all_goals
            have HB4 : Hid (Below w.heap.size w w4) := Lib.hid (hb.out.grown hg4 hS fun g hg => (hown.out.lt g hg).1)
            have HG4 : Hid (w4.ownsRow w.heap.size 4 1 v' (M + (x + 1)) (tbs d (M + (x + 1)))) := Lib.hid hG4
            clear hown hb hG4 hg4 hS
            go_wp2
            go_roundw
            case rel => exact ⟨x + 1, by omega, by go_num, HG4, HB4⟩
            case measure => simp [intOf]; omega
        · obtain rfl : x = k := by omega
          have HO : Hid (wr.ownsRow w.heap.size 4 1 u5 ((y + 1) * x) (tbs d ((y + 1) * x))) := Lib.hid (by rw [hsm.out]; exact hown.out)
          clear hown
          go_wp2
          go_roundw
          case rel => exact ⟨y + 1, by omega, by go_num, HO, hb⟩
          case measure => simp [intOf]; omega
    · obtain rfl : y = k := by omega
      have hown2 : wr.ownsRow w.heap.size 4 1 u5 n (tbs d n) := by rw [HN.out]; exact hown.out
      obtain ⟨g2, c2, rfl, hc2, hcm, hr⟩ := marks_of_row hown2 hn0
      have HK := Lib.hid (HMK.out g2 c2 _ _ hr)
      clear hown hown2 hr hc2 hcm
      go_wp2_with (go_at_call 31; refine HK.out.mono ?_; rintro e w4 ⟨rfl, hb4⟩)
      go_ret
      exact ⟨rfl, hb.out.trans (below_weak hb4 hb.out.size)⟩
set_option maxRecDepth 4000 in
set_option maxHeartbeats 1600000 in
theorem doShape_s (k n : Nat) (w : World) (hn : n = k * k) (h0 : 1 ≤ k) (h1 : k ≤ 24) :
    Calls Try.prog 19 #[.int .i64 (k : Int), .int .u8 115] w fun e w' => e = .returned (.string (bt (gText k k (shD 115 k)))) ∧ Below w.heap.size w w' := by
  have hn2 : n ≤ 576 := by
    rw [hn]
    exact Nat.mul_le_mul (n₁ := k) (n₂ := 24) (m₁ := k) (m₂ := 24) h1 h1
  have hn0 : 1 ≤ n := by
    rw [hn]
    exact Nat.mul_pos h0 h0
  have HA := Lib.hid fun x y (h : x < k) => shD_at 115 k x y h
  have HMK := Lib.hid fun g c lo w' (b : Marks w' lo g n c (shD 115 k)) => make_of b hn h0 h1 h0 h1
  have HS : Hid (∀ x y, shp 115 k x y = _) := Lib.hid fun x y => rfl
  have HSM := Lib.hid fun y => Nat.succ_mul y k
  have HLE : Hid (∀ y, y < k → y * k + k ≤ n) := Lib.hid fun y hy => by rw [hn, ← Nat.succ_mul]; exact Nat.mul_le_mul_right k hy
  have HN := Lib.hid hn
  clear hn
  generalize shD 115 k = d at *
  go_enter Try.func19, Try.ntmps19
  go_wp2
  go_loopw [5, 7] (fun v i wr => ∃ y : Nat, y ≤ k ∧ i = .int .i64 (y : Int) ∧ Hid (wr.ownsRow w.heap.size 4 1 v (y * k) (tbs d (y * k))) ∧ Hid (Below w.heap.size w wr)) (fun _ i _ => k - (intOf i).toNat)
  case atStart => exact ⟨0, by omega, by simp, Lib.hid (by rw [Nat.zero_mul]; exact World.ownsRow_nil _ _ _ _), Lib.hid (Below.refl _ _)⟩
  case round =>
    obtain ⟨y, hy, rfl, hown, hb⟩ := hrel
    by_cases hlt : y < k
    · have hlt2 : (y : Int) < (k : Int) := by omega
      have hle := HLE.out y hlt
      have hsm := Lib.hid (HSM.out y)
      have HAY := Lib.hid fun x h => HA.out x y h
      generalize y * k = M at *
      go_wp2
      go_loopw [5, 8] (fun v i w2 => ∃ x : Nat, x ≤ k ∧ i = .int .i64 (x : Int) ∧ Hid (w2.ownsRow w.heap.size 4 1 v (M + x) (tbs d (M + x))) ∧ Hid (Below w.heap.size w w2)) (fun _ i _ => k - (intOf i).toNat)
      case atStart => exact ⟨0, by omega, by simp, hown, hb⟩
      case round =>
        clear hown hb
        obtain ⟨x, hx, rfl, hown, hb⟩ := hrel
        by_cases hxl : x < k
        · have hxl2 : (x : Int) < (k : Int) := by omega
          have hda := Lib.hid (HAY.out x hxl)
          have hMx : M + x ≤ 100000 := by omega
          have hS := hb.out.size
          go_wp2_with (first
            | (at_builtin; refine app_bool w.heap.size _ rfl _ _ rfl _ d (M + x) rfl hown.out hS _ rfl ?hz hMx ?_; rotate_left; intro v' w4 hG4 hg4))
          case hz =>
            rw [hda.out]
            simp [shp]
          all_goals
            have HB4 : Hid (Below w.heap.size w w4) := Lib.hid (hb.out.grown hg4 hS fun g hg => (hown.out.lt g hg).1)
            have HG4 : Hid (w4.ownsRow w.heap.size 4 1 v' (M + (x + 1)) (tbs d (M + (x + 1)))) := Lib.hid hG4
            clear hown hb hG4 hg4 hS
            go_wp2
            go_roundw
            case rel => exact ⟨x + 1, by omega, by go_num, HG4, HB4⟩
            case measure => simp [intOf]; omega
        · obtain rfl : x = k := by omega
          have HO : Hid (wr.ownsRow w.heap.size 4 1 u5 ((y + 1) * x) (tbs d ((y + 1) * x))) := Lib.hid (by rw [hsm.out]; exact hown.out)
          clear hown
          go_wp2
          go_roundw
          case rel => exact ⟨y + 1, by omega, by go_num, HO, hb⟩
          case measure => simp [intOf]; omega
    · obtain rfl : y = k := by omega
      have hown2 : wr.ownsRow w.heap.size 4 1 u5 n (tbs d n) := by rw [HN.out]; exact hown.out
      obtain ⟨g2, c2, rfl, hc2, hcm, hr⟩ := marks_of_row hown2 hn0
      have HK := Lib.hid (HMK.out g2 c2 _ _ hr)
      clear hown hown2 hr hc2 hcm
      go_wp2_with (go_at_call 31; refine HK.out.mono ?_; rintro e w4 ⟨rfl, hb4⟩)
      go_ret
      exact ⟨rfl, hb.out.trans (below_weak hb4 hb.out.size)⟩
set_option maxRecDepth 4000 in
set_option maxHeartbeats 1600000 in
theorem doShape_g (k n : Nat) (w : World) (hn : n = k * k) (h0 : 1 ≤ k) (h1 : k ≤ 24) :
    Calls Try.prog 19 #[.int .i64 (k : Int), .int .u8 103] w fun e w' => e = .returned (.string (bt (gText k k (shD 103 k)))) ∧ Below w.heap.size w w' := by
  have hn2 : n ≤ 576 := by
    rw [hn]
    exact Nat.mul_le_mul (n₁ := k) (n₂ := 24) (m₁ := k) (m₂ := 24) h1 h1
  have hn0 : 1 ≤ n := by
    rw [hn]
    exact Nat.mul_pos h0 h0
  have HA := Lib.hid fun x y (h : x < k) => shD_at 103 k x y h
  have HMK := Lib.hid fun g c lo w' (b : Marks w' lo g n c (shD 103 k)) => make_of b hn h0 h1 h0 h1
  have HS : Hid (∀ x y, shp 103 k x y = _) := Lib.hid fun x y => rfl
  have HSM := Lib.hid fun y => Nat.succ_mul y k
  have HLE : Hid (∀ y, y < k → y * k + k ≤ n) := Lib.hid fun y hy => by rw [hn, ← Nat.succ_mul]; exact Nat.mul_le_mul_right k hy
  have HN := Lib.hid hn
  clear hn
  generalize shD 103 k = d at *
  go_enter Try.func19, Try.ntmps19
  go_wp2
  go_loopw [5, 7] (fun v i wr => ∃ y : Nat, y ≤ k ∧ i = .int .i64 (y : Int) ∧ Hid (wr.ownsRow w.heap.size 4 1 v (y * k) (tbs d (y * k))) ∧ Hid (Below w.heap.size w wr)) (fun _ i _ => k - (intOf i).toNat)
  case atStart => exact ⟨0, by omega, by simp, Lib.hid (by rw [Nat.zero_mul]; exact World.ownsRow_nil _ _ _ _), Lib.hid (Below.refl _ _)⟩
  case round =>
    obtain ⟨y, hy, rfl, hown, hb⟩ := hrel
    by_cases hlt : y < k
    · have hlt2 : (y : Int) < (k : Int) := by omega
      have hle := HLE.out y hlt
      have hsm := Lib.hid (HSM.out y)
      have HAY := Lib.hid fun x h => HA.out x y h
      generalize y * k = M at *
      go_wp2
      go_loopw [5, 8] (fun v i w2 => ∃ x : Nat, x ≤ k ∧ i = .int .i64 (x : Int) ∧ Hid (w2.ownsRow w.heap.size 4 1 v (M + x) (tbs d (M + x))) ∧ Hid (Below w.heap.size w w2)) (fun _ i _ => k - (intOf i).toNat)
      case atStart => exact ⟨0, by omega, by simp, hown, hb⟩
      case round =>
        clear hown hb
        obtain ⟨x, hx, rfl, hown, hb⟩ := hrel
        by_cases hxl : x < k
        · have hxl2 : (x : Int) < (k : Int) := by omega
          have hda := Lib.hid (HAY.out x hxl)
          have hMx : M + x ≤ 100000 := by omega
          by_cases hxk : (x : Int) = (k : Int) - 1
          · have hS := hb.out.size
            go_wp2_with (first
              | (at_builtin; refine app_bool w.heap.size _ rfl _ _ rfl _ d (M + x) rfl hown.out hS _ rfl ?hz hMx ?_; rotate_left; intro v' w4 hG4 hg4))
            case hz =>
              first | (rw [hda.out]; simp [shp, hxk]; done) | (rw [hda.out]; unfold shp; rw [if_neg (by decide), if_pos rfl]; rfl)
            all_goals
              have HB4 : Hid (Below w.heap.size w w4) := Lib.hid (hb.out.grown hg4 hS fun g hg => (hown.out.lt g hg).1)
              have HG4 : Hid (w4.ownsRow w.heap.size 4 1 v' (M + (x + 1)) (tbs d (M + (x + 1)))) := Lib.hid hG4
              clear hown hb hG4 hg4 hS
              go_wp2
              go_roundw
              case rel => exact ⟨x + 1, by omega, by go_num, HG4, HB4⟩
              case measure => simp [intOf]; omega
          · have hS := hb.out.size
            go_wp2_with (first
              | (at_builtin; refine app_bool w.heap.size _ rfl _ _ rfl _ d (M + x) rfl hown.out hS _ rfl ?hz hMx ?_; rotate_left; intro v' w4 hG4 hg4))
            case hz =>
              first | (rw [hda.out]; simp [shp, hxk]; done) | (rw [hda.out]; unfold shp; rw [if_neg (by decide), if_pos rfl]; rfl)
            all_goals
              have HB4 : Hid (Below w.heap.size w w4) := Lib.hid (hb.out.grown hg4 hS fun g hg => (hown.out.lt g hg).1)
              have HG4 : Hid (w4.ownsRow w.heap.size 4 1 v' (M + (x + 1)) (tbs d (M + (x + 1)))) := Lib.hid hG4
              clear hown hb hG4 hg4 hS
              go_wp2
              go_roundw
              case rel => exact ⟨x + 1, by omega, by go_num, HG4, HB4⟩
              case measure => simp [intOf]; omega
        · obtain rfl : x = k := by omega
          have HO : Hid (wr.ownsRow w.heap.size 4 1 u5 ((y + 1) * x) (tbs d ((y + 1) * x))) := Lib.hid (by rw [hsm.out]; exact hown.out)
          clear hown
          go_wp2
          go_roundw
          case rel => exact ⟨y + 1, by omega, by go_num, HO, hb⟩
          case measure => simp [intOf]; omega
    · obtain rfl : y = k := by omega
      have hown2 : wr.ownsRow w.heap.size 4 1 u5 n (tbs d n) := by rw [HN.out]; exact hown.out
      obtain ⟨g2, c2, rfl, hc2, hcm, hr⟩ := marks_of_row hown2 hn0
      have HK := Lib.hid (HMK.out g2 c2 _ _ hr)
      clear hown hown2 hr hc2 hcm
      go_wp2_with (go_at_call 31; refine HK.out.mono ?_; rintro e w4 ⟨rfl, hb4⟩)
      go_ret
      exact ⟨rfl, hb.out.trans (below_weak hb4 hb.out.size)⟩
set_option maxRecDepth 4000 in
set_option maxHeartbeats 1600000 in
theorem doShape_d (k n : Nat) (w : World) (hn : n = k * k) (h0 : 1 ≤ k) (h1 : k ≤ 24) :
    Calls Try.prog 19 #[.int .i64 (k : Int), .int .u8 100] w fun e w' => e = .returned (.string (bt (gText k k (shD 100 k)))) ∧ Below w.heap.size w w' := by
  have hn2 : n ≤ 576 := by
    rw [hn]
    exact Nat.mul_le_mul (n₁ := k) (n₂ := 24) (m₁ := k) (m₂ := 24) h1 h1
  have hn0 : 1 ≤ n := by
    rw [hn]
    exact Nat.mul_pos h0 h0
  have HA := Lib.hid fun x y (h : x < k) => shD_at 100 k x y h
  have HMK := Lib.hid fun g c lo w' (b : Marks w' lo g n c (shD 100 k)) => make_of b hn h0 h1 h0 h1
  have HS : Hid (∀ x y, shp 100 k x y = _) := Lib.hid fun x y => rfl
  have HSM := Lib.hid fun y => Nat.succ_mul y k
  have HLE : Hid (∀ y, y < k → y * k + k ≤ n) := Lib.hid fun y hy => by rw [hn, ← Nat.succ_mul]; exact Nat.mul_le_mul_right k hy
  have HN := Lib.hid hn
  clear hn
  generalize shD 100 k = d at *
  go_enter Try.func19, Try.ntmps19
  go_wp2
  go_loopw [5, 7] (fun v i wr => ∃ y : Nat, y ≤ k ∧ i = .int .i64 (y : Int) ∧ Hid (wr.ownsRow w.heap.size 4 1 v (y * k) (tbs d (y * k))) ∧ Hid (Below w.heap.size w wr)) (fun _ i _ => k - (intOf i).toNat)
  case atStart => exact ⟨0, by omega, by simp, Lib.hid (by rw [Nat.zero_mul]; exact World.ownsRow_nil _ _ _ _), Lib.hid (Below.refl _ _)⟩
  case round =>
    obtain ⟨y, hy, rfl, hown, hb⟩ := hrel
    by_cases hlt : y < k
    · have hlt2 : (y : Int) < (k : Int) := by omega
      have hle := HLE.out y hlt
      have hsm := Lib.hid (HSM.out y)
      have HAY := Lib.hid fun x h => HA.out x y h
      generalize y * k = M at *
      go_wp2
      go_loopw [5, 8] (fun v i w2 => ∃ x : Nat, x ≤ k ∧ i = .int .i64 (x : Int) ∧ Hid (w2.ownsRow w.heap.size 4 1 v (M + x) (tbs d (M + x))) ∧ Hid (Below w.heap.size w w2)) (fun _ i _ => k - (intOf i).toNat)
      case atStart => exact ⟨0, by omega, by simp, hown, hb⟩
      case round =>
        clear hown hb
        obtain ⟨x, hx, rfl, hown, hb⟩ := hrel
        by_cases hxl : x < k
        · have hxl2 : (x : Int) < (k : Int) := by omega
          have hda := Lib.hid (HAY.out x hxl)
          have hMx : M + x ≤ 100000 := by omega
          have f1 := far0_bds ((x : Int) - (k : Int) / 2) (by omega) (by omega)
          have f2 := far0_bds ((y : Int) - (k : Int) / 2) (by omega) (by omega)
          have hS := hb.out.size
          go_wp2_with (first
            | (at_builtin; refine app_bool w.heap.size _ rfl _ _ rfl _ d (M + x) rfl hown.out hS _ rfl ?hz hMx ?_; rotate_left; intro v' w4 hG4 hg4)
            | (go_at_call 30; refine (dtAbs_any _ _ (by omega) (by omega)).mono ?_; rintro e w3 ⟨rfl, rfl⟩))
          case hz =>
            rw [hda.out]
            simp [shp]
          all_goals
            have HB4 : Hid (Below w.heap.size w w4) := Lib.hid (hb.out.grown hg4 hS fun g hg => (hown.out.lt g hg).1)
            have HG4 : Hid (w4.ownsRow w.heap.size 4 1 v' (M + (x + 1)) (tbs d (M + (x + 1)))) := Lib.hid hG4
            clear hown hb hG4 hg4 hS
            go_wp2
            go_roundw
            case rel => exact ⟨x + 1, by omega, by go_num, HG4, HB4⟩
            case measure => simp [intOf]; omega
        · obtain rfl : x = k := by omega
          have HO : Hid (wr.ownsRow w.heap.size 4 1 u5 ((y + 1) * x) (tbs d ((y + 1) * x))) := Lib.hid (by rw [hsm.out]; exact hown.out)
          clear hown
          go_wp2
          go_roundw
          case rel => exact ⟨y + 1, by omega, by go_num, HO, hb⟩
          case measure => simp [intOf]; omega
    · obtain rfl : y = k := by omega
      have hown2 : wr.ownsRow w.heap.size 4 1 u5 n (tbs d n) := by rw [HN.out]; exact hown.out
      obtain ⟨g2, c2, rfl, hc2, hcm, hr⟩ := marks_of_row hown2 hn0
      have HK := Lib.hid (HMK.out g2 c2 _ _ hr)
      clear hown hown2 hr hc2 hcm
      go_wp2_with (go_at_call 31; refine HK.out.mono ?_; rintro e w4 ⟨rfl, hb4⟩)
      go_ret
      exact ⟨rfl, hb.out.trans (below_weak hb4 hb.out.size)⟩
set_option maxRecDepth 4000 in
set_option maxHeartbeats 1600000 in
theorem doShape_h (k n : Nat) (w : World) (hn : n = k * k) (h0 : 1 ≤ k) (h1 : k ≤ 24) :
    Calls Try.prog 19 #[.int .i64 (k : Int), .int .u8 104] w fun e w' => e = .returned (.string (bt (gText k k (shD 104 k)))) ∧ Below w.heap.size w w' := by
  have hn2 : n ≤ 576 := by
    rw [hn]
    exact Nat.mul_le_mul (n₁ := k) (n₂ := 24) (m₁ := k) (m₂ := 24) h1 h1
  have hn0 : 1 ≤ n := by
    rw [hn]
    exact Nat.mul_pos h0 h0
  have HA := Lib.hid fun x y (h : x < k) => shD_at 104 k x y h
  have HMK := Lib.hid fun g c lo w' (b : Marks w' lo g n c (shD 104 k)) => make_of b hn h0 h1 h0 h1
  have HS : Hid (∀ x y, shp 104 k x y = _) := Lib.hid fun x y => rfl
  have HSM := Lib.hid fun y => Nat.succ_mul y k
  have HLE : Hid (∀ y, y < k → y * k + k ≤ n) := Lib.hid fun y hy => by rw [hn, ← Nat.succ_mul]; exact Nat.mul_le_mul_right k hy
  have HN := Lib.hid hn
  clear hn
  generalize shD 104 k = d at *
  go_enter Try.func19, Try.ntmps19
  go_wp2
  go_loopw [5, 7] (fun v i wr => ∃ y : Nat, y ≤ k ∧ i = .int .i64 (y : Int) ∧ Hid (wr.ownsRow w.heap.size 4 1 v (y * k) (tbs d (y * k))) ∧ Hid (Below w.heap.size w wr)) (fun _ i _ => k - (intOf i).toNat)
  case atStart => exact ⟨0, by omega, by simp, Lib.hid (by rw [Nat.zero_mul]; exact World.ownsRow_nil _ _ _ _), Lib.hid (Below.refl _ _)⟩
  case round =>
    obtain ⟨y, hy, rfl, hown, hb⟩ := hrel
    by_cases hlt : y < k
    · have hlt2 : (y : Int) < (k : Int) := by omega
      have hle := HLE.out y hlt
      have hsm := Lib.hid (HSM.out y)
      have HAY := Lib.hid fun x h => HA.out x y h
      generalize y * k = M at *
      go_wp2
      go_loopw [5, 8] (fun v i w2 => ∃ x : Nat, x ≤ k ∧ i = .int .i64 (x : Int) ∧ Hid (w2.ownsRow w.heap.size 4 1 v (M + x) (tbs d (M + x))) ∧ Hid (Below w.heap.size w w2)) (fun _ i _ => k - (intOf i).toNat)
      case atStart => exact ⟨0, by omega, by simp, hown, hb⟩
      case round =>
        clear hown hb
        obtain ⟨x, hx, rfl, hown, hb⟩ := hrel
        by_cases hxl : x < k
        · have hxl2 : (x : Int) < (k : Int) := by omega
          have hda := Lib.hid (HAY.out x hxl)
          have hMx : M + x ≤ 100000 := by omega
          have hS := hb.out.size
          go_wp2_with (first
            | (at_builtin; refine app_bool w.heap.size _ rfl _ _ rfl _ d (M + x) rfl hown.out hS _ rfl ?hz hMx ?_; rotate_left; intro v' w4 hG4 hg4)
            | (go_at_call 30; refine (dtAbs_any _ _ (by omega) (by omega)).mono ?_; rintro e w3 ⟨rfl, rfl⟩))
          case hz =>
            rw [hda.out]
            simp [shp]
          all_goals
            have HB4 : Hid (Below w.heap.size w w4) := Lib.hid (hb.out.grown hg4 hS fun g hg => (hown.out.lt g hg).1)
            have HG4 : Hid (w4.ownsRow w.heap.size 4 1 v' (M + (x + 1)) (tbs d (M + (x + 1)))) := Lib.hid hG4
            clear hown hb hG4 hg4 hS
            go_wp2
            go_roundw
            case rel => exact ⟨x + 1, by omega, by go_num, HG4, HB4⟩
            case measure => simp [intOf]; omega
        · obtain rfl : x = k := by omega
          have HO : Hid (wr.ownsRow w.heap.size 4 1 u5 ((y + 1) * x) (tbs d ((y + 1) * x))) := Lib.hid (by rw [hsm.out]; exact hown.out)
          clear hown
          go_wp2
          go_roundw
          case rel => exact ⟨y + 1, by omega, by go_num, HO, hb⟩
          case measure => simp [intOf]; omega
    · obtain rfl : y = k := by omega
      have hown2 : wr.ownsRow w.heap.size 4 1 u5 n (tbs d n) := by rw [HN.out]; exact hown.out
      obtain ⟨g2, c2, rfl, hc2, hcm, hr⟩ := marks_of_row hown2 hn0
      have HK := Lib.hid (HMK.out g2 c2 _ _ hr)
      clear hown hown2 hr hc2 hcm
      go_wp2_with (go_at_call 31; refine HK.out.mono ?_; rintro e w4 ⟨rfl, hb4⟩)
      go_ret
      exact ⟨rfl, hb.out.trans (below_weak hb4 hb.out.size)⟩
theorem spec_TrianglePicture_no (k : Int) (w : World) (h : k < 1 ∨ 24 < k) :
    Calls Try.prog 8 #[.int .i64 k] w fun e w' => e = .returned (.tuple #[.string ⟨#[]⟩, .bool false]) ∧ Below w.heap.size w w' := by
  have HI := Lib.hid fun W => rin_any k 1 24 W
  have HB := Lib.hid (betr_no h)
  go_enter Try.func8, Try.ntmps8
  go_wp2_with (go_at_call 18; refine (HI.out _).mono ?_; rw [HB.out]; rintro e w' ⟨rfl, rfl⟩)
  go_ret2
  exact ⟨rfl, Below.refl _ _⟩
theorem spec_TrianglePicture_yes (k : Nat) (w : World) (h0 : 1 ≤ k) (h1 : k ≤ 24) :
    Calls Try.prog 8 #[.int .i64 (k : Int)] w fun e w' => e = .returned (.tuple #[.string (bt (gText k k (shD 116 k))), .bool true]) ∧ Below w.heap.size w w' := by
  have HI := Lib.hid fun W => rin_any (k : Int) 1 24 W
  have HB := Lib.hid (betr_yes (x := (k : Int)) (lo := 1) (hi := 24) (by omega) (by omega))
  have HS := Lib.hid fun W => doShape_t k _ W rfl (by omega) (by omega)
  go_enter Try.func8, Try.ntmps8
  go_wp2_with (first
    | (go_at_call 18; refine (HI.out _).mono ?_; rw [HB.out]; rintro e w' ⟨rfl, rfl⟩)
    | (go_at_call 19; refine (HS.out _).mono ?_; rintro e w2 ⟨rfl, hb2⟩))
  go_ret2
  exact ⟨rfl, hb2⟩
theorem spec_SquarePicture_no (k : Int) (w : World) (h : k < 1 ∨ 24 < k) :
    Calls Try.prog 10 #[.int .i64 k] w fun e w' => e = .returned (.tuple #[.string ⟨#[]⟩, .bool false]) ∧ Below w.heap.size w w' := by
  have HI := Lib.hid fun W => rin_any k 1 24 W
  have HB := Lib.hid (betr_no h)
  go_enter Try.func10, Try.ntmps10
  go_wp2_with (go_at_call 18; refine (HI.out _).mono ?_; rw [HB.out]; rintro e w' ⟨rfl, rfl⟩)
  go_ret2
  exact ⟨rfl, Below.refl _ _⟩
theorem spec_SquarePicture_yes (k : Nat) (w : World) (h0 : 1 ≤ k) (h1 : k ≤ 24) :
    Calls Try.prog 10 #[.int .i64 (k : Int)] w fun e w' => e = .returned (.tuple #[.string (bt (gText k k (shD 115 k))), .bool true]) ∧ Below w.heap.size w w' := by
  have HI := Lib.hid fun W => rin_any (k : Int) 1 24 W
  have HB := Lib.hid (betr_yes (x := (k : Int)) (lo := 1) (hi := 24) (by omega) (by omega))
  have HS := Lib.hid fun W => doShape_s k _ W rfl (by omega) (by omega)
  go_enter Try.func10, Try.ntmps10
  go_wp2_with (first
    | (go_at_call 18; refine (HI.out _).mono ?_; rw [HB.out]; rintro e w' ⟨rfl, rfl⟩)
    | (go_at_call 19; refine (HS.out _).mono ?_; rintro e w2 ⟨rfl, hb2⟩))
  go_ret2
  exact ⟨rfl, hb2⟩
theorem spec_GnomonPicture_no (k : Int) (w : World) (h : k < 1 ∨ 24 < k) :
    Calls Try.prog 16 #[.int .i64 k] w fun e w' => e = .returned (.tuple #[.string ⟨#[]⟩, .bool false]) ∧ Below w.heap.size w w' := by
  have HI := Lib.hid fun W => rin_any k 1 24 W
  have HB := Lib.hid (betr_no h)
  go_enter Try.func16, Try.ntmps16
  go_wp2_with (go_at_call 18; refine (HI.out _).mono ?_; rw [HB.out]; rintro e w' ⟨rfl, rfl⟩)
  go_ret2
  exact ⟨rfl, Below.refl _ _⟩
theorem spec_GnomonPicture_yes (k : Nat) (w : World) (h0 : 1 ≤ k) (h1 : k ≤ 24) :
    Calls Try.prog 16 #[.int .i64 (k : Int)] w fun e w' => e = .returned (.tuple #[.string (bt (gText k k (shD 103 k))), .bool true]) ∧ Below w.heap.size w w' := by
  have HI := Lib.hid fun W => rin_any (k : Int) 1 24 W
  have HB := Lib.hid (betr_yes (x := (k : Int)) (lo := 1) (hi := 24) (by omega) (by omega))
  have HS := Lib.hid fun W => doShape_g k _ W rfl (by omega) (by omega)
  go_enter Try.func16, Try.ntmps16
  go_wp2_with (first
    | (go_at_call 18; refine (HI.out _).mono ?_; rw [HB.out]; rintro e w' ⟨rfl, rfl⟩)
    | (go_at_call 19; refine (HS.out _).mono ?_; rintro e w2 ⟨rfl, hb2⟩))
  go_ret2
  exact ⟨rfl, hb2⟩
theorem spec_DiamondPicture_no (k : Int) (w : World) (h : k < 1 ∨ 12 < k) :
    Calls Try.prog 12 #[.int .i64 k] w fun e w' => e = .returned (.tuple #[.string ⟨#[]⟩, .bool false]) ∧ Below w.heap.size w w' := by
  have HI := Lib.hid fun W => rin_any k 1 12 W
  have HB := Lib.hid (betr_no h)
  go_enter Try.func12, Try.ntmps12
  go_wp2_with (go_at_call 18; refine (HI.out _).mono ?_; rw [HB.out]; rintro e w' ⟨rfl, rfl⟩)
  go_ret2
  exact ⟨rfl, Below.refl _ _⟩
theorem spec_DiamondPicture_yes (k : Nat) (w : World) (h0 : 1 ≤ k) (h1 : k ≤ 12) :
    Calls Try.prog 12 #[.int .i64 (k : Int)] w fun e w' => e = .returned (.tuple #[.string (bt (gText (2 * k - 1) (2 * k - 1) (shD 100 (2 * k - 1)))), .bool true]) ∧ Below w.heap.size w w' := by
  have HI := Lib.hid fun W => rin_any (k : Int) 1 12 W
  have HB := Lib.hid (betr_yes (x := (k : Int)) (lo := 1) (hi := 12) (by omega) (by omega))
  have HS := Lib.hid fun W => doShape_d (2 * k - 1) _ W rfl (by omega) (by omega)
  obtain ⟨j, hj⟩ : ∃ j : Nat, j = 2 * k - 1 := ⟨_, rfl⟩
  rw [← hj] at HS ⊢
  have hj2 : (j : Int) = 2 * (k : Int) - 1 := by omega
  rw [hj2] at HS
  have HJ := Lib.hid hj
  clear hj hj2
  go_enter Try.func12, Try.ntmps12
  go_wp2_with (first
    | (go_at_call 18; refine (HI.out _).mono ?_; rw [HB.out]; rintro e w' ⟨rfl, rfl⟩)
    | (go_at_call 19; refine (HS.out _).mono ?_; rintro e w2 ⟨rfl, hb2⟩))
  go_ret2
  exact ⟨rfl, hb2⟩
theorem spec_HexagonPicture_no (k : Int) (w : World) (h : k < 1 ∨ 12 < k) :
    Calls Try.prog 14 #[.int .i64 k] w fun e w' => e = .returned (.tuple #[.string ⟨#[]⟩, .bool false]) ∧ Below w.heap.size w w' := by
  have HI := Lib.hid fun W => rin_any k 1 12 W
  have HB := Lib.hid (betr_no h)
  go_enter Try.func14, Try.ntmps14
  go_wp2_with (go_at_call 18; refine (HI.out _).mono ?_; rw [HB.out]; rintro e w' ⟨rfl, rfl⟩)
  go_ret2
  exact ⟨rfl, Below.refl _ _⟩
theorem spec_HexagonPicture_yes (k : Nat) (w : World) (h0 : 1 ≤ k) (h1 : k ≤ 12) :
    Calls Try.prog 14 #[.int .i64 (k : Int)] w fun e w' => e = .returned (.tuple #[.string (bt (gText (2 * k - 1) (2 * k - 1) (shD 104 (2 * k - 1)))), .bool true]) ∧ Below w.heap.size w w' := by
  have HI := Lib.hid fun W => rin_any (k : Int) 1 12 W
  have HB := Lib.hid (betr_yes (x := (k : Int)) (lo := 1) (hi := 12) (by omega) (by omega))
  have HS := Lib.hid fun W => doShape_h (2 * k - 1) _ W rfl (by omega) (by omega)
  obtain ⟨j, hj⟩ : ∃ j : Nat, j = 2 * k - 1 := ⟨_, rfl⟩
  rw [← hj] at HS ⊢
  have hj2 : (j : Int) = 2 * (k : Int) - 1 := by omega
  rw [hj2] at HS
  have HJ := Lib.hid hj
  clear hj hj2
  go_enter Try.func14, Try.ntmps14
  go_wp2_with (first
    | (go_at_call 18; refine (HI.out _).mono ?_; rw [HB.out]; rintro e w' ⟨rfl, rfl⟩)
    | (go_at_call 19; refine (HS.out _).mono ?_; rintro e w2 ⟨rfl, hb2⟩))
  go_ret2
  exact ⟨rfl, hb2⟩
end Go.Proofs.Ytbcgidgjdedkiaa
