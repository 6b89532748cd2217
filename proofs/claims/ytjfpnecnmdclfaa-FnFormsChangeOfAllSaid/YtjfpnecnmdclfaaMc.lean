/- The texts XTcC XTcD XTcE XTcF joined. -/
import Derived.Test.YtjfpnecnmdclfaaTcA
import Derived.Deep.AppendLies
import Derived.Deep.RegionHeld3
import Derived.Test.YtjfpnecnmdclfaaMb
import Derived.Deep.RegionWith
/- Chapter 8, the program: rows of numbers of 128 digits. -/
namespace Go.Proofs.Ytjfpnecnmdclfaa
open Go.RowKit

theorem infoLng : (Try.prog.info? 64).map (fun i => (i.zero, i.size, i.bytes)) = some (some (.agg #[.int .u64 0, .int .u64 0]), 2, 16) := by kernel_rfl
/-- Such numbers as cells. -/
def l64s : List Int → List Value
  | [] => []
  | v :: l => .int .u64 (hi8 v) :: .int .u64 (lo8 v) :: l64s l
theorem l64s_len : ∀ xs : List Int, (l64s xs).length = xs.length * 2
  | [] => rfl
  | v :: l => by rw [l64s, List.length_cons, List.length_cons, l64s_len l, List.length_cons]; omega
theorem l64s_at : ∀ (xs : List Int) (k : Nat), k < xs.length → (l64s xs)[k * 2]? = some (.int .u64 (hi8 (xs.getD k 0))) ∧ (l64s xs)[k * 2 + 1]? = some (.int .u64 (lo8 (xs.getD k 0)))
  | [], k, h => by simp at h
  | v :: l, 0, _ => ⟨rfl, rfl⟩
  | v :: l, k + 1, h => by
    have := l64s_at l k (by simpa using h)
    rw [show (k + 1) * 2 = k * 2 + 2 by omega, List.getD_cons_succ]
    exact this
theorem l64s_app : ∀ (xs : List Int) (v : Int), l64s xs ++ [.int .u64 (hi8 v), .int .u64 (lo8 v)] = l64s (xs ++ [v])
  | [], v => rfl
  | x :: l, v => by
    have := l64s_app l v
    simp only [l64s, List.cons_append] at this ⊢
    rw [this]
theorem Own.lng {w : World} {lo hi : Nat} {A : Option Addr} {xs : List Int} (h : Own w lo hi A (l64s xs)) {k : Nat} (hk : k < xs.length) : ∃ g o, A = some ⟨g, o, none⟩ ∧ lo ≤ g ∧ g < hi ∧
    w.cell? ⟨g, o + k * 2, none⟩ = some (.int .u64 (hi8 (xs.getD k 0))) ∧ w.cell? ⟨g, o + k * 2 + 1, none⟩ = some (.int .u64 (lo8 (xs.getD k 0))) := by
  obtain ⟨g, o, e, h1, h2, hc⟩ := h (by rw [l64s_len]; omega)
  have hh := l64s_at xs k hk
  exact ⟨g, o, e, h1, h2, (hc _ _ hh.1).1, (hc _ _ hh.2).1⟩
theorem row_cap {w : World} {base : Nat} {e : TypeId} {size n c : Nat} {A : Option Addr} {cs : List Value} (h : w.ownsRow base e size (.slice A n c) n cs) : n ≤ c := by
  rcases h.2 with ⟨hv, h0⟩ | ⟨g, cap, cur, hv, hg, hh, hnc, _⟩
  · omega
  · injection hv with _ _ h3
    omega
/-- What a function hands back that makes a row. -/
def ResR (ys : List Int) (w : World) (e : Ending) (w' : World) : Prop :=
  ∃ B d, ys.length ≤ d ∧ e = .returned (.slice B ys.length d) ∧ Own w' w.heap.size w'.heap.size B (l64s ys) ∧ Below w.heap.size w w'

set_option maxRecDepth 8000 in
set_option maxHeartbeats 800000 in
theorem first_any (A : Option Addr) (n c lo hi : Nat) (xs : List Int) (w : World) (hn : xs.length = n) (hm : n ≤ 1000000) (ha : Own w lo hi A (l64s xs)) (hh : hi ≤ w.heap.size) :
    Calls Try.prog 81 #[.slice A n c] w fun e w' => e = .returned (lng (xs.headD 0)) ∧ Below w.heap.size w w' := by
  cases xs with
  | nil =>
    simp at hn
    subst hn
    show Calls _ _ _ _ (fun e w' => e = .returned (.agg #[.int .u64 0, .int .u64 0]) ∧ _)
    clear ha
    go_enter Try.func81, Try.ntmps81
    go_wp2
    exact bodyPost_ret (v := .agg #[.int .u64 0, .int .u64 0]) (by simp [results, Try.results81, go_sem]) rfl ⟨rfl, (Below.refl _ _).alloc (Nat.le_refl _) _⟩
  | cons x l =>
    obtain ⟨g, o, rfl, hg1, hg2, c0, c1⟩ := ha.lng (k := 0) (by simp)
    simp only [List.getD_cons_zero, Nat.zero_mul] at c0 c1
    show Calls _ _ _ _ (fun e w' => e = .returned (.agg #[.int .u64 (hi8 x), .int .u64 (lo8 x)]) ∧ _)
    have hn0 : ¬ (n : Int) = 0 := by simp at hn; omega
    have hn1 : (0 : Int) < (n : Int) := by simp at hn; omega
    have hgw : g < w.heap.size := by omega
    have k0 : (w.alloc (.cells #[.int .u64 0, .int .u64 0] 64)).cell? ⟨g, o, none⟩ = some (.int .u64 (hi8 x)) := (((Below.refl w.heap.size w).alloc (Nat.le_refl _) _).cell (p := ⟨g, o, none⟩) hgw).trans c0
    have k1 : (w.alloc (.cells #[.int .u64 0, .int .u64 0] 64)).cell? ⟨g, o + 1, none⟩ = some (.int .u64 (lo8 x)) := (((Below.refl w.heap.size w).alloc (Nat.le_refl _) _).cell (p := ⟨g, o + 1, none⟩) hgw).trans c1
    clear ha c0 c1 hn
    generalize hi8 x = a at *
    generalize lo8 x = b at *
    go_enter Try.func81, Try.ntmps81
    go_wp2
    exact bodyPost_ret (v := .agg #[.int .u64 a, .int .u64 b]) (by simp [results, Try.results81, go_sem]) rfl ⟨rfl, (Below.refl _ _).alloc (Nat.le_refl _) _⟩
set_option maxRecDepth 8000 in
set_option maxHeartbeats 800000 in
theorem rowOf_any (A : Option Addr) (n c lo hi : Nat) (xs : List Int) (w : World) (hn : xs.length = n) (hm : n ≤ 100000) (ha : Own w lo hi A (i64s xs)) (hh : hi ≤ w.heap.size) (hb : ∀ j, -9223372036854775808 ≤ xs.getD j 0 ∧ xs.getD j 0 ≤ 9223372036854775807) :
    Calls Try.prog 33 #[.slice A n c] w (ResR xs w) := by
  obtain ⟨i0, hi0, hz0, hz1, hz2⟩ := info_parts infoLng
  have HA := Lib.hid ha
  have HL := Lib.hid fun j W => longOf_any (xs.getD j 0) W (hb j).1 (hb j).2
  have HT := Lib.hid (show ∀ k, k < n → xs.take (k + 1) = xs.take k ++ [xs.getD k 0] from fun k hk => by
    rw [List.take_succ_eq_append_getElem (by omega)]
    simp [List.getD_eq_getElem?_getD, hn, hk])
  have HG := Lib.hid (show ∀ k, k < n → (i64s xs)[k]? = some (.int .i64 (xs.getD k 0)) from fun k hk => by simp [List.getD_eq_getElem?_getD, hn, hk])
  have HIL : Hid ((i64s xs).length = n) := Lib.hid (by simp [hn])
  have HLT : Hid (∀ k, k ≤ n → (xs.take k).length = k) := Lib.hid fun k hk => by rw [List.length_take, hn]; omega
  have HN := Lib.hid hn
  clear ha hb hn
  go_enter Try.func33, Try.ntmps33
  go_wp2
  go_loopw [3, 8] (fun v i wr => ∃ k : Nat, k ≤ n ∧ i = .int .i64 (k : Int) ∧ Hid (wr.ownsRow w.heap.size 64 2 v k (l64s (xs.take k))) ∧ Hid (Below w.heap.size w wr)) (fun _ i _ => n - (intOf i).toNat)
  case atStart => exact ⟨0, by omega, by simp, Lib.hid (by rw [List.take_zero]; exact World.ownsRow_nil _ _ _ _), Lib.hid (Below.refl _ _)⟩
  case round =>
    obtain ⟨k, hk, rfl, hR, hbl⟩ := hrel
    by_cases hlt : k < n
    · have hki : (k : Int) < (n : Int) := by omega
      obtain ⟨g, o, rfl, hg0, hg1, hcs⟩ := (HA.out.below hbl.out hh) (by rw [HIL.out]; omega)
      have s1 := (hcs _ _ (HG.out k hlt)).1
      have HK := Lib.hid (HT.out k hlt)
      have HLL := Lib.hid fun W => HL.out k W
      have HLn := Lib.hid (HLT.out k hk)
      generalize xs.getD k 0 = x at *
      clear hcs
      go_wp2_with (first
        | (go_at_call 69; refine (HLL.out _).mono ?_; rintro e w2 ⟨rfl, hb2⟩; have HR2 := Lib.hid (row_below hR.out hb2 (Nat.le_refl _)); have HB2 := Lib.hid (hbl.out.trans (hb2.mono hbl.out.size)); clear hb2)
        | (at_builtin; refine wpList_append_own _ rfl _ _ 46 rfl w.heap.size 64 i0 (.agg #[.int .u64 0, .int .u64 0]) 2 16 Try.underlying46 hi0 hz0 hz1 hz2 rfl (by decide) _ _ _ rfl (HR2.out.alloc _) ⟨w2.heap.size, 0, none⟩ 1 1 [.int .u64 (hi8 x), .int .u64 (lo8 x)] rfl rfl ?c1 ?c2 ?c3 ?c4 ?c5 ?_))
      case c1 =>
        intro j u hj
        match j, hj with
        | 0, hj => simp at hj; subst hj; simp [Addr.add]
        | 1, hj => simp at hj; subst hj; simp [Addr.add]
      case c2 => intro u hu; simp at hu; rcases hu with rfl | rfl <;> rfl
      case c3 => unfold maxLen; omega
      case c4 => omega
      case c5 => have := HB2.out.size; simp; omega
      · intro v' w5 hown' hgrow _
        rw [l64s_app, ← HK.out] at hown'
        have HO := Lib.hid hown'
        have HB5 : Hid (Below w.heap.size w w5) := Lib.hid ((HB2.out.alloc HB2.out.size _).grown hgrow (by have := HB2.out.size; simp; omega) fun g hg => (HR2.out.lt g hg).1)
        clear hown' hgrow
        go_wp2
        go_roundw
        case rel => exact ⟨k + 1, by omega, by go_num, HO, HB5⟩
        case measure => simp [intOf]; omega
    · obtain rfl : k = n := by omega
      obtain ⟨B, d, rfl⟩ := row_form hR.out
      have HO := Lib.hid (own_of_row hR.out)
      rw [List.take_of_length_le (by rw [HN.out]; exact Nat.le_refl _)] at HO
      go_wp2
      go_ret
      exact ⟨B, d, by rw [HN.out]; exact row_cap hR.out, by rw [HN.out]; rfl, HO.out, hbl.out⟩
end Go.Proofs.Ytjfpnecnmdclfaa

/- Chapter 8, the program: rows led on: differences, what is behind. -/
namespace Go.Proofs.Ytjfpnecnmdclfaa
open Go.RowKit

theorem step_app_lng {ops : Array Oper} {o : Oper} {a : Act} {K : Act → World → Prop} {X : Exit → Act → World → Prop} {E : Prop} {w : World} {z : Int} (base : Nat) (hgd : o.guard = none) (s x : Operand)
    (ho : o.op = .call { callee := .builtin .append, args := #[s, x], argTypes := #[46, 46] }) (v : Value) (n : Nat) (xs : List Int) (hs : a.eval s = v) (hG : w.ownsRow base 64 2 v n (l64s xs)) (hB : base ≤ w.heap.size)
    (hx : a.eval x = .slice (some ⟨w.heap.size, 0, none⟩) 1 1) (hl : n ≤ 100000)
    (h : ∀ v' w', w'.ownsRow base 64 2 v' (n + 1) (l64s (xs ++ [z])) → w'.heap.size ≥ w.heap.size → w.grownBy w' v.ownBlock → K (a.put o.dst v') w') :
    if Region.wanted o (yielded ops a.tmps) = true then Oper.wp Try.prog o a (w.alloc (.cells #[.int .u64 (hi8 z), .int .u64 (lo8 z)] 64)) K X else E := by
  obtain ⟨i0, hi0, hz0, hz1, hz2⟩ := info_parts infoLng
  refine step_append_lies _ hgd s x 46 ho base 64 i0 (.agg #[.int .u64 0, .int .u64 0]) 2 16 Try.underlying46 hi0 hz0 hz1 hz2 rfl (by decide) v _ _ hs (hG.alloc _) ⟨w.heap.size, 0, none⟩ 1 1 [.int .u64 (hi8 z), .int .u64 (lo8 z)] hx rfl ?c1 ?c2 (by decide) ?c3 ?c4 ?c5 _ rfl ?_
  case c1 =>
    intro j u hj
    match j, hj with
    | 0, hj => simp at hj; subst hj; simp [Addr.add]
    | 1, hj => simp at hj; subst hj; simp [Addr.add]
  case c2 => intro u hu; simp at hu; rcases hu with rfl | rfl <;> rfl
  case c3 => unfold maxLen; omega
  case c4 => omega
  case c5 => simp; omega
  · intro g cap w4 hown' hgrow _ _
    refine h _ w4 ?_ ?_ ((World.grownBy_alloc w _ _).andThen hgrow fun _ e => Or.inr e)
    · rw [← l64s_app]
      exact hown'
    · exact ((World.grownBy_alloc w _ _).andThen hgrow fun _ e => Or.inr e).size
section
variable {w w' : World} {B g a b c d : Nat} {v1 v2 v3 v4 : Option Value}
theorem two_below (h : w.cell? ⟨g, a, none⟩ = v1 ∧ w.cell? ⟨g, b, none⟩ = v2) (hb : Below B w w') (hg : g < B) : w'.cell? ⟨g, a, none⟩ = v1 ∧ w'.cell? ⟨g, b, none⟩ = v2 :=
  ⟨(hb.cell (p := ⟨g, a, none⟩) hg).trans h.1, (hb.cell (p := ⟨g, b, none⟩) hg).trans h.2⟩
theorem two_alloc (h : w.cell? ⟨g, a, none⟩ = v1 ∧ w.cell? ⟨g, b, none⟩ = v2) (hg : g < w.heap.size) (ob : Obj) : (w.alloc ob).cell? ⟨g, a, none⟩ = v1 ∧ (w.alloc ob).cell? ⟨g, b, none⟩ = v2 :=
  two_below h ((Below.refl w.heap.size w).alloc (Nat.le_refl _) ob) hg
theorem two_grown {row : Option Nat} (h : w.cell? ⟨g, a, none⟩ = v1 ∧ w.cell? ⟨g, b, none⟩ = v2) (hw : w.grownBy w' row) (hg : g < w.heap.size) (hr : some g ≠ row) : w'.cell? ⟨g, a, none⟩ = v1 ∧ w'.cell? ⟨g, b, none⟩ = v2 :=
  ⟨(hw.cell_far ⟨g, a, none⟩ hg hr).trans h.1, (hw.cell_far ⟨g, b, none⟩ hg hr).trans h.2⟩
theorem four_below (h : w.cell? ⟨g, a, none⟩ = v1 ∧ w.cell? ⟨g, b, none⟩ = v2 ∧ w.cell? ⟨g, c, none⟩ = v3 ∧ w.cell? ⟨g, d, none⟩ = v4) (hb : Below B w w') (hg : g < B) : w'.cell? ⟨g, a, none⟩ = v1 ∧ w'.cell? ⟨g, b, none⟩ = v2 ∧ w'.cell? ⟨g, c, none⟩ = v3 ∧ w'.cell? ⟨g, d, none⟩ = v4 :=
  ⟨(hb.cell (p := ⟨g, a, none⟩) hg).trans h.1, (hb.cell (p := ⟨g, b, none⟩) hg).trans h.2.1, (hb.cell (p := ⟨g, c, none⟩) hg).trans h.2.2.1, (hb.cell (p := ⟨g, d, none⟩) hg).trans h.2.2.2⟩
theorem four_alloc (h : w.cell? ⟨g, a, none⟩ = v1 ∧ w.cell? ⟨g, b, none⟩ = v2 ∧ w.cell? ⟨g, c, none⟩ = v3 ∧ w.cell? ⟨g, d, none⟩ = v4) (hg : g < w.heap.size) (ob : Obj) : (w.alloc ob).cell? ⟨g, a, none⟩ = v1 ∧ (w.alloc ob).cell? ⟨g, b, none⟩ = v2 ∧ (w.alloc ob).cell? ⟨g, c, none⟩ = v3 ∧ (w.alloc ob).cell? ⟨g, d, none⟩ = v4 :=
  four_below h ((Below.refl w.heap.size w).alloc (Nat.le_refl _) ob) hg
theorem four_grown {row : Option Nat} (h : w.cell? ⟨g, a, none⟩ = v1 ∧ w.cell? ⟨g, b, none⟩ = v2 ∧ w.cell? ⟨g, c, none⟩ = v3 ∧ w.cell? ⟨g, d, none⟩ = v4) (hw : w.grownBy w' row) (hg : g < w.heap.size) (hr : some g ≠ row) : w'.cell? ⟨g, a, none⟩ = v1 ∧ w'.cell? ⟨g, b, none⟩ = v2 ∧ w'.cell? ⟨g, c, none⟩ = v3 ∧ w'.cell? ⟨g, d, none⟩ = v4 :=
  ⟨(hw.cell_far ⟨g, a, none⟩ hg hr).trans h.1, (hw.cell_far ⟨g, b, none⟩ hg hr).trans h.2.1, (hw.cell_far ⟨g, c, none⟩ hg hr).trans h.2.2.1, (hw.cell_far ⟨g, d, none⟩ hg hr).trans h.2.2.2⟩
end
set_option maxRecDepth 8000 in
set_option maxHeartbeats 1600000 in
theorem differences_any (A : Option Addr) (n c lo hi : Nat) (xs : List Int) (w : World) (hn : xs.length = n) (hm : n ≤ 100000) (ha : Own w lo hi A (l64s xs)) (hh : hi ≤ w.heap.size) :
    Calls Try.prog 75 #[.slice A n c] w (ResR (dif8 xs) w) := by
  have HA := Lib.hid ha
  have HT := Lib.hid fun k h => dif8_take xs k h
  have HL : Hid ((dif8 xs).length = n - 1) := Lib.hid (by rw [dif8_len, hn])
  have HN := Lib.hid hn
  have HM := Lib.hid fun k m W => minus_any (xs.getD m 0) (xs.getD k 0) W
  clear ha hn
  go_enter Try.func75, Try.ntmps75
  go_wp2
  go_loopw [3, 4] (fun v i wr => ∃ k m : Nat, k + 1 = m ∧ k ≤ n - 1 ∧ i = .int .i64 (m : Int) ∧ Hid (wr.ownsRow w.heap.size 64 2 v k (l64s ((dif8 xs).take k))) ∧ Hid (Below w.heap.size w wr)) (fun _ i _ => n - (intOf i).toNat)
  case atStart => exact ⟨0, 1, rfl, by omega, by simp, Lib.hid (by rw [List.take_zero]; exact World.ownsRow_nil _ _ _ _), Lib.hid (Below.refl _ _)⟩
  case round =>
    obtain ⟨k, m, hkm, hk, rfl, hR, hbl⟩ := hrel
    by_cases hlt : m < n
    · have hlt2 : (k : Int) + 1 < (n : Int) := by omega
      have hlt3 : (k : Int) < (n : Int) := by omega
      have hlt4 : (m : Int) < (n : Int) := by omega
      have hk0 : (0 : Int) ≤ (k : Int) := by omega
      have hm0 : (0 : Int) ≤ (m : Int) := by omega
      have e1 : IntKind.i64.wrap ((m : Int) - 1) = (k : Int) := by rw [IntWalk.i64_in _ (by omega)]; omega
      obtain ⟨g, o, rfl, hg0, hg1, t0, t1⟩ := (HA.out.below hbl.out hh).lng (k := m) (by rw [HN.out]; omega)
      obtain ⟨g', o', eA, _, _, s0, s1⟩ := (HA.out.below hbl.out hh).lng (k := k) (by rw [HN.out]; omega)
      injection eA with eA
      injection eA with eA1 eA2 _
      subst eA1 eA2
      have HS := Lib.hid (HT.out k (by rw [HN.out]; omega))
      rw [hkm] at HS
      have HMM := Lib.hid fun W => HM.out k m W
      generalize xs.getD m 0 = y at *
      generalize xs.getD k 0 = x at *
      unfold lng at HMM
      obtain ⟨z, hz⟩ : ∃ z, z = y - x := ⟨_, rfl⟩
      rw [← hz] at HMM HS
      generalize hi8 y = y1 at *
      generalize lo8 y = y2 at *
      generalize hi8 x = x1 at *
      generalize lo8 x = x2 at *
      have hgw : g < w.heap.size := by omega
      have hgr : g < wr.heap.size := Nat.lt_of_lt_of_le hgw hbl.out.size
      have f0 : wr.drew.cell? ⟨g, o + m * 2, none⟩ = some (.int .u64 y1) ∧ wr.drew.cell? ⟨g, o + m * 2 + 1, none⟩ = some (.int .u64 y2) ∧ wr.drew.cell? ⟨g, o + k * 2, none⟩ = some (.int .u64 x1) ∧ wr.drew.cell? ⟨g, o + k * 2 + 1, none⟩ = some (.int .u64 x2) := ⟨t0, t1, s0, s1⟩
      obtain ⟨A', cc', rfl⟩ := row_form hR.out
      have HLK : Hid (((dif8 xs).take k).length = k) := Lib.hid (by rw [List.length_take, HL.out]; omega)
      have HX : Hid (∀ j, Value.ownBlock (.slice A' k cc') = some j → w.heap.size ≤ j) := Lib.hid fun j hj => (hR.out.lt j hj).1
      clear hz t0 t1 s0 s1
      go_wp2
      go_region_held3 (fun w' => w'.cell? ⟨g, o + m * 2, none⟩ = some (.int .u64 y1) ∧ w'.cell? ⟨g, o + m * 2 + 1, none⟩ = some (.int .u64 y2) ∧ w'.cell? ⟨g, o + k * 2, none⟩ = some (.int .u64 x1) ∧ w'.cell? ⟨g, o + k * 2 + 1, none⟩ = some (.int .u64 x2))
        (first | with_reducible exact f3 | with_reducible exact f2 | with_reducible exact f1 | exact f0)
        (first
          | (go_at_call 83; refine (HMM.out _).mono ?_; rintro e w2 ⟨rfl, hb2⟩; have f1 := four_below f0 hb2 hgr; have f2 := four_alloc f1 (Nat.lt_of_lt_of_le hgr hb2.size) (.cells #[.int .u64 (hi8 z), .int .u64 (lo8 z)] 64); have HR2 := Lib.hid (row_below hR.out.drew hb2 (Nat.le_refl _)); have HB2 := Lib.hid (hbl.out.drew.trans (hb2.mono hbl.out.size)))
          | (refine step_app_lng (w := w2) (z := z) w.heap.size rfl _ _ rfl _ k _ rfl HR2.out HB2.out.size rfl (by omega) ?_; intro v' wf hOf hsf hgf; have f3 := four_grown f1 hgf (Nat.lt_of_lt_of_le hgr hb2.size) (fun e => absurd (HX.out _ e.symm) (Nat.not_le.2 hgw)))
          | fail)
      have HOf := Lib.hid (show wf.ownsRow w.heap.size 64 2 v' m (l64s ((dif8 xs).take m)) from by
        rw [HS.out, ← hkm]
        exact hOf)
      have HBf := Lib.hid (HB2.out.grown hgf HB2.out.size (fun j hj => HX.out j hj))
      clear hOf hgf
      go_wp2
      go_roundw
      case rel => exact ⟨m, m + 1, rfl, by omega, by go_num, HOf, HBf⟩
      case measure => simp [intOf]; omega
    · obtain rfl : k = n - 1 := by omega
      have HF : Hid ((dif8 xs).take (n - 1) = dif8 xs) := Lib.hid (List.take_of_length_le (by rw [HL.out]; exact Nat.le_refl _))
      obtain ⟨A', cc', rfl⟩ := row_form hR.out
      have hlt2 : ¬ (m : Int) < (n : Int) := by omega
      have HO := Lib.hid (own_of_row hR.out)
      rw [HF.out] at HO
      go_wp2
      go_ret
      exact ⟨A', cc', by rw [HL.out]; exact row_cap hR.out, by rw [HL.out]; rfl, HO.out, hbl.out⟩
end Go.Proofs.Ytjfpnecnmdclfaa

/- Chapter 8, the program: the row of the values at 1, 2, .. -/
namespace Go.Proofs.Ytjfpnecnmdclfaa
open Go.RowKit

theorem stp8_take (xs : List Int) (k : Nat) (h : k < xs.length) : (stp8 xs).take (k + 1) = (stp8 xs).take k ++ [xs.getD k 0 + xs.getD (k + 1) 0] := by
  have hk : k < (stp8 xs).length := by rw [stp8_len]; exact h
  rw [List.take_succ_eq_append_getElem hk, ← stp8_at xs k]
  simp [List.getD_eq_getElem?_getD, hk]
theorem Below.frozen_lt {B : Nat} {w w' : World} (h : Below B w w') {a : Addr} (ha : a.block < B) : w'.frozen? a = w.frozen? a := h.frozen (p := a) ha
set_option maxRecDepth 8000 in
set_option maxHeartbeats 1600000 in
theorem behind_any (A : Option Addr) (n c lo hi : Nat) (xs : List Int) (w : World) (hn : xs.length = n) (hm : n ≤ 100000) (ha : Own w lo hi A (l64s xs)) (hh : hi ≤ w.heap.size) :
    Calls Try.prog 38 #[.slice A n c] w (ResR (stp8 xs) w) := by
  obtain ⟨i0, hi0, hz0, hz1, hz2⟩ := info_parts infoLng
  have HA := Lib.hid ha
  have HT := Lib.hid fun k h => stp8_take xs k h
  have HL : Hid ((stp8 xs).length = n) := Lib.hid (by rw [stp8_len, hn])
  have HN := Lib.hid hn
  have HE : Hid (xs.getD n 0 = 0) := Lib.hid (by simp [List.getD_eq_getElem?_getD, hn])
  have HM := Lib.hid fun k m W => plus_any (xs.getD k 0) (xs.getD m 0) W
  clear ha hn
  go_enter Try.func38, Try.ntmps38
  go_wp2
  go_loopw [3, 8] (fun v i wr => ∃ k : Nat, k ≤ n ∧ i = .int .i64 (k : Int) ∧ Hid (wr.ownsRow w.heap.size 64 2 v k (l64s ((stp8 xs).take k))) ∧ Hid (Below w.heap.size w wr)) (fun _ i _ => n - (intOf i).toNat)
  case atStart => exact ⟨0, by omega, by simp, Lib.hid (by rw [List.take_zero]; exact World.ownsRow_nil _ _ _ _), Lib.hid (Below.refl _ _)⟩
  case round =>
    obtain ⟨k, hk, rfl, hR, hbl⟩ := hrel
    by_cases hlt : k < n
    · have hki : (k : Int) < (n : Int) := by omega
      have hk0 : (0 : Int) ≤ (k : Int) := by omega
      obtain ⟨g, o, rfl, hg0, hg1, s0, s1⟩ := (HA.out.below hbl.out hh).lng (k := k) (by rw [HN.out]; omega)
      have hgw : g < w.heap.size := by omega
      have hgr : g < wr.heap.size := Nat.lt_of_lt_of_le hgw hbl.out.size
      have HLK : Hid (((stp8 xs).take k).length = k) := Lib.hid (by rw [List.length_take, HL.out]; omega)
      obtain ⟨A', cc', rfl⟩ := row_form hR.out
      have HX : Hid (∀ j, Value.ownBlock (.slice A' k cc') = some j → w.heap.size ≤ j) := Lib.hid fun j hj => (hR.out.lt j hj).1
      have e1 : IntKind.i64.wrap ((k : Int) + 1) = (k : Int) + 1 := IntWalk.i64_in _ (by omega)
      obtain ⟨z, hz⟩ : ∃ z, z = xs.getD k 0 + xs.getD (k + 1) 0 := ⟨_, rfl⟩
      have HK := Lib.hid (HT.out k (by rw [HN.out]; exact hlt))
      rw [← hz] at HK
      by_cases hlt1 : k + 1 < n
      · obtain ⟨m, hkm⟩ : ∃ m, m = k + 1 := ⟨_, rfl⟩
        rw [← hkm] at hz hlt1
        obtain ⟨g', o', eA, _, _, t0, t1⟩ := (HA.out.below hbl.out hh).lng (k := m) (by rw [HN.out]; omega)
        injection eA with eA
        injection eA with eA1 eA2 _
        subst eA1 eA2
        have HMM := Lib.hid fun W => HM.out k m W
        have hmi : (m : Int) < (n : Int) := by omega
        have hm0 : (0 : Int) ≤ (m : Int) := by omega
        have e2 : IntKind.i64.wrap ((k : Int) + 1) = (m : Int) := by rw [e1]; omega
        have e3 : (k : Int) + 1 = (m : Int) := by omega
        have q1 : (k : Int) + 1 < (n : Int) := by omega
        rw [← hz] at HMM
        unfold lng at HMM
        generalize xs.getD m 0 = y at *
        generalize xs.getD k 0 = x at *
        generalize hi8 y = y1 at *
        generalize lo8 y = y2 at *
        generalize hi8 x = x1 at *
        generalize lo8 x = x2 at *
        have HKM := Lib.hid hkm
        clear hz hkm e1 e3 q1
        have q0 : (wr.alloc (.cells #[.int .u64 x1, .int .u64 x2] 64)).cell? ⟨wr.heap.size, 0, none⟩ = some (.int .u64 x1) ∧ (wr.alloc (.cells #[.int .u64 x1, .int .u64 x2] 64)).cell? ⟨wr.heap.size, 1, none⟩ = some (.int .u64 x2) := ⟨by simp [go_sem], by simp [go_sem]⟩
        have z0 : (wr.alloc (.cells #[.int .u64 x1, .int .u64 x2] 64)).frozen? ⟨wr.heap.size, 0, none⟩ = false ∧ (wr.alloc (.cells #[.int .u64 x1, .int .u64 x2] 64)).frozen? ⟨wr.heap.size, 1, none⟩ = false := ⟨by simp [go_sem], by simp [go_sem]⟩
        have p0 := two_alloc ⟨t0, t1⟩ hgr (.cells #[.int .u64 x1, .int .u64 x2] 64)
        have HB1 := Lib.hid ((Below.refl wr.heap.size wr).alloc (Nat.le_refl _) (.cells #[.int .u64 x1, .int .u64 x2] 64))
        have hzz : wr.heap.size < (wr.alloc (.cells #[.int .u64 x1, .int .u64 x2] 64)).heap.size := by simp
        clear t0 t1
        go_wp2
        generalize (wr.alloc (.cells #[.int .u64 x1, .int .u64 x2] 64)) = w1 at *
        go_region_with (go_at_call 71; refine (HMM.out _).mono ?_; rintro e w2 ⟨rfl, hb2⟩; have k0 := (hb2.cell (p := ⟨wr.heap.size, 0, none⟩) hzz).trans q0.1; have k1 := (hb2.cell (p := ⟨wr.heap.size, 1, none⟩) hzz).trans q0.2; have j0 := (hb2.frozen (p := ⟨wr.heap.size, 0, none⟩) hzz).trans z0.1; have j1 := (hb2.frozen (p := ⟨wr.heap.size, 1, none⟩) hzz).trans z0.2)
        all_goals (
          have hbz : Below wr.heap.size wr ((w2.setCell ⟨wr.heap.size, 0, none⟩ (.int .u64 (hi8 z))).setCell ⟨wr.heap.size, 1, none⟩ (.int .u64 (lo8 z))) := ((HB1.out.drew.trans (hb2.mono (Nat.le_of_lt hzz))).setCell (Nat.le_refl _) _).setCell (Nat.le_refl _) _
          have d0 : ((w2.setCell ⟨wr.heap.size, 0, none⟩ (.int .u64 (hi8 z))).setCell ⟨wr.heap.size, 1, none⟩ (.int .u64 (lo8 z))).cell? ⟨wr.heap.size, 0, none⟩ = some (.int .u64 (hi8 z)) := by
            rw [World.cell?_setCell_other _ _ _ _ (by simp), World.cell?_setCell_same _ _ _ k0]
          have d1 : ((w2.setCell ⟨wr.heap.size, 0, none⟩ (.int .u64 (hi8 z))).setCell ⟨wr.heap.size, 1, none⟩ (.int .u64 (lo8 z))).cell? ⟨wr.heap.size, 1, none⟩ = some (.int .u64 (lo8 z)) := by
            rw [World.cell?_setCell_same _ _ _ ((World.cell?_setCell_other _ _ _ _ (by simp)).trans k1)]
          generalize (w2.setCell ⟨wr.heap.size, 0, none⟩ (.int .u64 (hi8 z))).setCell ⟨wr.heap.size, 1, none⟩ (.int .u64 (lo8 z)) = wz at *
          clear k0 k1 j0 j1 hb2
          have HRz := Lib.hid (row_below hR.out hbz (Nat.le_refl _))
          have HBz := Lib.hid (hbl.out.trans (hbz.mono hbl.out.size))
          go_wp2_with (first
            | (at_builtin; refine wpList_append_own _ rfl _ _ 46 rfl w.heap.size 64 i0 (.agg #[.int .u64 0, .int .u64 0]) 2 16 Try.underlying46 hi0 hz0 hz1 hz2 rfl (by decide) _ _ _ rfl (HRz.out.alloc _) ⟨wz.heap.size, 0, none⟩ 1 1 [.int .u64 (hi8 z), .int .u64 (lo8 z)] rfl rfl ?c1 ?c2 ?c3 ?c4 ?c5 ?_))
          case c1 =>
            intro j u hj
            match j, hj with
            | 0, hj => simp at hj; subst hj; simp [Addr.add]
            | 1, hj => simp at hj; subst hj; simp [Addr.add]
          case c2 => intro u hu; simp at hu; rcases hu with rfl | rfl <;> rfl
          case c3 => unfold maxLen; omega
          case c4 => omega
          case c5 => exact Nat.le_trans HBz.out.size (by simp)
          · intro v' w5 hown' hgrow _
            rw [l64s_app, ← HK.out] at hown'
            have HO := Lib.hid hown'
            have HB5 : Hid (Below w.heap.size w w5) := Lib.hid ((HBz.out.alloc HBz.out.size _).grown hgrow (Nat.le_trans HBz.out.size (by simp)) fun g hg => (HRz.out.lt g hg).1)
            clear hown' hgrow
            (try clear e2)
            have e9 : IntKind.i64.wrap ((k : Int) + 1) = (k : Int) + 1 := IntWalk.i64_in _ (by omega)
            go_wp2
            go_roundw
            case rel => exact ⟨k + 1, by omega, by go_num, HO, HB5⟩
            case measure => simp [intOf]; omega
          )
      · have hnk : n = k + 1 := by omega
        rw [← hnk, HE.out, Int.add_zero] at hz
        rw [← hz] at s0 s1
        have q1 : ¬ (k : Int) + 1 < (n : Int) := by omega
        clear hz hnk hlt1
        have HRz := Lib.hid (row_below hR.out ((Below.refl wr.heap.size wr).alloc (Nat.le_refl _) (.cells #[.int .u64 (hi8 z), .int .u64 (lo8 z)] 64)) (Nat.le_refl _))
        have HBz := Lib.hid (hbl.out.alloc hbl.out.size (.cells #[.int .u64 (hi8 z), .int .u64 (lo8 z)] 64))
        go_wp2_with (first
          | (at_builtin; refine wpList_append_own _ rfl _ _ 46 rfl w.heap.size 64 i0 (.agg #[.int .u64 0, .int .u64 0]) 2 16 Try.underlying46 hi0 hz0 hz1 hz2 rfl (by decide) _ _ _ rfl (HRz.out.alloc _) ⟨wr.heap.size + 1, 0, none⟩ 1 1 [.int .u64 (hi8 z), .int .u64 (lo8 z)] rfl rfl ?c1 ?c2 ?c3 ?c4 ?c5 ?_))
        case c2 => (first | (intro u hu; simp at hu; rcases hu with rfl | rfl <;> rfl) | exact ⟨rfl, rfl⟩)
        case c3 => unfold maxLen; omega
        case c4 => omega
        case c5 => exact Nat.le_trans HBz.out.size (by simp)
        · intro v' w5 hown' hgrow _
          rw [l64s_app, ← HK.out] at hown'
          have HO := Lib.hid hown'
          have HB5 : Hid (Below w.heap.size w w5) := Lib.hid ((HBz.out.alloc HBz.out.size _).grown hgrow (Nat.le_trans HBz.out.size (by simp)) fun g hg => (HRz.out.lt g hg).1)
          clear hown' hgrow
          (try clear e2)
          have e9 : IntKind.i64.wrap ((k : Int) + 1) = (k : Int) + 1 := IntWalk.i64_in _ (by omega)
          go_wp2
          go_roundw
          case rel => exact ⟨k + 1, by omega, by go_num, HO, HB5⟩
          case measure => simp [intOf]; omega
    · obtain rfl : k = n := by omega
      obtain ⟨B, d, rfl⟩ := row_form hR.out
      have HO := Lib.hid (own_of_row hR.out)
      rw [List.take_of_length_le (by rw [HL.out]; exact Nat.le_refl _)] at HO
      go_wp2
      go_ret
      exact ⟨B, d, by rw [HL.out]; exact row_cap hR.out, by rw [HL.out]; rfl, HO.out, hbl.out⟩
end Go.Proofs.Ytjfpnecnmdclfaa

/- Chapter 8, the program: the first numbers of rows led on by a step. -/
namespace Go.Proofs.Ytjfpnecnmdclfaa
open Go.RowKit

theorem own_grown {w w' : World} {lo hi : Nat} {A : Option Addr} {cs : List Value} {row : Option Nat} (h : Own w lo hi A cs) (hg : w.grownBy w' row) (hh : hi ≤ w.heap.size) (hr : ∀ j, row = some j → j < lo ∨ hi ≤ j) : Own w' lo hi A cs := fun hn => by
  obtain ⟨g, o, e, h1, h2, hc⟩ := h hn
  have hne : some g ≠ row := fun e2 => by
    have := hr g e2.symm
    omega
  refine ⟨g, o, e, h1, h2, fun j u hu => ?_⟩
  rw [hg.cell_far ⟨g, o + j, none⟩ (by show g < _; omega) hne, hg.frozen_far ⟨g, o + j, none⟩ (by show g < _; omega) hne]
  exact hc j u hu
/-- A function that leads rows on by a step. -/
structure Leads (fid : Nat) (S : List Int → List Int) : Prop where
  cf : ∀ (args : Array Value) (W : World), (callFunc fid args).run Try.prog W = .ok (.enter fid args) W
  go : ∀ (A : Option Addr) (n c lo hi : Nat) (xs : List Int) (W : World), xs.length = n → n ≤ 100000 → Own W lo hi A (l64s xs) → hi ≤ W.heap.size → Calls Try.prog fid #[.slice A n c] W (ResR (S xs) W)
  len : ∀ xs : List Int, (S xs).length ≤ xs.length
theorem itr8_len {S : List Int → List Int} (h : ∀ xs : List Int, (S xs).length ≤ xs.length) (xs : List Int) : ∀ k, (itr8 S k xs).length ≤ xs.length
  | 0 => Nat.le_refl _
  | k + 1 => Nat.le_trans (h _) (itr8_len h xs k)
theorem leads_behind : Leads 38 stp8 where
  cf := fun _ _ => by kernel_rfl
  go := fun A n c lo hi xs W hn hm ha hh => behind_any A n c lo hi xs W hn hm ha hh
  len := fun xs => Nat.le_of_eq (stp8_len xs)
theorem leads_differences : Leads 75 dif8 where
  cf := fun _ _ => by kernel_rfl
  go := fun A n c lo hi xs W hn hm ha hh => differences_any A n c lo hi xs W hn hm ha hh
  len := fun xs => by rw [dif8_len]; omega
set_option maxRecDepth 8000 in
set_option maxHeartbeats 1600000 in
theorem firsts_any (fid : Nat) (S : List Int → List Int) (hS : Leads fid S) (A : Option Addr) (n c lo hi cnt : Nat) (xs : List Int) (w : World) (hn : xs.length = n) (hm : n ≤ 100000) (hcnt : cnt ≤ 100000) (ha : Own w lo hi A (l64s xs)) (hh : hi ≤ w.heap.size) :
    Calls Try.prog 72 #[.slice A n c, .func (.func fid) #[] #[], .int .i64 (cnt : Int)] w (ResR (fst8 S cnt xs) w) := by
  obtain ⟨i0, hi0, hz0, hz1, hz2⟩ := info_parts infoLng
  have HT := Lib.hid fun k => fst8_snoc S k xs
  have HSt : Hid (∀ k, itr8 S (k + 1) xs = S (itr8 S k xs)) := Lib.hid fun k => rfl
  have HL := Lib.hid fun k => itr8_len hS.len xs k
  have HF := Lib.hid fst8_len
  have HGo := Lib.hid hS.go
  have hcf := hS.cf
  have H0 : Hid (Own w lo hi A (l64s (itr8 S 0 xs)) ∧ (itr8 S 0 xs).length = n ∧ l64s (fst8 S 0 xs) = []) := Lib.hid ⟨ha, hn, rfl⟩
  have HN := Lib.hid hn
  clear ha hn hS
  go_enter Try.func72, Try.ntmps72
  go_wp2
  go_loopw [0, 7, 9] (fun rv v i wr => ∃ (k : Nat) (A' : Option Addr) (n' c' lo' hi' : Nat), k ≤ cnt ∧ i = .int .i64 (k : Int) ∧ rv = .slice A' n' c' ∧ Hid (n' = (itr8 S k xs).length) ∧ Hid (Own wr lo' hi' A' (l64s (itr8 S k xs)) ∧ hi' ≤ wr.heap.size ∧ ∀ j, v.ownBlock = some j → j < lo' ∨ hi' ≤ j) ∧ Hid (wr.ownsRow w.heap.size 64 2 v k (l64s (fst8 S k xs))) ∧ Hid (Below w.heap.size w wr)) (fun _ _ i _ => cnt - (intOf i).toNat)
  case atStart => exact ⟨0, A, n, c, lo, hi, by omega, by simp, rfl, Lib.hid H0.out.2.1.symm, Lib.hid ⟨H0.out.1, hh, fun j hj => by simp [Value.ownBlock] at hj⟩, Lib.hid (by rw [H0.out.2.2]; exact World.ownsRow_nil _ _ _ _), Lib.hid (Below.refl _ _)⟩
  case round =>
    obtain ⟨k, A', n', c', lo', hi', hk, rfl, rfl, hn', hO, hR, hbl⟩ := hrel
    by_cases hlt : k < cnt
    · have hki : (k : Int) < (cnt : Int) := by omega
      have hn1 : n' ≤ 100000 := by
        rw [hn'.out]
        exact Nat.le_trans (HL.out k) (by rw [HN.out]; exact hm)
      have HK := Lib.hid (HT.out k)
      have HSk := Lib.hid (HSt.out k)
      generalize itr8 S k xs = ys at *
      generalize fst8 S k xs = fs at *
      have H1 := Lib.hid (first_any A' n' c' lo' hi' ys wr hn'.out.symm (by omega) hO.out.1 hO.out.2.1)
      obtain ⟨x, hx⟩ : ∃ x, x = ys.headD 0 := ⟨_, rfl⟩
      rw [← hx] at H1 HK
      unfold lng at H1
      clear hx
      go_wp2_with (first
        | (go_at_call 81; refine H1.out.mono ?_; rintro e w2 ⟨rfl, hb2⟩; have HR2 := Lib.hid (row_below hR.out hb2 (Nat.le_refl _)); have HO2 := Lib.hid (hO.out.1.below hb2 hO.out.2.1); have HS2 := Lib.hid hb2.size; have HB2 := Lib.hid (hbl.out.trans (hb2.mono hbl.out.size)); clear hb2)
        | (at_builtin; refine wpList_append_own _ rfl _ _ 46 rfl w.heap.size 64 i0 (.agg #[.int .u64 0, .int .u64 0]) 2 16 Try.underlying46 hi0 hz0 hz1 hz2 rfl (by decide) _ _ _ rfl (HR2.out.alloc _) ⟨w2.heap.size, 0, none⟩ 1 1 [.int .u64 (hi8 x), .int .u64 (lo8 x)] rfl rfl ?c1 ?c2 ?c3 ?c4 ?c5 ?_))
      case c1 =>
        intro j u hj
        match j, hj with
        | 0, hj => simp at hj; subst hj; simp [Addr.add]
        | 1, hj => simp at hj; subst hj; simp [Addr.add]
      case c2 => intro u hu; simp at hu; rcases hu with rfl | rfl <;> rfl
      case c3 => unfold maxLen; omega
      case c4 => omega
      case c5 => exact Nat.le_trans HB2.out.size (by simp)
      · intro v' w5 hown' hgrow _
        rw [l64s_app, ← HK.out] at hown'
        have HO5 := Lib.hid (own_grown (own_grown HO2.out (World.grownBy_alloc w2 (.cells #[.int .u64 (hi8 x), .int .u64 (lo8 x)] 64) none) (Nat.le_trans hO.out.2.1 HS2.out) (fun j hj => by cases hj)) hgrow (Nat.le_trans (Nat.le_trans hO.out.2.1 HS2.out) (by simp)) hO.out.2.2)
        have HR5 := Lib.hid hown'
        have HB5 : Hid (Below w.heap.size w w5) := Lib.hid ((HB2.out.alloc HB2.out.size _).grown hgrow (Nat.le_trans HB2.out.size (by simp)) fun g hg => (HR2.out.lt g hg).1)
        have HZ5 : Hid (hi' ≤ w5.heap.size) := Lib.hid (Nat.le_trans (Nat.le_trans hO.out.2.1 HS2.out) (Nat.le_trans (by simp) hgrow.size))
        have HG5 := Lib.hid (HGo.out A' n' c' lo' hi' ys w5 hn'.out.symm hn1 HO5.out HZ5.out)
        clear hown' hgrow
        go_wp2_with (refine HG5.out.mono ?_; rintro e w6 ⟨B, d, hd, rfl, hO6, hb6⟩)
        refine ⟨⟨k + 1, B, (S ys).length, d, w5.heap.size, w6.heap.size, by omega, by go_num, rfl, Lib.hid (by rw [HSk.out]), Lib.hid ⟨by rw [HSk.out]; exact hO6, Nat.le_refl _, fun j hj => .inl ((HR5.out.lt j hj).2)⟩, Lib.hid (row_below HR5.out hb6 (Nat.le_refl _)), Lib.hid (HB5.out.trans (hb6.mono HB5.out.size))⟩, by simp [intOf]; omega⟩
    · obtain rfl : k = cnt := by omega
      obtain ⟨B, d, rfl⟩ := row_form hR.out
      have HO := Lib.hid (own_of_row hR.out)
      have HLk := Lib.hid (HF.out S k xs)
      go_wp2
      go_ret
      exact ⟨B, d, by rw [HLk.out]; exact row_cap hR.out, by rw [HLk.out]; rfl, HO.out, hbl.out⟩
end Go.Proofs.Ytjfpnecnmdclfaa
