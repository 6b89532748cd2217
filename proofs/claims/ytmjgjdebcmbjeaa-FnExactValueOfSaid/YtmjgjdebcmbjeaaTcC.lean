/- Chapter 8, the program: rows of numbers of 128 digits. -/
import Derived.Test.YtmjgjdebcmbjeaaTcA
import Derived.Deep.AppendLies
import Derived.Deep.RegionHeld3
namespace Go.Proofs.Ytmjgjdebcmbjeaa
open Go.RowKit

theorem infoLng : (Try.prog.info? 59).map (fun i => (i.zero, i.size, i.bytes)) = some (some (.agg #[.int .u64 0, .int .u64 0]), 2, 16) := by kernel_rfl
/-- Such numbers as cells. -/
def l64s : List Int → List Value
  | [] => []
  | v :: l => .int .u64 (hi8 v) :: .int .u64 (lo8 v) :: l64s l
theorem l64s_len : ∀ xs : List Int, (l64s xs).length = xs.length * 2
  | [] => rfl
  | v :: l => by rw [l64s, List.length_cons, List.length_cons, l64s_len l, List.length_cons]; omega
theorem l64s_at : ∀ (xs : List Int) (k : Nat), k < xs.length → (l64s xs)[k * 2]? = some (.int .u64 (hi8 (xs.getD k 0))) ∧ (l64s xs)[k * 2 + 1]? = some (.int .u64 (lo8 (xs.getD k 0)))
  | [], k, h => by simp at h
  | v :: l, 0, _ => ⟨rfl, rfl⟩
  | v :: l, k + 1, h => by
    have := l64s_at l k (by simpa using h)
    rw [show (k + 1) * 2 = k * 2 + 2 by omega, List.getD_cons_succ]
    exact this
theorem l64s_app : ∀ (xs : List Int) (v : Int), l64s xs ++ [.int .u64 (hi8 v), .int .u64 (lo8 v)] = l64s (xs ++ [v])
  | [], v => rfl
  | x :: l, v => by
    have := l64s_app l v
    simp only [l64s, List.cons_append] at this ⊢
    rw [this]
theorem Own.lng {w : World} {lo hi : Nat} {A : Option Addr} {xs : List Int} (h : Own w lo hi A (l64s xs)) {k : Nat} (hk : k < xs.length) : ∃ g o, A = some ⟨g, o, none⟩ ∧ lo ≤ g ∧ g < hi ∧
    w.cell? ⟨g, o + k * 2, none⟩ = some (.int .u64 (hi8 (xs.getD k 0))) ∧ w.cell? ⟨g, o + k * 2 + 1, none⟩ = some (.int .u64 (lo8 (xs.getD k 0))) := by
  obtain ⟨g, o, e, h1, h2, hc⟩ := h (by rw [l64s_len]; omega)
  have hh := l64s_at xs k hk
  exact ⟨g, o, e, h1, h2, (hc _ _ hh.1).1, (hc _ _ hh.2).1⟩
theorem row_cap {w : World} {base : Nat} {e : TypeId} {size n c : Nat} {A : Option Addr} {cs : List Value} (h : w.ownsRow base e size (.slice A n c) n cs) : n ≤ c := by
  rcases h.2 with ⟨hv, h0⟩ | ⟨g, cap, cur, hv, hg, hh, hnc, _⟩
  · omega
  · injection hv with _ _ h3
    omega
/-- What a function hands back that makes a row. -/
def ResR (ys : List Int) (w : World) (e : Ending) (w' : World) : Prop :=
  ∃ B d, ys.length ≤ d ∧ e = .returned (.slice B ys.length d) ∧ Own w' w.heap.size w'.heap.size B (l64s ys) ∧ Below w.heap.size w w'

set_option maxRecDepth 8000 in
set_option maxHeartbeats 800000 in
theorem first_any (A : Option Addr) (n c lo hi : Nat) (xs : List Int) (w : World) (hn : xs.length = n) (hm : n ≤ 1000000) (ha : Own w lo hi A (l64s xs)) (hh : hi ≤ w.heap.size) :
    Calls Try.prog 109 #[.slice A n c] w fun e w' => e = .returned (lng (xs.headD 0)) ∧ Below w.heap.size w w' := by
  cases xs with
  | nil =>
    simp at hn
    subst hn
    show Calls _ _ _ _ (fun e w' => e = .returned (.agg #[.int .u64 0, .int .u64 0]) ∧ _)
    clear ha
    go_enter Try.func109, Try.ntmps109
    go_wp2
    exact bodyPost_ret (v := .agg #[.int .u64 0, .int .u64 0]) (by simp [results, Try.results109, go_sem]) rfl ⟨rfl, (Below.refl _ _).alloc (Nat.le_refl _) _⟩
  | cons x l =>
    obtain ⟨g, o, rfl, hg1, hg2, c0, c1⟩ := ha.lng (k := 0) (by simp)
    simp only [List.getD_cons_zero, Nat.zero_mul] at c0 c1
    show Calls _ _ _ _ (fun e w' => e = .returned (.agg #[.int .u64 (hi8 x), .int .u64 (lo8 x)]) ∧ _)
    have hn0 : ¬ (n : Int) = 0 := by simp at hn; omega
    have hn1 : (0 : Int) < (n : Int) := by simp at hn; omega
    have hgw : g < w.heap.size := by omega
    have k0 : (w.alloc (.cells #[.int .u64 0, .int .u64 0] 59)).cell? ⟨g, o, none⟩ = some (.int .u64 (hi8 x)) := (((Below.refl w.heap.size w).alloc (Nat.le_refl _) _).cell (p := ⟨g, o, none⟩) hgw).trans c0
    have k1 : (w.alloc (.cells #[.int .u64 0, .int .u64 0] 59)).cell? ⟨g, o + 1, none⟩ = some (.int .u64 (lo8 x)) := (((Below.refl w.heap.size w).alloc (Nat.le_refl _) _).cell (p := ⟨g, o + 1, none⟩) hgw).trans c1
    clear ha c0 c1 hn
    generalize hi8 x = a at *
    generalize lo8 x = b at *
    go_enter Try.func109, Try.ntmps109
    go_wp2
    exact bodyPost_ret (v := .agg #[.int .u64 a, .int .u64 b]) (by simp [results, Try.results109, go_sem]) rfl ⟨rfl, (Below.refl _ _).alloc (Nat.le_refl _) _⟩
set_option maxRecDepth 8000 in
set_option maxHeartbeats 800000 in
theorem rowOf_any (A : Option Addr) (n c lo hi : Nat) (xs : List Int) (w : World) (hn : xs.length = n) (hm : n ≤ 100000) (ha : Own w lo hi A (i64s xs)) (hh : hi ≤ w.heap.size) (hb : ∀ j, -9223372036854775808 ≤ xs.getD j 0 ∧ xs.getD j 0 ≤ 9223372036854775807) :
    Calls Try.prog 61 #[.slice A n c] w (ResR xs w) := by
  obtain ⟨i0, hi0, hz0, hz1, hz2⟩ := info_parts infoLng
  have HA := Lib.hid ha
  have HL := Lib.hid fun j W => longOf_any (xs.getD j 0) W (hb j).1 (hb j).2
  have HT := Lib.hid (show ∀ k, k < n → xs.take (k + 1) = xs.take k ++ [xs.getD k 0] from fun k hk => by
    rw [List.take_succ_eq_append_getElem (by omega)]
    simp [List.getD_eq_getElem?_getD, hn, hk])
  have HG := Lib.hid (show ∀ k, k < n → (i64s xs)[k]? = some (.int .i64 (xs.getD k 0)) from fun k hk => by simp [List.getD_eq_getElem?_getD, hn, hk])
  have HIL : Hid ((i64s xs).length = n) := Lib.hid (by simp [hn])
  have HLT : Hid (∀ k, k ≤ n → (xs.take k).length = k) := Lib.hid fun k hk => by rw [List.length_take, hn]; omega
  have HN := Lib.hid hn
  clear ha hb hn
  go_enter Try.func61, Try.ntmps61
  go_wp2
  go_loopw [3, 8] (fun v i wr => ∃ k : Nat, k ≤ n ∧ i = .int .i64 (k : Int) ∧ Hid (wr.ownsRow w.heap.size 59 2 v k (l64s (xs.take k))) ∧ Hid (Below w.heap.size w wr)) (fun _ i _ => n - (intOf i).toNat)
  case atStart => exact ⟨0, by omega, by simp, Lib.hid (by rw [List.take_zero]; exact World.ownsRow_nil _ _ _ _), Lib.hid (Below.refl _ _)⟩
  case round =>
    obtain ⟨k, hk, rfl, hR, hbl⟩ := hrel
    by_cases hlt : k < n
    · have hki : (k : Int) < (n : Int) := by omega
      obtain ⟨g, o, rfl, hg0, hg1, hcs⟩ := (HA.out.below hbl.out hh) (by rw [HIL.out]; omega)
      have s1 := (hcs _ _ (HG.out k hlt)).1
      have HK := Lib.hid (HT.out k hlt)
      have HLL := Lib.hid fun W => HL.out k W
      have HLn := Lib.hid (HLT.out k hk)
      generalize xs.getD k 0 = x at *
      clear hcs
      go_wp2_with (first
        | (go_at_call 80; refine (HLL.out _).mono ?_; rintro e w2 ⟨rfl, hb2⟩; have HR2 := Lib.hid (row_below hR.out hb2 (Nat.le_refl _)); have HB2 := Lib.hid (hbl.out.trans (hb2.mono hbl.out.size)); clear hb2)
        | (at_builtin; refine wpList_append_own _ rfl _ _ 48 rfl w.heap.size 59 i0 (.agg #[.int .u64 0, .int .u64 0]) 2 16 Try.underlying48 hi0 hz0 hz1 hz2 rfl (by decide) _ _ _ rfl (HR2.out.alloc _) ⟨w2.heap.size, 0, none⟩ 1 1 [.int .u64 (hi8 x), .int .u64 (lo8 x)] rfl rfl ?c1 ?c2 ?c3 ?c4 ?c5 ?_))
      case c1 =>
        intro j u hj
        match j, hj with
        | 0, hj => simp at hj; subst hj; simp [Addr.add]
        | 1, hj => simp at hj; subst hj; simp [Addr.add]
      case c2 => intro u hu; simp at hu; rcases hu with rfl | rfl <;> rfl
      case c3 => unfold maxLen; omega
      case c4 => omega
      case c5 => have := HB2.out.size; simp; omega
      · intro v' w5 hown' hgrow _
        rw [l64s_app, ← HK.out] at hown'
        have HO := Lib.hid hown'
        have HB5 : Hid (Below w.heap.size w w5) := Lib.hid ((HB2.out.alloc HB2.out.size _).grown hgrow (by have := HB2.out.size; simp; omega) fun g hg => (HR2.out.lt g hg).1)
        clear hown' hgrow
        go_wp2
        go_roundw
        case rel => exact ⟨k + 1, by omega, by go_num, HO, HB5⟩
        case measure => simp [intOf]; omega
    · obtain rfl : k = n := by omega
      obtain ⟨B, d, rfl⟩ := row_form hR.out
      have HO := Lib.hid (own_of_row hR.out)
      rw [List.take_of_length_le (by rw [HN.out]; exact Nat.le_refl _)] at HO
      go_wp2
      go_ret
      exact ⟨B, d, by rw [HN.out]; exact row_cap hR.out, by rw [HN.out]; rfl, HO.out, hbl.out⟩
end Go.Proofs.Ytmjgjdebcmbjeaa
