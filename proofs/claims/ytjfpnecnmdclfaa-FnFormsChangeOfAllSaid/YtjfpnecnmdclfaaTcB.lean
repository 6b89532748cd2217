/- Chapter 8, the program: a number of 128 digits as one of 64, or raised. -/
import Derived.Test.YtjfpnecnmdclfaaTcA
import Derived.Deep.RegionHeld3
import Derived.WalkSmall
namespace Go.Proofs.Ytjfpnecnmdclfaa
open Go.RowKit

theorem eq_lng (a b c d : Int) (w : World) : (Op.equalIn 10000 64 (.agg #[.int .u64 a, .int .u64 b]) (.agg #[.int .u64 c, .int .u64 d])).run Try.prog w = .ok (a == c && b == d) w := by
  cases h1 : a == c <;> cases h2 : b == d <;> simp_all [go_sem]
set_option maxRecDepth 8000 in
set_option maxHeartbeats 800000 in
theorem ofSize_yes (v g : Int) (w : World) (h1 : 0 ≤ g) (h2 : g ≤ 1000000000000000) (h3 : -g ≤ v) (h4 : v ≤ g) :
    Calls Try.prog 74 #[lng v, .int .i64 g] w fun e w' => e = .returned (.int .i64 v) ∧ Below w.heap.size w w' := by
  have e1 : IntKind.i64.wrap (lo8 v) = v := by
    rw [IntKind.wrap_i64]
    unfold lo8
    omega
  have hq : ∀ W, (Op.equalIn 10000 64 (.agg #[.int .u64 (hi8 v), .int .u64 (lo8 v)]) (.agg #[.int .u64 (hi8 v), .int .u64 (lo8 v)])).run Try.prog W = .ok true W := fun W => by
    rw [eq_lng]
    simp
  have HL := Lib.hid fun W => longOf_any v W (by omega) (by omega)
  have HS := Lib.hid fun W => ofSize8_any v g W h1 h2
  rw [decide_eq_true ⟨h3, h4⟩] at HS
  unfold lng at *
  generalize lo8 v = b at *
  generalize hi8 v = a at *
  have c0 : (w.alloc (.cells #[.int .u64 a, .int .u64 b] 64)).cell? ⟨w.heap.size, 0, none⟩ = some (.int .u64 a) := by simp [go_sem]
  have c1 : (w.alloc (.cells #[.int .u64 a, .int .u64 b] 64)).cell? ⟨w.heap.size, 1, none⟩ = some (.int .u64 b) := by simp [go_sem]
  have hz : w.heap.size < (w.alloc (.cells #[.int .u64 a, .int .u64 b] 64)).heap.size := by simp
  have HB := Lib.hid ((Below.refl w.heap.size w).alloc (Nat.le_refl _) (.cells #[.int .u64 a, .int .u64 b] 64))
  clear h1 h2 h3 h4
  go_enter Try.func74, Try.ntmps74
  go_wp2
  generalize w.alloc (.cells #[.int .u64 a, .int .u64 b] 64) = w1 at *
  go_region_held3 (fun w' => w'.cell? ⟨w.heap.size, 0, none⟩ = some (.int .u64 a) ∧ w'.cell? ⟨w.heap.size, 1, none⟩ = some (.int .u64 b))
    (first | exact ⟨c0, c1⟩ | exact ⟨(hb2.cell (p := ⟨w.heap.size, 0, none⟩) hz).trans c0, (hb2.cell (p := ⟨w.heap.size, 1, none⟩) hz).trans c1⟩)
    (first
      | (go_at_call 69; refine (HL.out _).mono ?_; rintro e w2 ⟨rfl, hb2⟩)
      | (go_at_call 82; refine (HS.out _).mono ?_; rintro e w3 ⟨rfl, rfl⟩))
  go_wp2
  go_ret
  exact ⟨rfl, HB.out.drew.trans (hb2.mono (Nat.le_of_lt hz))⟩
/-- How a number that is too great is raised. -/
abbrev raised8 (v : Int) : Ending := .panicked [{ v := .iface 64 (lng v), recovered := false }]
set_option maxRecDepth 8000 in
set_option maxHeartbeats 800000 in
theorem ofSize_bad (v g : Int) (w : World) (h1 : 0 ≤ g) (h2 : g ≤ 1000000000000000) (h3 : v < -g ∨ g < v) (h4 : -85070591730234615865843651857942052864 ≤ v) (h5 : v ≤ 85070591730234615865843651857942052864) :
    Calls Try.prog 74 #[lng v, .int .i64 g] w fun e w' => e = raised8 v ∧ Below w.heap.size w w' := by
  obtain ⟨m, hm⟩ : ∃ m, m = IntKind.i64.wrap (lo8 v) := ⟨_, rfl⟩
  have e1 : IntKind.i64.wrap (lo8 v) = m := hm.symm
  have hm2 : lo8 m = lo8 v ∧ -9223372036854775808 ≤ m ∧ m ≤ 9223372036854775807 := by
    rw [IntKind.wrap_i64] at hm
    unfold lo8 at *
    omega
  have HL := Lib.hid fun W => longOf_any m W hm2.2.1 hm2.2.2
  have HS := Lib.hid fun W => ofSize8_any m g W h1 h2
  have HR : raised8 v = .panicked [{ v := .iface 64 (.agg #[.int .u64 (hi8 v), .int .u64 (lo8 v)]), recovered := false }] := rfl
  rw [HR]
  clear HR hm
  by_cases hmv : hi8 m = hi8 v
  · have hmm : m = v := long_eq v m h4 h5 hm2.2.1 hm2.2.2 hmv hm2.1
    subst hmm
    rw [decide_eq_false (by omega)] at HS
    have hq : ∀ W, (Op.equalIn 10000 64 (.agg #[.int .u64 (hi8 m), .int .u64 (lo8 m)]) (.agg #[.int .u64 (hi8 m), .int .u64 (lo8 m)])).run Try.prog W = .ok true W := fun W => by
      rw [eq_lng]
      simp
    clear hm2 hmv
    unfold lng at *
    generalize lo8 m = b at *
    generalize hi8 m = a at *
    have c0 : (w.alloc (.cells #[.int .u64 a, .int .u64 b] 64)).cell? ⟨w.heap.size, 0, none⟩ = some (.int .u64 a) := by simp [go_sem]
    have c1 : (w.alloc (.cells #[.int .u64 a, .int .u64 b] 64)).cell? ⟨w.heap.size, 1, none⟩ = some (.int .u64 b) := by simp [go_sem]
    have hz : w.heap.size < (w.alloc (.cells #[.int .u64 a, .int .u64 b] 64)).heap.size := by simp
    have HB := Lib.hid ((Below.refl w.heap.size w).alloc (Nat.le_refl _) (.cells #[.int .u64 a, .int .u64 b] 64))
    clear h1 h2 h3 h4 h5
    go_enter Try.func74, Try.ntmps74
    go_wp2
    generalize w.alloc (.cells #[.int .u64 a, .int .u64 b] 64) = w1 at *
    go_region_held3 (fun w' => w'.cell? ⟨w.heap.size, 0, none⟩ = some (.int .u64 a) ∧ w'.cell? ⟨w.heap.size, 1, none⟩ = some (.int .u64 b))
      (first | exact ⟨c0, c1⟩ | exact ⟨(hb2.cell (p := ⟨w.heap.size, 0, none⟩) hz).trans c0, (hb2.cell (p := ⟨w.heap.size, 1, none⟩) hz).trans c1⟩)
      (first
        | (go_at_call 69; refine (HL.out _).mono ?_; rintro e w2 ⟨rfl, hb2⟩)
        | (go_at_call 82; refine (HS.out _).mono ?_; rintro e w3 ⟨rfl, rfl⟩))
    have k0 := (hb2.cell (p := ⟨w.heap.size, 0, none⟩) hz).trans c0
    have k1 := (hb2.cell (p := ⟨w.heap.size, 1, none⟩) hz).trans c1
    go_wp2
    exact ⟨rfl, rfl, HB.out.drew.trans (hb2.mono (Nat.le_of_lt hz))⟩
  · have hq : ∀ W, (Op.equalIn 10000 64 (.agg #[.int .u64 (hi8 m), .int .u64 (lo8 m)]) (.agg #[.int .u64 (hi8 v), .int .u64 (lo8 v)])).run Try.prog W = .ok false W := fun W => by
      rw [eq_lng]
      simp [hmv]
    have hlm := hm2.1
    clear hm2 hmv HS
    unfold lng at *
    rw [hlm] at hq HL
    generalize lo8 v = b at *
    generalize hi8 v = a at *
    generalize hi8 m = a2 at *
    clear hlm
    have c0 : (w.alloc (.cells #[.int .u64 a, .int .u64 b] 64)).cell? ⟨w.heap.size, 0, none⟩ = some (.int .u64 a) := by simp [go_sem]
    have c1 : (w.alloc (.cells #[.int .u64 a, .int .u64 b] 64)).cell? ⟨w.heap.size, 1, none⟩ = some (.int .u64 b) := by simp [go_sem]
    have hz : w.heap.size < (w.alloc (.cells #[.int .u64 a, .int .u64 b] 64)).heap.size := by simp
    have HB := Lib.hid ((Below.refl w.heap.size w).alloc (Nat.le_refl _) (.cells #[.int .u64 a, .int .u64 b] 64))
    clear h1 h2 h3 h4 h5
    go_enter Try.func74, Try.ntmps74
    go_wp2
    generalize w.alloc (.cells #[.int .u64 a, .int .u64 b] 64) = w1 at *
    refine wp_region_held_drew (S := (fun w' => w'.cell? ⟨w.heap.size, 0, none⟩ = some (.int .u64 a) ∧ w'.cell? ⟨w.heap.size, 1, none⟩ = some (.int .u64 b))) (by kernel_rfl) ?_ (fun hHeld => ?_)
    · exact ⟨c0, c1⟩
    refine wpAnyH_take (i := 0) (v := ?_) rfl (by kernel_rfl) (by kernel_rfl) (by kernel_rfl) (fun _ _ _ h => h) (Or.inl ⟨by rfl, ?_⟩) (by assumption) ?_
    rotate_left
    · intro wx hSw
      (try dsimp only at hSw)
      go_simp
      (try with_reducible rfl)
    (try simp only [Act.put, List.setIfInBounds_toArray])
    refine wpAnyH_take (i := 2) (v := ?_) rfl (by kernel_rfl) (by kernel_rfl) (by kernel_rfl) (fun _ _ _ h => h) (Or.inl ⟨by rfl, ?_⟩) (by assumption) ?_
    rotate_left
    · intro wx hSw
      (try dsimp only at hSw)
      go_simp
      (try with_reducible rfl)
    (try simp only [Act.put])
    refine wpAnyH_ready (rs := [1]) (by kernel_rfl) (by simp) ?_
    refine AllReadyH.cons rfl (fun K hK => ?_) AllReadyH.nil
    go_simp
    refine (HL.out _).mono ?_
    rintro e w2 ⟨rfl, hb2⟩
    refine hK.out _ _ ?_ (fun hHeld => ?_)
    · exact ⟨(hb2.cell (p := ⟨w.heap.size, 0, none⟩) hz).trans c0, (hb2.cell (p := ⟨w.heap.size, 1, none⟩) hz).trans c1⟩
    clear hK K
    (try simp only [Act.put, List.setIfInBounds_toArray, List.set_cons_zero, List.set_cons_succ])
    refine wpAnyH_take (i := 3) (v := ?_) rfl (by kernel_rfl) (by kernel_rfl) (by kernel_rfl) (fun _ _ _ h => h) (Or.inl ⟨by rfl, ?_⟩) (by assumption) ?_
    rotate_left
    · intro wx hSw
      (try dsimp only at hSw)
      go_simp
      (try with_reducible rfl)
    (try simp only [Act.put, List.setIfInBounds_toArray])
    refine wpAnyH_take (i := 4) (v := ?_) rfl (by kernel_rfl) (by kernel_rfl) (by kernel_rfl) (fun _ _ _ h => h) (Or.inl ⟨by rfl, ?_⟩) (by assumption) ?_
    rotate_left
    · intro wx hSw
      (try dsimp only at hSw)
      go_simp
      (try with_reducible rfl)
    (try simp only [Act.put])
    refine wpAnyH_take (i := 5) (v := undef) rfl (by kernel_rfl) (by kernel_rfl) (by kernel_rfl) (fun _ _ _ h => h) (Or.inr ⟨rfl, rfl⟩) (by assumption) ?_
    (try simp only [Act.put])
    refine wpAnyH_take (i := 6) (v := undef) rfl (by kernel_rfl) (by kernel_rfl) (by kernel_rfl) (fun _ _ _ h => h) (Or.inr ⟨rfl, rfl⟩) (by assumption) ?_
    (try simp only [Act.put])
    refine wpAnyH_take (i := 7) (v := undef) rfl (by kernel_rfl) (by kernel_rfl) (by kernel_rfl) (fun _ _ _ h => h) (Or.inr ⟨rfl, rfl⟩) (by assumption) ?_
    (try simp only [Act.put])
    refine wpAnyH_take (i := 8) (v := undef) rfl (by kernel_rfl) (by kernel_rfl) (by kernel_rfl) (fun _ _ _ h => h) (Or.inr ⟨rfl, rfl⟩) (by assumption) ?_
    (try simp only [Act.put])
    refine wpAnyH_take (i := 9) (v := ?_) rfl (by kernel_rfl) (by kernel_rfl) (by kernel_rfl) (fun _ _ _ h => h) (Or.inl ⟨by rfl, ?_⟩) (by assumption) ?_
    rotate_left
    · intro wx hSw
      (try dsimp only at hSw)
      go_simp
      (try with_reducible rfl)
    (try simp only [Act.put])
    refine wpAnyH_done (by kernel_rfl) ?_ _
    have k0 := (hb2.cell (p := ⟨w.heap.size, 0, none⟩) hz).trans c0
    have k1 := (hb2.cell (p := ⟨w.heap.size, 1, none⟩) hz).trans c1
    go_wp2
    exact ⟨rfl, rfl, HB.out.drew.trans (hb2.mono (Nat.le_of_lt hz))⟩
end Go.Proofs.Ytjfpnecnmdclfaa
