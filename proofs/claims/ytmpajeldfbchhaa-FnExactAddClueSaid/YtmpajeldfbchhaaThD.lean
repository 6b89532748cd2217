/- Chapter 9: the law AddClue, walked. -/
import Derived.Test.YtmpajeldfbchhaaThC
import Derived.Test.YtmpajeldfbchhaaTgK
namespace Go.Proofs.Ytmpajeldfbchhaa
open Go.ChangeShapes Go.WideShapes Go.ChangeAt Go.RowKit

theorem lawZ_AddClue_big (m : Int) (A : Option Addr) (n c : Nat) (qk qa qb : Int) (w : World) (h1 : 1048576 < n) (h2 : n ≤ 9223372036854775807) :
    Calls Try.prog 7 #[.agg #[.int .i64 m, .slice A n c], .agg #[.int .i64 qk, .int .i64 qa, .int .i64 qb]] w fun e w' => e = .returned (.bool true) ∧ Below w.heap.size w w' := by
  have HZ : Hid (∀ W, Calls Try.prog 12 #[.agg #[.int .i64 m, .slice A n c], .int .i64 1048576] W fun e w' => e = .returned (.int .i64 (-1)) ∧ Below W.heap.size W w') := Lib.hid fun W => by
    have h := szPuzzle_any m A n c 1048576 W h2 (by omega) (by omega)
    rwa [if_pos (by omega)] at h
  have b0 : Below w.heap.size w ((w.alloc (.cells #[.int .i64 m, .slice A n c] 30)).alloc (.cells #[.int .i64 qk, .int .i64 qa, .int .i64 qb] 23)) := ((Below.refl _ _).alloc (Nat.le_refl _) _).alloc (by simp) _
  go_enter Try.func7, Try.ntmps7
  go_wp2_with (go_at_call 12; refine (HZ.out _).mono ?_; rintro e w1 ⟨rfl, b1⟩)
  go_ret
  exact ⟨rfl, b0.trans (b1.mono b0.size)⟩
theorem walk_AddClue (m : Int) (A : Option Addr) (n c : Nat) (xs : List Clu) (qk qa qb : Int) (w : World) (hn : xs.length = n) (h2 : n ≤ 9223372036854775807) (ha : Rd w w.heap.size A (c64 xs)) :
    Calls Try.prog 7 #[.agg #[.int .i64 m, .slice A n c], .agg #[.int .i64 qk, .int .i64 qa, .int .i64 qb]] w fun e w' => e = .returned (.bool true) ∧ Below w.heap.size w w' := by
  by_cases hb : 1048576 < n
  · exact lawZ_AddClue_big m A n c qk qa qb w hb h2
  · by_cases hno : okp9 m xs = false ∨ okc9 ⟨qk, qa, qb⟩ = false ∨ n = 6
    · exact lawZ_AddClue m A n c xs qk qa qb 0 [] false w hn (by omega) (by simp) ha (fun g w ho => spec_AddClue_no m _ n n 0 xs ⟨qk, qa, qb⟩ w hn (by omega) ho hno) (fun g w ho => impl_AddClue_no m _ n n 0 xs ⟨qk, qa, qb⟩ w hn (by omega) ho hno)
    · have hok : okp9 m xs = true := by
        cases h : okp9 m xs with
        | true => rfl
        | false => exact absurd (.inl h) hno
      have hoc : okc9 ⟨qk, qa, qb⟩ = true := by
        cases h : okc9 ⟨qk, qa, qb⟩ with
        | true => rfl
        | false => exact absurd (.inr (.inl h)) hno
      have h6 : n < 6 := by
        have h1 := okp9_len hok
        have h3 : n ≠ 6 := fun h => hno (.inr (.inr h))
        omega
      exact lawZ_AddClue m A n c xs qk qa qb m (xs ++ [⟨qk, qa, qb⟩]) true w hn (by omega) (by rw [List.length_append, List.length_singleton]; omega) ha (fun g w ho => spec_AddClue_yes m g 0 n n 0 xs qk qa qb w hn (Nat.le_refl _) ho hok hoc h6) (fun g w ho => impl_AddClue_yes m g 0 n n 0 xs qk qa qb w hn ho hok hoc h6)
end Go.Proofs.Ytmpajeldfbchhaa
