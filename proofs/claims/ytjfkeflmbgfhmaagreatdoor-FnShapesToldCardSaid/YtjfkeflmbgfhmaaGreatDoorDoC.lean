/- The law FnExactParseShape: the specification's side. -/
import Derived.Test.YtjfkeflmbgfhmaaGreatDoorDoB
import Derived.Test.YtjfkeflmbgfhmaaGreatDoorTxt
namespace Go.Proofs.YtjfkeflmbgfhmaaGreatDoor
open Go.RowKit
set_option linter.unusedSimpArgs false
set_option linter.unusedVariables false

theorem ba_beq (a b : ByteArray) : (a.toList == b.toList) = decide (a = b) := by
  rw [ByteArray.toList_eq, ByteArray.toList_eq, Bool.eq_iff_iff]
  simp [ByteArray.ext_iff]
/-- The text of the sides a and the place b, both as they are told, is s. -/
def Good (s : ByteArray) (a b : Int) : Prop := (3 ≤ a ∧ a ≤ 24 ∧ 0 ≤ b ∧ b ≤ 100000) ∧ shTxt a b = s
def ShP (s : ByteArray) (w : World) (e : Ending) (w' : World) : Prop :=
  ∃ b : Bool, e = .returned (.tuple #[.agg #[.int .i64 (pfold s.data.toList).1, .int .i64 (pfold s.data.toList).2], .bool b]) ∧ (b = true ↔ Good s (pfold s.data.toList).1 (pfold s.data.toList).2) ∧ Below w.heap.size w w'

theorem take_snoc (s : ByteArray) (k : Nat) (_h : k < s.size) : s.data.toList.take (k + 1) = s.data.toList.take k ++ [s[k]] := by
  rw [List.take_succ_eq_append_getElem (by simpa using _h)]; rfl
theorem pow10_le : ∀ k : Nat, k ≤ 9 → (10 : Int) ^ k ≤ 1000000000
  | 0, _ => by decide
  | 1, _ => by decide
  | 2, _ => by decide
  | 3, _ => by decide
  | 4, _ => by decide
  | 5, _ => by decide
  | 6, _ => by decide
  | 7, _ => by decide
  | 8, _ => by decide
  | 9, _ => by decide
  | k + 10, h => by simp at h

theorem step_colon {c : UInt8} {A B : Int} (h : ((c.toNat : Int) == 58) = true) : pstep (A, B) c = (B, 0) := by
  have : c.toNat = 58 := by have := of_decide_eq_true h; omega
  simp [pstep, this]
theorem step_digit {c : UInt8} {A B : Int} (_h : ((c.toNat : Int) == 58) = false) (h1 : 48 ≤ (c.toNat : Int)) (h2 : (c.toNat : Int) ≤ 57) : pstep (A, B) c = (A, 10 * B + ((c.toNat : Int) - 48)) := by
  have : ¬ c.toNat = 58 := by omega
  rw [pstep, if_neg this, if_pos (by omega)]
theorem step_other {c : UInt8} {A B : Int} (h : ((c.toNat : Int) == 58) = false) (h1 : ¬ (48 ≤ (c.toNat : Int) ∧ (c.toNat : Int) ≤ 57)) : pstep (A, B) c = (A, B) := by
  have : ¬ c.toNat = 58 := by
    have := of_decide_eq_false h
    omega
  rw [pstep, if_neg this, if_neg (by omega)]

set_option maxHeartbeats 4000000 in
theorem shParse_any (s : ByteArray) (w : World) (hl : s.size ≤ 9) :
    Calls Tryz.prog 61 #[.string s] w (ShP s w) := by
  go_enter Tryz.func61, Tryz.ntmps61
  go_wp2
  go_loopw [5, 6] (fun n i wr => ∃ (k : Nat) (A B : Int), k ≤ s.size ∧ i = .int .i64 k ∧ n = .int .i64 B ∧ Hid ((A, B) = pfold (s.data.toList.take k)) ∧ 0 ≤ A ∧ A < 1000000000 ∧ 0 ≤ B ∧ B < 1000000000 ∧
      wr = (w.alloc (.cells #[.int .i64 0, .int .i64 0] 30)).alloc (.cells #[.int .i64 A, .int .i64 0] 30)) (fun _ i _ => s.size - (intOf i).toNat)
  case atStart => exact ⟨0, 0, 0, Nat.zero_le _, rfl, rfl, Lib.hid (by simp [pfold]), by omega, by omega, by omega, by omega, rfl⟩
  case round =>
    obtain ⟨k, A, B, hk, rfl, rfl, HP, a0, a1, b0, b1, rfl⟩ := hrel
    by_cases hlt : k < s.size
    · have ht := take_snoc s k hlt
      have hp : pfold (s.data.toList.take (k + 1)) = pstep (A, B) s[k] := by rw [ht, pfold_snoc, HP.out]
      have hbd := pfold_bd (s.data.toList.take (k + 1))
      have hpw := pow10_le (s.data.toList.take (k + 1)).length (by rw [List.length_take]; omega)
      rw [hp] at hbd
      have HQ := Lib.hid hp
      have HD := Lib.hid hbd
      have HW := Lib.hid hpw
      clear ht hp hbd hpw
      go_wp2
      · have h1 : ((s[k].toNat : Int) == 58) = true := by assumption
        have hs := step_colon (A := A) (B := B) h1
        go_roundw
        case rel => exact ⟨k + 1, B, 0, by omega, by go_num, rfl, Lib.hid (by rw [HQ.out, hs]), by omega, by omega, by omega, by omega, rfl⟩
        case measure => simp [intOf]; omega
      · have h1 : ((s[k].toNat : Int) == 58) = false := by assumption
        have h2 : 48 ≤ (s[k].toNat : Int) := by assumption
        have h3 : (s[k].toNat : Int) ≤ 57 := by assumption
        have hs := step_digit (A := A) (B := B) h1 h2 h3
        have hd := HD.out
        rw [hs] at hd
        simp only at hd
        have hw := HW.out
        go_roundw
        case rel => exact ⟨k + 1, A, _, by omega, by go_num, rfl, Lib.hid (by rw [HQ.out, hs]), by omega, by omega, by omega, by omega, rfl⟩
        case measure => simp [intOf]; omega
      · have h1 : ((s[k].toNat : Int) == 58) = false := by assumption
        have h3 : 57 < (s[k].toNat : Int) := by assumption
        have hs := step_other (A := A) (B := B) h1 (by omega)
        go_roundw
        case rel => exact ⟨k + 1, A, B, by omega, by go_num, rfl, Lib.hid (by rw [HQ.out, hs]), by omega, by omega, by omega, by omega, rfl⟩
        case measure => simp [intOf]; omega
      · have h1 : ((s[k].toNat : Int) == 58) = false := by assumption
        have h3 : ¬ 48 ≤ (s[k].toNat : Int) := by assumption
        have hs := step_other (A := A) (B := B) h1 (by omega)
        go_roundw
        case rel => exact ⟨k + 1, A, B, by omega, by go_num, rfl, Lib.hid (by rw [HQ.out, hs]), by omega, by omega, by omega, by omega, rfl⟩
        case measure => simp [intOf]; omega
    · obtain rfl : k = s.size := by omega
      have hp : (A, B) = pfold s.data.toList := by
        have := HP.out
        rwa [List.take_of_length_le (by simp)] at this
      have HQ := Lib.hid hp
      clear hp HP hk
      by_cases hv : (A < 3 ∨ 24 < A) ∨ (B < 0 ∨ 100000 < B)
      · have H := Lib.hid hv
        clear hv
        go_wp2
        generalize hw2 : (w.alloc (.cells #[.int .i64 0, .int .i64 0] 30)).alloc (.cells #[.int .i64 A, .int .i64 B] 30) = w2
        have c0 : w2.cell? ⟨w.heap.size, 0, none⟩ = some (.int .i64 0) := by rw [← hw2]; simp [go_sem]
        have c1 : w2.cell? ⟨w.heap.size, 1, none⟩ = some (.int .i64 0) := by rw [← hw2]; simp [go_sem]
        have f0 : w2.frozen? ⟨w.heap.size, 0, none⟩ = false := by rw [← hw2]; simp [go_sem]
        have f1 : w2.frozen? ⟨w.heap.size, 1, none⟩ = false := by rw [← hw2]; simp [go_sem]
        have d0 : w2.cell? ⟨w.heap.size + 1, 0, none⟩ = some (.int .i64 A) := by rw [← hw2]; simp [go_sem]
        have d1 : w2.cell? ⟨w.heap.size + 1, 1, none⟩ = some (.int .i64 B) := by rw [← hw2]; simp [go_sem]
        have hz : w2.heap.size = w.heap.size + 2 := by rw [← hw2]; simp
        have hB : Below w.heap.size w w2 := by rw [← hw2]; exact ((Below.refl _ _).alloc (Nat.le_refl _) _).alloc (by simp) _
        have HZ := Lib.hid hz
        clear hw2 hz
        refine wp_region_held_drew (S := (fun w' => w'.cell? ⟨w.heap.size + 1, 0, none⟩ = some (.int .i64 A) ∧ w'.cell? ⟨w.heap.size + 1, 1, none⟩ = some (.int .i64 B))) (by kernel_rfl) ?_ (fun hHeld => ?_)
        · exact ⟨d0, d1⟩
        refine wpAnyH_take (i := 0) (v := ?_) rfl (by kernel_rfl) (by kernel_rfl) (by kernel_rfl) (fun _ _ _ h => h) (Or.inl ⟨by rfl, ?_⟩) (by assumption) ?_
        rotate_left
        · intro wx hSw
          (try dsimp only at hSw)
          go_simp
          with_reducible rfl
        (try simp only [Act.put, List.setIfInBounds_toArray, List.set_cons_zero, List.set_cons_succ])
        refine wpAnyH_take (i := 1) (v := ?_) rfl (by kernel_rfl) (by kernel_rfl) (by kernel_rfl) (fun _ _ _ h => h) (Or.inl ⟨by rfl, ?_⟩) (by assumption) ?_
        rotate_left
        · intro wx hSw
          (try dsimp only at hSw)
          go_simp
          with_reducible rfl
        (try simp only [Act.put, List.setIfInBounds_toArray, List.set_cons_zero, List.set_cons_succ])
        refine wpAnyH_take (i := 2) (v := ?_) rfl (by kernel_rfl) (by kernel_rfl) (by kernel_rfl) (fun _ _ _ h => h) (Or.inl ⟨by rfl, ?_⟩) (by assumption) ?_
        rotate_left
        · intro wx hSw
          (try dsimp only at hSw)
          go_simp
          with_reducible rfl
        (try simp only [Act.put, List.setIfInBounds_toArray, List.set_cons_zero, List.set_cons_succ])
        refine wpAnyH_take (i := 3) (v := ?_) rfl (by kernel_rfl) (by kernel_rfl) (by kernel_rfl) (fun _ _ _ h => h) (Or.inl ⟨by rfl, ?_⟩) (by assumption) ?_
        rotate_left
        · intro wx hSw
          (try dsimp only at hSw)
          go_simp
          with_reducible rfl
        (try simp only [Act.put, List.setIfInBounds_toArray, List.set_cons_zero, List.set_cons_succ])
        refine wpAnyH_take (i := 4) (v := ?_) rfl (by kernel_rfl) (by kernel_rfl) (by kernel_rfl) (fun _ _ _ h => h) (Or.inl ⟨by rfl, ?_⟩) (by assumption) ?_
        rotate_left
        · intro wx hSw
          (try dsimp only at hSw)
          go_simp
          with_reducible rfl
        (try simp only [Act.put, List.setIfInBounds_toArray, List.set_cons_zero, List.set_cons_succ])
        refine wpAnyH_ready (rs := [5]) (by kernel_rfl) (by simp) ?_
        refine AllReadyH.cons rfl (fun K hK => ?_) AllReadyH.nil
        go_simp
        refine (shPlace_no _ _ _ H.out).mono ?_
        rintro e w' ⟨rfl, rfl⟩
        refine hK.out _ _ ?_ (fun hHeld => ?_)
        · exact ⟨d0, d1⟩
        clear hK K
        refine wpAnyH_take (i := 6) (v := ?_) rfl (by kernel_rfl) (by kernel_rfl) (by kernel_rfl) (fun _ _ _ h => h) (Or.inl ⟨by rfl, ?_⟩) (by assumption) ?_
        rotate_left
        · intro wx hSw
          (try dsimp only at hSw)
          go_simp
          with_reducible rfl
        (try simp only [Act.put, List.setIfInBounds_toArray, List.set_cons_zero, List.set_cons_succ])
        refine wpAnyH_take (i := 7) (v := undef) rfl (by kernel_rfl) (by kernel_rfl) (by kernel_rfl) (fun _ _ _ h => h) (Or.inr ⟨rfl, rfl⟩) (by assumption) ?_
        (try simp only [Act.put, List.setIfInBounds_toArray, List.set_cons_zero, List.set_cons_succ])
        refine wpAnyH_take (i := 8) (v := undef) rfl (by kernel_rfl) (by kernel_rfl) (by kernel_rfl) (fun _ _ _ h => h) (Or.inr ⟨rfl, rfl⟩) (by assumption) ?_
        (try simp only [Act.put, List.setIfInBounds_toArray, List.set_cons_zero, List.set_cons_succ])
        refine wpAnyH_take (i := 9) (v := undef) rfl (by kernel_rfl) (by kernel_rfl) (by kernel_rfl) (fun _ _ _ h => h) (Or.inr ⟨rfl, rfl⟩) (by assumption) ?_
        (try simp only [Act.put, List.setIfInBounds_toArray, List.set_cons_zero, List.set_cons_succ])
        refine wpAnyH_take (i := 10) (v := undef) rfl (by kernel_rfl) (by kernel_rfl) (by kernel_rfl) (fun _ _ _ h => h) (Or.inr ⟨rfl, rfl⟩) (by assumption) ?_
        (try simp only [Act.put, List.setIfInBounds_toArray, List.set_cons_zero, List.set_cons_succ])
        refine wpAnyH_take (i := 11) (v := ?_) rfl (by kernel_rfl) (by kernel_rfl) (by kernel_rfl) (fun _ _ _ h => h) (Or.inl ⟨by rfl, ?_⟩) (by assumption) ?_
        rotate_left
        · intro wx hSw
          (try dsimp only at hSw)
          go_simp
          with_reducible rfl
        (try simp only [Act.put, List.setIfInBounds_toArray, List.set_cons_zero, List.set_cons_succ])
        refine wpAnyH_ready (rs := [12]) (by kernel_rfl) (by simp) ?_
        refine AllReadyH.cons rfl (fun K hK => ?_) AllReadyH.nil
        go_simp
        refine hK.out _ _ ?_ (fun hHeld => ?_)
        · go_keep
        clear hK K
        refine wpAnyH_ready (rs := [13]) (by kernel_rfl) (by simp) ?_
        refine AllReadyH.cons rfl (fun K hK => ?_) AllReadyH.nil
        go_simp
        refine hK.out _ _ ?_ (fun hHeld => ?_)
        · go_keep
        clear hK K
        refine wpAnyH_done (by kernel_rfl) ?_ _
        go_wp2
        have HP := HQ.out
        refine bodyPost_ret (v := .tuple #[.agg #[.int .i64 A, .int .i64 B], .bool false]) (by simp [results, Tryz.results61, go_sem, *]) rfl ?_
        unfold ShP
        rw [← HP]
        exact ⟨false, rfl, iff_of_false Bool.false_ne_true (fun h => by have h1 := h.1; have h2 := H.out; omega), (hB.drew.setCell (by simp) _).setCell (by simp) _⟩
      · have g1 : 3 ≤ A := by omega
        have g2 : A ≤ 24 := by omega
        have g3 : 0 ≤ B := by omega
        have g4 : B ≤ 100000 := by omega
        clear hv
        go_wp2
        generalize hw2 : (w.alloc (.cells #[.int .i64 0, .int .i64 0] 30)).alloc (.cells #[.int .i64 A, .int .i64 B] 30) = w2
        have c0 : w2.cell? ⟨w.heap.size, 0, none⟩ = some (.int .i64 0) := by rw [← hw2]; simp [go_sem]
        have c1 : w2.cell? ⟨w.heap.size, 1, none⟩ = some (.int .i64 0) := by rw [← hw2]; simp [go_sem]
        have f0 : w2.frozen? ⟨w.heap.size, 0, none⟩ = false := by rw [← hw2]; simp [go_sem]
        have f1 : w2.frozen? ⟨w.heap.size, 1, none⟩ = false := by rw [← hw2]; simp [go_sem]
        have d0 : w2.cell? ⟨w.heap.size + 1, 0, none⟩ = some (.int .i64 A) := by rw [← hw2]; simp [go_sem]
        have d1 : w2.cell? ⟨w.heap.size + 1, 1, none⟩ = some (.int .i64 B) := by rw [← hw2]; simp [go_sem]
        have hz : w2.heap.size = w.heap.size + 2 := by rw [← hw2]; simp
        have hB : Below w.heap.size w w2 := by rw [← hw2]; exact ((Below.refl _ _).alloc (Nat.le_refl _) _).alloc (by simp) _
        have HZ := Lib.hid hz
        clear hw2 hz
        have z2 : w.heap.size + 1 < w2.heap.size := by have := HZ.out; omega
        have z0 : w.heap.size < w2.heap.size := by omega
        by_cases he : shTxt A B = s
        · subst he
          refine wp_region_held_drew (S := (fun w' => w'.cell? ⟨w.heap.size + 1, 0, none⟩ = some (.int .i64 A) ∧ w'.cell? ⟨w.heap.size + 1, 1, none⟩ = some (.int .i64 B))) (by kernel_rfl) ?_ (fun hHeld => ?_)
          · exact ⟨d0, d1⟩
          refine wpAnyH_take (i := 0) (v := ?_) rfl (by kernel_rfl) (by kernel_rfl) (by kernel_rfl) (fun _ _ _ h => h) (Or.inl ⟨by rfl, ?_⟩) (by assumption) ?_
          rotate_left
          · intro wx hSw
            (try dsimp only at hSw)
            go_simp
            with_reducible rfl
          (try simp only [Act.put, List.setIfInBounds_toArray, List.set_cons_zero, List.set_cons_succ])
          refine wpAnyH_take (i := 1) (v := ?_) rfl (by kernel_rfl) (by kernel_rfl) (by kernel_rfl) (fun _ _ _ h => h) (Or.inl ⟨by rfl, ?_⟩) (by assumption) ?_
          rotate_left
          · intro wx hSw
            (try dsimp only at hSw)
            go_simp
            with_reducible rfl
          (try simp only [Act.put, List.setIfInBounds_toArray, List.set_cons_zero, List.set_cons_succ])
          refine wpAnyH_take (i := 2) (v := ?_) rfl (by kernel_rfl) (by kernel_rfl) (by kernel_rfl) (fun _ _ _ h => h) (Or.inl ⟨by rfl, ?_⟩) (by assumption) ?_
          rotate_left
          · intro wx hSw
            (try dsimp only at hSw)
            go_simp
            with_reducible rfl
          (try simp only [Act.put, List.setIfInBounds_toArray, List.set_cons_zero, List.set_cons_succ])
          refine wpAnyH_take (i := 3) (v := ?_) rfl (by kernel_rfl) (by kernel_rfl) (by kernel_rfl) (fun _ _ _ h => h) (Or.inl ⟨by rfl, ?_⟩) (by assumption) ?_
          rotate_left
          · intro wx hSw
            (try dsimp only at hSw)
            go_simp
            with_reducible rfl
          (try simp only [Act.put, List.setIfInBounds_toArray, List.set_cons_zero, List.set_cons_succ])
          refine wpAnyH_take (i := 4) (v := ?_) rfl (by kernel_rfl) (by kernel_rfl) (by kernel_rfl) (fun _ _ _ h => h) (Or.inl ⟨by rfl, ?_⟩) (by assumption) ?_
          rotate_left
          · intro wx hSw
            (try dsimp only at hSw)
            go_simp
            with_reducible rfl
          (try simp only [Act.put, List.setIfInBounds_toArray, List.set_cons_zero, List.set_cons_succ])
          refine wpAnyH_ready (rs := [5]) (by kernel_rfl) (by simp) ?_
          refine AllReadyH.cons rfl (fun K hK => ?_) AllReadyH.nil
          go_simp
          refine (shPlace_yes _ _ _ g1 g2 g3 g4).mono ?_
          rintro e w' ⟨rfl, rfl⟩
          refine hK.out _ _ ?_ (fun hHeld => ?_)
          · exact ⟨d0, d1⟩
          clear hK K
          refine wpAnyH_take (i := 6) (v := ?_) rfl (by kernel_rfl) (by kernel_rfl) (by kernel_rfl) (fun _ _ _ h => h) (Or.inl ⟨by rfl, ?_⟩) (by assumption) ?_
          rotate_left
          · intro wx hSw
            (try dsimp only at hSw)
            go_simp
            with_reducible rfl
          (try simp only [Act.put, List.setIfInBounds_toArray, List.set_cons_zero, List.set_cons_succ])
          refine wpAnyH_take (i := 7) (v := ?_) rfl (by kernel_rfl) (by kernel_rfl) (by kernel_rfl) (fun _ _ _ h => h) (Or.inl ⟨by rfl, ?_⟩) (by assumption) ?_
          rotate_left
          · intro wx hSw
            (try dsimp only at hSw)
            go_simp
            with_reducible rfl
          (try simp only [Act.put, List.setIfInBounds_toArray, List.set_cons_zero, List.set_cons_succ])
          refine wpAnyH_take (i := 9) (v := ?_) rfl (by kernel_rfl) (by kernel_rfl) (by kernel_rfl) (fun _ _ _ h => h) (Or.inl ⟨by rfl, ?_⟩) (by assumption) ?_
          rotate_left
          · intro wx hSw
            (try dsimp only at hSw)
            go_simp
            with_reducible rfl
          (try simp only [Act.put, List.setIfInBounds_toArray, List.set_cons_zero, List.set_cons_succ])
          refine wpAnyH_ready (rs := [8]) (by kernel_rfl) (by simp) ?_
          refine AllReadyH.cons rfl (fun K hK => ?_) AllReadyH.nil
          go_simp
          refine (shText_any _ _ _ (by omega) (by omega) g3 (by omega)).mono ?_
          rintro e w3 ⟨rfl, hb3⟩
          refine hK.out _ _ ?_ (fun hHeld => ?_)
          · exact ⟨(hb3.cell (p := ⟨w.heap.size + 1, 0, none⟩) z2).trans d0, (hb3.cell (p := ⟨w.heap.size + 1, 1, none⟩) z2).trans d1⟩
          clear hK K
          have e0 := (hb3.cell (p := ⟨w.heap.size, 0, none⟩) z0).trans c0
          have e1 := (hb3.cell (p := ⟨w.heap.size, 1, none⟩) z0).trans c1
          have e2 := (hb3.frozen (p := ⟨w.heap.size, 0, none⟩) z0).trans f0
          have e3 := (hb3.frozen (p := ⟨w.heap.size, 1, none⟩) z0).trans f1
          have k0 := (hb3.cell (p := ⟨w.heap.size + 1, 0, none⟩) z2).trans d0
          have k1 := (hb3.cell (p := ⟨w.heap.size + 1, 1, none⟩) z2).trans d1
          refine wpAnyH_take (i := 10) (v := ?_) rfl (by kernel_rfl) (by kernel_rfl) (by kernel_rfl) (fun _ _ _ h => h) (Or.inl ⟨by rfl, ?_⟩) (by assumption) ?_
          rotate_left
          · intro wx hSw
            (try dsimp only at hSw)
            go_simp
            with_reducible rfl
          (try simp only [Act.put, List.setIfInBounds_toArray, List.set_cons_zero, List.set_cons_succ])
          refine wpAnyH_take (i := 11) (v := ?_) rfl (by kernel_rfl) (by kernel_rfl) (by kernel_rfl) (fun _ _ _ h => h) (Or.inl ⟨by rfl, ?_⟩) (by assumption) ?_
          rotate_left
          · intro wx hSw
            (try dsimp only at hSw)
            go_simp
            with_reducible rfl
          (try simp only [Act.put, List.setIfInBounds_toArray, List.set_cons_zero, List.set_cons_succ])
          refine wpAnyH_ready (rs := [12]) (by kernel_rfl) (by simp) ?_
          refine AllReadyH.cons rfl (fun K hK => ?_) AllReadyH.nil
          go_simp
          refine hK.out _ _ ?_ (fun hHeld => ?_)
          · go_keep
          clear hK K
          refine wpAnyH_ready (rs := [13]) (by kernel_rfl) (by simp) ?_
          refine AllReadyH.cons rfl (fun K hK => ?_) AllReadyH.nil
          go_simp
          refine hK.out _ _ ?_ (fun hHeld => ?_)
          · go_keep
          clear hK K
          refine wpAnyH_done (by kernel_rfl) ?_ _
          go_wp2
          have HP := HQ.out
          refine bodyPost_ret (v := .tuple #[.agg #[.int .i64 A, .int .i64 B], .bool true]) (by simp [results, Tryz.results61, go_sem, *]) rfl ?_
          unfold ShP
          rw [← HP]
          exact ⟨true, rfl, ⟨fun _ => ⟨⟨g1, g2, g3, g4⟩, rfl⟩, fun _ => rfl⟩, ((hB.drew.trans (hb3.mono hB.size)).setCell (by simp) _).setCell (by simp) _⟩
        · have HE := Lib.hid he
          clear he
          refine wp_region_held_drew (S := (fun w' => w'.cell? ⟨w.heap.size + 1, 0, none⟩ = some (.int .i64 A) ∧ w'.cell? ⟨w.heap.size + 1, 1, none⟩ = some (.int .i64 B))) (by kernel_rfl) ?_ (fun hHeld => ?_)
          · exact ⟨d0, d1⟩
          refine wpAnyH_take (i := 0) (v := ?_) rfl (by kernel_rfl) (by kernel_rfl) (by kernel_rfl) (fun _ _ _ h => h) (Or.inl ⟨by rfl, ?_⟩) (by assumption) ?_
          rotate_left
          · intro wx hSw
            (try dsimp only at hSw)
            go_simp
            with_reducible rfl
          (try simp only [Act.put, List.setIfInBounds_toArray, List.set_cons_zero, List.set_cons_succ])
          refine wpAnyH_take (i := 1) (v := ?_) rfl (by kernel_rfl) (by kernel_rfl) (by kernel_rfl) (fun _ _ _ h => h) (Or.inl ⟨by rfl, ?_⟩) (by assumption) ?_
          rotate_left
          · intro wx hSw
            (try dsimp only at hSw)
            go_simp
            with_reducible rfl
          (try simp only [Act.put, List.setIfInBounds_toArray, List.set_cons_zero, List.set_cons_succ])
          refine wpAnyH_take (i := 2) (v := ?_) rfl (by kernel_rfl) (by kernel_rfl) (by kernel_rfl) (fun _ _ _ h => h) (Or.inl ⟨by rfl, ?_⟩) (by assumption) ?_
          rotate_left
          · intro wx hSw
            (try dsimp only at hSw)
            go_simp
            with_reducible rfl
          (try simp only [Act.put, List.setIfInBounds_toArray, List.set_cons_zero, List.set_cons_succ])
          refine wpAnyH_take (i := 3) (v := ?_) rfl (by kernel_rfl) (by kernel_rfl) (by kernel_rfl) (fun _ _ _ h => h) (Or.inl ⟨by rfl, ?_⟩) (by assumption) ?_
          rotate_left
          · intro wx hSw
            (try dsimp only at hSw)
            go_simp
            with_reducible rfl
          (try simp only [Act.put, List.setIfInBounds_toArray, List.set_cons_zero, List.set_cons_succ])
          refine wpAnyH_take (i := 4) (v := ?_) rfl (by kernel_rfl) (by kernel_rfl) (by kernel_rfl) (fun _ _ _ h => h) (Or.inl ⟨by rfl, ?_⟩) (by assumption) ?_
          rotate_left
          · intro wx hSw
            (try dsimp only at hSw)
            go_simp
            with_reducible rfl
          (try simp only [Act.put, List.setIfInBounds_toArray, List.set_cons_zero, List.set_cons_succ])
          refine wpAnyH_ready (rs := [5]) (by kernel_rfl) (by simp) ?_
          refine AllReadyH.cons rfl (fun K hK => ?_) AllReadyH.nil
          go_simp
          refine (shPlace_yes _ _ _ g1 g2 g3 g4).mono ?_
          rintro e w' ⟨rfl, rfl⟩
          refine hK.out _ _ ?_ (fun hHeld => ?_)
          · exact ⟨d0, d1⟩
          clear hK K
          refine wpAnyH_take (i := 6) (v := ?_) rfl (by kernel_rfl) (by kernel_rfl) (by kernel_rfl) (fun _ _ _ h => h) (Or.inl ⟨by rfl, ?_⟩) (by assumption) ?_
          rotate_left
          · intro wx hSw
            (try dsimp only at hSw)
            go_simp
            with_reducible rfl
          (try simp only [Act.put, List.setIfInBounds_toArray, List.set_cons_zero, List.set_cons_succ])
          refine wpAnyH_take (i := 7) (v := ?_) rfl (by kernel_rfl) (by kernel_rfl) (by kernel_rfl) (fun _ _ _ h => h) (Or.inl ⟨by rfl, ?_⟩) (by assumption) ?_
          rotate_left
          · intro wx hSw
            (try dsimp only at hSw)
            go_simp
            with_reducible rfl
          (try simp only [Act.put, List.setIfInBounds_toArray, List.set_cons_zero, List.set_cons_succ])
          refine wpAnyH_take (i := 9) (v := ?_) rfl (by kernel_rfl) (by kernel_rfl) (by kernel_rfl) (fun _ _ _ h => h) (Or.inl ⟨by rfl, ?_⟩) (by assumption) ?_
          rotate_left
          · intro wx hSw
            (try dsimp only at hSw)
            go_simp
            with_reducible rfl
          (try simp only [Act.put, List.setIfInBounds_toArray, List.set_cons_zero, List.set_cons_succ])
          refine wpAnyH_ready (rs := [8]) (by kernel_rfl) (by simp) ?_
          refine AllReadyH.cons rfl (fun K hK => ?_) AllReadyH.nil
          go_simp
          refine (shText_any _ _ _ (by omega) (by omega) g3 (by omega)).mono ?_
          rintro e w3 ⟨rfl, hb3⟩
          refine hK.out _ _ ?_ (fun hHeld => ?_)
          · exact ⟨(hb3.cell (p := ⟨w.heap.size + 1, 0, none⟩) z2).trans d0, (hb3.cell (p := ⟨w.heap.size + 1, 1, none⟩) z2).trans d1⟩
          clear hK K
          have e0 := (hb3.cell (p := ⟨w.heap.size, 0, none⟩) z0).trans c0
          have e1 := (hb3.cell (p := ⟨w.heap.size, 1, none⟩) z0).trans c1
          have e2 := (hb3.frozen (p := ⟨w.heap.size, 0, none⟩) z0).trans f0
          have e3 := (hb3.frozen (p := ⟨w.heap.size, 1, none⟩) z0).trans f1
          have k0 := (hb3.cell (p := ⟨w.heap.size + 1, 0, none⟩) z2).trans d0
          have k1 := (hb3.cell (p := ⟨w.heap.size + 1, 1, none⟩) z2).trans d1
          refine wpAnyH_take (i := 10) (v := ?_) rfl (by kernel_rfl) (by kernel_rfl) (by kernel_rfl) (fun _ _ _ h => h) (Or.inl ⟨by rfl, ?_⟩) (by assumption) ?_
          rotate_left
          · intro wx hSw
            (try dsimp only at hSw)
            go_simp
            with_reducible rfl
          (try simp only [Act.put, List.setIfInBounds_toArray, List.set_cons_zero, List.set_cons_succ])
          refine wpAnyH_take (i := 11) (v := ?_) rfl (by kernel_rfl) (by kernel_rfl) (by kernel_rfl) (fun _ _ _ h => h) (Or.inl ⟨by rfl, ?_⟩) (by assumption) ?_
          rotate_left
          · intro wx hSw
            (try dsimp only at hSw)
            go_simp
            with_reducible rfl
          (try simp only [Act.put, List.setIfInBounds_toArray, List.set_cons_zero, List.set_cons_succ])
          refine wpAnyH_ready (rs := [12]) (by kernel_rfl) (by simp) ?_
          refine AllReadyH.cons rfl (fun K hK => ?_) AllReadyH.nil
          go_simp
          refine hK.out _ _ ?_ (fun hHeld => ?_)
          · go_keep
          clear hK K
          refine wpAnyH_ready (rs := [13]) (by kernel_rfl) (by simp) ?_
          refine AllReadyH.cons rfl (fun K hK => ?_) AllReadyH.nil
          go_simp
          refine hK.out _ _ ?_ (fun hHeld => ?_)
          · go_keep
          clear hK K
          refine wpAnyH_done (by kernel_rfl) ?_ _
          go_wp2
          have HP := HQ.out
          refine bodyPost_ret (v := .tuple #[.agg #[.int .i64 A, .int .i64 B], .bool false]) (by simp [results, Tryz.results61, go_sem, ba_beq, HE.out, *]) rfl ?_
          unfold ShP
          rw [← HP]
          exact ⟨false, rfl, iff_of_false Bool.false_ne_true (fun h => HE.out h.2), ((hB.drew.trans (hb3.mono hB.size)).setCell (by simp) _).setCell (by simp) _⟩
end Go.Proofs.YtjfkeflmbgfhmaaGreatDoor
