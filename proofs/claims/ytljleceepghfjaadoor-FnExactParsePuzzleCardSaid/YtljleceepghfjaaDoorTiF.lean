/- Chapter 9: numerals, plainly: what is read is what is written. -/
import Derived.Test.YtljleceepghfjaaDoorTiE
import Derived.Test.YtljleceepghfjaaDoorTxt
namespace Go.Proofs.YtljleceepghfjaaDoor
open Go.ChangeShapes Go.WideShapes Go.ChangeAt Go.RowKit

theorem dec_lo {u : Nat} (h : u < 10) : Lib.decDigits u = [UInt8.ofNat (48 + u)] := by rw [Lib.decDigits, dif_pos h]
theorem dec_hi {u : Nat} (h : ¬ u < 10) : Lib.decDigits u = Lib.decDigits (u / 10) ++ [UInt8.ofNat (48 + u % 10)] := by rw [Lib.decDigits, dif_neg h]
theorem dec_allT (u : Nat) : (Lib.decDigits u).all digT = true := by
  rw [List.all_eq_true]
  intro c hc
  have := dec_digits u c hc
  simp [digT]
  omega
theorem vD_dec (u : Nat) : vD (Lib.decDigits u) = (u : Int) := by
  induction u using Nat.strongRecOn with
  | _ u ih =>
    by_cases h : u < 10
    · rw [dec_lo h]
      show 10 * (0 : Int) + (((UInt8.ofNat (48 + u)).toNat : Int) - 48) = u
      rw [dgv u h]
      omega
    · rw [dec_hi h, vD_snoc, ih (u / 10) (by omega), dgv (u % 10) (by omega)]
      omega
/-- A numeral has no leading zero. -/
theorem dec_head (u : Nat) : (Lib.decDigits u)[0]? = some 48 → u = 0 := by
  induction u using Nat.strongRecOn with
  | _ u ih =>
    by_cases h : u < 10
    · rw [dec_lo h]
      intro e
      have e2 : UInt8.ofNat (48 + u) = 48 := by simpa using e
      have := congrArg UInt8.toNat e2
      rw [dgv u h] at this
      have h48 : (48 : UInt8).toNat = 48 := rfl
      omega
    · rw [dec_hi h]
      intro e
      have hne : (Lib.decDigits (u / 10)).length ≠ 0 := fun e => dec_ne (u / 10) (List.length_eq_zero_iff.1 e)
      rw [List.getElem?_append_left (by omega)] at e
      have := ih (u / 10) (by omega) e
      omega
theorem dec_vD : ∀ (n : Nat) (l : List UInt8), l.length = n + 1 → l.all digT = true → (n = 0 ∨ l[0]? ≠ some 48) → Lib.decDigits (vD l).toNat = l
  | 0, l, hl, ha, _ => by
    obtain ⟨c, rfl⟩ := List.length_eq_one_iff.1 hl
    have hc := List.all_eq_true.1 ha c (by simp)
    simp [digT] at hc
    have hv : vD [c] = (c.toNat : Int) - 48 := by simp [vD]
    rw [hv, dec_lo (by omega)]
    congr 1
    apply UInt8.toNat_inj.1
    rw [dgv _ (by omega)]
    omega
  | n + 1, l, hl, ha, hz => by
    have hne : l ≠ [] := by intro e; rw [e] at hl; simp at hl
    obtain ⟨l', c, rfl⟩ : ∃ l' c, l = l' ++ [c] := ⟨l.dropLast, l.getLast hne, (List.dropLast_concat_getLast hne).symm⟩
    have hl' : l'.length = n + 1 := by simpa using hl
    rw [List.all_append, Bool.and_eq_true] at ha
    have h0 : (l' ++ [c])[0]? = l'[0]? := List.getElem?_append_left (by omega)
    rw [h0] at hz
    have hz' : l'[0]? ≠ some 48 := hz.resolve_left (by omega)
    have ih := dec_vD n l' hl' ha.1 (.inr hz')
    have hc := ha.2
    simp [digT] at hc
    have hp := (vD_from l' 0 1 (by omega) (by omega) ha.1).1
    have hp' : 0 ≤ vD l' := hp
    have h1 : vD l' ≠ 0 := by
      intro e
      rw [e] at ih
      apply hz'
      rw [← ih, show (Int.toNat 0) = 0 from rfl, dec_lo (by omega)]
      rfl
    obtain ⟨a, ha'⟩ : ∃ a : Nat, vD l' = (a : Int) := ⟨(vD l').toNat, by omega⟩
    rw [ha'] at ih h1
    have hv : (vD (l' ++ [c])).toNat = 10 * a + (c.toNat - 48) := by rw [vD_snoc, ha']; omega
    rw [hv, dec_hi (by omega)]
    have e1 : (10 * a + (c.toNat - 48)) / 10 = a := by omega
    have e2 : (10 * a + (c.toNat - 48)) % 10 = c.toNat - 48 := by omega
    rw [e1, e2]
    have e3 : Lib.decDigits a = l' := by simpa using ih
    rw [e3]
    congr 2
    apply UInt8.toNat_inj.1
    rw [dgv _ (by omega)]
    omega
/-- A numeral that was read is the number's text. -/
theorem rd9_text {l : List UInt8} (h : 0 ≤ rd9 l) : l = Lib.decDigits (rd9 l).toNat := by
  unfold rd9 at h ⊢
  split
  · rename_i hc
    obtain ⟨⟨⟨h1, h6⟩, hz⟩, ha⟩ := hc
    refine (dec_vD (l.length - 1) l (by omega) ha ?_).symm
    by_cases hl : l.length = 1
    · exact .inl (by omega)
    · exact .inr fun e => hz ⟨e, by omega⟩
  · rename_i hc
    rw [if_neg hc] at h
    omega
theorem rd9_dec {u : Nat} (h : u ≤ 999999) (h6 : (Lib.decDigits u).length ≤ 6) : rd9 (Lib.decDigits u) = (u : Int) := by
  unfold rd9
  have hne : (Lib.decDigits u).length ≠ 0 := fun e => dec_ne u (List.length_eq_zero_iff.1 e)
  rw [if_pos, vD_dec]
  refine ⟨⟨⟨by omega, h6⟩, ?_⟩, dec_allT u⟩
  rintro ⟨h1, h2⟩
  have := dec_head u h1
  subst this
  rw [dec_lo (by omega)] at h2
  simp at h2
end Go.Proofs.YtljleceepghfjaaDoor
