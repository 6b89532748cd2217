/- Chapter 7: a piece taken out of the program's set of dots. -/
import Derived.Test.YtbabkcjnfdpafaaGreatDoorDuF
import Derived.ScopeJumps
import Derived.WalkMore
namespace Go.Proofs.YtbabkcjnfdpafaaGreatDoor
open Go.ChangeShapes Go.WideShapes Go.ChangeAt Go.RowKit Go.Maps

/-- How many entries a block's map has. -/
def mapLen (w : World) (b : Nat) : Nat := match w.heap[b]? with | some (.map es _) => es.size | _ => 0
theorem mapLen_eq {w : World} {b W H : Nat} {S : Int → Int → Bool} (h : Ds w b S) (hb : Bd W H S) : mapLen w b = cnt (sD W S) (W * H) := by
  obtain ⟨D, h, hs⟩ := h
  rw [← has_size vkey h hs hb]
  obtain ⟨es, clock, hh, F, _, rfl⟩ := h
  simp [mapLen, hh, Maps.size, length_sorted]
theorem cnt_mono (f g : Nat → Bool) (n : Nat) (h : ∀ i, f i = true → g i = true) : cnt f n ≤ cnt g n := by
  induction n with
  | zero => exact Nat.le_refl _
  | succ n ih =>
    rw [cnt_succ, cnt_succ]
    have hn := h n
    cases hf : f n <;> cases hg : g n <;> simp_all
    omega
theorem cnt_less (f g : Nat → Bool) (n : Nat) (h : ∀ i, f i = true → g i = true) (j : Nat) (hj : j < n) (h1 : g j = true) (h2 : f j = false) : cnt f n < cnt g n := by
  induction n with
  | zero => omega
  | succ n ih =>
    rw [cnt_succ, cnt_succ]
    by_cases e : j = n
    · subst e
      rw [h1, h2]
      have := cnt_mono f g j h
      simp
      omega
    · have i2 := ih (by omega)
      have hn := h n
      clear ih h h1 h2
      cases hf : f n <;> cases hg : g n <;> simp_all
      omega
theorem cnt_pos (f : Nat → Bool) (n : Nat) : 0 < cnt f n ↔ ∃ j, j < n ∧ f j = true := by
  constructor
  · intro h
    induction n with
    | zero => simp [cnt] at h
    | succ n ih =>
      rw [cnt_succ] at h
      cases hf : f n with
      | true => exact ⟨n, by omega, hf⟩
      | false =>
        rw [hf] at h
        obtain ⟨j, h1, h2⟩ := ih (by simpa using h)
        exact ⟨j, by omega, h2⟩
  · rintro ⟨j, h1, h2⟩
    have := cnt_less (fun _ => false) f n (by simp) j h1 h2 rfl
    omega
/-- A set of places of a picture has one, or none. -/
theorem set_pos {W H : Nat} {S : Int → Int → Bool} (hb : Bd W H S) : 0 < cnt (sD W S) (W * H) ↔ ∃ x y, S x y = true := by
  rw [cnt_pos]
  constructor
  · rintro ⟨j, _, h⟩
    exact ⟨_, _, h⟩
  · rintro ⟨x, y, h⟩
    have hp := hb x y h
    obtain ⟨a, rfl⟩ := Int.eq_ofNat_of_zero_le hp.1
    obtain ⟨c, rfl⟩ := Int.eq_ofNat_of_zero_le hp.2.2.1
    have ha : a < W := by omega
    have hc : c < H := by omega
    refine ⟨c * W + a, place_lt ha hc, ?_⟩
    unfold sD
    rw [place_x ha, place_y ha]
    exact h
theorem mapLen_less {w w' : World} {b b' : Nat} {S T : Int → Int → Bool} (h : Ds w b S) (h' : Ds w' b' T) (hs : ∀ x y, T x y = true → S x y = true) {x y : Int} (h1 : S x y = true) (h2 : T x y = false) : mapLen w' b' < mapLen w b := by
  rw [mapLen_eq h h.bd, mapLen_eq h' (h.bd.sub hs)]
  have hp := h.bd x y h1
  obtain ⟨a, rfl⟩ := Int.eq_ofNat_of_zero_le hp.1
  obtain ⟨c, rfl⟩ := Int.eq_ofNat_of_zero_le hp.2.2.1
  have ha : a < 100 := by omega
  have hc : c < 100 := by omega
  refine cnt_less _ _ _ (fun i hi => hs _ _ hi) (c * 100 + a) (place_lt ha hc) ?_ ?_
  · unfold sD
    rw [place_x ha, place_y ha]
    exact h1
  · unfold sD
    rw [place_x ha, place_y ha]
    exact h2

/-- P is the piece of S in which the place (x, y) is. -/
structure Piece (S : Int → Int → Bool) (x y : Int) (P : Int → Int → Bool) : Prop where
  sub : ∀ u v, P u v = true → S u v = true
  fst : P x y = true
  cls : ∀ u v, S u v = true → nS P u v = true → P u v = true
  lst : ∀ Q : Int → Int → Bool, Q x y = true → (∀ u v, S u v = true → nS Q u v = true → Q u v = true) → ∀ u v, P u v = true → Q u v = true
/-- On the way: A is taken, F was found last. -/
structure Tkg (S : Int → Int → Bool) (x y : Int) (A F : Int → Int → Bool) : Prop where
  sa : ∀ u v, A u v = true → S u v = true
  sf : ∀ u v, F u v = true → S u v = true ∧ A u v = false
  ne : ∃ u v, F u v = true
  fst : A x y = true ∨ F x y = true
  cls : ∀ u v, S u v = true → nS A u v = true → A u v = true ∨ F u v = true
  lst : ∀ Q : Int → Int → Bool, Q x y = true → (∀ u v, S u v = true → nS Q u v = true → Q u v = true) → ∀ u v, A u v = true ∨ F u v = true → Q u v = true
theorem nS_iff {T : Int → Int → Bool} {x y : Int} : nS T x y = true ↔ T (x - 1) y = true ∨ T (x + 1) y = true ∨ T x (y - 1) = true ∨ T x (y + 1) = true := by
  unfold nS
  simp only [Bool.or_eq_true, or_assoc]
theorem nS_or {A F : Int → Int → Bool} {x y : Int} (h : nS (uS A F) x y = true) : nS A x y = true ∨ nS F x y = true := by
  rw [nS_iff] at h
  simp only [uS, Bool.or_eq_true] at h
  rw [nS_iff, nS_iff]
  rcases h with (h | h) | (h | h) | (h | h) | (h | h)
  · exact .inl (.inl h)
  · exact .inr (.inl h)
  · exact .inl (.inr (.inl h))
  · exact .inr (.inr (.inl h))
  · exact .inl (.inr (.inr (.inl h)))
  · exact .inr (.inr (.inr (.inl h)))
  · exact .inl (.inr (.inr (.inr h)))
  · exact .inr (.inr (.inr (.inr h)))
theorem nS_mono {A F : Int → Int → Bool} (hs : ∀ u v, A u v = true → F u v = true) {x y : Int} (h : nS A x y = true) : nS F x y = true := by
  rw [nS_iff] at h ⊢
  rcases h with h | h | h | h
  · exact .inl (hs _ _ h)
  · exact .inr (.inl (hs _ _ h))
  · exact .inr (.inr (.inl (hs _ _ h)))
  · exact .inr (.inr (.inr (hs _ _ h)))
theorem tkg_start {S : Int → Int → Bool} {x y : Int} (h : S x y = true) : Tkg S x y (fun _ _ => false) (aS (fun _ _ => false) x y) where
  sa := fun _ _ h => (by cases h)
  sf := fun u v hf => by
    simp [aS] at hf
    obtain ⟨rfl, rfl⟩ := hf
    exact ⟨h, rfl⟩
  ne := ⟨x, y, by simp [aS]⟩
  fst := .inr (by simp [aS])
  cls := fun u v _ hn => by simp [nS] at hn
  lst := fun Q hq _ u v hf => by
    rcases hf with hf | hf
    · cases hf
    · simp [aS] at hf
      obtain ⟨rfl, rfl⟩ := hf
      exact hq
section
variable {S A F : Int → Int → Bool} {x y : Int}
/-- The dots that are left, what is found next. -/
theorem tkg_sub (u v : Int) : dS (dS S A) F u v = dS S (uS A F) u v := by
  unfold dS uS
  cases S u v <;> cases A u v <;> cases F u v <;> rfl
theorem tkg_next (h : Tkg S x y A F) (hne : ∃ u v, nbS (dS S (uS A F)) F u v = true) : Tkg S x y (uS A F) (nbS (dS S (uS A F)) F) where
  sa := fun u v hu => by
    unfold uS at hu
    rw [Bool.or_eq_true] at hu
    exact hu.elim (h.sa u v) fun hf => (h.sf u v hf).1
  sf := fun u v hu => by
    unfold nbS dS at hu
    simp only [Bool.and_eq_true, Bool.not_eq_true'] at hu
    exact hu.1
  ne := hne
  fst := .inl (by unfold uS; rw [Bool.or_eq_true]; exact h.fst)
  cls := fun u v hs hn => by
    by_cases ha : uS A F u v = true
    · exact .inl ha
    · right
      have ha2 : uS A F u v = false := by simpa using ha
      unfold nbS dS
      rw [hs, ha2]
      rcases nS_or hn with hn | hn
      · exact absurd (by unfold uS; rw [Bool.or_eq_true]; exact h.cls u v hs hn) ha
      · rw [hn]; rfl
  lst := fun Q hq hc u v hu => by
    rcases hu with hu | hu
    · unfold uS at hu
      rw [Bool.or_eq_true] at hu
      exact h.lst Q hq hc u v hu
    · unfold nbS dS at hu
      simp only [Bool.and_eq_true] at hu
      exact hc u v hu.1.1 (nS_mono (fun a b hf => h.lst Q hq hc a b (.inr hf)) hu.2)
theorem tkg_end (h : Tkg S x y A F) (hne : ¬ ∃ u v, nbS (dS S (uS A F)) F u v = true) : Piece S x y (uS A F) where
  sub := fun u v hu => by
    unfold uS at hu
    rw [Bool.or_eq_true] at hu
    exact hu.elim (h.sa u v) fun hf => (h.sf u v hf).1
  fst := by unfold uS; rw [Bool.or_eq_true]; exact h.fst
  cls := fun u v hs hn => by
    by_cases ha : uS A F u v = true
    · exact ha
    · have ha2 : uS A F u v = false := by simpa using ha
      rcases nS_or hn with hn | hn
      · exact absurd (by unfold uS; rw [Bool.or_eq_true]; exact h.cls u v hs hn) ha
      · exact absurd ⟨u, v, by unfold nbS dS; rw [hs, ha2, hn]; rfl⟩ hne
  lst := fun Q hq hc u v hu => by
    unfold uS at hu
    rw [Bool.or_eq_true] at hu
    exact h.lst Q hq hc u v hu
end
end Go.Proofs.YtbabkcjnfdpafaaGreatDoor
