/- Ways that meet again, in a frame of many slots: what is known of some slots is kept, the others hold something. No program in sight. -/
import Derived.Deep.Cut
namespace Go.Proofs.YtbabkcjnfdpafaaGreatDoor
open Go

/-- A frame half known: a slot's value, or the slot's own number. -/
abbrev Half := List (Value ⊕ Nat)
def fillH : Half → (Nat → Value) → List Value
  | [], _ => []
  | .inl v :: ks, u => v :: fillH ks u
  | .inr i :: ks, u => u i :: fillH ks u
inductive Agr : Half → List Value → Prop
  | nil : Agr [] []
  | keep {v : Value} {ks : Half} {xs : List Value} : Agr ks xs → Agr (.inl v :: ks) (v :: xs)
  | skip {i : Nat} {x : Value} {ks : Half} {xs : List Value} : Agr ks xs → Agr (.inr i :: ks) (x :: xs)
/-- The numbers stand at their own places. -/
def okIx : Half → Nat → Bool
  | [], _ => true
  | .inl _ :: ks, n => okIx ks (n + 1)
  | .inr i :: ks, n => Nat.beq i n && okIx ks (n + 1)
theorem fill_congr (ks : Half) : ∀ (n : Nat) (u u' : Nat → Value), okIx ks n = true → (∀ i, n ≤ i → u i = u' i) → fillH ks u = fillH ks u' := by
  induction ks with
  | nil => intro n u u' _ _; rfl
  | cons k ks ih =>
    intro n u u' h he
    cases k with
    | inl v => simp only [fillH]; rw [ih (n + 1) u u' h (fun i hi => he i (by omega))]
    | inr i =>
      simp only [okIx, Bool.and_eq_true] at h
      have hi : i = n := Nat.eq_of_beq_eq_true h.1
      simp only [fillH]
      rw [ih (n + 1) u u' h.2 (fun i hi => he i (by omega)), he i (by omega)]
theorem fill_of {ks : Half} {xs : List Value} (h : Agr ks xs) : ∀ n, okIx ks n = true → ∃ u, xs = fillH ks u := by
  induction h with
  | nil => intro n _; exact ⟨fun _ => .bool false, rfl⟩
  | keep _ ih =>
    intro n hn
    obtain ⟨u, rfl⟩ := ih (n + 1) hn
    exact ⟨u, rfl⟩
  | @skip i x ks xs _ ih =>
    intro n hn
    simp only [okIx, Bool.and_eq_true] at hn
    have hi : i = n := Nat.eq_of_beq_eq_true hn.1
    obtain ⟨u, rfl⟩ := ih (n + 1) hn.2
    refine ⟨fun j => if j = i then x else u j, ?_⟩
    simp only [fillH, if_pos]
    rw [fill_congr ks (n + 1) (fun j => if j = i then x else u j) u hn.2 (fun j hj => if_neg (by omega))]
/-- What holds where the ways meet. -/
def MeetH (ks : Half) (rel : World → Prop) (a : Act) (w : World) : Prop := (∃ xs, Agr ks xs ∧ a = ⟨xs.toArray, []⟩) ∧ rel w
theorem MeetH.of {ks : Half} {rel : World → Prop} {xs : List Value} {w : World} (hr : rel w) (h : Agr ks xs) : MeetH ks rel ⟨xs.toArray, []⟩ w := ⟨⟨xs, h, rfl⟩, hr⟩
theorem MeetH.go {ks : Half} (rel : World → Prop) (hk : okIx ks 0 = true) {K : Act → World → Prop} (h : ∀ u w, rel w → K ⟨(fillH ks u).toArray, []⟩ w) (a : Act) (w : World) (hm : MeetH ks rel a w) : K a w := by
  obtain ⟨⟨xs, hx, rfl⟩, hr⟩ := hm
  obtain ⟨u, rfl⟩ := fill_of hx 0 hk
  exact h u w hr
end Go.Proofs.YtbabkcjnfdpafaaGreatDoor
