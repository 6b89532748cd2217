/- A scope in which the run jumps to more than one label. -/
import Derived.Test.YtiloljldefodkaaDoorSuY
import Derived.ScopeJumps
import Derived.WalkMore
namespace Go.Proofs.YtiloljldefodkaaDoor
open Go

/-- As Q; by a goto to the label l: J l. -/
def jumpM (J : Nat → Act → World → Prop) (Q : Exit → Act → World → Prop) : Exit → Act → World → Prop
  | .goto l, a, w => J l a w
  | e, a, w => Q e a w

/-- J l m: what holds at a jump to l, m rounds ahead of the end at most; every pass from a label lowers m. -/
theorem wp_scope_jumpsM {P : Program} {a : Act} {w : World} {Q : Exit → Act → World → Prop} {c : Code} (J : Nat → Nat → Act → World → Prop)
    (first : (∀ l m a w, J l m a w → ∃ rest, findLabel c l = some (Code.skip.seq rest) ∧ rest.wp P (jumpM (fun l' a' w' => ∃ m', m' < m ∧ J l' m' a' w') Q) a w) → c.wp P (jumpM (fun l a w => ∃ m, J l m a w) Q) a w)
    (pass : ∀ l m a w, J l m a w → ∃ rest, findLabel c l = some (Code.skip.seq rest) ∧ rest.wp P (jumpM (fun l' a' w' => ∃ m', m' < m ∧ J l' m' a' w') Q) a w) : (Code.scope c).wp P Q a w := by
  intro b k cs
  have key : ∀ m l a w rest, findLabel c l = some rest → J l m a w → ∃ e a' w', Q e a' w' ∧ Arrives P (lone (b.at a (.code rest :: .inScope c :: k)) cs w) b k cs e a' w' := by
    intro m
    induction m using Nat.strongRecOn with
    | _ m ih =>
      intro l a w rest hr hJ
      obtain ⟨rest', hr', hp'⟩ := pass l m a w hJ
      obtain rfl : rest = Code.skip.seq rest' := by rw [hr] at hr'; exact Option.some.inj hr'
      have hp : (Code.skip.seq rest').wp P (jumpM (fun l' a' w' => ∃ m', m' < m ∧ J l' m' a' w') Q) a w := wp_seq (wp_skip hp')
      obtain ⟨e, a₁, w₁, hq, harr⟩ := hp b (.inScope c :: k) cs
      cases e with
      | normal => exact ⟨.normal, a₁, w₁, hq, Steps.trans harr (.one step_inScope)⟩
      | exit id => exact ⟨.exit id, a₁, w₁, hq, fun k' hk => harr k' (by simp [exitTo, hk])⟩
      | goto l' =>
        obtain ⟨m', hlt, hJ'⟩ := hq
        obtain ⟨rest2, hr2, _⟩ := pass l' m' a₁ w₁ hJ'
        have hg : gotoIn l' (.inScope c :: k) = some (.code (Code.skip.seq rest2) :: .inScope c :: k) := by simp [gotoIn, hr2]
        obtain ⟨e₂, a₂, w₂, hq₂, harr₂⟩ := ih m' hlt l' a₁ w₁ _ hr2 hJ'
        exact ⟨e₂, a₂, w₂, hq₂, .of_steps (harr _ hg) harr₂⟩
      | ret => exact ⟨_, a₁, w₁, hq, harr⟩
      | panic ch => exact ⟨_, a₁, w₁, hq, harr⟩
      | outgrown => exact ⟨_, a₁, w₁, hq, harr⟩
  obtain ⟨e, a₁, w₁, hq, harr⟩ := first pass b (.inScope c :: k) cs
  cases e with
  | normal => exact ⟨.normal, a₁, w₁, hq, .head step_scope (Steps.trans harr (.one step_inScope))⟩
  | exit id => exact ⟨.exit id, a₁, w₁, hq, fun k' hk => .head step_scope (harr k' (by simp [exitTo, hk]))⟩
  | goto l' =>
    obtain ⟨m', hJ'⟩ := hq
    obtain ⟨rest2, hr2, _⟩ := pass l' m' a₁ w₁ hJ'
    have hg : gotoIn l' (.inScope c :: k) = some (.code (Code.skip.seq rest2) :: .inScope c :: k) := by simp [gotoIn, hr2]
    obtain ⟨e₂, a₂, w₂, hq₂, harr₂⟩ := key m' l' a₁ w₁ _ hr2 hJ'
    exact ⟨e₂, a₂, w₂, hq₂, .of_steps (.head step_scope (harr _ hg)) harr₂⟩
  | ret => exact ⟨_, a₁, w₁, hq, .of_steps (.one step_scope) harr⟩
  | panic ch => exact ⟨_, a₁, w₁, hq, .of_steps (.one step_scope) harr⟩
  | outgrown => exact ⟨_, a₁, w₁, hq, .of_steps (.one step_scope) harr⟩
theorem wp_monoM {P : Program} {a : Act} {w : World} {Q Q' : Exit → Act → World → Prop} {c : Code} (h : c.wp P Q a w) (hq : ∀ e a w, Q e a w → Q' e a w) : c.wp P Q' a w := by
  intro b k cs
  obtain ⟨e, a', w', h1, h2⟩ := h b k cs
  exact ⟨e, a', w', hq _ _ _ h1, h2⟩
/-- The run comes to a label in its course. -/
theorem from_pass {P : Program} {a : Act} {w : World} {Q : Exit → Act → World → Prop} {c rest : Code} {J : Nat → Nat → Act → World → Prop} {l : Nat}
    (hpass : ∀ l m a w, J l m a w → ∃ rest, findLabel c l = some (Code.skip.seq rest) ∧ rest.wp P (jumpM (fun l' a' w' => ∃ m', m' < m ∧ J l' m' a' w') Q) a w)
    (hf : findLabel c l = some (Code.skip.seq rest)) (m : Nat) (hJ : J l m a w) : rest.wp P (jumpM (fun l a w => ∃ m, J l m a w) Q) a w := by
  obtain ⟨rest', hr, hp⟩ := hpass l m a w hJ
  obtain rfl : rest = rest' := by rw [hf] at hr; injection hr with hr; injection hr
  refine wp_monoM hp fun e a w h => ?_
  cases e with
  | goto l' => obtain ⟨m', _, h⟩ := h; exact ⟨m', h⟩
  | normal => exact h
  | exit id => exact h
  | ret => exact h
  | panic ch => exact h
  | outgrown => exact h
end Go.Proofs.YtiloljldefodkaaDoor
