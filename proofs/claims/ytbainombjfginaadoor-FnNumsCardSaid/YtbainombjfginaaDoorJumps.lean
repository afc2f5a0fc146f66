/-
  A scope with three labels: 0 is jumped back to (a measure falls), 2 and 1 are jumped on to. Plain laws of the walk, no program.
-/
import Derived.Scope
import Derived.WalkKit
import Derived.WalkMore
namespace Go.Proofs.YtbainombjfginaaDoor
open Go

def jumpAll (J : Nat → Act → World → Prop) (Q : Exit → Act → World → Prop) : Exit → Act → World → Prop
  | .goto l, a, w => J l a w
  | e, a, w => Q e a w
theorem wp_scope_all {P : Program} {a : Act} {w : World} {Q : Exit → Act → World → Prop} {c : Code} (rest : Nat → Code) (J : Nat → Act → World → Prop) (μ : Nat → Act → World → Nat)
    (hf : ∀ l a w, J l a w → findLabel c l = some (rest l)) (first : c.wp P (jumpAll J Q) a w)
    (pass : ∀ l a w, J l a w → (rest l).wp P (jumpAll (fun l' a' w' => J l' a' w' ∧ μ l' a' w' < μ l a w) Q) a w) : (Code.scope c).wp P Q a w := by
  intro b k cs
  have key : ∀ n l a w, μ l a w = n → J l a w → ∃ e a' w', Q e a' w' ∧ Arrives P (lone (b.at a (.code (rest l) :: .inScope c :: k)) cs w) b k cs e a' w' := by
    intro n
    induction n using Nat.strongRecOn with
    | _ n ih =>
      intro l a w hn hJ
      obtain ⟨e, a₁, w₁, hq, harr⟩ := pass l a w hJ b (.inScope c :: k) cs
      cases e with
      | normal => exact ⟨.normal, a₁, w₁, hq, Steps.trans harr (.one step_inScope)⟩
      | exit id => exact ⟨.exit id, a₁, w₁, hq, fun k' hk => harr k' (by simp [exitTo, hk])⟩
      | goto l' =>
        obtain ⟨hJ', hlt⟩ := hq
        have hg : gotoIn l' (.inScope c :: k) = some (.code (rest l') :: .inScope c :: k) := by simp [gotoIn, hf l' a₁ w₁ hJ']
        obtain ⟨e₂, a₂, w₂, hq₂, harr₂⟩ := ih _ (by omega) l' a₁ w₁ rfl hJ'
        exact ⟨e₂, a₂, w₂, hq₂, .of_steps (harr _ hg) harr₂⟩
      | ret => exact ⟨_, a₁, w₁, hq, harr⟩
      | panic ch => exact ⟨_, a₁, w₁, hq, harr⟩
      | outgrown => exact ⟨_, a₁, w₁, hq, harr⟩
  obtain ⟨e, a₁, w₁, hq, harr⟩ := first b (.inScope c :: k) cs
  cases e with
  | normal => exact ⟨.normal, a₁, w₁, hq, .head step_scope (Steps.trans harr (.one step_inScope))⟩
  | exit id => exact ⟨.exit id, a₁, w₁, hq, fun k' hk => .head step_scope (harr k' (by simp [exitTo, hk]))⟩
  | goto l' =>
    have hg : gotoIn l' (.inScope c :: k) = some (.code (rest l') :: .inScope c :: k) := by simp [gotoIn, hf l' a₁ w₁ hq]
    obtain ⟨e₂, a₂, w₂, hq₂, harr₂⟩ := key _ l' a₁ w₁ rfl hq
    exact ⟨e₂, a₂, w₂, hq₂, .of_steps (.head step_scope (harr _ hg)) harr₂⟩
  | ret => exact ⟨_, a₁, w₁, hq, .of_steps (.one step_scope) harr⟩
  | panic ch => exact ⟨_, a₁, w₁, hq, .of_steps (.one step_scope) harr⟩
  | outgrown => exact ⟨_, a₁, w₁, hq, .of_steps (.one step_scope) harr⟩

def jump3 (J0 J1 J2 : Act → World → Prop) (Q : Exit → Act → World → Prop) : Exit → Act → World → Prop
  | .goto 0, a, w => J0 a w
  | .goto 1, a, w => J1 a w
  | .goto 2, a, w => J2 a w
  | .goto _, _, _ => False
  | e, a, w => Q e a w
theorem jump3_0 {J0 J1 J2 Q a w} : jump3 J0 J1 J2 Q (.goto 0) a w = J0 a w := rfl
theorem jump3_1 {J0 J1 J2 Q a w} : jump3 J0 J1 J2 Q (.goto 1) a w = J1 a w := rfl
theorem jump3_2 {J0 J1 J2 Q a w} : jump3 J0 J1 J2 Q (.goto 2) a w = J2 a w := rfl
theorem jump3_ret {J0 J1 J2 Q a w} : jump3 J0 J1 J2 Q .ret a w = Q .ret a w := rfl

theorem wp_scope_three {P : Program} {a : Act} {w : World} {Q : Exit → Act → World → Prop} {c r0 r1 r2 : Code} (J0 J1 J2 : Act → World → Prop) (m : Act → World → Nat)
    (h0 : findLabel c 0 = some r0) (h1 : findLabel c 1 = some r1) (h2 : findLabel c 2 = some r2) (first : c.wp P (jump3 J0 J1 J2 Q) a w)
    (pass0 : ∀ a w, J0 a w → r0.wp P (jump3 (fun a' w' => J0 a' w' ∧ m a' w' < m a w) J1 J2 Q) a w)
    (pass2 : ∀ a w, J2 a w → r2.wp P (jump3 (fun _ _ => False) J1 (fun _ _ => False) Q) a w)
    (pass1 : ∀ a w, J1 a w → r1.wp P (jump3 (fun _ _ => False) (fun _ _ => False) (fun _ _ => False) Q) a w) : (Code.scope c).wp P Q a w := by
  refine wp_scope_all (fun l => if l = 0 then r0 else if l = 1 then r1 else r2) (fun l a w => (l = 0 ∧ J0 a w) ∨ (l = 1 ∧ J1 a w) ∨ (l = 2 ∧ J2 a w)) (fun l a w => if l = 0 then m a w + 2 else if l = 2 then 1 else 0) ?_ ?_ ?_
  · rintro l a w (⟨rfl, _⟩ | ⟨rfl, _⟩ | ⟨rfl, _⟩)
    · simpa using h0
    · simpa using h1
    · simpa using h2
  · refine Code.wp_mono ?_ first
    intro e a w h
    cases e with
    | goto l =>
      match l, h with
      | 0, h => exact .inl ⟨rfl, h⟩
      | 1, h => exact .inr (.inl ⟨rfl, h⟩)
      | 2, h => exact .inr (.inr ⟨rfl, h⟩)
    | _ => exact h
  · rintro l a w (⟨rfl, hJ⟩ | ⟨rfl, hJ⟩ | ⟨rfl, hJ⟩)
    · refine Code.wp_mono ?_ (pass0 a w hJ)
      intro e a' w' h
      cases e with
      | goto l =>
        match l, h with
        | 0, h => exact ⟨.inl ⟨rfl, h.1⟩, by simpa using h.2⟩
        | 1, h => exact ⟨.inr (.inl ⟨rfl, h⟩), by simp⟩
        | 2, h => exact ⟨.inr (.inr ⟨rfl, h⟩), by simp⟩
      | _ => exact h
    · refine Code.wp_mono ?_ (pass1 a w hJ)
      intro e a' w' h
      cases e with
      | goto l =>
        match l, h with
        | 0, h => exact h.elim
        | 1, h => exact h.elim
        | 2, h => exact h.elim
      | _ => exact h
    · refine Code.wp_mono ?_ (pass2 a w hJ)
      intro e a' w' h
      cases e with
      | goto l =>
        match l, h with
        | 0, h => exact h.elim
        | 1, h => exact ⟨.inr (.inl ⟨rfl, h⟩), by simp⟩
        | 2, h => exact h.elim
      | _ => exact h
end Go.Proofs.YtbainombjfginaaDoor
