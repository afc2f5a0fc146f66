/-
  Regions that draw their order: an operation taken first, its slot named; a row of operations passed over whose guards say no.
-/
import Derived.Test.YtgnegidgeegknaaRows
import Derived.WalkKit
import Derived.WalkLawsBesides
import Derived.Deep.RegionHeld3
namespace Go.Proofs.Ytgnegidgeegknaa
open Go.RowKit

section
variable {P : Program} {ops : Array Oper} {Q : Exit → Act → World → Prop} {md : Region.Mode} {S : World → Prop}

theorem takeD (i d : Nat) {oi : Oper} {v : Value} {fuel : Nat} {listed : Array Bool} {a : Act} {w : World} (hi : ops[i]? = some oi) (hd : oi.dst = some d)
    (hs : Region.noSelect ops = true) (hf : Region.free md ops listed i = true) (hr : (Region.ready md ops listed).contains i = true)
    (hQ : ∀ c a w, Q (.panic c) (a.put oi.dst v) w → Q (.panic c) a w) (hw : Region.wanted oi (yielded ops a.tmps) = true) (hy : ∀ w, S w → (execOp a.eval oi).run P w = .ok (.value v) w) (hS : S w)
    (h : wpAnyH P md ops Q S fuel (listed.setIfInBounds i true) (a.put (some d) v) w) : wpAnyH P md ops Q S (fuel + 1) listed a w :=
  wpAnyH_take hi hs hf hr hQ (.inl ⟨hw, hy⟩) hS (by rw [hd]; exact h)
def putAll (a : Act) (l : List (Nat × Nat)) : Act := l.foldl (fun a p => a.put (some p.2) undef) a
def listAll (b : Array Bool) (l : List (Nat × Nat)) : Array Bool := l.foldl (fun b p => b.setIfInBounds p.1 true) b
/-- May these come up one behind the other, and do their guards all say no? -/
def skipOk (md : Region.Mode) (ops : Array Oper) : List (Nat × Nat) → Array Bool → Act → Bool
  | [], _, _ => true
  | (i, d) :: r, b, a => (match ops[i]? with | some o => (o.dst == some d) && !(Region.wanted o (yielded ops a.tmps)) | none => false) && Region.free md ops b i && (Region.ready md ops b).contains i && skipOk md ops r (b.setIfInBounds i true) (a.put (some d) undef)
theorem skipAll (l : List (Nat × Nat)) (hs : Region.noSelect ops = true) (hQ : ∀ c d v a w, Q (.panic c) (Act.put a d v) w → Q (.panic c) a w) {w : World} (hS : S w) :
    ∀ {fuel : Nat} {listed : Array Bool} {a : Act}, skipOk md ops l listed a = true → wpAnyH P md ops Q S fuel (listAll listed l) (putAll a l) w → wpAnyH P md ops Q S (fuel + l.length) listed a w := by
  induction l with
  | nil => intro fuel listed a _ h; exact h
  | cons p r ih =>
    intro fuel listed a hok h
    obtain ⟨i, d⟩ := p
    simp only [skipOk, Bool.and_eq_true] at hok
    obtain ⟨⟨⟨h1, h2⟩, h3⟩, h4⟩ := hok
    cases ho : ops[i]? with
    | none => rw [ho] at h1; cases h1
    | some o =>
      rw [ho] at h1
      simp only [Bool.and_eq_true, beq_iff_eq, Bool.not_eq_true'] at h1
      have := ih h4 h
      exact wpAnyH_take (i := i) (oi := o) (v := undef) ho hs h2 h3 (fun c a w => hQ c _ _ a w) (.inr ⟨h1.2, rfl⟩) hS (by rw [h1.1]; exact this)
end
end Go.Proofs.Ytgnegidgeegknaa
