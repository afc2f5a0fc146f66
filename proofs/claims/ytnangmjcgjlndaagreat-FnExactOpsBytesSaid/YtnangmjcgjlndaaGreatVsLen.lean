/-
  Right values are few.
-/
import Derived.Test.YtnangmjcgjlndaaGreatKeyPlain
namespace Go.Proofs.YtnangmjcgjlndaaGreat
open Go.RowKit

theorem vsRight_len {vs : List Val} (h : vsRight vs = true) : vs.length ≤ 12 ∧ vs.all vRight = true := by
  unfold vsRight at h
  rw [Bool.and_eq_true] at h
  exact ⟨of_decide_eq_true h.1, h.2⟩
end Go.Proofs.YtnangmjcgjlndaaGreat
