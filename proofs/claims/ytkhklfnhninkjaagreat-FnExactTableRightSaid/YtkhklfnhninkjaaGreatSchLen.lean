/-
  A right schema has few columns.
-/
import Derived.Test.YtkhklfnhninkjaaGreatSRight
namespace Go.Proofs.YtkhklfnhninkjaaGreat
open Go.RowKit

theorem schRight_len {s : Sch} (h : schRight s = true) : 1 ≤ s.cols.length ∧ s.cols.length ≤ 10 := by
  rw [schRight_eq] at h
  simp only [Bool.and_eq_true] at h
  have h1 := h.1.1.1
  unfold colsOk manyOk at h1
  simp only [Bool.and_eq_true, decide_eq_true_eq] at h1
  exact h1.1
end Go.Proofs.YtkhklfnhninkjaaGreat
