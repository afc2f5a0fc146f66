/-
  The first of a list of values. Plain laws.
-/
import Derived.Test.YtkhklfnhninkjaaGreatVRow
namespace Go.Proofs.YtkhklfnhninkjaaGreat
open Go.RowKit

theorem take_all (p : Val → Bool) (vs : List Val) (k : Nat) (hk : k < vs.length) : (vs.take (k + 1)).all p = ((vs.take k).all p && p vs[k]) := by
  rw [List.take_succ_eq_append_getElem hk, List.all_append]; simp
theorem all_false (p : Val → Bool) (vs : List Val) (k : Nat) (hk : k < vs.length) (h : p vs[k] = false) : vs.all p = false := by
  rw [Bool.eq_false_iff]
  intro e
  have := List.all_eq_true.1 e _ (List.getElem_mem hk)
  rw [h] at this; cases this
end Go.Proofs.YtkhklfnhninkjaaGreat
