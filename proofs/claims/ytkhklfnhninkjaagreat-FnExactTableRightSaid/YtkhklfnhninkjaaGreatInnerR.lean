/-
  Contracts: ValueRight of the program.
-/
import Derived.Test.YtkhklfnhninkjaaGreatInner3
import Derived.Test.YtkhklfnhninkjaaGreatVal1
namespace Go.Proofs.YtkhklfnhninkjaaGreat
open Go.RowKit

theorem implValueRight_any (v : Val) (w : World) :
    Calls Tryz.prog 60 #[.agg #[.int .i64 v.kind, .int .i64 v.num, .string v.text]] w fun e w' => e = .returned (.bool (vRight v)) ∧ Below w.heap.size w w' := by
  cases h : vRight v with
  | true =>
    have hc := toInner_yes v h
    generalize innerV v = x at hc
    go_enter Tryz.func60, Tryz.ntmps60
    go_wp2_with fail
    refine (hc _).mono ?_
    rintro e w1 ⟨rfl, hb1⟩
    go_wp2
    go_ret
    exact ⟨rfl, ((Below.refl _ _).alloc (Nat.le_refl _) _).trans (hb1.mono (by simp))⟩
  | false =>
    have hc := toInner_no v h
    go_enter Tryz.func60, Tryz.ntmps60
    go_wp2_with fail
    refine (hc _).mono ?_
    rintro e w1 ⟨rfl, hb1⟩
    go_wp2
    go_ret
    exact ⟨rfl, ((Below.refl _ _).alloc (Nat.le_refl _) _).trans (hb1.mono (by simp))⟩
end Go.Proofs.YtkhklfnhninkjaaGreat
