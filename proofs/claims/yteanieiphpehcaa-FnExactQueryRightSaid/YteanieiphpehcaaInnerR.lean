/-
  Contracts: ValueRight of the program.
-/
import Derived.Test.YteanieiphpehcaaInner3
import Derived.Test.YteanieiphpehcaaVal1
namespace Go.Proofs.Yteanieiphpehcaa
open Go.RowKit

theorem implValueRight_any (v : Val) (w : World) :
    Calls Try.prog 11 #[.agg #[.int .i64 v.kind, .int .i64 v.num, .string v.text]] w fun e w' => e = .returned (.bool (vRight v)) ∧ Below w.heap.size w w' := by
  cases h : vRight v with
  | true =>
    have hc := toInner_yes v h
    generalize innerV v = x at hc
    go_enter Try.func11, Try.ntmps11
    go_wp2_with fail
    refine (hc _).mono ?_
    rintro e w1 ⟨rfl, hb1⟩
    go_wp2
    go_ret
    exact ⟨rfl, ((Below.refl _ _).alloc (Nat.le_refl _) _).trans (hb1.mono (by simp))⟩
  | false =>
    have hc := toInner_no v h
    go_enter Try.func11, Try.ntmps11
    go_wp2_with fail
    refine (hc _).mono ?_
    rintro e w1 ⟨rfl, hb1⟩
    go_wp2
    go_ret
    exact ⟨rfl, ((Below.refl _ _).alloc (Nat.le_refl _) _).trans (hb1.mono (by simp))⟩
end Go.Proofs.Yteanieiphpehcaa
