/-
  Contracts: a value copied, measured.
-/
import Derived.Test.YtkhklfnhninkjaaGreatVal0
namespace Go.Proofs.YtkhklfnhninkjaaGreat
open Go.RowKit

theorem toValue_any (k n : Int) (t : ByteArray) (w : World) :
    Calls Tryz.prog 47 #[.agg #[.int .i64 k, .int .i64 n, .string t]] w fun e w' => e = .returned (.agg #[.int .i64 k, .int .i64 n, .string t]) ∧ Below w.heap.size w w' := by
  go_enter Tryz.func47, Tryz.ntmps47
  go_wp2
  refine bodyPost_ret (v := .agg #[.int .i64 k, .int .i64 n, .string t]) (by simp [results, Tryz.results47, go_sem]) rfl ⟨rfl, ?_⟩
  exact (((Below.refl _ _).alloc (Nat.le_refl _) _).alloc (by simp) _).alloc (by simp; omega) _
theorem szValue_any (k n left : Int) (t : ByteArray) (h0 : 0 ≤ left) (h1 : left ≤ 1048576) (ht : t.size ≤ maxLen) (w : World) :
    Calls Tryz.prog 44 #[.agg #[.int .i64 k, .int .i64 n, .string t], .int .i64 left] w fun e w' => e = .returned (.int .i64 (if left < t.size then -1 else left - t.size)) ∧ Below w.heap.size w w' := by
  unfold maxLen at ht
  by_cases h : left < t.size
  · rw [if_pos h]
    go_enter Tryz.func44, Tryz.ntmps44
    go_wp2
    go_ret
    exact ⟨rfl, (Below.refl _ _).alloc (Nat.le_refl _) _⟩
  · rw [if_neg h]
    go_enter Tryz.func44, Tryz.ntmps44
    go_wp2
    go_ret
    exact ⟨rfl, (Below.refl _ _).alloc (Nat.le_refl _) _⟩
end Go.Proofs.YtkhklfnhninkjaaGreat
