/-
  A right value behind the interface: what it is, and told again.
-/
import Derived.Test.YtkhklfnhninkjaaGreatInner
namespace Go.Proofs.YtkhklfnhninkjaaGreat
open Go.RowKit

/-- A right value behind the interface. -/
def innerV (v : Val) : Value :=
  if v.kind = 0 then .iface 129 (.agg #[]) else if v.kind = 1 then .iface 131 (.agg #[.int .i64 v.num])
  else if v.kind = 2 then .iface 132 (.agg #[.int .i64 v.num]) else .iface 134 (.agg #[.string v.text])
theorem innerV_iface (v : Val) : ∃ u y, innerV v = .iface u y := by
  unfold innerV
  by_cases h0 : v.kind = 0
  · rw [if_pos h0]; exact ⟨_, _, rfl⟩
  by_cases h1 : v.kind = 1
  · rw [if_neg h0, if_pos h1]; exact ⟨_, _, rfl⟩
  by_cases h2 : v.kind = 2
  · rw [if_neg h0, if_neg h1, if_pos h2]; exact ⟨_, _, rfl⟩
  · rw [if_neg h0, if_neg h1, if_neg h2]; exact ⟨_, _, rfl⟩
theorem fromInner_right (v : Val) (h : vRight v = true) (w : World) :
    Calls Tryz.prog 74 #[innerV v] w fun e w' => e = .returned (.agg #[.int .i64 v.kind, .int .i64 v.num, .string v.text]) ∧ Below w.heap.size w w' := by
  obtain ⟨k, n, t⟩ := v
  have hk : k = 0 ∨ k = 1 ∨ k = 2 ∨ k = 3 := right_kind h
  rcases hk with rfl | rfl | rfl | rfl
  · have h' : decide (n = 0 ∧ t.size = 0) = true := h
    obtain ⟨rfl, ht⟩ := of_decide_eq_true h'
    obtain rfl := ba_empty ht
    exact fromInner_null w
  · have h' : decide ((n = 0 ∨ n = 1) ∧ t.size = 0) = true := h
    obtain rfl := ba_empty (of_decide_eq_true h').2
    exact fromInner_bool n w
  · have h' : decide (t.size = 0) = true := h
    obtain rfl := ba_empty (of_decide_eq_true h')
    exact fromInner_int n w
  · have h' : decide (n = 0 ∧ t.size ≤ 200) = true := h
    obtain ⟨rfl, ht⟩ := of_decide_eq_true h'
    exact fromInner_text t w
end Go.Proofs.YtkhklfnhninkjaaGreat
