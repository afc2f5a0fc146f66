/-
  Contracts: toInner at every value.
-/
import Derived.Test.YtkhklfnhninkjaaGreatInner2
import Derived.Test.YtkhklfnhninkjaaGreatInnerV
import Derived.Test.YtkhklfnhninkjaaGreatVal0
namespace Go.Proofs.YtkhklfnhninkjaaGreat
open Go.RowKit

theorem toInner_other (k n : Int) (t : ByteArray) (h0 : (k == 0) = false) (h1 : (k == 1) = false) (h2 : (k == 2) = false) (h3 : (k == 3) = false) (w : World) :
    Calls Tryz.prog 71 #[.agg #[.int .i64 k, .int .i64 n, .string t]] w fun e w' => e = .returned (.tuple #[.nilIface, .bool false]) ∧ Below w.heap.size w w' := by
  go_enter Tryz.func71, Tryz.ntmps71
  go_wp2
  go_ret2
  exact ⟨rfl, (Below.refl _ _).alloc (Nat.le_refl _) _⟩
theorem toInner_yes (v : Val) (h : vRight v = true) (w : World) :
    Calls Tryz.prog 71 #[.agg #[.int .i64 v.kind, .int .i64 v.num, .string v.text]] w fun e w' => e = .returned (.tuple #[innerV v, .bool true]) ∧ Below w.heap.size w w' := by
  obtain ⟨k, n, t⟩ := v
  have hk : k = 0 ∨ k = 1 ∨ k = 2 ∨ k = 3 := right_kind h
  rcases hk with rfl | rfl | rfl | rfl
  · have h' : decide (n = 0 ∧ t.size = 0) = true := h
    obtain ⟨rfl, ht⟩ := of_decide_eq_true h'
    exact toInner_null_yes t ((tl_nil t).2 ht) w
  · have h' : decide ((n = 0 ∨ n = 1) ∧ t.size = 0) = true := h
    obtain ⟨hn, ht⟩ := of_decide_eq_true h'
    exact toInner_bool_yes n t ((tl_nil t).2 ht) (decide_eq_true hn) w
  · have h' : decide (t.size = 0) = true := h
    exact toInner_int_yes n t ((tl_nil t).2 (of_decide_eq_true h')) w
  · have h' : decide (n = 0 ∧ t.size ≤ 200) = true := h
    obtain ⟨rfl, ht⟩ := of_decide_eq_true h'
    exact toInner_text_yes t (decide_eq_true ht) w
theorem toInner_no (v : Val) (h : vRight v = false) (w : World) :
    Calls Tryz.prog 71 #[.agg #[.int .i64 v.kind, .int .i64 v.num, .string v.text]] w fun e w' => e = .returned (.tuple #[.nilIface, .bool false]) ∧ Below w.heap.size w w' := by
  obtain ⟨k, n, t⟩ := v
  by_cases h0 : k = 0
  · subst h0
    have h' : decide (n = 0 ∧ t.size = 0) = false := h
    have h2 := of_decide_eq_false h'
    by_cases hn : n = 0
    · subst hn
      exact toInner_null_text t (fun e => h2 ⟨rfl, (tl_nil t).1 e⟩) w
    · exact toInner_null_num n t (fun e => hn e.symm) w
  by_cases h1 : k = 1
  · subst h1
    have h' : decide ((n = 0 ∨ n = 1) ∧ t.size = 0) = false := h
    have h2 := of_decide_eq_false h'
    by_cases ht : t.size = 0
    · exact toInner_bool_num n t ((tl_nil t).2 ht) (decide_eq_false fun e => h2 ⟨e, ht⟩) w
    · exact toInner_bool_text n t (fun e => ht ((tl_nil t).1 e)) w
  by_cases h2 : k = 2
  · subst h2
    have h' : decide (t.size = 0) = false := h
    exact toInner_int_text n t (fun e => of_decide_eq_false h' ((tl_nil t).1 e)) w
  by_cases h3 : k = 3
  · subst h3
    have h' : decide (n = 0 ∧ t.size ≤ 200) = false := h
    have h2 := of_decide_eq_false h'
    by_cases hn : n = 0
    · subst hn
      exact toInner_text_long t (decide_eq_false fun e => h2 ⟨rfl, e⟩) w
    · exact toInner_text_num n t (fun e => hn e.symm) w
  · exact toInner_other k n t (by simpa using h0) (by simpa using h1) (by simpa using h2) (by simpa using h3) w
end Go.Proofs.YtkhklfnhninkjaaGreat
