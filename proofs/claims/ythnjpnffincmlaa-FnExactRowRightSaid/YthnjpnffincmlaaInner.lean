/-
  Contracts: a value behind the interface: told again, its bounds.
-/
import Derived.Test.YthnjpnffincmlaaVal0
namespace Go.Proofs.Ythnjpnffincmlaa
open Go.RowKit

theorem kindM_null (w : World) : (Go.method 278 155 (.agg #[]) "loop.example/g00271/impl.kind").run Try.prog w = .ok (138, .agg #[]) w := by kernel_rfl
theorem kindM_bool (x : Value) (w : World) : (Go.method 278 157 (.agg #[x]) "loop.example/g00271/impl.kind").run Try.prog w = .ok (140, .agg #[x]) w := by kernel_rfl
theorem kindM_int (x : Value) (w : World) : (Go.method 278 158 (.agg #[x]) "loop.example/g00271/impl.kind").run Try.prog w = .ok (142, .agg #[x]) w := by kernel_rfl
theorem kindM_text (x : Value) (w : World) : (Go.method 278 160 (.agg #[x]) "loop.example/g00271/impl.kind").run Try.prog w = .ok (144, .agg #[x]) w := by kernel_rfl
theorem ta_bool_hit (x : Value) (w : World) : (Instr.typeAssert (.iface 157 x) 146 157 true).run Try.prog w = .ok (.tuple #[x, .bool true]) w := by kernel_rfl
theorem ta_int_hit (x : Value) (w : World) : (Instr.typeAssert (.iface 158 x) 146 158 true).run Try.prog w = .ok (.tuple #[x, .bool true]) w := by kernel_rfl
theorem ta_text_hit (x : Value) (w : World) : (Instr.typeAssert (.iface 160 x) 146 160 true).run Try.prog w = .ok (.tuple #[x, .bool true]) w := by kernel_rfl
theorem ta_null_bool (x : Value) (w : World) : (Instr.typeAssert (.iface 155 x) 146 157 true).run Try.prog w = .ok (.tuple #[.agg #[.int .i64 0], .bool false]) w := by kernel_rfl
theorem ta_null_int (x : Value) (w : World) : (Instr.typeAssert (.iface 155 x) 146 158 true).run Try.prog w = .ok (.tuple #[.agg #[.int .i64 0], .bool false]) w := by kernel_rfl
theorem ta_null_text (x : Value) (w : World) : (Instr.typeAssert (.iface 155 x) 146 160 true).run Try.prog w = .ok (.tuple #[.agg #[.string ⟨#[]⟩], .bool false]) w := by kernel_rfl
theorem ta_int_bool (x : Value) (w : World) : (Instr.typeAssert (.iface 158 x) 146 157 true).run Try.prog w = .ok (.tuple #[.agg #[.int .i64 0], .bool false]) w := by kernel_rfl
theorem ta_int_text (x : Value) (w : World) : (Instr.typeAssert (.iface 158 x) 146 160 true).run Try.prog w = .ok (.tuple #[.agg #[.string ⟨#[]⟩], .bool false]) w := by kernel_rfl
theorem ta_text_bool (x : Value) (w : World) : (Instr.typeAssert (.iface 160 x) 146 157 true).run Try.prog w = .ok (.tuple #[.agg #[.int .i64 0], .bool false]) w := by kernel_rfl
theorem ta_text_int (x : Value) (w : World) : (Instr.typeAssert (.iface 160 x) 146 158 true).run Try.prog w = .ok (.tuple #[.agg #[.int .i64 0], .bool false]) w := by kernel_rfl
set_option maxRecDepth 100000 in
theorem fromInner_null (w : World) :
    Calls Try.prog 117 #[.iface 155 (.agg #[])] w fun e w' => e = .returned (.agg #[.int .i64 0, .int .i64 0, .string ⟨#[]⟩]) ∧ Below w.heap.size w w' := by
  have hm := kindM_null
  have h1 := ta_null_bool
  have h2 := ta_null_int
  have h3 := ta_null_text
  go_enter Try.func117, Try.ntmps117
  go_wp2
  refine bodyPost_ret (v := .agg #[.int .i64 0, .int .i64 0, .string ⟨#[]⟩]) (by simp [results, Try.results117, go_sem]) rfl ⟨rfl, ?_⟩
  exact (((Below.refl _ _).alloc (Nat.le_refl _) _).alloc (by simp) _).alloc (by simp; omega) _
set_option maxRecDepth 100000 in
theorem fromInner_bool (n : Int) (w : World) :
    Calls Try.prog 117 #[.iface 157 (.agg #[.int .i64 n])] w fun e w' => e = .returned (.agg #[.int .i64 1, .int .i64 n, .string ⟨#[]⟩]) ∧ Below w.heap.size w w' := by
  have hm := kindM_bool
  have h1 := ta_bool_hit
  go_enter Try.func117, Try.ntmps117
  go_wp2
  refine bodyPost_ret (v := .agg #[.int .i64 1, .int .i64 n, .string ⟨#[]⟩]) (by simp [results, Try.results117, go_sem]) rfl ⟨rfl, ?_⟩
  exact ((((Below.refl _ _).alloc (Nat.le_refl _) _).alloc (by simp) _).alloc (by simp; omega) _).alloc (by simp; omega) _
set_option maxRecDepth 100000 in
theorem fromInner_int (n : Int) (w : World) :
    Calls Try.prog 117 #[.iface 158 (.agg #[.int .i64 n])] w fun e w' => e = .returned (.agg #[.int .i64 2, .int .i64 n, .string ⟨#[]⟩]) ∧ Below w.heap.size w w' := by
  have hm := kindM_int
  have h1 := ta_int_hit
  have h2 := ta_int_bool
  go_enter Try.func117, Try.ntmps117
  go_wp2
  refine bodyPost_ret (v := .agg #[.int .i64 2, .int .i64 n, .string ⟨#[]⟩]) (by simp [results, Try.results117, go_sem]) rfl ⟨rfl, ?_⟩
  exact ((((Below.refl _ _).alloc (Nat.le_refl _) _).alloc (by simp) _).alloc (by simp; omega) _).alloc (by simp; omega) _
set_option maxRecDepth 100000 in
theorem fromInner_text (t : ByteArray) (w : World) :
    Calls Try.prog 117 #[.iface 160 (.agg #[.string t])] w fun e w' => e = .returned (.agg #[.int .i64 3, .int .i64 0, .string t]) ∧ Below w.heap.size w w' := by
  have hm := kindM_text
  have h1 := ta_text_hit
  have h2 := ta_text_bool
  have h3 := ta_text_int
  go_enter Try.func117, Try.ntmps117
  go_wp2
  refine bodyPost_ret (v := .agg #[.int .i64 3, .int .i64 0, .string t]) (by simp [results, Try.results117, go_sem]) rfl ⟨rfl, ?_⟩
  exact ((((Below.refl _ _).alloc (Nat.le_refl _) _).alloc (by simp) _).alloc (by simp; omega) _).alloc (by simp; omega) _
set_option maxRecDepth 100000 in
theorem inBounds_null (w : World) :
    Calls Try.prog 118 #[.iface 155 (.agg #[])] w fun e w' => e = .returned (.bool true) ∧ Below w.heap.size w w' := by
  have h1 := ta_null_bool
  have h3 := ta_null_text
  go_enter Try.func118, Try.ntmps118
  go_wp2
  go_ret
  exact ⟨rfl, Below.refl _ _⟩
set_option maxRecDepth 100000 in
theorem inBounds_int (n : Int) (w : World) :
    Calls Try.prog 118 #[.iface 158 (.agg #[.int .i64 n])] w fun e w' => e = .returned (.bool true) ∧ Below w.heap.size w w' := by
  have h1 := ta_int_bool
  have h3 := ta_int_text
  go_enter Try.func118, Try.ntmps118
  go_wp2
  go_ret
  exact ⟨rfl, Below.refl _ _⟩
set_option maxRecDepth 100000 in
theorem inBounds_bool (n : Int) (w : World) :
    Calls Try.prog 118 #[.iface 157 (.agg #[.int .i64 n])] w fun e w' => e = .returned (.bool (decide (n = 0 ∨ n = 1))) ∧ Below w.heap.size w w' := by
  have h1 := ta_bool_hit
  go_enter Try.func118, Try.ntmps118
  go_wp2
  all_goals
    go_ret
    refine ⟨ret_bool ?_, (Below.refl _ _).alloc (Nat.le_refl _) _⟩
    rw [Bool.eq_iff_iff]
    simp_all
set_option maxRecDepth 100000 in
theorem inBounds_text (t : ByteArray) (w : World) :
    Calls Try.prog 118 #[.iface 160 (.agg #[.string t])] w fun e w' => e = .returned (.bool (decide (t.size ≤ 200))) ∧ Below w.heap.size w w' := by
  have h1 := ta_text_hit
  have h2 := ta_text_bool
  go_enter Try.func118, Try.ntmps118
  go_wp2
  all_goals
    go_ret
    refine ⟨ret_bool ?_, (Below.refl _ _).alloc (Nat.le_refl _) _⟩
    rw [Bool.eq_iff_iff]
    simp
    omega
end Go.Proofs.Ythnjpnffincmlaa
