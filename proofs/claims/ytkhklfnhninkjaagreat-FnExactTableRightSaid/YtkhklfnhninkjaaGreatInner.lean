/-
  Contracts: a value behind the interface: told again, its bounds.
-/
import Derived.Test.YtkhklfnhninkjaaGreatVal0
namespace Go.Proofs.YtkhklfnhninkjaaGreat
open Go.RowKit

theorem kindM_null (w : World) : (Go.method 275 129 (.agg #[]) "loop.example/g00271/impl.kind").run Tryz.prog w = .ok (96, .agg #[]) w := by kernel_rfl
theorem kindM_bool (x : Value) (w : World) : (Go.method 275 131 (.agg #[x]) "loop.example/g00271/impl.kind").run Tryz.prog w = .ok (98, .agg #[x]) w := by kernel_rfl
theorem kindM_int (x : Value) (w : World) : (Go.method 275 132 (.agg #[x]) "loop.example/g00271/impl.kind").run Tryz.prog w = .ok (100, .agg #[x]) w := by kernel_rfl
theorem kindM_text (x : Value) (w : World) : (Go.method 275 134 (.agg #[x]) "loop.example/g00271/impl.kind").run Tryz.prog w = .ok (102, .agg #[x]) w := by kernel_rfl
theorem ta_bool_hit (x : Value) (w : World) : (Instr.typeAssert (.iface 131 x) 113 131 true).run Tryz.prog w = .ok (.tuple #[x, .bool true]) w := by kernel_rfl
theorem ta_int_hit (x : Value) (w : World) : (Instr.typeAssert (.iface 132 x) 113 132 true).run Tryz.prog w = .ok (.tuple #[x, .bool true]) w := by kernel_rfl
theorem ta_text_hit (x : Value) (w : World) : (Instr.typeAssert (.iface 134 x) 113 134 true).run Tryz.prog w = .ok (.tuple #[x, .bool true]) w := by kernel_rfl
theorem ta_null_bool (x : Value) (w : World) : (Instr.typeAssert (.iface 129 x) 113 131 true).run Tryz.prog w = .ok (.tuple #[.agg #[.int .i64 0], .bool false]) w := by kernel_rfl
theorem ta_null_int (x : Value) (w : World) : (Instr.typeAssert (.iface 129 x) 113 132 true).run Tryz.prog w = .ok (.tuple #[.agg #[.int .i64 0], .bool false]) w := by kernel_rfl
theorem ta_null_text (x : Value) (w : World) : (Instr.typeAssert (.iface 129 x) 113 134 true).run Tryz.prog w = .ok (.tuple #[.agg #[.string ⟨#[]⟩], .bool false]) w := by kernel_rfl
theorem ta_int_bool (x : Value) (w : World) : (Instr.typeAssert (.iface 132 x) 113 131 true).run Tryz.prog w = .ok (.tuple #[.agg #[.int .i64 0], .bool false]) w := by kernel_rfl
theorem ta_int_text (x : Value) (w : World) : (Instr.typeAssert (.iface 132 x) 113 134 true).run Tryz.prog w = .ok (.tuple #[.agg #[.string ⟨#[]⟩], .bool false]) w := by kernel_rfl
theorem ta_text_bool (x : Value) (w : World) : (Instr.typeAssert (.iface 134 x) 113 131 true).run Tryz.prog w = .ok (.tuple #[.agg #[.int .i64 0], .bool false]) w := by kernel_rfl
theorem ta_text_int (x : Value) (w : World) : (Instr.typeAssert (.iface 134 x) 113 132 true).run Tryz.prog w = .ok (.tuple #[.agg #[.int .i64 0], .bool false]) w := by kernel_rfl
set_option maxRecDepth 100000 in
theorem fromInner_null (w : World) :
    Calls Tryz.prog 74 #[.iface 129 (.agg #[])] w fun e w' => e = .returned (.agg #[.int .i64 0, .int .i64 0, .string ⟨#[]⟩]) ∧ Below w.heap.size w w' := by
  have hm := kindM_null
  have h1 := ta_null_bool
  have h2 := ta_null_int
  have h3 := ta_null_text
  go_enter Tryz.func74, Tryz.ntmps74
  go_wp2
  refine bodyPost_ret (v := .agg #[.int .i64 0, .int .i64 0, .string ⟨#[]⟩]) (by simp [results, Tryz.results74, go_sem]) rfl ⟨rfl, ?_⟩
  exact (((Below.refl _ _).alloc (Nat.le_refl _) _).alloc (by simp) _).alloc (by simp; omega) _
set_option maxRecDepth 100000 in
theorem fromInner_bool (n : Int) (w : World) :
    Calls Tryz.prog 74 #[.iface 131 (.agg #[.int .i64 n])] w fun e w' => e = .returned (.agg #[.int .i64 1, .int .i64 n, .string ⟨#[]⟩]) ∧ Below w.heap.size w w' := by
  have hm := kindM_bool
  have h1 := ta_bool_hit
  go_enter Tryz.func74, Tryz.ntmps74
  go_wp2
  refine bodyPost_ret (v := .agg #[.int .i64 1, .int .i64 n, .string ⟨#[]⟩]) (by simp [results, Tryz.results74, go_sem]) rfl ⟨rfl, ?_⟩
  exact ((((Below.refl _ _).alloc (Nat.le_refl _) _).alloc (by simp) _).alloc (by simp; omega) _).alloc (by simp; omega) _
set_option maxRecDepth 100000 in
theorem fromInner_int (n : Int) (w : World) :
    Calls Tryz.prog 74 #[.iface 132 (.agg #[.int .i64 n])] w fun e w' => e = .returned (.agg #[.int .i64 2, .int .i64 n, .string ⟨#[]⟩]) ∧ Below w.heap.size w w' := by
  have hm := kindM_int
  have h1 := ta_int_hit
  have h2 := ta_int_bool
  go_enter Tryz.func74, Tryz.ntmps74
  go_wp2
  refine bodyPost_ret (v := .agg #[.int .i64 2, .int .i64 n, .string ⟨#[]⟩]) (by simp [results, Tryz.results74, go_sem]) rfl ⟨rfl, ?_⟩
  exact ((((Below.refl _ _).alloc (Nat.le_refl _) _).alloc (by simp) _).alloc (by simp; omega) _).alloc (by simp; omega) _
set_option maxRecDepth 100000 in
theorem fromInner_text (t : ByteArray) (w : World) :
    Calls Tryz.prog 74 #[.iface 134 (.agg #[.string t])] w fun e w' => e = .returned (.agg #[.int .i64 3, .int .i64 0, .string t]) ∧ Below w.heap.size w w' := by
  have hm := kindM_text
  have h1 := ta_text_hit
  have h2 := ta_text_bool
  have h3 := ta_text_int
  go_enter Tryz.func74, Tryz.ntmps74
  go_wp2
  refine bodyPost_ret (v := .agg #[.int .i64 3, .int .i64 0, .string t]) (by simp [results, Tryz.results74, go_sem]) rfl ⟨rfl, ?_⟩
  exact ((((Below.refl _ _).alloc (Nat.le_refl _) _).alloc (by simp) _).alloc (by simp; omega) _).alloc (by simp; omega) _
set_option maxRecDepth 100000 in
theorem inBounds_null (w : World) :
    Calls Tryz.prog 75 #[.iface 129 (.agg #[])] w fun e w' => e = .returned (.bool true) ∧ Below w.heap.size w w' := by
  have h1 := ta_null_bool
  have h3 := ta_null_text
  go_enter Tryz.func75, Tryz.ntmps75
  go_wp2
  go_ret
  exact ⟨rfl, Below.refl _ _⟩
set_option maxRecDepth 100000 in
theorem inBounds_int (n : Int) (w : World) :
    Calls Tryz.prog 75 #[.iface 132 (.agg #[.int .i64 n])] w fun e w' => e = .returned (.bool true) ∧ Below w.heap.size w w' := by
  have h1 := ta_int_bool
  have h3 := ta_int_text
  go_enter Tryz.func75, Tryz.ntmps75
  go_wp2
  go_ret
  exact ⟨rfl, Below.refl _ _⟩
set_option maxRecDepth 100000 in
theorem inBounds_bool (n : Int) (w : World) :
    Calls Tryz.prog 75 #[.iface 131 (.agg #[.int .i64 n])] w fun e w' => e = .returned (.bool (decide (n = 0 ∨ n = 1))) ∧ Below w.heap.size w w' := by
  have h1 := ta_bool_hit
  go_enter Tryz.func75, Tryz.ntmps75
  go_wp2
  all_goals
    go_ret
    refine ⟨ret_bool ?_, (Below.refl _ _).alloc (Nat.le_refl _) _⟩
    rw [Bool.eq_iff_iff]
    simp_all
set_option maxRecDepth 100000 in
theorem inBounds_text (t : ByteArray) (w : World) :
    Calls Tryz.prog 75 #[.iface 134 (.agg #[.string t])] w fun e w' => e = .returned (.bool (decide (t.size ≤ 200))) ∧ Below w.heap.size w w' := by
  have h1 := ta_text_hit
  have h2 := ta_text_bool
  go_enter Tryz.func75, Tryz.ntmps75
  go_wp2
  all_goals
    go_ret
    refine ⟨ret_bool ?_, (Below.refl _ _).alloc (Nat.le_refl _) _⟩
    rw [Bool.eq_iff_iff]
    simp
    omega
end Go.Proofs.YtkhklfnhninkjaaGreat
