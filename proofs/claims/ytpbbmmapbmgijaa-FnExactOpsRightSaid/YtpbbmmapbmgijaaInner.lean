/-
  Contracts: a value behind the interface: told again, its bounds.
-/
import Derived.Test.YtpbbmmapbmgijaaVal0
namespace Go.Proofs.Ytpbbmmapbmgijaa
open Go.RowKit

theorem kindM_null (w : World) : (Go.method 233 105 (.agg #[]) "loop.example/g00271/impl.kind").run Try.prog w = .ok (86, .agg #[]) w := by kernel_rfl
theorem kindM_bool (x : Value) (w : World) : (Go.method 233 107 (.agg #[x]) "loop.example/g00271/impl.kind").run Try.prog w = .ok (88, .agg #[x]) w := by kernel_rfl
theorem kindM_int (x : Value) (w : World) : (Go.method 233 108 (.agg #[x]) "loop.example/g00271/impl.kind").run Try.prog w = .ok (90, .agg #[x]) w := by kernel_rfl
theorem kindM_text (x : Value) (w : World) : (Go.method 233 110 (.agg #[x]) "loop.example/g00271/impl.kind").run Try.prog w = .ok (92, .agg #[x]) w := by kernel_rfl
theorem ta_bool_hit (x : Value) (w : World) : (Instr.typeAssert (.iface 107 x) 98 107 true).run Try.prog w = .ok (.tuple #[x, .bool true]) w := by kernel_rfl
theorem ta_int_hit (x : Value) (w : World) : (Instr.typeAssert (.iface 108 x) 98 108 true).run Try.prog w = .ok (.tuple #[x, .bool true]) w := by kernel_rfl
theorem ta_text_hit (x : Value) (w : World) : (Instr.typeAssert (.iface 110 x) 98 110 true).run Try.prog w = .ok (.tuple #[x, .bool true]) w := by kernel_rfl
theorem ta_null_bool (x : Value) (w : World) : (Instr.typeAssert (.iface 105 x) 98 107 true).run Try.prog w = .ok (.tuple #[.agg #[.int .i64 0], .bool false]) w := by kernel_rfl
theorem ta_null_int (x : Value) (w : World) : (Instr.typeAssert (.iface 105 x) 98 108 true).run Try.prog w = .ok (.tuple #[.agg #[.int .i64 0], .bool false]) w := by kernel_rfl
theorem ta_null_text (x : Value) (w : World) : (Instr.typeAssert (.iface 105 x) 98 110 true).run Try.prog w = .ok (.tuple #[.agg #[.string ⟨#[]⟩], .bool false]) w := by kernel_rfl
theorem ta_int_bool (x : Value) (w : World) : (Instr.typeAssert (.iface 108 x) 98 107 true).run Try.prog w = .ok (.tuple #[.agg #[.int .i64 0], .bool false]) w := by kernel_rfl
theorem ta_int_text (x : Value) (w : World) : (Instr.typeAssert (.iface 108 x) 98 110 true).run Try.prog w = .ok (.tuple #[.agg #[.string ⟨#[]⟩], .bool false]) w := by kernel_rfl
theorem ta_text_bool (x : Value) (w : World) : (Instr.typeAssert (.iface 110 x) 98 107 true).run Try.prog w = .ok (.tuple #[.agg #[.int .i64 0], .bool false]) w := by kernel_rfl
theorem ta_text_int (x : Value) (w : World) : (Instr.typeAssert (.iface 110 x) 98 108 true).run Try.prog w = .ok (.tuple #[.agg #[.int .i64 0], .bool false]) w := by kernel_rfl
set_option maxRecDepth 100000 in
theorem fromInner_null (w : World) :
    Calls Try.prog 65 #[.iface 105 (.agg #[])] w fun e w' => e = .returned (.agg #[.int .i64 0, .int .i64 0, .string ⟨#[]⟩]) ∧ Below w.heap.size w w' := by
  have hm := kindM_null
  have h1 := ta_null_bool
  have h2 := ta_null_int
  have h3 := ta_null_text
  go_enter Try.func65, Try.ntmps65
  go_wp2
  refine bodyPost_ret (v := .agg #[.int .i64 0, .int .i64 0, .string ⟨#[]⟩]) (by simp [results, Try.results65, go_sem]) rfl ⟨rfl, ?_⟩
  exact (((Below.refl _ _).alloc (Nat.le_refl _) _).alloc (by simp) _).alloc (by simp; omega) _
set_option maxRecDepth 100000 in
theorem fromInner_bool (n : Int) (w : World) :
    Calls Try.prog 65 #[.iface 107 (.agg #[.int .i64 n])] w fun e w' => e = .returned (.agg #[.int .i64 1, .int .i64 n, .string ⟨#[]⟩]) ∧ Below w.heap.size w w' := by
  have hm := kindM_bool
  have h1 := ta_bool_hit
  go_enter Try.func65, Try.ntmps65
  go_wp2
  refine bodyPost_ret (v := .agg #[.int .i64 1, .int .i64 n, .string ⟨#[]⟩]) (by simp [results, Try.results65, go_sem]) rfl ⟨rfl, ?_⟩
  exact ((((Below.refl _ _).alloc (Nat.le_refl _) _).alloc (by simp) _).alloc (by simp; omega) _).alloc (by simp; omega) _
set_option maxRecDepth 100000 in
theorem fromInner_int (n : Int) (w : World) :
    Calls Try.prog 65 #[.iface 108 (.agg #[.int .i64 n])] w fun e w' => e = .returned (.agg #[.int .i64 2, .int .i64 n, .string ⟨#[]⟩]) ∧ Below w.heap.size w w' := by
  have hm := kindM_int
  have h1 := ta_int_hit
  have h2 := ta_int_bool
  go_enter Try.func65, Try.ntmps65
  go_wp2
  refine bodyPost_ret (v := .agg #[.int .i64 2, .int .i64 n, .string ⟨#[]⟩]) (by simp [results, Try.results65, go_sem]) rfl ⟨rfl, ?_⟩
  exact ((((Below.refl _ _).alloc (Nat.le_refl _) _).alloc (by simp) _).alloc (by simp; omega) _).alloc (by simp; omega) _
set_option maxRecDepth 100000 in
theorem fromInner_text (t : ByteArray) (w : World) :
    Calls Try.prog 65 #[.iface 110 (.agg #[.string t])] w fun e w' => e = .returned (.agg #[.int .i64 3, .int .i64 0, .string t]) ∧ Below w.heap.size w w' := by
  have hm := kindM_text
  have h1 := ta_text_hit
  have h2 := ta_text_bool
  have h3 := ta_text_int
  go_enter Try.func65, Try.ntmps65
  go_wp2
  refine bodyPost_ret (v := .agg #[.int .i64 3, .int .i64 0, .string t]) (by simp [results, Try.results65, go_sem]) rfl ⟨rfl, ?_⟩
  exact ((((Below.refl _ _).alloc (Nat.le_refl _) _).alloc (by simp) _).alloc (by simp; omega) _).alloc (by simp; omega) _
set_option maxRecDepth 100000 in
theorem inBounds_null (w : World) :
    Calls Try.prog 66 #[.iface 105 (.agg #[])] w fun e w' => e = .returned (.bool true) ∧ Below w.heap.size w w' := by
  have h1 := ta_null_bool
  have h3 := ta_null_text
  go_enter Try.func66, Try.ntmps66
  go_wp2
  go_ret
  exact ⟨rfl, Below.refl _ _⟩
set_option maxRecDepth 100000 in
theorem inBounds_int (n : Int) (w : World) :
    Calls Try.prog 66 #[.iface 108 (.agg #[.int .i64 n])] w fun e w' => e = .returned (.bool true) ∧ Below w.heap.size w w' := by
  have h1 := ta_int_bool
  have h3 := ta_int_text
  go_enter Try.func66, Try.ntmps66
  go_wp2
  go_ret
  exact ⟨rfl, Below.refl _ _⟩
set_option maxRecDepth 100000 in
theorem inBounds_bool (n : Int) (w : World) :
    Calls Try.prog 66 #[.iface 107 (.agg #[.int .i64 n])] w fun e w' => e = .returned (.bool (decide (n = 0 ∨ n = 1))) ∧ Below w.heap.size w w' := by
  have h1 := ta_bool_hit
  go_enter Try.func66, Try.ntmps66
  go_wp2
  all_goals
    go_ret
    refine ⟨ret_bool ?_, (Below.refl _ _).alloc (Nat.le_refl _) _⟩
    rw [Bool.eq_iff_iff]
    simp_all
set_option maxRecDepth 100000 in
theorem inBounds_text (t : ByteArray) (w : World) :
    Calls Try.prog 66 #[.iface 110 (.agg #[.string t])] w fun e w' => e = .returned (.bool (decide (t.size ≤ 200))) ∧ Below w.heap.size w w' := by
  have h1 := ta_text_hit
  have h2 := ta_text_bool
  go_enter Try.func66, Try.ntmps66
  go_wp2
  all_goals
    go_ret
    refine ⟨ret_bool ?_, (Below.refl _ _).alloc (Nat.le_refl _) _⟩
    rw [Bool.eq_iff_iff]
    simp
    omega
end Go.Proofs.Ytpbbmmapbmgijaa
