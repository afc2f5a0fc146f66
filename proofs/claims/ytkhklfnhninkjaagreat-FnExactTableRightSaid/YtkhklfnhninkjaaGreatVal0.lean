/-
  Contracts: a value is asked by the specification whether it is right.
-/
import Derived.Test.YtkhklfnhninkjaaGreatRows
import Derived.Test.YtkhklfnhninkjaaGreatPlain
import Derived.Test.YtkhklfnhninkjaaGreatKeyPlain
import Derived.WalkKit
import Derived.WalkLawsBesides
import Derived.Laws.ResultCell
namespace Go.Proofs.YtkhklfnhninkjaaGreat
open Go.RowKit

theorem resVal {fn : Func} {p : Tmp} (h : fn.results = #[.cell p 72]) (tmps : Array Value) (w : World) (g : Nat) (x y z : Value) (hp : tmps.getD p undef = .pointer (some ⟨g, 0, none⟩))
    (hg : w.heap[g]? = some (.cells #[x, y, z] 72 (0, 0))) : (results fn tmps).run Tryz.prog w = .ok (.agg #[x, y, z]) w :=
  results_cell_row h tmps w g 72 #[x, y, z] (0, 0) _ hp hg Tryz.underlying72 rfl (by kernel_rfl)
theorem tl_nil (t : ByteArray) : t.toList = [] ↔ t.size = 0 := by
  rw [ByteArray.toList_eq, ba_size]
  exact ⟨fun h => by rw [h]; rfl, List.eq_nil_of_length_eq_zero⟩
theorem tl_empty (t : ByteArray) : t.toList.isEmpty = decide (t.size = 0) := by
  rw [Bool.eq_iff_iff, List.isEmpty_iff, tl_nil]; simp
set_option maxHeartbeats 400000 in
theorem specValueRight_any (k n : Int) (t : ByteArray) (w : World) :
    Calls Tryz.prog 27 #[.agg #[.int .i64 k, .int .i64 n, .string t]] w fun e w' => e = .returned (.bool (vRight ⟨k, n, t⟩)) ∧ Below w.heap.size w w' := by
  go_enter Tryz.func27, Tryz.ntmps27
  go_wp2
  all_goals
    go_ret
    refine ⟨ret_bool ?_, (Below.refl _ _).alloc (Nat.le_refl _) _⟩
    simp_all [vRight, tl_nil, tl_empty]
  all_goals omega
end Go.Proofs.YtkhklfnhninkjaaGreat
