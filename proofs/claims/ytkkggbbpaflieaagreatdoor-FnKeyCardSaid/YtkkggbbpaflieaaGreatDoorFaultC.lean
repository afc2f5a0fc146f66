/-
  Contracts: faultCode, placeFault.
-/
import Derived.Test.YtkkggbbpaflieaaGreatDoorAs2
namespace Go.Proofs.YtkkggbbpaflieaaGreatDoor
open Go.RowKit

theorem below_setCell_self {B tb : Nat} {w w1 : World} {v : Value} (h : Below B w w1) (hB : B ≤ tb) : Below B w (w1.setCell ⟨tb, 0, none⟩ v) := h.setCell hB v

theorem faultCode_nil (w : World) :
    Calls Tryz.prog 29 #[.nilIface] w fun e w' => e = .returned (.int .i64 0) ∧ Below w.heap.size w w' := by
  go_enter Tryz.func29, Tryz.ntmps29
  go_wp2
  go_ret
  exact ⟨rfl, (Below.refl _ _).alloc (Nat.le_refl _) _⟩

set_option maxHeartbeats 400000 in
theorem faultCode_fault (c : Int) (w : World) (hg : w.cell? ⟨0, 0, none⟩ = some errTypeV) :
    Calls Tryz.prog 29 #[faultV c] w fun e w' => e = .returned (.int .i64 c) ∧ Below w.heap.size w w' := by
  have hlt := block_lt_of_cell hg
  have hg1 : (w.alloc (.cells #[.int .i64 0] 64)).cell? ⟨0, 0, none⟩ = some errTypeV := by rw [World.cell?_alloc_lt _ _ ⟨0, 0, none⟩ hlt]; exact hg
  have HA : Hid (∀ W, W = w.alloc (.cells #[.int .i64 0] 64) → Calls Tryz.prog 47 #[.iface 64 (.agg #[.int .i64 c]), .iface 91 (.pointer (some ⟨w.heap.size, 0, none⟩))] W fun ev w' => ev = .returned (.bool true) ∧ ∃ w1, w' = w1.setCell ⟨w.heap.size, 0, none⟩ (.int .i64 c) ∧ Below W.heap.size W w1) := by
    rintro W rfl
    exact as_hit c w.heap.size _ hg1 (heap_alloc_new _ _)
  clear hg1 hg
  unfold faultV
  go_enter Tryz.func29, Tryz.ntmps29
  go_wp2_with fail
  refine (HA.out _ rfl).mono ?_
  rintro e w' ⟨rfl, w1, rfl, hb1⟩
  have hk : w1.heap[w.heap.size]? = some (.cells #[.int .i64 0] 64 (0, 0)) := (hb1.block _ (by simp)).trans (heap_alloc_new w _)
  have hcl : w1.cell? ⟨w.heap.size, 0, none⟩ = some (.int .i64 0) := by rw [cell_of_row _ _ _ _ _ _ hk]; rfl
  have hb : Below w.heap.size w (w1.setCell ⟨w.heap.size, 0, none⟩ (.int .i64 c)) := (((Below.refl _ _).alloc (Nat.le_refl _) _).trans (hb1.mono (by simp))).setCell (Nat.le_refl _) _
  clear hk
  go_wp2
  go_ret
  exact ⟨rfl, hb⟩

end Go.Proofs.YtkkggbbpaflieaaGreatDoor
