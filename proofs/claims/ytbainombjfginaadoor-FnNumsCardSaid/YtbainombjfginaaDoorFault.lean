/-
  Contracts: faultCode, placeFault.
-/
import Derived.Test.YtbainombjfginaaDoorAs2
import Derived.Test.YtbainombjfginaaDoorLong
namespace Go.Proofs.YtbainombjfginaaDoor
open Go.RowKit

theorem below_setCell_self {B tb : Nat} {w w1 : World} {v : Value} (h : Below B w w1) (hB : B ≤ tb) : Below B w (w1.setCell ⟨tb, 0, none⟩ v) := h.setCell hB v

theorem faultCode_nil (w : World) :
    Calls Tryd.prog 22 #[.nilIface] w fun e w' => e = .returned (.int .i64 0) ∧ Below w.heap.size w w' := by
  go_enter Tryd.func22, Tryd.ntmps22
  go_wp2
  go_ret
  exact ⟨rfl, (Below.refl _ _).alloc (Nat.le_refl _) _⟩

set_option maxHeartbeats 400000 in
theorem faultCode_fault (c : Int) (w : World) (hg : w.cell? ⟨0, 0, none⟩ = some errTypeV) :
    Calls Tryd.prog 22 #[faultV c] w fun e w' => e = .returned (.int .i64 c) ∧ Below w.heap.size w w' := by
  have hlt := block_lt_of_cell hg
  have hg1 : (w.alloc (.cells #[.int .i64 0] 59)).cell? ⟨0, 0, none⟩ = some errTypeV := by rw [World.cell?_alloc_lt _ _ ⟨0, 0, none⟩ hlt]; exact hg
  have HA : Hid (∀ W, W = w.alloc (.cells #[.int .i64 0] 59) → Calls Tryd.prog 31 #[.iface 59 (.agg #[.int .i64 c]), .iface 61 (.pointer (some ⟨w.heap.size, 0, none⟩))] W fun ev w' => ev = .returned (.bool true) ∧ ∃ w1, w' = w1.setCell ⟨w.heap.size, 0, none⟩ (.int .i64 c) ∧ Below W.heap.size W w1) := by
    rintro W rfl
    exact as_hit c w.heap.size _ hg1 (heap_alloc_new _ _)
  clear hg1 hg
  unfold faultV
  go_enter Tryd.func22, Tryd.ntmps22
  go_wp2_with fail
  refine (HA.out _ rfl).mono ?_
  rintro e w' ⟨rfl, w1, rfl, hb1⟩
  have hk : w1.heap[w.heap.size]? = some (.cells #[.int .i64 0] 59 (0, 0)) := (hb1.block _ (by simp)).trans (heap_alloc_new w _)
  have hcl : w1.cell? ⟨w.heap.size, 0, none⟩ = some (.int .i64 0) := by rw [cell_of_row _ _ _ _ _ _ hk]; rfl
  have hb : Below w.heap.size w (w1.setCell ⟨w.heap.size, 0, none⟩ (.int .i64 c)) := (((Below.refl _ _).alloc (Nat.le_refl _) _).trans (hb1.mono (by simp))).setCell (Nat.le_refl _) _
  clear hk
  go_wp2
  go_ret
  exact ⟨rfl, hb⟩

theorem placeFault_long (s : ByteArray) (a : Int) (hs : 20000 < s.size) (w : World) :
    Calls Tryd.prog 21 #[.string s, .int .i64 a] w fun e w' => e = .returned (faultV 2) ∧ w' = w := by
  go_enter Tryd.func21, Tryd.ntmps21
  go_wp2_with (go_at_call 27; refine (tooLong_yes _ hs _).mono ?_; rintro e w' ⟨rfl, rfl⟩)
  go_ret
  exact ⟨rfl, rfl⟩
theorem placeFault_low (s : ByteArray) (a : Int) (hs : s.size ≤ 20000) (h0 : a < 0) (w : World) :
    Calls Tryd.prog 21 #[.string s, .int .i64 a] w fun e w' => e = .returned (faultV 1) ∧ w' = w := by
  go_enter Tryd.func21, Tryd.ntmps21
  go_wp2_with (go_at_call 27; refine (tooLong_no _ hs _).mono ?_; rintro e w' ⟨rfl, rfl⟩)
  go_ret
  exact ⟨rfl, rfl⟩
theorem placeFault_ok (s : ByteArray) (a : Int) (hs : s.size ≤ 20000) (h0 : ¬ a < 0) (w : World) :
    Calls Tryd.prog 21 #[.string s, .int .i64 a] w fun e w' => e = .returned .nilIface ∧ w' = w := by
  go_enter Tryd.func21, Tryd.ntmps21
  go_wp2_with (go_at_call 27; refine (tooLong_no _ hs _).mono ?_; rintro e w' ⟨rfl, rfl⟩)
  go_ret
  exact ⟨rfl, rfl⟩
end Go.Proofs.YtbainombjfginaaDoor
