/-
  Contracts: a value taken in behind the interface, if it is right.
-/
import Derived.Test.YtkhklfnhninkjaaGreatInner
import Derived.Deep.RegionHeld3
import Derived.Deep.RegionWith
import Derived.Deep.RegionWith
import Derived.OwnWalk
namespace Go.Proofs.YtkhklfnhninkjaaGreat
open Go.RowKit

theorem below_one {w w1 : World} {o : Obj} (h1 : Below (w.alloc o).drew.heap.size (w.alloc o).drew w1) : Below w.heap.size w w1 :=
  ((Below.refl _ _).alloc (Nat.le_refl _) o).drew.trans (h1.mono (by simp))
theorem below_two {w w1 w2 : World} {o : Obj} (h1 : Below (w.alloc o).drew.heap.size (w.alloc o).drew w1) (h2 : Below w1.heap.size w1 w2) : Below w.heap.size w w2 :=
  (below_one h1).trans (h2.mono (by have := h1.size; simp at this; omega))
set_option maxRecDepth 100000 in
set_option maxHeartbeats 1000000 in
theorem toInner_null_yes (t : ByteArray) (ht : t.toList = []) (w : World) :
    Calls Tryz.prog 71 #[.agg #[.int .i64 0, .int .i64 0, .string t]] w fun e w' => e = .returned (.tuple #[.iface 129 (.agg #[]), .bool true]) ∧ Below w.heap.size w w' := by
  go_enter Tryz.func71, Tryz.ntmps71
  go_wp2
  go_region_held3 (fun W => W.cell? ⟨w.heap.size, 0, none⟩ = some (.int .i64 0) ∧ W.cell? ⟨w.heap.size, 1, none⟩ = some (.int .i64 0) ∧ W.cell? ⟨w.heap.size, 2, none⟩ = some (.string t)) (go_keep) (first | (go_at_call 74; refine (fromInner_null _).mono ?_; rintro e w1 ⟨rfl, hb1⟩; obtain ⟨hc1, hf1⟩ := bcell hb1) | (go_at_call 75; refine (inBounds_null _).mono ?_; rintro e w2 ⟨rfl, hb2⟩; obtain ⟨hc2, hf2⟩ := bcell hb2; have hz1 : w.heap.size < w1.heap.size := by (have := hb1.size; simp at this; omega)))
  all_goals
    go_wp2
    go_ret2
    exact ⟨rfl, below_two hb1 hb2⟩
set_option maxRecDepth 100000 in
set_option maxHeartbeats 1000000 in
theorem toInner_null_num (n : Int) (t : ByteArray) (hn : ¬ 0 = n) (w : World) :
    Calls Tryz.prog 71 #[.agg #[.int .i64 0, .int .i64 n, .string t]] w fun e w' => e = .returned (.tuple #[.nilIface, .bool false]) ∧ Below w.heap.size w w' := by
  go_enter Tryz.func71, Tryz.ntmps71
  go_wp2
  first | go_region_with (go_at_call 74; refine (fromInner_null _).mono ?_; rintro e w1 ⟨rfl, hb1⟩; obtain ⟨hc1, hf1⟩ := bcell hb1) | fail
  all_goals
    go_wp2
    go_ret2
    exact ⟨rfl, below_one hb1⟩
set_option maxRecDepth 100000 in
set_option maxHeartbeats 1000000 in
theorem toInner_null_text (t : ByteArray) (ht : ¬ t.toList = []) (w : World) :
    Calls Tryz.prog 71 #[.agg #[.int .i64 0, .int .i64 0, .string t]] w fun e w' => e = .returned (.tuple #[.nilIface, .bool false]) ∧ Below w.heap.size w w' := by
  go_enter Tryz.func71, Tryz.ntmps71
  go_wp2
  first | go_region_with (go_at_call 74; refine (fromInner_null _).mono ?_; rintro e w1 ⟨rfl, hb1⟩; obtain ⟨hc1, hf1⟩ := bcell hb1) | fail
  all_goals
    go_wp2
    go_ret2
    exact ⟨rfl, below_one hb1⟩
set_option maxRecDepth 100000 in
set_option maxHeartbeats 1000000 in
theorem toInner_bool_yes (n : Int) (t : ByteArray) (ht : t.toList = []) (hn : decide (n = 0 ∨ n = 1) = true) (w : World) :
    Calls Tryz.prog 71 #[.agg #[.int .i64 1, .int .i64 n, .string t]] w fun e w' => e = .returned (.tuple #[.iface 131 (.agg #[.int .i64 n]), .bool true]) ∧ Below w.heap.size w w' := by
  go_enter Tryz.func71, Tryz.ntmps71
  go_wp2
  go_region_held3 (fun W => W.cell? ⟨w.heap.size, 0, none⟩ = some (.int .i64 1) ∧ W.cell? ⟨w.heap.size, 1, none⟩ = some (.int .i64 n) ∧ W.cell? ⟨w.heap.size, 2, none⟩ = some (.string t)) (go_keep) (first | (go_at_call 74; refine (fromInner_bool n _).mono ?_; rintro e w1 ⟨rfl, hb1⟩; obtain ⟨hc1, hf1⟩ := bcell hb1) | (go_at_call 75; refine (inBounds_bool n _).mono ?_; rintro e w2 ⟨rfl, hb2⟩; obtain ⟨hc2, hf2⟩ := bcell hb2; have hz1 : w.heap.size < w1.heap.size := by (have := hb1.size; simp at this; omega)))
  all_goals
    go_wp2
    go_ret2
    exact ⟨rfl, below_two hb1 hb2⟩
set_option maxRecDepth 100000 in
set_option maxHeartbeats 1000000 in
theorem toInner_bool_num (n : Int) (t : ByteArray) (ht : t.toList = []) (hn : decide (n = 0 ∨ n = 1) = false) (w : World) :
    Calls Tryz.prog 71 #[.agg #[.int .i64 1, .int .i64 n, .string t]] w fun e w' => e = .returned (.tuple #[.nilIface, .bool false]) ∧ Below w.heap.size w w' := by
  go_enter Tryz.func71, Tryz.ntmps71
  go_wp2
  go_region_held3 (fun W => W.cell? ⟨w.heap.size, 0, none⟩ = some (.int .i64 1) ∧ W.cell? ⟨w.heap.size, 1, none⟩ = some (.int .i64 n) ∧ W.cell? ⟨w.heap.size, 2, none⟩ = some (.string t)) (go_keep) (first | (go_at_call 74; refine (fromInner_bool n _).mono ?_; rintro e w1 ⟨rfl, hb1⟩; obtain ⟨hc1, hf1⟩ := bcell hb1) | (go_at_call 75; refine (inBounds_bool n _).mono ?_; rintro e w2 ⟨rfl, hb2⟩; obtain ⟨hc2, hf2⟩ := bcell hb2; have hz1 : w.heap.size < w1.heap.size := by (have := hb1.size; simp at this; omega)))
  all_goals
    go_wp2
    go_ret2
    exact ⟨rfl, below_two hb1 hb2⟩
set_option maxRecDepth 100000 in
set_option maxHeartbeats 1000000 in
theorem toInner_bool_text (n : Int) (t : ByteArray) (ht : ¬ t.toList = []) (w : World) :
    Calls Tryz.prog 71 #[.agg #[.int .i64 1, .int .i64 n, .string t]] w fun e w' => e = .returned (.tuple #[.nilIface, .bool false]) ∧ Below w.heap.size w w' := by
  go_enter Tryz.func71, Tryz.ntmps71
  go_wp2
  first | go_region_with (go_at_call 74; refine (fromInner_bool n _).mono ?_; rintro e w1 ⟨rfl, hb1⟩; obtain ⟨hc1, hf1⟩ := bcell hb1) | fail
  all_goals
    go_wp2
    go_ret2
    exact ⟨rfl, below_one hb1⟩
set_option maxRecDepth 100000 in
set_option maxHeartbeats 1000000 in
theorem toInner_int_yes (n : Int) (t : ByteArray) (ht : t.toList = []) (w : World) :
    Calls Tryz.prog 71 #[.agg #[.int .i64 2, .int .i64 n, .string t]] w fun e w' => e = .returned (.tuple #[.iface 132 (.agg #[.int .i64 n]), .bool true]) ∧ Below w.heap.size w w' := by
  go_enter Tryz.func71, Tryz.ntmps71
  go_wp2
  go_region_held3 (fun W => W.cell? ⟨w.heap.size, 0, none⟩ = some (.int .i64 2) ∧ W.cell? ⟨w.heap.size, 1, none⟩ = some (.int .i64 n) ∧ W.cell? ⟨w.heap.size, 2, none⟩ = some (.string t)) (go_keep) (first | (go_at_call 74; refine (fromInner_int n _).mono ?_; rintro e w1 ⟨rfl, hb1⟩; obtain ⟨hc1, hf1⟩ := bcell hb1) | (go_at_call 75; refine (inBounds_int n _).mono ?_; rintro e w2 ⟨rfl, hb2⟩; obtain ⟨hc2, hf2⟩ := bcell hb2; have hz1 : w.heap.size < w1.heap.size := by (have := hb1.size; simp at this; omega)))
  all_goals
    go_wp2
    go_ret2
    exact ⟨rfl, below_two hb1 hb2⟩
set_option maxRecDepth 100000 in
set_option maxHeartbeats 1000000 in
theorem toInner_int_text (n : Int) (t : ByteArray) (ht : ¬ t.toList = []) (w : World) :
    Calls Tryz.prog 71 #[.agg #[.int .i64 2, .int .i64 n, .string t]] w fun e w' => e = .returned (.tuple #[.nilIface, .bool false]) ∧ Below w.heap.size w w' := by
  go_enter Tryz.func71, Tryz.ntmps71
  go_wp2
  first | go_region_with (go_at_call 74; refine (fromInner_int n _).mono ?_; rintro e w1 ⟨rfl, hb1⟩; obtain ⟨hc1, hf1⟩ := bcell hb1) | fail
  all_goals
    go_wp2
    go_ret2
    exact ⟨rfl, below_one hb1⟩
set_option maxRecDepth 100000 in
set_option maxHeartbeats 1000000 in
theorem toInner_text_yes (t : ByteArray) (ht : decide (t.size ≤ 200) = true) (w : World) :
    Calls Tryz.prog 71 #[.agg #[.int .i64 3, .int .i64 0, .string t]] w fun e w' => e = .returned (.tuple #[.iface 134 (.agg #[.string t]), .bool true]) ∧ Below w.heap.size w w' := by
  go_enter Tryz.func71, Tryz.ntmps71
  go_wp2
  go_region_held3 (fun W => W.cell? ⟨w.heap.size, 0, none⟩ = some (.int .i64 3) ∧ W.cell? ⟨w.heap.size, 1, none⟩ = some (.int .i64 0) ∧ W.cell? ⟨w.heap.size, 2, none⟩ = some (.string t)) (go_keep) (first | (go_at_call 74; refine (fromInner_text t _).mono ?_; rintro e w1 ⟨rfl, hb1⟩; obtain ⟨hc1, hf1⟩ := bcell hb1) | (go_at_call 75; refine (inBounds_text t _).mono ?_; rintro e w2 ⟨rfl, hb2⟩; obtain ⟨hc2, hf2⟩ := bcell hb2; have hz1 : w.heap.size < w1.heap.size := by (have := hb1.size; simp at this; omega)))
  all_goals
    go_wp2
    go_ret2
    exact ⟨rfl, below_two hb1 hb2⟩
set_option maxRecDepth 100000 in
set_option maxHeartbeats 1000000 in
theorem toInner_text_long (t : ByteArray) (ht : decide (t.size ≤ 200) = false) (w : World) :
    Calls Tryz.prog 71 #[.agg #[.int .i64 3, .int .i64 0, .string t]] w fun e w' => e = .returned (.tuple #[.nilIface, .bool false]) ∧ Below w.heap.size w w' := by
  go_enter Tryz.func71, Tryz.ntmps71
  go_wp2
  go_region_held3 (fun W => W.cell? ⟨w.heap.size, 0, none⟩ = some (.int .i64 3) ∧ W.cell? ⟨w.heap.size, 1, none⟩ = some (.int .i64 0) ∧ W.cell? ⟨w.heap.size, 2, none⟩ = some (.string t)) (go_keep) (first | (go_at_call 74; refine (fromInner_text t _).mono ?_; rintro e w1 ⟨rfl, hb1⟩; obtain ⟨hc1, hf1⟩ := bcell hb1) | (go_at_call 75; refine (inBounds_text t _).mono ?_; rintro e w2 ⟨rfl, hb2⟩; obtain ⟨hc2, hf2⟩ := bcell hb2; have hz1 : w.heap.size < w1.heap.size := by (have := hb1.size; simp at this; omega)))
  all_goals
    go_wp2
    go_ret2
    exact ⟨rfl, below_two hb1 hb2⟩
set_option maxRecDepth 100000 in
set_option maxHeartbeats 1000000 in
theorem toInner_text_num (n : Int) (t : ByteArray) (hn : ¬ 0 = n) (w : World) :
    Calls Tryz.prog 71 #[.agg #[.int .i64 3, .int .i64 n, .string t]] w fun e w' => e = .returned (.tuple #[.nilIface, .bool false]) ∧ Below w.heap.size w w' := by
  go_enter Tryz.func71, Tryz.ntmps71
  go_wp2
  first | go_region_with (go_at_call 74; refine (fromInner_text t _).mono ?_; rintro e w1 ⟨rfl, hb1⟩; obtain ⟨hc1, hf1⟩ := bcell hb1) | fail
  all_goals
    go_wp2
    go_ret2
    exact ⟨rfl, below_one hb1⟩
end Go.Proofs.YtkhklfnhninkjaaGreat
