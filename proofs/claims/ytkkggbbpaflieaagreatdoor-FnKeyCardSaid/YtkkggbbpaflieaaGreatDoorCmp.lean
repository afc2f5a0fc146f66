/-
  Contracts: two values held against each other, by the specification and by the library's comparisons.
-/
import Derived.Test.YtkkggbbpaflieaaGreatDoorInners
namespace Go.Proofs.YtkkggbbpaflieaaGreatDoor
open Go.RowKit

def cmpI (x y : Int) : Int := if x < y then -1 else if y < x then 1 else 0
theorem cmpI_three (x y : Int) : cmpI x y = 0 ∨ cmpI x y = -1 ∨ cmpI x y = 1 := by
  unfold cmpI
  by_cases h : x < y
  · rw [if_pos h]; omega
  · rw [if_neg h]
    by_cases h' : y < x
    · rw [if_pos h']; omega
    · rw [if_neg h']; omega
theorem less_iff (s t : ByteArray) : Op.bytesLess s.toList t.toList = decide (cmpB s.data.toList t.data.toList = -1) := by
  rw [ByteArray.toList_eq, ByteArray.toList_eq, cmpB_less]
theorem eq_iff (s t : ByteArray) : (s.toList == t.toList) = decide (cmpB s.data.toList t.data.toList = 0) := by
  rw [ByteArray.toList_eq, ByteArray.toList_eq, Bool.eq_iff_iff, beq_iff_eq, decide_eq_true_iff]
  exact ⟨fun h => by rw [h, cmpB_self], cmpB_zero _ _⟩
theorem cmpInt64_any (x y : Int) (w : World) :
    Calls Tryz.prog 39 #[.int .i64 x, .int .i64 y] w fun e w' => e = .returned (.int .i64 (cmpI x y)) ∧ w' = w := by
  by_cases h : x < y
  · have HC : Hid (cmpI x y = -1) := if_pos h
    go_enter Tryz.func39, Tryz.ntmps39
    go_wp2
    go_ret
    exact ⟨ret_int (by rw [HC.out]), rfl⟩
  by_cases h' : y < x
  · have HC : Hid (cmpI x y = 1) := by show _ = _; unfold cmpI; rw [if_neg h, if_pos h']
    go_enter Tryz.func39, Tryz.ntmps39
    go_wp2
    go_ret
    exact ⟨ret_int (by rw [HC.out]), rfl⟩
  · have HC : Hid (cmpI x y = 0) := by show _ = _; unfold cmpI; rw [if_neg h, if_neg h']
    go_enter Tryz.func39, Tryz.ntmps39
    go_wp2
    go_ret
    exact ⟨ret_int (by rw [HC.out]), rfl⟩
theorem cmpInt_any (x y : Int) (w : World) :
    Calls Tryz.prog 24 #[.int .i64 x, .int .i64 y] w fun e w' => e = .returned (.int .i64 (cmpI x y)) ∧ w' = w := by
  by_cases h : x < y
  · have HC : Hid (cmpI x y = -1) := if_pos h
    go_enter Tryz.func24, Tryz.ntmps24
    go_wp2
    go_ret
    exact ⟨ret_int (by rw [HC.out]), rfl⟩
  by_cases h' : y < x
  · have HC : Hid (cmpI x y = 1) := by show _ = _; unfold cmpI; rw [if_neg h, if_pos h']
    go_enter Tryz.func24, Tryz.ntmps24
    go_wp2
    go_ret
    exact ⟨ret_int (by rw [HC.out]), rfl⟩
  · have HC : Hid (cmpI x y = 0) := by show _ = _; unfold cmpI; rw [if_neg h, if_neg h']
    go_enter Tryz.func24, Tryz.ntmps24
    go_wp2
    go_ret
    exact ⟨ret_int (by rw [HC.out]), rfl⟩
theorem cmpString_any (s t : ByteArray) (w : World) :
    Calls Tryz.prog 40 #[.string s, .string t] w fun e w' => e = .returned (.int .i64 (cmpB s.data.toList t.data.toList)) ∧ w' = w := by
  have hl := less_iff s t
  have he := eq_iff s t
  rcases cmpB_three s.data.toList t.data.toList with h | h | h
  · have HC : Hid (cmpB s.data.toList t.data.toList = 0) := h
    rw [h, decide_eq_false (by omega)] at hl
    rw [h, decide_eq_true rfl] at he
    clear h
    go_enter Tryz.func40, Tryz.ntmps40
    go_wp2
    go_ret
    exact ⟨ret_int (by rw [HC.out]), rfl⟩
  · have HC : Hid (cmpB s.data.toList t.data.toList = -1) := h
    rw [h, decide_eq_true rfl] at hl
    rw [h, decide_eq_false (by omega)] at he
    clear h
    go_enter Tryz.func40, Tryz.ntmps40
    go_wp2
    go_ret
    exact ⟨ret_int (by rw [HC.out]), rfl⟩
  · have HC : Hid (cmpB s.data.toList t.data.toList = 1) := h
    rw [h, decide_eq_false (by omega)] at hl he
    clear h
    go_enter Tryz.func40, Tryz.ntmps40
    go_wp2
    go_ret
    exact ⟨ret_int (by rw [HC.out]), rfl⟩
/-- The first of three that is not 0. -/
def or3 (x y z : Int) : Int := if x = 0 then (if y = 0 then z else y) else x
theorem or3_cmpV (a b : Val) : or3 (cmpI a.kind b.kind) (cmpI a.num b.num) (cmpB a.text.data.toList b.text.data.toList) = cmpV a b := by
  unfold or3 cmpI cmpV
  by_cases h1 : a.kind < b.kind
  · rw [if_pos h1, if_pos h1, if_neg (by omega)]
  · rw [if_neg h1, if_neg h1]
    by_cases h2 : b.kind < a.kind
    · rw [if_pos h2, if_pos h2, if_neg (by omega)]
    · rw [if_neg h2, if_neg h2, if_pos rfl]
      by_cases h3 : a.num < b.num
      · rw [if_pos h3, if_pos h3, if_neg (by omega)]
      · rw [if_neg h3, if_neg h3]
        by_cases h4 : b.num < a.num
        · rw [if_pos h4, if_pos h4, if_neg (by omega)]
        · rw [if_neg h4, if_neg h4, if_pos rfl]
theorem or_any (g : Nat) (x y z : Int) (w : World) (c0 : w.cell? ⟨g, 0, none⟩ = some (.int .i64 x)) (c1 : w.cell? ⟨g, 1, none⟩ = some (.int .i64 y)) (c2 : w.cell? ⟨g, 2, none⟩ = some (.int .i64 z)) :
    Calls Tryz.prog 38 #[.slice (some ⟨g, 0, none⟩) 3 3] w fun e w' => e = .returned (.int .i64 (or3 x y z)) ∧ w' = w := by
  by_cases hx : x = 0
  · by_cases hy : y = 0
    · by_cases hz : z = 0
      · have HC : Hid (or3 x y z = 0) := by show _ = _; unfold or3; rw [if_pos hx, if_pos hy, hz]
        subst hx hy hz
        go_enter Tryz.func38, Tryz.ntmps38
        go_wp2
        refine wp_loop_rounds 4 ?_
        rw [rounds_succ]
        go_wp2
        rw [rounds_succ]
        go_wp2
        rw [rounds_succ]
        go_wp2
        rw [rounds_succ]
        go_wp2
        go_ret
        exact ⟨ret_int (by rw [HC.out]), rfl⟩
      · have HC : Hid (or3 x y z = z) := by show _ = _; unfold or3; rw [if_pos hx, if_pos hy]
        subst hx hy
        go_enter Tryz.func38, Tryz.ntmps38
        go_wp2
        refine wp_loop_rounds 3 ?_
        rw [rounds_succ]
        go_wp2
        rw [rounds_succ]
        go_wp2
        rw [rounds_succ]
        go_wp2
        go_ret
        exact ⟨ret_int (by rw [HC.out]), rfl⟩
    · have HC : Hid (or3 x y z = y) := by show _ = _; unfold or3; rw [if_pos hx, if_neg hy]
      subst hx
      go_enter Tryz.func38, Tryz.ntmps38
      go_wp2
      refine wp_loop_rounds 2 ?_
      rw [rounds_succ]
      go_wp2
      rw [rounds_succ]
      go_wp2
      go_ret
      exact ⟨ret_int (by rw [HC.out]), rfl⟩
  · have HC : Hid (or3 x y z = x) := if_neg hx
    go_enter Tryz.func38, Tryz.ntmps38
    go_wp2
    refine wp_loop_rounds 1 ?_
    rw [rounds_succ]
    go_wp2
    go_ret
    exact ⟨ret_int (by rw [HC.out]), rfl⟩
set_option maxHeartbeats 2000000 in
theorem l02One_any (k n k' n' : Int) (t t' : ByteArray) (w : World) :
    Calls Tryz.prog 42 #[.agg #[.int .i64 k, .int .i64 n, .string t], .agg #[.int .i64 k', .int .i64 n', .string t']] w fun e w' => e = .returned (.int .i64 (cmpV ⟨k, n, t⟩ ⟨k', n', t'⟩)) ∧ Below w.heap.size w w' := by
  by_cases h1 : k < k'
  · have HC : Hid (cmpV ⟨k, n, t⟩ ⟨k', n', t'⟩ = -1) := if_pos h1
    go_enter Tryz.func42, Tryz.ntmps42
    go_wp2
    go_ret
    exact ⟨ret_int (by rw [HC.out]), ((Below.refl _ _).alloc (Nat.le_refl _) _).alloc (by simp) _⟩
  by_cases h2 : k' < k
  · have HC : Hid (cmpV ⟨k, n, t⟩ ⟨k', n', t'⟩ = 1) := by show _ = _; unfold cmpV; rw [if_neg h1, if_pos h2]
    have hne : ¬ k = k' := by omega
    go_enter Tryz.func42, Tryz.ntmps42
    go_wp2
    go_ret
    exact ⟨ret_int (by rw [HC.out]), ((Below.refl _ _).alloc (Nat.le_refl _) _).alloc (by simp) _⟩
  obtain rfl : k = k' := by omega
  by_cases h3 : n < n'
  · have HC : Hid (cmpV ⟨k, n, t⟩ ⟨k, n', t'⟩ = -1) := by show _ = _; unfold cmpV; rw [if_neg h1, if_neg h2, if_pos h3]
    go_enter Tryz.func42, Tryz.ntmps42
    go_wp2
    go_ret
    exact ⟨ret_int (by rw [HC.out]), ((Below.refl _ _).alloc (Nat.le_refl _) _).alloc (by simp) _⟩
  by_cases h4 : n' < n
  · have HC : Hid (cmpV ⟨k, n, t⟩ ⟨k, n', t'⟩ = 1) := by show _ = _; unfold cmpV; rw [if_neg h1, if_neg h2, if_neg h3, if_pos h4]
    have hne : ¬ n = n' := by omega
    go_enter Tryz.func42, Tryz.ntmps42
    go_wp2
    go_ret
    exact ⟨ret_int (by rw [HC.out]), ((Below.refl _ _).alloc (Nat.le_refl _) _).alloc (by simp) _⟩
  obtain rfl : n = n' := by omega
  have HV : Hid (cmpV ⟨k, n, t⟩ ⟨k, n, t'⟩ = cmpB t.data.toList t'.data.toList) := by show _ = _; unfold cmpV; rw [if_neg h1, if_neg h2, if_neg h3, if_neg h4]
  have hl := less_iff t t'
  have he := eq_iff t t'
  rcases cmpB_three t.data.toList t'.data.toList with h | h | h
  · have HC : Hid (cmpV ⟨k, n, t⟩ ⟨k, n, t'⟩ = 0) := by show _ = _; rw [HV.out, h]
    rw [h, decide_eq_false (by omega)] at hl
    obtain rfl := ba_ext (cmpB_zero _ _ h)
    clear h he
    go_enter Tryz.func42, Tryz.ntmps42
    go_wp2
    go_ret
    exact ⟨ret_int (by rw [HC.out]), ((Below.refl _ _).alloc (Nat.le_refl _) _).alloc (by simp) _⟩
  · have HC : Hid (cmpV ⟨k, n, t⟩ ⟨k, n, t'⟩ = -1) := by show _ = _; rw [HV.out, h]
    rw [h, decide_eq_true rfl] at hl
    clear h he
    go_enter Tryz.func42, Tryz.ntmps42
    go_wp2
    go_ret
    exact ⟨ret_int (by rw [HC.out]), ((Below.refl _ _).alloc (Nat.le_refl _) _).alloc (by simp) _⟩
  · have HC : Hid (cmpV ⟨k, n, t⟩ ⟨k, n, t'⟩ = 1) := by show _ = _; rw [HV.out, h]
    rw [h, decide_eq_false (by omega)] at hl
    rw [h, decide_eq_false (by omega)] at he
    have he' : ¬ t.toList = t'.toList := by simpa using he
    clear h he
    go_enter Tryz.func42, Tryz.ntmps42
    go_wp2
    go_ret
    exact ⟨ret_int (by rw [HC.out]), ((Below.refl _ _).alloc (Nat.le_refl _) _).alloc (by simp) _⟩
end Go.Proofs.YtkkggbbpaflieaaGreatDoor
