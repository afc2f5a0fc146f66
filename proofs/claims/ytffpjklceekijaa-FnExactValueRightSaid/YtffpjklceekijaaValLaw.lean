/-
  The law on ValueRight, out of the contracts.
-/
import Derived.Test.YtffpjklceekijaaInner3
import Derived.Test.YtffpjklceekijaaReadVal
namespace Go.Proofs.Ytffpjklceekijaa
open Go.RowKit

set_option maxHeartbeats 400000 in
theorem lawValueRight (v0 : Value) (w : World) (h0 : IsVal v0) :
    Calls Try.prog 3 #[v0] w fun e w' => e = .returned (.bool true) ∧ Below w.heap.size w w' := by
  obtain ⟨x, rfl, ho, ht⟩ := h0
  obtain ⟨k, n, t⟩ := x
  simp only at ht
  have hsz := fun w => szValue_any k n 1048576 t (by omega) (by omega) ht w
  by_cases hs : (1048576 : Int) < t.size
  · rw [if_pos hs] at hsz
    go_enter Try.func3, Try.ntmps3
    go_wp2_with fail
    refine (hsz _).mono ?_
    rintro e w1 ⟨rfl, hb1⟩
    go_wp2
    go_ret
    exact ⟨rfl, ((Below.refl _ _).alloc (Nat.le_refl _) _).trans (hb1.mono (by simp))⟩
  · rw [if_neg hs] at hsz
    have hc := fun w => specValueRight_any k n t w
    have hi := fun w => implValueRight_any ⟨k, n, t⟩ w
    simp only at hi
    generalize vRight ⟨k, n, t⟩ = r at hc hi
    have HC : Hid (∀ w, Calls Try.prog 8 #[.agg #[.int .i64 k, .int .i64 n, .string t]] w fun e w' => e = .returned (.bool r) ∧ Below w.heap.size w w') := hc
    have HI : Hid (∀ w, Calls Try.prog 10 #[.agg #[.int .i64 k, .int .i64 n, .string t]] w fun e w' => e = .returned (.bool r) ∧ Below w.heap.size w w') := hi
    have HZ : Hid (∀ w, Calls Try.prog 7 #[.agg #[.int .i64 k, .int .i64 n, .string t], .int .i64 1048576] w fun e w' => e = .returned (.int .i64 (1048576 - t.size)) ∧ Below w.heap.size w w') := hsz
    clear hc hi hsz
    go_enter Try.func3, Try.ntmps3
    go_wp2_with fail
    refine (HZ.out _).mono ?_
    rintro e w1 ⟨rfl, hb1⟩
    obtain ⟨c1, f1⟩ := bcell hb1
    go_wp2_with fail
    refine (toValue_any k n t _).mono ?_
    rintro e w2 ⟨rfl, hb2⟩
    have k2 := hb1.trans (hb2.mono hb1.size)
    obtain ⟨c2, f2⟩ := bcell k2
    clear c1 f1 hb1 hb2
    go_wp2_with fail
    refine (HC.out _).mono ?_
    rintro e w3 ⟨rfl, hb3⟩
    have k3 := k2.trans (hb3.mono k2.size)
    obtain ⟨c3, f3⟩ := bcell k3
    clear c2 f2 k2 hb3
    go_wp2_with fail
    refine (toValue_any k n t _).mono ?_
    rintro e w4 ⟨rfl, hb4⟩
    have k4 := k3.trans (hb4.mono k3.size)
    clear c3 f3 k3 hb4
    go_wp2_with fail
    refine (HI.out _).mono ?_
    rintro e w5 ⟨rfl, hb5⟩
    have k5 := k4.trans (hb5.mono k4.size)
    clear k4 hb5
    go_wp2
    go_ret
    exact ⟨rfl, ((Below.refl _ _).alloc (Nat.le_refl _) _).trans (k5.mono (by simp))⟩
end Go.Proofs.Ytffpjklceekijaa
