/-
  The law on GetText, out of the contracts.
-/
import Derived.Test.YtbainombjfginaaDoorGetTextS
import Derived.OpenShut
namespace Go.Proofs.YtbainombjfginaaDoor
open Go.RowKit

theorem eqText_same (n : ByteArray) (a c : Int) (w : World) :
    Calls Tryd.prog 17 #[tOut n a c, tOut n a c] w fun e w' => e = .returned (.bool true) ∧ Below w.heap.size w w' := by
  unfold tOut
  go_enter Tryd.func17, Tryd.ntmps17
  go_wp2
  go_ret
  exact ⟨rfl, ((Below.refl _ _).alloc (Nat.le_refl _) _).alloc (by simp) _⟩

set_option maxHeartbeats 400000 in
theorem lawGetText (a0 : ByteArray) (a1 : Int) (_w0 : a0.size ≤ maxLen) (w1 : (Lit.int .i64 a1).wf = true) (w : World) (hg : w.cell? ⟨0, 0, none⟩ = some errTypeV) :
    Calls Tryd.prog 5 #[.string a0, .int .i64 a1] w fun e w' => e = .returned (.bool true) ∧ Below w.heap.size w w' := by
  have hb := (bounds_i64 w1).2
  have hlt : (0 : Nat) < w.heap.size := block_lt_of_cell hg
  have HG : Hid (w.cell? ⟨0, 0, none⟩ = some errTypeV) := hg
  clear hg w1
  by_cases hs : a0.size ≤ 1048576
  · have hspec := specGetText_any a0 a1 hb
    have himpl := implGetText_any a0 a1 hb
    unfold getTextV at hspec himpl
    generalize (getText3 a0 a1).1 = n at *
    generalize (getText3 a0 a1).2.1 = q at *
    generalize ((getText3 a0 a1).2.2 : Int) = c at *
    have HS : Hid (∀ w, Calls Tryd.prog 16 #[.string a0, .int .i64 a1] w fun e w' => e = .returned (tOut n q c) ∧ Below w.heap.size w w') := hspec
    have HI : Hid (∀ w, w.cell? ⟨0, 0, none⟩ = some errTypeV → Calls Tryd.prog 13 #[.string a0, .int .i64 a1] w fun e w' => e = .returned (tOut n q c) ∧ Below w.heap.size w w') := himpl
    clear hspec himpl
    have heq := eqText_same n q c
    unfold tOut at heq
    have HE : Hid (∀ w, Calls Tryd.prog 17 #[.agg #[.string n, .int .i64 q, .int .i64 c], .agg #[.string n, .int .i64 q, .int .i64 c]] w fun e w' => e = .returned (.bool true) ∧ Below w.heap.size w w') := heq
    clear heq
    go_enter Tryd.func5, Tryd.ntmps5
    go_wp2_with fail
    refine (HS.out _).mono ?_
    rintro e w1 ⟨rfl, hb1⟩
    unfold tOut
    have k1 := hb1.alloc hb1.size (.cells #[.string n, .int .i64 q, .int .i64 c] 31)
    have HG1 : Hid ((w1.alloc (.cells #[.string n, .int .i64 q, .int .i64 c] 31)).cell? ⟨0, 0, none⟩ = some errTypeV) := (k1.cell (p := ⟨0, 0, none⟩) hlt).trans HG.out
    go_wp2_with fail
    refine (HI.out _ HG1.out).mono ?_
    rintro e w2 ⟨rfl, hb2⟩
    unfold tOut
    obtain ⟨hc2, hf2⟩ := bcell hb2
    have hz2 : w1.heap.size < w2.heap.size := by (have := hb2.size; simp at this; omega)
    go_wp2_with fail
    refine (HE.out _).mono ?_
    rintro e w3 ⟨rfl, hb3⟩
    go_wp2
    go_ret
    refine ⟨rfl, ?_⟩
    have k2 := k1.trans (hb2.mono (by simp; have := hb1.size; omega))
    have k3 := k2.alloc (by have := hb1.size; omega) (.cells #[.string n, .int .i64 q, .int .i64 c] 31)
    exact k3.trans (hb3.mono (by simp; have := hb1.size; omega))
  · go_enter Tryd.func5, Tryd.ntmps5
    go_wp2
    go_ret
    exact ⟨rfl, Below.refl _ _⟩
end Go.Proofs.YtbainombjfginaaDoor
