/-
  The law on ValuesRight, out of the contracts.
-/
import Derived.Test.YtffpjklceekijaaInners
namespace Go.Proofs.Ytffpjklceekijaa
open Go.RowKit

set_option maxHeartbeats 1000000 in
theorem lawValuesRight (v0 : Value) (w : World) (h0 : IsVals w v0) :
    Calls Try.prog 4 #[v0] w fun e w' => e = .returned (.bool true) ∧ Below w.heap.size w w' := by
  obtain ⟨ao, cap, vs, rfl, hl, hr⟩ := h0
  have HR : Hid (ValRow w w.heap.size ao vs) := hr
  clear hr
  go_enter Try.func4, Try.ntmps4
  go_wp2_with fail
  refine (szValueS_any w.heap.size ao cap vs 1048576 _ (Nat.le_refl _) hl HR.out (by omega) (by omega)).mono ?_
  rintro e w1 ⟨r, rfl, hr1, hcase, hb1⟩
  have B1 : Hid (Below w.heap.size w w1) := hb1
  clear hb1
  rcases hcase with hneg | ⟨hr0, hf⟩
  · go_wp2
    go_ret
    exact ⟨rfl, B1.out⟩
  · have hn : vs.length ≤ 1048576 := by unfold szFits at hf; omega
    clear hf
    go_wp2_with fail
    refine (toValueS_any w.heap.size ao cap vs _ (B1.out).size hn ((HR.out).kept B1.out)).mono ?_
    rintro e w2 ⟨b2, c2, rfl, hr2, hb2⟩
    have B2 : Hid (Below w.heap.size w w2) := (B1.out).trans (hb2.mono (B1.out).size)
    have R2 : Hid (ValRow w2 w2.heap.size b2 vs) := hr2
    clear hr2 hb2 B1
    go_wp2_with fail
    refine (specValuesRight_any w2.heap.size b2 c2 vs _ (Nat.le_refl _) hl R2.out).mono ?_
    rintro e w3 ⟨rfl, hb3⟩
    have B3 : Hid (Below w.heap.size w w3) := (B2.out).trans (hb3.mono (B2.out).size)
    clear hb3 B2 R2
    go_wp2_with fail
    refine (toValueS_any w.heap.size ao cap vs _ (B3.out).size hn ((HR.out).kept B3.out)).mono ?_
    rintro e w4 ⟨b4, c4, rfl, hr4, hb4⟩
    have B4 : Hid (Below w.heap.size w w4) := (B3.out).trans (hb4.mono (B3.out).size)
    have R4 : Hid (ValRow w4 w4.heap.size b4 vs) := hr4
    clear hr4 hb4 B3
    go_wp2_with fail
    refine (implValuesRight_any w4.heap.size b4 c4 vs _ (Nat.le_refl _) hl R4.out).mono ?_
    rintro e w5 ⟨rfl, hb5⟩
    have B5 : Hid (Below w.heap.size w w5) := (B4.out).trans (hb5.mono (B4.out).size)
    have R5 : Hid (ValRow w5 w5.heap.size b4 vs) := ((R4.out).kept hb5).mono hb5.size
    clear hb5 B4 R4
    generalize vsRight vs = q
    go_wp2_with fail
    refine (toValueS_any w.heap.size ao cap vs _ (B5.out).size hn ((HR.out).kept B5.out)).mono ?_
    rintro e w6 ⟨b6, c6, rfl, hr6, hb6⟩
    have B6 : Hid (Below w.heap.size w w6) := (B5.out).trans (hb6.mono (B5.out).size)
    have R6 : Hid (ValRow w6 w6.heap.size b6 vs) := hr6
    have R46 : Hid (ValRow w6 w6.heap.size b4 vs) := ((R5.out).kept hb6).mono hb6.size
    clear hr6 hb6 B5 R5
    go_wp2_with fail
    refine (eqValueS_same b4 c4 b6 c6 vs _ hn R46.out R6.out).mono ?_
    rintro e w7 ⟨rfl, hb7⟩
    have B7 : Hid (Below w.heap.size w w7) := (B6.out).trans (hb7.mono (B6.out).size)
    clear hb7
    go_wp2
    go_ret
    exact ⟨rfl, B7.out⟩
end Go.Proofs.Ytffpjklceekijaa
