/-
  Contracts: ValuesRight of the program.
-/
import Derived.Test.YtkhklfnhninkjaaGreatInners
import Derived.Test.YtkhklfnhninkjaaGreatVals2
import Derived.Maps.AppendAt
namespace Go.Proofs.YtkhklfnhninkjaaGreat
open Go.RowKit

theorem implValuesRight_any (B : Nat) (ao : Option Addr) (cap : Nat) (vs : List Val) (w : World) (hB : B ≤ w.heap.size) (hl : vs.length ≤ maxLen) (hr : ValRow w B ao vs) :
    Calls Tryz.prog 65 #[.slice ao vs.length cap] w fun e w' => e = .returned (.bool (vsRight vs)) ∧ Below w.heap.size w w' := by
  by_cases h12 : 12 < vs.length
  · have HV : Hid (vsRight vs = false) := by show _ = _; unfold vsRight; rw [decide_eq_false (by omega)]; rfl
    go_enter Tryz.func65, Tryz.ntmps65
    go_wp2_with fail
    refine (toInners_long ao vs.length cap _ hl h12).mono ?_
    rintro e w1 ⟨rfl, hb1⟩
    go_wp2
    go_ret
    exact ⟨ret_bool (by rw [HV.out]), hb1⟩
  · have HV : Hid (vsRight vs = vs.all vRight) := by show _ = _; unfold vsRight; rw [decide_eq_true (by omega)]; rfl
    have HR : Hid (ValRow w B ao vs) := hr
    clear hr
    go_enter Tryz.func65, Tryz.ntmps65
    go_wp2_with fail
    refine (toInners_any B ao cap vs _ hB (by omega) HR.out).mono ?_
    rintro e w1 ⟨hb1, h⟩
    rcases h with ⟨ha, bo, cp, rfl, hrow⟩ | ⟨ha, rfl⟩
    · have HF : Hid (vsRight vs = true) := by show _ = _; rw [HV.out, ha]
      clear ha hrow
      go_wp2
      go_ret
      exact ⟨ret_bool (by rw [HF.out]), hb1⟩
    · have HF : Hid (vsRight vs = false) := by show _ = _; rw [HV.out, ha]
      clear ha
      go_wp2
      go_ret
      exact ⟨ret_bool (by rw [HF.out]), hb1⟩
end Go.Proofs.YtkhklfnhninkjaaGreat
