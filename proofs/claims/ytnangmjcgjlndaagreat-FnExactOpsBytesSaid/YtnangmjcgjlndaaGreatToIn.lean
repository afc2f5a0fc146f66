/-
  Values taken in, all of them.
-/
import Derived.Test.YtnangmjcgjlndaaGreatInners
namespace Go.Proofs.YtnangmjcgjlndaaGreat
open Go.RowKit

theorem toInners_all (B : Nat) (ao : Option Addr) (cap : Nat) (vs : List Val) (w : World) (hB : B ≤ w.heap.size) (hl : vs.length ≤ maxLen) (hr : ValRow w B ao vs) :
    Calls Tryz.prog 59 #[.slice ao vs.length cap] w fun e w' => Below w.heap.size w w' ∧ ∃ bo n cp, e = .returned (.tuple #[.slice bo n cp, .bool (vsRight vs)]) := by
  by_cases h12 : 12 < vs.length
  · refine (toInners_long ao vs.length cap w hl h12).mono ?_
    rintro e w1 ⟨rfl, hb1⟩
    have hv : vsRight vs = false := by unfold vsRight; rw [decide_eq_false (by omega)]; rfl
    exact ⟨hb1, none, 0, 0, by rw [hv]⟩
  · refine (toInners_any B ao cap vs w hB (by omega) hr).mono ?_
    have hv : vsRight vs = vs.all vRight := by unfold vsRight; rw [decide_eq_true (by omega)]; rfl
    rintro e w1 ⟨hb1, h⟩
    rcases h with ⟨ha, bo, cp, rfl, _⟩ | ⟨ha, rfl⟩
    · exact ⟨hb1, bo, vs.length, cp, by rw [hv, ha]⟩
    · exact ⟨hb1, none, 0, 0, by rw [hv, ha]⟩
end Go.Proofs.YtnangmjcgjlndaaGreat
