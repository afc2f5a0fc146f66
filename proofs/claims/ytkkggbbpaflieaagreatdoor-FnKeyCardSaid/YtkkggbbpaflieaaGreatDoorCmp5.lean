/-
  Contracts: Compare of the program at all values; the law on Compare.
-/
import Derived.Test.YtkkggbbpaflieaaGreatDoorCmp4
namespace Go.Proofs.YtkkggbbpaflieaaGreatDoor
open Go.RowKit

theorem toInners_all (B : Nat) (ao : Option Addr) (cap : Nat) (vs : List Val) (w : World) (hB : B ≤ w.heap.size) (hl : vs.length ≤ maxLen) (hr : ValRow w B ao vs) :
    Calls Tryz.prog 18 #[.slice ao vs.length cap] w fun e w' => Below w.heap.size w w' ∧ ∃ bo n cp, e = .returned (.tuple #[.slice bo n cp, .bool (vsRight vs)]) := by
  by_cases h12 : 12 < vs.length
  · refine (toInners_long ao vs.length cap w hl h12).mono ?_
    rintro e w1 ⟨rfl, hb1⟩
    have hv : vsRight vs = false := by unfold vsRight; rw [decide_eq_false (by omega)]; rfl
    exact ⟨hb1, none, 0, 0, by rw [hv]⟩
  · refine (toInners_any B ao cap vs w hB (by omega) hr).mono ?_
    have hv : vsRight vs = vs.all vRight := by unfold vsRight; rw [decide_eq_true (by omega)]; rfl
    rintro e w1 ⟨hb1, h⟩
    rcases h with ⟨ha, bo, cp, rfl, _⟩ | ⟨ha, rfl⟩
    · exact ⟨hb1, bo, vs.length, cp, by rw [hv, ha]⟩
    · exact ⟨hb1, none, 0, 0, by rw [hv, ha]⟩
theorem implCompare_any (ao : Option Addr) (cap : Nat) (vs : List Val) (bo : Option Addr) (cp : Nat) (ws : List Val) (w : World) (hl : vs.length ≤ maxLen) (hm : ws.length ≤ maxLen) (ha : ValRow w w.heap.size ao vs) (hb : ValRow w w.heap.size bo ws) :
    Calls Tryz.prog 7 #[.slice ao vs.length cap, .slice bo ws.length cp] w fun e w' => e = .returned (.int .i64 (cmpOf vs ws)) ∧ Below w.heap.size w w' := by
  by_cases h : vsRight vs = true ∧ vsRight ws = true
  · have hf : cmpOf vs ws = cmpL vs ws := if_pos h
    rw [hf]
    exact implCompare_loop ao cap vs bo cp ws w h.1 h.2 ha hb
  · have HF : Hid (cmpOf vs ws = 0) := if_neg h
    have h2 : vsRight vs = false ∨ vsRight vs = true ∧ vsRight ws = false := by
      cases hv : vsRight vs
      · exact .inl rfl
      · cases hw : vsRight ws
        · exact .inr ⟨rfl, rfl⟩
        · exact absurd ⟨hv, hw⟩ h
    have HA : Hid (ValRow w w.heap.size ao vs) := ha
    have HB : Hid (ValRow w w.heap.size bo ws) := hb
    clear ha hb h
    go_enter Tryz.func7, Tryz.ntmps7
    go_wp2_with fail
    refine (toInners_all w.heap.size ao cap vs _ (Nat.le_refl _) hl HA.out).mono ?_
    rintro e w1 ⟨hb1, b1, n1, c1, rfl⟩
    have RB : Hid (ValRow w1 w.heap.size bo ws) := HB.out.kept hb1
    have hz1 := hb1.size
    go_wp2_with fail
    refine (toInners_all w.heap.size bo cp ws _ hz1 hm RB.out).mono ?_
    rintro e w2 ⟨hb2, b2, n2, c2, rfl⟩
    have hb3 : Below w.heap.size w w2 := hb1.trans (hb2.mono hz1)
    clear hb1 hb2 hz1
    rcases h2 with h2 | ⟨h2, h3⟩
    · rw [h2]
      clear h2
      go_wp2
      go_ret
      exact ⟨ret_int (by rw [HF.out]), hb3⟩
    · rw [h2, h3]
      clear h2 h3
      go_wp2
      go_ret
      exact ⟨ret_int (by rw [HF.out]), hb3⟩
end Go.Proofs.YtkkggbbpaflieaaGreatDoor
