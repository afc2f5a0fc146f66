/-
  Contracts: slices of values: measured, copied, held against each other; asked by the specification whether they are right.
-/
import Derived.Test.YtnangmjcgjlndaaGreatInner3
import Derived.Test.YtnangmjcgjlndaaGreatVRow
import Derived.Deep.RegionHeld3
import Derived.OwnWalk
namespace Go.Proofs.YtnangmjcgjlndaaGreat
open Go.RowKit

theorem take_all (p : Val → Bool) (vs : List Val) (k : Nat) (hk : k < vs.length) : (vs.take (k + 1)).all p = ((vs.take k).all p && p vs[k]) := by
  rw [List.take_succ_eq_append_getElem hk, List.all_append]; simp
theorem all_false (p : Val → Bool) (vs : List Val) (k : Nat) (hk : k < vs.length) (h : p vs[k] = false) : vs.all p = false := by
  rw [Bool.eq_false_iff]
  intro e
  have := List.all_eq_true.1 e _ (List.getElem_mem hk)
  rw [h] at this; cases this

set_option maxHeartbeats 1000000 in
theorem specValuesRight_any (B : Nat) (ao : Option Addr) (cap : Nat) (vs : List Val) (w : World) (hB : B ≤ w.heap.size) (hl : vs.length ≤ maxLen) (hr : ValRow w B ao vs) :
    Calls Tryz.prog 45 #[.slice ao vs.length cap] w fun e w' => e = .returned (.bool (vsRight vs)) ∧ Below w.heap.size w w' := by
  unfold maxLen at hl
  by_cases h12 : 12 < vs.length
  · have HV : Hid (vsRight vs = false) := by show _ = _; unfold vsRight; rw [decide_eq_false (by omega)]; rfl
    go_enter Tryz.func45, Tryz.ntmps45
    go_wp2
    go_ret
    exact ⟨ret_bool (by rw [HV.out]), Below.refl _ _⟩
  · have HV : Hid (vsRight vs = vs.all vRight) := by show _ = _; unfold vsRight; rw [decide_eq_true (by omega)]; rfl
    have HR : Hid (ValRow w B ao vs) := hr
    clear hr
    go_enter Tryz.func45, Tryz.ntmps45
    go_wp2
    go_loopw [3] (fun i wr => ∃ k : Nat, k ≤ vs.length ∧ i = .int .i64 k ∧ Hid ((vs.take k).all vRight = true) ∧ Below w.heap.size w wr) (fun i _ => vs.length - (intOf i).toNat)
    case atStart => exact ⟨0, Nat.zero_le _, rfl, rfl, Below.refl _ _⟩
    case round =>
      obtain ⟨k, hk, rfl, HA, hb⟩ := hrel
      by_cases hlt : k < vs.length
      · obtain ⟨b, off, kk, nn, tt, rfl, hbB, hv, htt, d0, d1, d2⟩ := (HR.out.kept (hb.mono hB)).at k hlt
        have HVk : Hid (vs[k] = ⟨kk, nn, tt⟩) := hv
        clear hv
        have hc := fun w => specValueRight_any kk nn tt w
        cases hvr : vRight ⟨kk, nn, tt⟩ with
        | true =>
          rw [hvr] at hc
          have HA2 : Hid ((vs.take (k + 1)).all vRight = true) := by show _ = _; rw [take_all _ _ _ hlt, HA.out, HVk.out, hvr]; rfl
          clear hvr HVk
          go_wp2_with fail
          refine (hc _).mono ?_
          rintro e w1 ⟨rfl, hb1⟩
          have hb2 := hb.trans (hb1.mono hb.size)
          clear hc hb hb1 d0 d1 d2
          go_wp2
          go_roundw
          case rel => exact ⟨k + 1, by omega, by go_num, HA2, hb2⟩
          case measure => simp [intOf]; omega
        | false =>
          rw [hvr] at hc
          have HF : Hid (vsRight vs = false) := by show _ = _; rw [HV.out]; exact all_false _ _ k hlt (by rw [HVk.out, hvr])
          clear hvr HVk
          go_wp2_with fail
          refine (hc _).mono ?_
          rintro e w1 ⟨rfl, hb1⟩
          have hb2 := hb.trans (hb1.mono hb.size)
          clear hc hb hb1 d0 d1 d2
          go_wp2
          go_ret
          exact ⟨ret_bool (by rw [HF.out]), hb2⟩
      · obtain rfl : k = vs.length := by omega
        have HF : Hid (vsRight vs = true) := by show _ = _; rw [HV.out, ← HA.out, List.take_length]
        go_wp2
        go_ret
        exact ⟨ret_bool (by rw [HF.out]), hb⟩
end Go.Proofs.YtnangmjcgjlndaaGreat
