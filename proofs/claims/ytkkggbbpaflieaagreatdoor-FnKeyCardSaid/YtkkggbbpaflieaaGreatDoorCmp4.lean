/-
  Contracts: Compare of the specification and of the program, and the law on it.
-/
import Derived.Test.YtkkggbbpaflieaaGreatDoorCmp3
namespace Go.Proofs.YtkkggbbpaflieaaGreatDoor
open Go.RowKit

def cmpOf (vs ws : List Val) : Int := if vsRight vs = true ∧ vsRight ws = true then cmpL vs ws else 0
theorem vsRight_len {vs : List Val} (h : vsRight vs = true) : vs.length ≤ 12 ∧ vs.all vRight = true := by
  unfold vsRight at h
  rw [Bool.and_eq_true] at h
  exact ⟨of_decide_eq_true h.1, h.2⟩
theorem specCompare_any (ao : Option Addr) (cap : Nat) (vs : List Val) (bo : Option Addr) (cp : Nat) (ws : List Val) (w : World) (hl : vs.length ≤ maxLen) (hm : ws.length ≤ maxLen) (ha : ValRow w w.heap.size ao vs) (hb : ValRow w w.heap.size bo ws) :
    Calls Tryz.prog 8 #[.slice ao vs.length cap, .slice bo ws.length cp] w fun e w' => e = .returned (.int .i64 (cmpOf vs ws)) ∧ Below w.heap.size w w' := by
  have HA : Hid (ValRow w w.heap.size ao vs) := ha
  have HB : Hid (ValRow w w.heap.size bo ws) := hb
  clear ha hb
  have hl' := hl
  have hm' := hm
  unfold maxLen at hl' hm'
  by_cases h1 : 400 < vs.length
  · have HF : Hid (cmpOf vs ws = 0) := if_neg (fun h => by have := (vsRight_len h.1).1; omega)
    go_enter Tryz.func8, Tryz.ntmps8
    go_wp2
    go_ret
    exact ⟨ret_int (by rw [HF.out]), Below.refl _ _⟩
  by_cases h2 : 400 < ws.length
  · have HF : Hid (cmpOf vs ws = 0) := if_neg (fun h => by have := (vsRight_len h.2).1; omega)
    go_enter Tryz.func8, Tryz.ntmps8
    go_wp2
    go_ret
    exact ⟨ret_int (by rw [HF.out]), Below.refl _ _⟩
  cases hv : vsRight vs with
  | false =>
    have HF : Hid (cmpOf vs ws = 0) := if_neg (fun h => by rw [hv] at h; exact absurd h.1 (by simp))
    go_enter Tryz.func8, Tryz.ntmps8
    go_wp2_with fail
    refine (specValuesRight_any w.heap.size ao cap vs _ (Nat.le_refl _) hl HA.out).mono ?_
    rw [hv]
    rintro e w1 ⟨rfl, hb1⟩
    go_wp2
    go_ret
    exact ⟨ret_int (by rw [HF.out]), hb1⟩
  | true =>
    cases hw : vsRight ws with
    | false =>
      have HF : Hid (cmpOf vs ws = 0) := if_neg (fun h => by rw [hw] at h; exact absurd h.2 (by simp))
      go_enter Tryz.func8, Tryz.ntmps8
      go_wp2_with fail
      refine (specValuesRight_any w.heap.size ao cap vs _ (Nat.le_refl _) hl HA.out).mono ?_
      rw [hv]
      rintro e w1 ⟨rfl, hb1⟩
      have hz := hb1.size
      have hr1 := (HB.out.kept hb1)
      have HR1 : Hid (ValRow w1 w.heap.size bo ws) := hr1
      clear hr1
      go_wp2_with fail
      refine (specValuesRight_any w.heap.size bo cp ws _ hz hm HR1.out).mono ?_
      rw [hw]
      rintro e w2 ⟨rfl, hb2⟩
      go_wp2
      go_ret
      exact ⟨ret_int (by rw [HF.out]), hb1.trans (hb2.mono hz)⟩
    | true =>
      have HF : Hid (cmpOf vs ws = cmpL vs ws) := if_pos ⟨hv, hw⟩
      go_enter Tryz.func8, Tryz.ntmps8
      go_wp2_with fail
      refine (specValuesRight_any w.heap.size ao cap vs _ (Nat.le_refl _) hl HA.out).mono ?_
      rw [hv]
      rintro e w1 ⟨rfl, hb1⟩
      have hz := hb1.size
      have hr1 := (HB.out.kept hb1)
      have HR1 : Hid (ValRow w1 w.heap.size bo ws) := hr1
      clear hr1
      go_wp2_with fail
      refine (specValuesRight_any w.heap.size bo cp ws _ hz hm HR1.out).mono ?_
      rw [hw]
      rintro e w2 ⟨rfl, hb2⟩
      have hb3 := hb1.trans (hb2.mono hz)
      have RA : Hid (ValRow w2 w2.heap.size ao vs) := (HA.out.kept hb3).mono hb3.size
      have RB : Hid (ValRow w2 w2.heap.size bo ws) := (HB.out.kept hb3).mono hb3.size
      clear hb1 hb2 HR1
      go_wp2_with fail
      refine (l02Compare_any ao cap vs bo cp ws _ (by omega) (by omega) RA.out RB.out).mono ?_
      rintro e w4 ⟨rfl, hb4⟩
      go_wp2
      go_ret
      exact ⟨ret_int (by rw [HF.out]), hb3.trans (hb4.mono hb3.size)⟩
set_option maxHeartbeats 4000000 in
theorem implCompare_loop (ao : Option Addr) (cap : Nat) (vs : List Val) (bo : Option Addr) (cp : Nat) (ws : List Val) (w : World) (hv : vsRight vs = true) (hw : vsRight ws = true) (ha : ValRow w w.heap.size ao vs) (hb : ValRow w w.heap.size bo ws) :
    Calls Tryz.prog 7 #[.slice ao vs.length cap, .slice bo ws.length cp] w fun e w' => e = .returned (.int .i64 (cmpL vs ws)) ∧ Below w.heap.size w w' := by
  obtain ⟨hl, hva⟩ := vsRight_len hv
  obtain ⟨hm, hwa⟩ := vsRight_len hw
  have HVA : Hid (vs.all vRight = true) := hva
  have HWA : Hid (ws.all vRight = true) := hwa
  have HA : Hid (ValRow w w.heap.size ao vs) := ha
  have HB : Hid (ValRow w w.heap.size bo ws) := hb
  clear ha hb hv hw hva hwa
  go_enter Tryz.func7, Tryz.ntmps7
  go_wp2_with fail
  refine (toInners_any w.heap.size ao cap vs _ (Nat.le_refl _) hl HA.out).mono ?_
  rintro e w1 ⟨hb1, h⟩
  rcases h with ⟨_, ao1, cap1, rfl, hrow1⟩ | ⟨hf, rfl⟩
  rotate_left
  · exact absurd HVA.out (by rw [hf]; simp)
  have R1 : Hid (CellRow w1 w1.heap.size ao1 (vs.map innerV)) := hrow1
  have RB : Hid (ValRow w1 w.heap.size bo ws) := HB.out.kept hb1
  have hz1 := hb1.size
  clear hrow1
  go_wp2_with fail
  refine (toInners_any w.heap.size bo cp ws _ hz1 hm RB.out).mono ?_
  rintro e w2 ⟨hb2, h⟩
  rcases h with ⟨_, bo2, cp2, rfl, hrow2⟩ | ⟨hf, rfl⟩
  rotate_left
  · exact absurd HWA.out (by rw [hf]; simp)
  have R2 : Hid (CellRow w2 w2.heap.size bo2 (ws.map innerV)) := hrow2
  have R12 : Hid (CellRow w2 w2.heap.size ao1 (vs.map innerV)) := (R1.out.kept hb2).mono hb2.size
  have hb3 : Below w.heap.size w w2 := hb1.trans (hb2.mono hz1)
  have hz3 := hb3.size
  clear hrow2 hb1 hb2 hz1 RB R1
  have HSZ : ∀ j (h : j < vs.length), (vs.map innerV)[j]'(by rw [List.length_map]; exact h) = innerV vs[j] := fun j h => by simp
  have HSW : ∀ j (h : j < ws.length), (ws.map innerV)[j]'(by rw [List.length_map]; exact h) = innerV ws[j] := fun j h => by simp
  have HS1 : Hid (∀ j (h : j < vs.length), (vs.map innerV)[j]'(by rw [List.length_map]; exact h) = innerV vs[j]) := HSZ
  have HS2 : Hid (∀ j (h : j < ws.length), (ws.map innerV)[j]'(by rw [List.length_map]; exact h) = innerV ws[j]) := HSW
  clear HSZ HSW
  rcases Nat.lt_or_ge ws.length vs.length with hcmp | hcmp
  all_goals
    go_wp2
    go_loopw [32] (fun i wr => ∃ k : Nat, k ≤ vs.length ∧ k ≤ ws.length ∧ i = .int .i64 k ∧ Hid (cmpL vs ws = cmpL (vs.drop k) (ws.drop k)) ∧ Below w2.heap.size w2 wr) (fun i _ => vs.length - (intOf i).toNat)
    case atStart => exact ⟨0, Nat.zero_le _, Nat.zero_le _, rfl, rfl, Below.refl _ _⟩
    case round =>
      obtain ⟨k, hk, hk', rfl, HC, hbw⟩ := hrel
      by_cases hlt : k < vs.length ∧ k < ws.length
      · obtain ⟨h1, h2⟩ := hlt
        obtain ⟨b, off, rfl, hbB, d0⟩ := (R12.out.kept hbw).at k (by rw [List.length_map]; exact h1)
        obtain ⟨b', off', rfl, hbB', e0⟩ := (R2.out.kept hbw).at k (by rw [List.length_map]; exact h2)
        rw [HS1.out k h1] at d0
        rw [HS2.out k h2] at e0
        have hz := hbw.size
        have hi0 : (0 : Int) ≤ (k : Int) := by omega
        have hi1 : (k : Int) < (vs.length : Int) := by omega
        have hi2 : (k : Int) < (ws.length : Int) := by omega
        have hq1 : b < wr.heap.size := by omega
        have hq2 : b' < wr.heap.size := by omega
        have hc := fun w => compareInner_any vs[k] ws[k] (List.all_eq_true.1 HVA.out _ (List.getElem_mem h1)) (List.all_eq_true.1 HWA.out _ (List.getElem_mem h2)) w
        have hstep := cmpL_step vs ws k h1 h2
        have hstop := cmpL_stop vs ws k h1 h2
        obtain ⟨u, y, hu⟩ := innerV_iface vs[k]
        obtain ⟨u', y', hu'⟩ := innerV_iface ws[k]
        rw [hu] at d0 hc
        rw [hu'] at e0 hc
        generalize cmpV vs[k] ws[k] = r at hc hstep hstop
        clear hu hu'
        by_cases hr0 : r = 0
        · have HC2 : Hid (cmpL vs ws = cmpL (vs.drop (k + 1)) (ws.drop (k + 1))) := by show _ = _; rw [HC.out, hstep hr0]
          subst hr0
          clear HC hstep hstop
          go_wp2
          go_region_held3 (fun W => W.cell? ⟨b, off + k, none⟩ = some (.iface u y) ∧ W.cell? ⟨b', off' + k, none⟩ = some (.iface u' y')) (go_keep) (first | (go_at_call 23; refine (hc _).mono ?_; rintro e w5 ⟨rfl, hb5⟩; have hb5' : Below wr.heap.size wr w5 := (Below.refl _ _).drew.trans hb5; obtain ⟨hc5, hf5⟩ := bcell hb5'))
          all_goals
            have hb6 := hbw.trans (hb5'.mono hz)
            clear d0 e0 hb5 hb5' hbw hc5 hf5 hc
            go_wp2
            go_roundw
            case rel => exact ⟨k + 1, by omega, by omega, by go_num, HC2, hb6⟩
            case measure => simp [intOf]; omega
        · have HC2 : Hid (cmpL vs ws = r) := by show _ = _; rw [HC.out, hstop hr0]
          clear HC hstep hstop
          go_wp2
          go_region_held3 (fun W => W.cell? ⟨b, off + k, none⟩ = some (.iface u y) ∧ W.cell? ⟨b', off' + k, none⟩ = some (.iface u' y')) (go_keep) (first | (go_at_call 23; refine (hc _).mono ?_; rintro e w5 ⟨rfl, hb5⟩; have hb5' : Below wr.heap.size wr w5 := (Below.refl _ _).drew.trans hb5; obtain ⟨hc5, hf5⟩ := bcell hb5'))
          all_goals
            have hb6 := hbw.trans (hb5'.mono hz)
            clear d0 e0 hb5 hb5' hbw hc5 hf5 hc
            go_wp2
            go_ret
            exact ⟨ret_int (by rw [HC2.out]), hb3.trans (hb6.mono hz3)⟩
      · have HE : Hid (cmpL vs ws = cmpI vs.length ws.length) := by show _ = _; rw [HC.out, cmpL_end vs ws k hk hk' (by omega)]
        have hge : (vs.length : Int) ≤ k ∨ (ws.length : Int) ≤ k := by omega
        clear HC
        go_wp2_with fail
        refine (cmpInt_any _ _ _).mono ?_
        rintro e w5 ⟨rfl, rfl⟩
        go_wp2
        go_ret
        exact ⟨ret_int (by rw [HE.out]), hb3.trans (hbw.mono hz3)⟩
end Go.Proofs.YtkkggbbpaflieaaGreatDoor
