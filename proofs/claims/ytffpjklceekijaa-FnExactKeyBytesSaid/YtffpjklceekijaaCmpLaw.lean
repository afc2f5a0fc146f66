/-
  Contracts: Compare of the program at all values; the law on Compare.
-/
import Derived.Test.YtffpjklceekijaaCmp4
namespace Go.Proofs.Ytffpjklceekijaa
open Go.RowKit

theorem toInners_all (B : Nat) (ao : Option Addr) (cap : Nat) (vs : List Val) (w : World) (hB : B ≤ w.heap.size) (hl : vs.length ≤ maxLen) (hr : ValRow w B ao vs) :
    Calls Try.prog 21 #[.slice ao vs.length cap] w fun e w' => Below w.heap.size w w' ∧ ∃ bo n cp, e = .returned (.tuple #[.slice bo n cp, .bool (vsRight vs)]) := by
  by_cases h12 : 12 < vs.length
  · refine (toInners_long ao vs.length cap w hl h12).mono ?_
    rintro e w1 ⟨rfl, hb1⟩
    have hv : vsRight vs = false := by unfold vsRight; rw [decide_eq_false (by omega)]; rfl
    exact ⟨hb1, none, 0, 0, by rw [hv]⟩
  · refine (toInners_any B ao cap vs w hB (by omega) hr).mono ?_
    have hv : vsRight vs = vs.all vRight := by unfold vsRight; rw [decide_eq_true (by omega)]; rfl
    rintro e w1 ⟨hb1, h⟩
    rcases h with ⟨ha, bo, cp, rfl, _⟩ | ⟨ha, rfl⟩
    · exact ⟨hb1, bo, vs.length, cp, by rw [hv, ha]⟩
    · exact ⟨hb1, none, 0, 0, by rw [hv, ha]⟩
theorem implCompare_any (ao : Option Addr) (cap : Nat) (vs : List Val) (bo : Option Addr) (cp : Nat) (ws : List Val) (w : World) (hl : vs.length ≤ maxLen) (hm : ws.length ≤ maxLen) (ha : ValRow w w.heap.size ao vs) (hb : ValRow w w.heap.size bo ws) :
    Calls Try.prog 17 #[.slice ao vs.length cap, .slice bo ws.length cp] w fun e w' => e = .returned (.int .i64 (cmpOf vs ws)) ∧ Below w.heap.size w w' := by
  by_cases h : vsRight vs = true ∧ vsRight ws = true
  · have hf : cmpOf vs ws = cmpL vs ws := if_pos h
    rw [hf]
    exact implCompare_loop ao cap vs bo cp ws w h.1 h.2 ha hb
  · have HF : Hid (cmpOf vs ws = 0) := if_neg h
    have h2 : vsRight vs = false ∨ vsRight vs = true ∧ vsRight ws = false := by
      cases hv : vsRight vs
      · exact .inl rfl
      · cases hw : vsRight ws
        · exact .inr ⟨rfl, rfl⟩
        · exact absurd ⟨hv, hw⟩ h
    have HA : Hid (ValRow w w.heap.size ao vs) := ha
    have HB : Hid (ValRow w w.heap.size bo ws) := hb
    clear ha hb h
    go_enter Try.func17, Try.ntmps17
    go_wp2_with fail
    refine (toInners_all w.heap.size ao cap vs _ (Nat.le_refl _) hl HA.out).mono ?_
    rintro e w1 ⟨hb1, b1, n1, c1, rfl⟩
    have RB : Hid (ValRow w1 w.heap.size bo ws) := HB.out.kept hb1
    have hz1 := hb1.size
    go_wp2_with fail
    refine (toInners_all w.heap.size bo cp ws _ hz1 hm RB.out).mono ?_
    rintro e w2 ⟨hb2, b2, n2, c2, rfl⟩
    have hb3 : Below w.heap.size w w2 := hb1.trans (hb2.mono hz1)
    clear hb1 hb2 hz1
    rcases h2 with h2 | ⟨h2, h3⟩
    · rw [h2]
      clear h2
      go_wp2
      go_ret
      exact ⟨ret_int (by rw [HF.out]), hb3⟩
    · rw [h2, h3]
      clear h2 h3
      go_wp2
      go_ret
      exact ⟨ret_int (by rw [HF.out]), hb3⟩
set_option maxHeartbeats 2000000 in
theorem lawCompare (v0 v1 : Value) (w : World) (h0 : IsVals w v0) (h1 : IsVals w v1) :
    Calls Try.prog 5 #[v0, v1] w fun e w' => e = .returned (.bool true) ∧ Below w.heap.size w w' := by
  obtain ⟨ao, cap, vs, rfl, hl, hr⟩ := h0
  obtain ⟨bo, cp, ws, rfl, hm, hs⟩ := h1
  have HR : Hid (ValRow w w.heap.size ao vs) := hr
  have HS : Hid (ValRow w w.heap.size bo ws) := hs
  clear hr hs
  go_enter Try.func5, Try.ntmps5
  go_wp2_with fail
  refine (szValueS_any w.heap.size ao cap vs 1048576 _ (Nat.le_refl _) hl HR.out (by omega) (by omega)).mono ?_
  rintro e w1 ⟨r, rfl, hr1, hcase, hb1⟩
  have B1 : Hid (Below w.heap.size w w1) := hb1
  clear hb1
  rcases hcase with hneg | ⟨hr0, hf⟩
  · go_wp2
    go_ret
    exact ⟨rfl, B1.out⟩
  have hn : vs.length ≤ 1048576 := by unfold szFits at hf; omega
  clear hf
  go_wp2_with fail
  refine (szValueS_any w.heap.size bo cp ws r _ (B1.out).size hm (HS.out.kept B1.out) hr0 (by omega)).mono ?_
  rintro e w2 ⟨q, rfl, hq1, hcase, hb2⟩
  have B2 : Hid (Below w.heap.size w w2) := (B1.out).trans (hb2.mono (B1.out).size)
  clear hb2 B1
  rcases hcase with hneg | ⟨hq0, hf⟩
  · go_wp2
    go_ret
    exact ⟨rfl, B2.out⟩
  have hn' : ws.length ≤ 1048576 := by unfold szFits at hf; omega
  clear hf
  go_wp2_with fail
  refine (toValueS_any w.heap.size ao cap vs _ (B2.out).size hn ((HR.out).kept B2.out)).mono ?_
  rintro e w3 ⟨b3, c3, rfl, hr3, hb3⟩
  have B3 : Hid (Below w.heap.size w w3) := (B2.out).trans (hb3.mono (B2.out).size)
  have R3 : Hid (ValRow w3 w3.heap.size b3 vs) := hr3
  clear hr3 hb3 B2
  go_wp2_with fail
  refine (toValueS_any w.heap.size bo cp ws _ (B3.out).size hn' ((HS.out).kept B3.out)).mono ?_
  rintro e w4 ⟨b4, c4, rfl, hr4, hb4⟩
  have B4 : Hid (Below w.heap.size w w4) := (B3.out).trans (hb4.mono (B3.out).size)
  have R4 : Hid (ValRow w4 w4.heap.size b4 ws) := hr4
  have R34 : Hid (ValRow w4 w4.heap.size b3 vs) := ((R3.out).kept hb4).mono hb4.size
  clear hr4 hb4 B3 R3
  go_wp2_with fail
  refine (specCompare_any b3 c3 vs b4 c4 ws _ hl hm R34.out R4.out).mono ?_
  rintro e w5 ⟨rfl, hb5⟩
  have B5 : Hid (Below w.heap.size w w5) := (B4.out).trans (hb5.mono (B4.out).size)
  clear hb5 B4 R4 R34
  go_wp2_with fail
  refine (toValueS_any w.heap.size ao cap vs _ (B5.out).size hn ((HR.out).kept B5.out)).mono ?_
  rintro e w6 ⟨b6, c6, rfl, hr6, hb6⟩
  have B6 : Hid (Below w.heap.size w w6) := (B5.out).trans (hb6.mono (B5.out).size)
  have R6 : Hid (ValRow w6 w6.heap.size b6 vs) := hr6
  clear hr6 hb6 B5
  go_wp2_with fail
  refine (toValueS_any w.heap.size bo cp ws _ (B6.out).size hn' ((HS.out).kept B6.out)).mono ?_
  rintro e w7 ⟨b7, c7, rfl, hr7, hb7⟩
  have B7 : Hid (Below w.heap.size w w7) := (B6.out).trans (hb7.mono (B6.out).size)
  have R7 : Hid (ValRow w7 w7.heap.size b7 ws) := hr7
  have R67 : Hid (ValRow w7 w7.heap.size b6 vs) := ((R6.out).kept hb7).mono hb7.size
  clear hr7 hb7 B6 R6
  go_wp2_with fail
  refine (implCompare_any b6 c6 vs b7 c7 ws _ hl hm R67.out R7.out).mono ?_
  rintro e w8 ⟨rfl, hb8⟩
  have B8 : Hid (Below w.heap.size w w8) := (B7.out).trans (hb8.mono (B7.out).size)
  have R78 : Hid (ValRow w8 w8.heap.size b7 ws) := ((R7.out).kept hb8).mono hb8.size
  have R68 : Hid (ValRow w8 w8.heap.size b6 vs) := ((R67.out).kept hb8).mono hb8.size
  clear hb8 B7 R7 R67
  generalize cmpOf vs ws = z
  go_wp2_with fail
  refine (toValueS_any w.heap.size ao cap vs _ (B8.out).size hn ((HR.out).kept B8.out)).mono ?_
  rintro e w9 ⟨b9, c9, rfl, hr9, hb9⟩
  have B9 : Hid (Below w.heap.size w w9) := (B8.out).trans (hb9.mono (B8.out).size)
  have R9 : Hid (ValRow w9 w9.heap.size b9 vs) := hr9
  have R69 : Hid (ValRow w9 w9.heap.size b6 vs) := ((R68.out).kept hb9).mono hb9.size
  have R79 : Hid (ValRow w9 w9.heap.size b7 ws) := ((R78.out).kept hb9).mono hb9.size
  clear hr9 hb9 B8 R78 R68
  go_wp2_with fail
  refine (eqValueS_same b6 c6 b9 c9 vs _ hn R69.out R9.out).mono ?_
  rintro e wa ⟨rfl, hba⟩
  have Ba : Hid (Below w.heap.size w wa) := (B9.out).trans (hba.mono (B9.out).size)
  have R7a : Hid (ValRow wa wa.heap.size b7 ws) := ((R79.out).kept hba).mono hba.size
  clear hba B9 R69 R9 R79
  go_wp2_with fail
  refine (toValueS_any w.heap.size bo cp ws _ (Ba.out).size hn' ((HS.out).kept Ba.out)).mono ?_
  rintro e wb ⟨bb, cb, rfl, hrb, hbb⟩
  have Bb : Hid (Below w.heap.size w wb) := (Ba.out).trans (hbb.mono (Ba.out).size)
  have Rb : Hid (ValRow wb wb.heap.size bb ws) := hrb
  have R7b : Hid (ValRow wb wb.heap.size b7 ws) := ((R7a.out).kept hbb).mono hbb.size
  clear hrb hbb Ba R7a
  go_wp2_with fail
  refine (eqValueS_same b7 c7 bb cb ws _ hn' R7b.out Rb.out).mono ?_
  rintro e wc ⟨rfl, hbc⟩
  have Bc : Hid (Below w.heap.size w wc) := (Bb.out).trans (hbc.mono (Bb.out).size)
  clear hbc
  go_wp2
  go_ret
  exact ⟨rfl, Bc.out⟩
end Go.Proofs.Ytffpjklceekijaa
