/-
  What came in as an argument: Terms.
-/
import Derived.Test.YteanieiphpehcaaRdSl
import Derived.Test.YteanieiphpehcaaTmP
import Derived.Test.YteanieiphpehcaaQVal
namespace Go.Proofs.Yteanieiphpehcaa
open Go.RowKit Go.ChangeShapes Go.WideShapes
set_option maxRecDepth 100000

section
variable {H : Type} {enc : TypeId × Value → H} {W : World}
theorem readTrm {base : Nat} {spare : Nat → Bool} {held : Bool} {fuel : Nat} {cs : List Value} {y : DataW H × List MemPlace} (h : DataW.trod enc Try.prog W base spare held fuel 74 cs = some y) :
    ∃ x : Trm, cs = tmCells x ∧ x.fits := by
  obtain ⟨ys, n, _, _, hl, hlen, hx⟩ := DataW.trod_struct Try.underlying74 h
  have hC : Try.prog.cellsOf 74 = 5 := by kernel_rfl
  rw [hC] at hl
  match ys, hlen, cs, hl with
  | [y0, y1, y2], _, [c0, c1, c2, c3, c4], _ =>
    have g0 := hx 0 _ rfl
    have z0 : Try.prog.cellsOf 9 = 1 := by kernel_rfl
    have q0 : (([c0, c1, c2, c3, c4] : List Value).drop 0).take (Try.prog.cellsOf 9) = [c0] := by rw [z0]; rfl
    have k0 : DataW.trod enc Try.prog W base spare held n 9 [c0] = some y0 := by rw [← q0]; exact g0
    have g1 := hx 1 _ rfl
    have z1 : Try.prog.cellsOf 9 = 1 := by kernel_rfl
    have q1 : (([c0, c1, c2, c3, c4] : List Value).drop 1).take (Try.prog.cellsOf 9) = [c1] := by rw [z1]; rfl
    have k1 : DataW.trod enc Try.prog W base spare held n 9 [c1] = some y1 := by rw [← q1]; exact g1
    have g2 := hx 2 _ rfl
    have z2 : Try.prog.cellsOf 24 = 3 := by kernel_rfl
    have q2 : (([c0, c1, c2, c3, c4] : List Value).drop 2).take (Try.prog.cellsOf 24) = [c2, c3, c4] := by rw [z2]; rfl
    have k2 : DataW.trod enc Try.prog W base spare held n 24 [c2, c3, c4] = some y2 := by rw [← q2]; exact g2
    obtain ⟨col, ev0, _, wa0⟩ := DataW.trod_string Try.underlying9 k0
    obtain ⟨op, ev1, _, wa1⟩ := DataW.trod_string Try.underlying9 k1
    obtain ⟨vv, ev2, wo2, wt2⟩ := trodValQ k2
    simp only [List.cons.injEq, and_true] at ev0 ev1 ev2
    obtain ⟨ea, eb, ec⟩ := ev2
    subst ev0 ev1 ea eb ec
    exact ⟨⟨col, op, vv.kind, vv.num, vv.text⟩, rfl, wa0, wa1, ⟨wo2.1, wo2.2.1⟩, ⟨wo2.2.2.1, wo2.2.2.2⟩, wt2⟩
theorem readTrms {base : Nat} {spare : Nat → Bool} {held : Bool} {fuel : Nat} {cs : List Value} {y : DataW H × List MemPlace} (h : DataW.trod enc Try.prog W base spare held fuel 31 cs = some y) :
    ∃ ao cap l, cs = [.slice ao (List.length l) cap] ∧ (l.length ≤ cap ∧ cap ≤ maxLen) ∧ TrmRow W 0 W.heap.size ao l := by
  obtain ⟨ao, cap, l, rfl, hc, hb, hx⟩ := readSliceQ (n := 5) (by omega) Try.underlying31 (by kernel_rfl) (fun cs (x : Trm) => cs = tmCells x ∧ x.fits) (fun fuel cs y h => readTrm h) h
  refine ⟨ao, cap, l, rfl, hc, fun i hi => ?_, ?_⟩
  · rcases hb with h0 | ⟨b, off, e, _⟩
    · omega
    · obtain ⟨_, hp, _⟩ := hx b off e i hi
      rw [getD_ofQ l noTrm i hi]
      exact hp.2
  · rcases hb with h0 | ⟨b, off, e, hlt⟩
    · exact .inl h0
    · refine .inr ⟨b, off, e, Nat.zero_le _, hlt, fun i hi j u hu => ?_⟩
      obtain ⟨cs', ⟨hcs', _⟩, _, hcell⟩ := hx b off e i hi
      rw [getD_ofQ l noTrm i hi, ← hcs'] at hu
      obtain ⟨hj, hu⟩ := List.getElem?_eq_some_iff.1 hu
      rw [hcell j hj, hu]
end
end Go.Proofs.Yteanieiphpehcaa
