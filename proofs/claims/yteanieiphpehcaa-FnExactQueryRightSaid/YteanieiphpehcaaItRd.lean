/-
  What came in as an argument: Items.
-/
import Derived.Test.YteanieiphpehcaaRdSl
import Derived.Test.YteanieiphpehcaaItP

namespace Go.Proofs.Yteanieiphpehcaa
open Go.RowKit Go.ChangeShapes Go.WideShapes
set_option maxRecDepth 100000

section
variable {H : Type} {enc : TypeId × Value → H} {W : World}
theorem readItm {base : Nat} {spare : Nat → Bool} {held : Bool} {fuel : Nat} {cs : List Value} {y : DataW H × List MemPlace} (h : DataW.trod enc Try.prog W base spare held fuel 71 cs = some y) :
    ∃ x : Itm, cs = itCells x ∧ x.fits := by
  obtain ⟨ys, n, _, _, hl, hlen, hx⟩ := DataW.trod_struct Try.underlying71 h
  have hC : Try.prog.cellsOf 71 = 2 := by kernel_rfl
  rw [hC] at hl
  match ys, hlen, cs, hl with
  | [y0, y1], _, [c0, c1], _ =>
    have g0 := hx 0 _ rfl
    have z0 : Try.prog.cellsOf 2 = 1 := by kernel_rfl
    have q0 : (([c0, c1] : List Value).drop 0).take (Try.prog.cellsOf 2) = [c0] := by rw [z0]; rfl
    have k0 : DataW.trod enc Try.prog W base spare held n 2 [c0] = some y0 := by rw [← q0]; exact g0
    have g1 := hx 1 _ rfl
    have z1 : Try.prog.cellsOf 9 = 1 := by kernel_rfl
    have q1 : (([c0, c1] : List Value).drop 1).take (Try.prog.cellsOf 9) = [c1] := by rw [z1]; rfl
    have k1 : DataW.trod enc Try.prog W base spare held n 9 [c1] = some y1 := by rw [← q1]; exact g1
    obtain ⟨agg, ev0, _, wa0⟩ := DataW.trod_int Try.underlying2 k0
    obtain ⟨col, ev1, _, wa1⟩ := DataW.trod_string Try.underlying9 k1
    simp only [List.cons.injEq, and_true] at ev0 ev1
    subst ev0 ev1
    exact ⟨⟨agg, col⟩, rfl, bounds_i64 wa0, wa1⟩
theorem readItms {base : Nat} {spare : Nat → Bool} {held : Bool} {fuel : Nat} {cs : List Value} {y : DataW H × List MemPlace} (h : DataW.trod enc Try.prog W base spare held fuel 30 cs = some y) :
    ∃ ao cap l, cs = [.slice ao (List.length l) cap] ∧ (l.length ≤ cap ∧ cap ≤ maxLen) ∧ ItmRow W 0 W.heap.size ao l := by
  obtain ⟨ao, cap, l, rfl, hc, hb, hx⟩ := readSliceQ (n := 2) (by omega) Try.underlying30 (by kernel_rfl) (fun cs (x : Itm) => cs = itCells x ∧ x.fits) (fun fuel cs y h => readItm h) h
  refine ⟨ao, cap, l, rfl, hc, fun i hi => ?_, ?_⟩
  · rcases hb with h0 | ⟨b, off, e, _⟩
    · omega
    · obtain ⟨_, hp, _⟩ := hx b off e i hi
      rw [getD_ofQ l noItm i hi]
      exact hp.2
  · rcases hb with h0 | ⟨b, off, e, hlt⟩
    · exact .inl h0
    · refine .inr ⟨b, off, e, Nat.zero_le _, hlt, fun i hi j u hu => ?_⟩
      obtain ⟨cs', ⟨hcs', _⟩, _, hcell⟩ := hx b off e i hi
      rw [getD_ofQ l noItm i hi, ← hcs'] at hu
      obtain ⟨hj, hu⟩ := List.getElem?_eq_some_iff.1 hu
      rw [hcell j hj, hu]
end
end Go.Proofs.Yteanieiphpehcaa
