/-
  What came in as an argument: a query.
-/
import Derived.Test.YteanieiphpehcaaItRd
import Derived.Test.YteanieiphpehcaaTmRd
import Derived.Test.YteanieiphpehcaaQyP
namespace Go.Proofs.Yteanieiphpehcaa
open Go.RowKit Go.ChangeShapes Go.WideShapes
set_option maxRecDepth 100000

section
variable {H : Type} {enc : TypeId × Value → H} {W : World}
theorem rdQuery {base : Nat} {v : Value} {d : DataW H} {p : List MemPlace} (hv : Value.okWide Try.prog W .any base 33 v) (h : DataW.Trod enc Try.prog W 0 (fun _ => true) true 33 v d p) : IsQry W v := by
  obtain ⟨fuel, hf⟩ := h
  obtain ⟨vs, rfl, _⟩ := okWide_struct Try.underlying33 hv
  have key : ∀ (spare : Nat → Bool) (held : Bool) (base : Nat) (cs : List Value) (y : DataW H × List MemPlace), DataW.trod enc Try.prog W base spare held fuel 33 cs = some y → ∃ a1 c1 a2 c2, ∃ q : Qry, cs = [.slice a1 q.items.length c1, .string q.table, .string q.join, .string q.left, .string q.right, .slice a2 q.wh.length c2, .string q.group, .string q.order, .bool q.down, .int .i64 q.limit] ∧ q.fits ∧ ItmRow W 0 W.heap.size a1 q.items ∧ TrmRow W 0 W.heap.size a2 q.wh := by
    intro spare held base cs y h
    obtain ⟨ys, n, _, _, hl, hlen, hx⟩ := DataW.trod_struct Try.underlying33 h
    have hC : Try.prog.cellsOf 33 = 10 := by kernel_rfl
    rw [hC] at hl
    match ys, hlen, cs, hl with
    | [y0, y1, y2, y3, y4, y5, y6, y7, y8, y9], _, [c0, c1, c2, c3, c4, c5, c6, c7, c8, c9], _ =>
    have g0 := hx 0 _ rfl
    have z0 : Try.prog.cellsOf 30 = 1 := by kernel_rfl
    have q0 : (([c0, c1, c2, c3, c4, c5, c6, c7, c8, c9] : List Value).drop 0).take (Try.prog.cellsOf 30) = [c0] := by rw [z0]; rfl
    have k0 : DataW.trod enc Try.prog W base spare held n 30 [c0] = some y0 := by rw [← q0]; exact g0
    have g1 := hx 1 _ rfl
    have z1 : Try.prog.cellsOf 9 = 1 := by kernel_rfl
    have q1 : (([c0, c1, c2, c3, c4, c5, c6, c7, c8, c9] : List Value).drop 1).take (Try.prog.cellsOf 9) = [c1] := by rw [z1]; rfl
    have k1 : DataW.trod enc Try.prog W base spare held n 9 [c1] = some y1 := by rw [← q1]; exact g1
    have g2 := hx 2 _ rfl
    have z2 : Try.prog.cellsOf 9 = 1 := by kernel_rfl
    have q2 : (([c0, c1, c2, c3, c4, c5, c6, c7, c8, c9] : List Value).drop 2).take (Try.prog.cellsOf 9) = [c2] := by rw [z2]; rfl
    have k2 : DataW.trod enc Try.prog W base spare held n 9 [c2] = some y2 := by rw [← q2]; exact g2
    have g3 := hx 3 _ rfl
    have z3 : Try.prog.cellsOf 9 = 1 := by kernel_rfl
    have q3 : (([c0, c1, c2, c3, c4, c5, c6, c7, c8, c9] : List Value).drop 3).take (Try.prog.cellsOf 9) = [c3] := by rw [z3]; rfl
    have k3 : DataW.trod enc Try.prog W base spare held n 9 [c3] = some y3 := by rw [← q3]; exact g3
    have g4 := hx 4 _ rfl
    have z4 : Try.prog.cellsOf 9 = 1 := by kernel_rfl
    have q4 : (([c0, c1, c2, c3, c4, c5, c6, c7, c8, c9] : List Value).drop 4).take (Try.prog.cellsOf 9) = [c4] := by rw [z4]; rfl
    have k4 : DataW.trod enc Try.prog W base spare held n 9 [c4] = some y4 := by rw [← q4]; exact g4
    have g5 := hx 5 _ rfl
    have z5 : Try.prog.cellsOf 31 = 1 := by kernel_rfl
    have q5 : (([c0, c1, c2, c3, c4, c5, c6, c7, c8, c9] : List Value).drop 5).take (Try.prog.cellsOf 31) = [c5] := by rw [z5]; rfl
    have k5 : DataW.trod enc Try.prog W base spare held n 31 [c5] = some y5 := by rw [← q5]; exact g5
    have g6 := hx 6 _ rfl
    have z6 : Try.prog.cellsOf 9 = 1 := by kernel_rfl
    have q6 : (([c0, c1, c2, c3, c4, c5, c6, c7, c8, c9] : List Value).drop 6).take (Try.prog.cellsOf 9) = [c6] := by rw [z6]; rfl
    have k6 : DataW.trod enc Try.prog W base spare held n 9 [c6] = some y6 := by rw [← q6]; exact g6
    have g7 := hx 7 _ rfl
    have z7 : Try.prog.cellsOf 9 = 1 := by kernel_rfl
    have q7 : (([c0, c1, c2, c3, c4, c5, c6, c7, c8, c9] : List Value).drop 7).take (Try.prog.cellsOf 9) = [c7] := by rw [z7]; rfl
    have k7 : DataW.trod enc Try.prog W base spare held n 9 [c7] = some y7 := by rw [← q7]; exact g7
    have g8 := hx 8 _ rfl
    have z8 : Try.prog.cellsOf 4 = 1 := by kernel_rfl
    have q8 : (([c0, c1, c2, c3, c4, c5, c6, c7, c8, c9] : List Value).drop 8).take (Try.prog.cellsOf 4) = [c8] := by rw [z8]; rfl
    have k8 : DataW.trod enc Try.prog W base spare held n 4 [c8] = some y8 := by rw [← q8]; exact g8
    have g9 := hx 9 _ rfl
    have z9 : Try.prog.cellsOf 2 = 1 := by kernel_rfl
    have q9 : (([c0, c1, c2, c3, c4, c5, c6, c7, c8, c9] : List Value).drop 9).take (Try.prog.cellsOf 2) = [c9] := by rw [z9]; rfl
    have k9 : DataW.trod enc Try.prog W base spare held n 2 [c9] = some y9 := by rw [← q9]; exact g9
    obtain ⟨a0, p0, l0, e0, w0, r0⟩ := readItms k0
    obtain ⟨qt, e1, _, w1⟩ := DataW.trod_string Try.underlying9 k1
    obtain ⟨qj, e2, _, w2⟩ := DataW.trod_string Try.underlying9 k2
    obtain ⟨ql, e3, _, w3⟩ := DataW.trod_string Try.underlying9 k3
    obtain ⟨qr, e4, _, w4⟩ := DataW.trod_string Try.underlying9 k4
    obtain ⟨a5, p5, l5, e5, w5, r5⟩ := readTrms k5
    obtain ⟨qg, e6, _, w6⟩ := DataW.trod_string Try.underlying9 k6
    obtain ⟨qo, e7, _, w7⟩ := DataW.trod_string Try.underlying9 k7
    obtain ⟨qd, e8, _⟩ := DataW.trod_bool Try.underlying4 k8
    obtain ⟨qm, e9, _, w9⟩ := DataW.trod_int Try.underlying2 k9
    simp only [List.cons.injEq, and_true] at e0 e1 e2 e3 e4 e5 e6 e7 e8 e9
    subst e0 e1 e2 e3 e4 e5 e6 e7 e8 e9
    exact ⟨a0, p0, a5, p5, ⟨l0, qt, qj, ql, qr, l5, qg, qo, qd, qm⟩, rfl, ⟨Nat.le_trans w0.1 w0.2, Nat.le_trans w5.1 w5.2, w1, w2, w3, w4, w6, w7, bounds_i64 w9⟩, r0, r5⟩
  obtain ⟨a1, c1, a2, c2, q, hcs, hq, r1, r2⟩ := key _ _ _ _ _ hf
  refine ⟨a1, c1, a2, c2, q, ?_, hq, r1, r2⟩
  have : vs.toList = [.slice a1 q.items.length c1, .string q.table, .string q.join, .string q.left, .string q.right, .slice a2 q.wh.length c2, .string q.group, .string q.order, .bool q.down, .int .i64 q.limit] := by simpa [Value.cells] using hcs
  rw [← Array.toArray_toList (xs := vs), this]
end
end Go.Proofs.Yteanieiphpehcaa
