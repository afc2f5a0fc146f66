/-
  What came in as an argument: a disk.
-/
import Derived.Test.YthglidcfbdigiaaStrRead
import Derived.Test.YthglidcfbdigiaaDkRow
namespace Go.Proofs.Ythglidcfbdigiaa
open Go.RowKit Go.ChangeShapes Go.WideShapes
set_option maxRecDepth 100000

def IsDisk (w : World) (v : Value) : Prop := ∃ so p co q d, v = .agg #[.slice so (Dk.secs d).length p, .slice co d.cache.length q] ∧ DkRow w 0 w.heap.size so co d
section
variable {H : Type} {enc : TypeId × Value → H} {W : World}

theorem readWr {base : Nat} {spare : Nat → Bool} {held : Bool} {fuel : Nat} {cs : List Value} {y : DataW H × List MemPlace} (h : DataW.trod enc Try.prog W base spare held fuel 105 cs = some y) :
    ∃ x : Wr, cs = [.int .i64 x.pos, .string x.text] ∧ wI64 x.pos ∧ x.text.size ≤ maxLen := by
  obtain ⟨ys, n, hfu, _, hl, hlen, hx⟩ := DataW.trod_struct Try.underlying105 h
  have hC : Try.prog.cellsOf 105 = 2 := by kernel_rfl
  rw [hC] at hl
  match ys, hlen, cs, hl with
  | [y0, y1], _, [c0, c1], _ =>
    have h0 := hx 0 _ rfl
    have h1 := hx 1 _ rfl
    have cI : Try.prog.cellsOf 2 = 1 := by kernel_rfl
    have cS : Try.prog.cellsOf 9 = 1 := by kernel_rfl
    have e0 : (([c0, c1] : List Value).drop 0).take (Try.prog.cellsOf 2) = [c0] := by rw [cI]; rfl
    have e1 : (([c0, c1] : List Value).drop 1).take (Try.prog.cellsOf 9) = [c1] := by rw [cS]; rfl
    have h0' : DataW.trod enc Try.prog W base spare held n 2 [c0] = some y0 := by rw [← e0]; exact h0
    have h1' : DataW.trod enc Try.prog W base spare held n 9 [c1] = some y1 := by rw [← e1]; exact h1
    obtain ⟨a, ea, _, wa⟩ := DataW.trod_int Try.underlying2 h0'
    obtain ⟨t, et, _, wt⟩ := DataW.trod_string Try.underlying9 h1'
    simp only [List.cons.injEq, and_true] at ea et
    subst ea et
    exact ⟨⟨a, t⟩, rfl, bounds_i64 wa, wt⟩
theorem readWrs {base : Nat} {spare : Nat → Bool} {held : Bool} {fuel : Nat} {cs : List Value} {y : DataW H × List MemPlace} (h : DataW.trod enc Try.prog W base spare held fuel 43 cs = some y) :
    ∃ ao cap l, cs = [.slice ao (List.length l) cap] ∧ (l.length ≤ cap ∧ cap ≤ maxLen) ∧ WrRow W 0 W.heap.size ao l := by
  obtain ⟨ao, cap, l, rfl, hc, hb, hx⟩ := readSliceF (n := 2) (by omega) Try.underlying43 (by kernel_rfl) (fun cs (x : Wr) => cs = [.int .i64 x.pos, .string x.text] ∧ wI64 x.pos ∧ x.text.size ≤ maxLen) (fun m _ cs y h => readWr h) h
  refine ⟨ao, cap, l, rfl, hc, fun x hx' => ?_, ?_⟩
  · obtain ⟨i, hi, rfl⟩ := List.getElem_of_mem hx'
    rcases hb with h0 | ⟨b, off, e, _⟩
    · omega
    · obtain ⟨_, hp, _⟩ := hx b off e i hi
      exact hp.2
  · rcases hb with h0 | ⟨b, off, e, hlt⟩
    · exact .inl h0
    · refine .inr ⟨b, off, e, Nat.zero_le _, hlt, fun i hi => ?_⟩
      obtain ⟨cs', ⟨rfl, _⟩, _, hcell⟩ := hx b off e i hi
      rw [getD_ofT l noWr i hi]
      exact ⟨by simpa using hcell 0 (by simp), by simpa using hcell 1 (by simp)⟩
theorem rdDisk {base : Nat} {v : Value} {d : DataW H} {p : List MemPlace} (hv : Value.okWide Try.prog W .any base 45 v) (h : DataW.Trod enc Try.prog W 0 (fun _ => true) true 45 v d p) : IsDisk W v := by
  obtain ⟨fuel, hf⟩ := h
  obtain ⟨cs, rfl, _⟩ := okWide_struct Try.underlying45 hv
  have hcv : (Value.agg cs).cells.toList = cs.toList := by simp [Value.cells]
  rw [hcv] at hf
  obtain ⟨ys, n, hfu, _, hl, hlen, hx⟩ := DataW.trod_struct Try.underlying45 hf
  have hC : Try.prog.cellsOf 45 = 2 := by kernel_rfl
  rw [hC] at hl
  obtain ⟨cl, rfl⟩ : ∃ cl : List Value, cs = cl.toArray := ⟨cs.toList, by simp⟩
  simp only at hl hx
  match ys, hlen, cl, hl with
  | [y0, y1], _, [c0, c1], _ =>
    have h0 := hx 0 _ rfl
    have h1 := hx 1 _ rfl
    have cS : Try.prog.cellsOf 23 = 1 := by kernel_rfl
    have cW : Try.prog.cellsOf 43 = 1 := by kernel_rfl
    have e0 : (([c0, c1] : List Value).drop 0).take (Try.prog.cellsOf 23) = [c0] := by rw [cS]; rfl
    have e1 : (([c0, c1] : List Value).drop 1).take (Try.prog.cellsOf 43) = [c1] := by rw [cW]; rfl
    have h0' : DataW.trod enc Try.prog W 0 (fun _ => true) true n 23 [c0] = some y0 := by rw [← e0]; exact h0
    have h1' : DataW.trod enc Try.prog W 0 (fun _ => true) true n 43 [c1] = some y1 := by rw [← e1]; exact h1
    obtain ⟨so, p, ss, es, hs1, hrs⟩ := readStrs h0'
    obtain ⟨co, q, ws, ew, hw1, hrw⟩ := readWrs h1'
    simp only [List.cons.injEq, and_true] at es ew
    subst es ew
    exact ⟨so, p, co, q, ⟨ss, ws⟩, rfl, ⟨Nat.le_trans hs1.1 hs1.2, Nat.le_trans hw1.1 hw1.2⟩, hrs, hrw⟩
end
end Go.Proofs.Ythglidcfbdigiaa
