/-
  What came in as an argument: a list of ops.
-/
import Derived.Test.YtpbbmmapbmgijaaReadSch
import Derived.Test.YtpbbmmapbmgijaaReadVal
import Derived.Test.YtpbbmmapbmgijaaOpP
namespace Go.Proofs.Ytpbbmmapbmgijaa
open Go.RowKit Go.ChangeShapes Go.WideShapes
set_option maxRecDepth 100000

def IsOps (w : World) (v : Value) : Prop := ∃ ao cap l, v = .slice ao l.length cap ∧ l.length ≤ maxLen ∧ OpRow w 0 w.heap.size ao l

section
variable {H : Type} {enc : TypeId × Value → H} {W : World}

theorem readSchC {spare : Nat → Bool} {held : Bool} {base : Nat} {fuel : Nat} {cs : List Value} {y : DataW H × List MemPlace} (hf : DataW.trod enc Try.prog W base spare held fuel 33 cs = some y) :
    ∃ ao k1 ko k2 xo k3, ∃ s : Sch, cs = [.string s.name, .slice ao s.cols.length k1, .slice ko s.key.length k2, .slice xo s.idx.length k3] ∧ SchRow W 0 W.heap.size ao ko xo k2 s := by
  obtain ⟨ys, n, _, _, hl, hlen, hx⟩ := DataW.trod_struct Try.underlying33 hf
  have hC : Try.prog.cellsOf 33 = 4 := by kernel_rfl
  rw [hC] at hl
  match ys, hlen, cs, hl with
  | [y0, y1, y2, y3], _, [c0, c1, c2, c3], _ =>
    have h0 := hx 0 _ rfl
    have h1 := hx 1 _ rfl
    have h2 := hx 2 _ rfl
    have h3 := hx 3 _ rfl
    have cS : Try.prog.cellsOf 9 = 1 := by kernel_rfl
    have cC : Try.prog.cellsOf 29 = 1 := by kernel_rfl
    have cN : Try.prog.cellsOf 30 = 1 := by kernel_rfl
    have cX : Try.prog.cellsOf 31 = 1 := by kernel_rfl
    have e0 : (([c0, c1, c2, c3] : List Value).drop 0).take (Try.prog.cellsOf 9) = [c0] := by rw [cS]; rfl
    have e1 : (([c0, c1, c2, c3] : List Value).drop 1).take (Try.prog.cellsOf 29) = [c1] := by rw [cC]; rfl
    have e2 : (([c0, c1, c2, c3] : List Value).drop 2).take (Try.prog.cellsOf 30) = [c2] := by rw [cN]; rfl
    have e3 : (([c0, c1, c2, c3] : List Value).drop 3).take (Try.prog.cellsOf 31) = [c3] := by rw [cX]; rfl
    have h0' : DataW.trod enc Try.prog W base spare held n 9 [c0] = some y0 := by rw [← e0]; exact h0
    have h1' : DataW.trod enc Try.prog W base spare held n 29 [c1] = some y1 := by rw [← e1]; exact h1
    have h2' : DataW.trod enc Try.prog W base spare held n 30 [c2] = some y2 := by rw [← e2]; exact h2
    have h3' : DataW.trod enc Try.prog W base spare held n 31 [c3] = some y3 := by rw [← e3]; exact h3
    obtain ⟨t, et, _, wt⟩ := DataW.trod_string Try.underlying9 h0'
    obtain ⟨ao, k1, lc, ec, hk1, hrc⟩ := readCols h1'
    obtain ⟨ko, k2, ln, en, hk2, hrn⟩ := readNums h2'
    obtain ⟨xo, k3, lx, ex, hk3, hrx⟩ := readIdxs h3'
    simp only [List.cons.injEq, and_true] at et ec en ex
    subst et ec en ex
    exact ⟨ao, k1, ko, k2, xo, k3, ⟨t, lc, ln, lx⟩, rfl, ⟨wt, Nat.le_trans hk1.1 hk1.2, hk2, Nat.le_trans hk3.1 hk3.2⟩, hrc, hrn, hrx⟩
theorem readValC {spare : Nat → Bool} {held : Bool} {base : Nat} {fuel : Nat} {cs : List Value} {y : DataW H × List MemPlace} (h : DataW.trod enc Try.prog W base spare held fuel 43 cs = some y) :
    ∃ ao cap, ∃ vs : List Val, cs = [.slice ao vs.length cap] ∧ vs.length ≤ maxLen ∧ VRowA W 0 W.heap.size ao vs := by
  obtain ⟨ao, cap, l, rfl, hc, hb, hx⟩ := readSlice (n := 3) (by omega) Try.underlying43 (by kernel_rfl) (fun cs (x : Val) => cs = [.int .i64 x.kind, .int .i64 x.num, .string x.text] ∧ x.ok ∧ x.text.size ≤ maxLen) (fun fuel cs y h => trodVal h) h
  have hp : ∀ x ∈ l, x.ok ∧ x.text.size ≤ maxLen := fun x hx' => by
    obtain ⟨i, hi, rfl⟩ := List.getElem_of_mem hx'
    rcases hb with h0 | ⟨b, off, e, _⟩
    · omega
    · obtain ⟨_, hp, _⟩ := hx b off e i hi
      exact hp.2
  refine ⟨ao, cap, l, rfl, Nat.le_trans hc.1 hc.2, ⟨fun x h => (hp x h).1, fun x h => (hp x h).2, ?_⟩, ?_⟩
  · rcases hb with h0 | ⟨b, off, e, hlt⟩
    · exact .inl h0
    · refine .inr ⟨b, off, e, hlt, fun i hi => ?_⟩
      obtain ⟨cs', ⟨rfl, _⟩, _, hcell⟩ := hx b off e i hi
      exact ⟨by simpa using hcell 0 (by simp), by simpa using hcell 1 (by simp), by simpa using hcell 2 (by simp)⟩
  · rcases hb with h0 | ⟨b, off, e, hlt⟩
    · exact .inl h0
    · exact .inr ⟨b, off, e, Nat.zero_le _⟩
theorem readOpC {spare : Nat → Bool} {held : Bool} {base : Nat} {fuel : Nat} {cs : List Value} {y : DataW H × List MemPlace} (hf : DataW.trod enc Try.prog W base spare held fuel 54 cs = some y) :
    ∃ o : Opn, OpEl W 0 W.heap.size o cs := by
  obtain ⟨ys, n, _, _, hl, hlen, hx⟩ := DataW.trod_struct Try.underlying54 hf
  have hC : Try.prog.cellsOf 54 = 7 := by kernel_rfl
  rw [hC] at hl
  match ys, hlen, cs, hl with
  | [y0, y1, y2, y3], _, [c0, c1, c2, c3, c4, c5, c6], _ =>
    have h0 := hx 0 _ rfl
    have h1 := hx 1 _ rfl
    have h2 := hx 2 _ rfl
    have h3 := hx 3 _ rfl
    have cI : Try.prog.cellsOf 2 = 1 := by kernel_rfl
    have cS : Try.prog.cellsOf 9 = 1 := by kernel_rfl
    have cH : Try.prog.cellsOf 33 = 4 := by kernel_rfl
    have cV : Try.prog.cellsOf 43 = 1 := by kernel_rfl
    have e0 : (([c0, c1, c2, c3, c4, c5, c6] : List Value).drop 0).take (Try.prog.cellsOf 2) = [c0] := by rw [cI]; rfl
    have e1 : (([c0, c1, c2, c3, c4, c5, c6] : List Value).drop 1).take (Try.prog.cellsOf 9) = [c1] := by rw [cS]; rfl
    have e2 : (([c0, c1, c2, c3, c4, c5, c6] : List Value).drop 2).take (Try.prog.cellsOf 33) = [c2, c3, c4, c5] := by rw [cH]; rfl
    have e3 : (([c0, c1, c2, c3, c4, c5, c6] : List Value).drop 6).take (Try.prog.cellsOf 43) = [c6] := by rw [cV]; rfl
    have h0' : DataW.trod enc Try.prog W base spare held n 2 [c0] = some y0 := by rw [← e0]; exact h0
    have h1' : DataW.trod enc Try.prog W base spare held n 9 [c1] = some y1 := by rw [← e1]; exact h1
    have h2' : DataW.trod enc Try.prog W base spare held n 33 [c2, c3, c4, c5] = some y2 := by rw [← e2]; exact h2
    have h3' : DataW.trod enc Try.prog W base spare held n 43 [c6] = some y3 := by rw [← e3]; exact h3
    obtain ⟨a, ea, _, wa⟩ := DataW.trod_int Try.underlying2 h0'
    obtain ⟨t, et, _, wt⟩ := DataW.trod_string Try.underlying9 h1'
    obtain ⟨ao, k1, ko, k2, xo, k3, s, es, hs⟩ := readSchC h2'
    obtain ⟨vo, k4, vs, ev, hv, hr⟩ := readValC h3'
    simp only [List.cons.injEq, and_true] at ea et es ev
    obtain ⟨es0, es1, es2, es3⟩ := es
    subst ea et es0 es1 es2 es3 ev
    exact ⟨⟨a, t, s, vs⟩, ao, k1, ko, k2, xo, k3, vo, k4, rfl, ⟨bounds_i64 wa, wt, hv⟩, hs, hr⟩
theorem rdOps {base : Nat} {v : Value} {d : DataW H} {p : List MemPlace} (hv : Value.okWide Try.prog W .any base 22 v) (h : DataW.Trod enc Try.prog W 0 (fun _ => true) true 22 v d p) : IsOps W v := by
  obtain ⟨ao0, len, cap0, rfl⟩ := okWide_slice Try.underlying22 hv
  obtain ⟨fuel, hf⟩ := h
  obtain ⟨ao, cap, l, hcs, hc, hb, hx⟩ := readSlice (n := 7) (by omega) Try.underlying22 (by kernel_rfl) (fun cs (o : Opn) => OpEl W 0 W.heap.size o cs) (fun fuel cs y h => readOpC h) hf
  simp [Value.cells] at hcs
  obtain ⟨rfl, rfl, rfl⟩ := hcs
  refine ⟨ao0, cap0, l, rfl, Nat.le_trans hc.1 hc.2, ?_⟩
  rcases hb with h0 | ⟨b, off, e, hlt⟩
  · exact .inl h0
  · refine .inr ⟨b, off, e, Nat.zero_le _, hlt, fun i hi => ?_⟩
    obtain ⟨cs', hp, _, hcell⟩ := hx b off e i hi
    rw [getD_of l noOp i hi]
    refine ⟨cs', hp, fun j u hu => ?_⟩
    obtain ⟨hj, hu⟩ := List.getElem?_eq_some_iff.1 hu
    rw [hcell j hj, hu]
end
end Go.Proofs.Ytpbbmmapbmgijaa
