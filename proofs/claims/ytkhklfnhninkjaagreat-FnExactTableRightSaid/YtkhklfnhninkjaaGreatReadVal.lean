/-
  What came in as an argument: a value; a slice of values.
-/
import Derived.Test.YtkhklfnhninkjaaGreatRows
import Derived.Test.YtkhklfnhninkjaaGreatPlain
import Derived.Test.YtkhklfnhninkjaaGreatKeyPlain
import Derived.Test.YtkhklfnhninkjaaGreatVRow
import Derived.WalkKit
import Derived.ProofKit
import Derived.Deep.Slices
import Derived.Deep.Strs
import Derived.OpenShut
namespace Go.Proofs.YtkhklfnhninkjaaGreat
open Go.RowKit Go.ChangeShapes Go.WideShapes
set_option maxRecDepth 100000

def IsVal (v : Value) : Prop := ∃ x : Val, v = .agg #[.int .i64 x.kind, .int .i64 x.num, .string x.text] ∧ x.ok ∧ x.text.size ≤ maxLen
def IsVals (w : World) (v : Value) : Prop := ∃ ao cap vs, v = .slice ao vs.length cap ∧ vs.length ≤ maxLen ∧ ValRow w w.heap.size ao vs

section
variable {H : Type} {enc : TypeId × Value → H} {W : World}

theorem trodVal {base : Nat} {spare : Nat → Bool} {held : Bool} {fuel : Nat} {cs : List Value} {y : DataW H × List MemPlace} (h : DataW.trod enc Tryz.prog W base spare held fuel 92 cs = some y) :
    ∃ x : Val, cs = [.int .i64 x.kind, .int .i64 x.num, .string x.text] ∧ x.ok ∧ x.text.size ≤ maxLen := by
  obtain ⟨y0, y1, y2, n, _, hl, h0, h1, h2⟩ := Deep.trod_struct3 Tryz.underlying92 h
  have hC : Tryz.prog.cellsOf 92 = 3 := by kernel_rfl
  rw [hC] at hl
  match cs, hl with
  | [c0, c1, c2], _ =>
    have cI : Tryz.prog.cellsOf 2 = 1 := by kernel_rfl
    have cS : Tryz.prog.cellsOf 9 = 1 := by kernel_rfl
    have e0 : (([c0, c1, c2] : List Value).drop 0).take (Tryz.prog.cellsOf 2) = [c0] := by rw [cI]; rfl
    have e1 : (([c0, c1, c2] : List Value).drop 1).take (Tryz.prog.cellsOf 2) = [c1] := by rw [cI]; rfl
    have e2 : (([c0, c1, c2] : List Value).drop 2).take (Tryz.prog.cellsOf 9) = [c2] := by rw [cS]; rfl
    have h0' : DataW.trod enc Tryz.prog W base spare held n 2 [c0] = some y0 := by rw [← e0]; exact h0
    have h1' : DataW.trod enc Tryz.prog W base spare held n 2 [c1] = some y1 := by rw [← e1]; exact h1
    have h2' : DataW.trod enc Tryz.prog W base spare held n 9 [c2] = some y2 := by rw [← e2]; exact h2
    obtain ⟨a, ea, _, wa⟩ := DataW.trod_int Tryz.underlying2 h0'
    obtain ⟨b, eb, _, wb⟩ := DataW.trod_int Tryz.underlying2 h1'
    obtain ⟨t, et, _, wt⟩ := DataW.trod_string Tryz.underlying9 h2'
    simp only [List.cons.injEq, and_true] at ea eb et
    subst ea eb et
    exact ⟨⟨a, b, t⟩, rfl, ⟨(bounds_i64 wa).1, (bounds_i64 wa).2, (bounds_i64 wb).1, (bounds_i64 wb).2⟩, wt⟩
theorem rdVal {base : Nat} {v : Value} {d : DataW H} {p : List MemPlace} (hv : Value.okWide Tryz.prog W .any base 92 v) (h : DataW.Trod enc Tryz.prog W 0 (fun _ => true) true 92 v d p) : IsVal v := by
  obtain ⟨fuel, hf⟩ := h
  obtain ⟨x, hx, ho, ht⟩ := trodVal hf
  obtain ⟨cs, rfl, _⟩ := okWide_struct Tryz.underlying92 hv
  refine ⟨x, ?_, ho, ht⟩
  have : cs.toList = [.int .i64 x.kind, .int .i64 x.num, .string x.text] := by simpa [Value.cells] using hx
  rw [← Array.toArray_toList (xs := cs), this]
theorem addOff (b off : Nat) (k : Nat) : (⟨b, off, none⟩ : Addr).add k = ⟨b, off + k, none⟩ := by unfold Addr.add; split <;> simp_all
theorem cells3_at {B : Nat} {a : Addr} {c0 c1 c2 : Value} (h : W.cells? B a 3 = some [c0, c1, c2]) : W.cell? (a.add 0) = some c0 ∧ W.cell? (a.add 1) = some c1 ∧ W.cell? (a.add 2) = some c2 := by
  obtain ⟨_, _, hc⟩ := World.cells?_some h
  exact ⟨hc 0 (by omega), hc 1 (by omega), hc 2 (by omega)⟩
/-- From every index to one list. -/
theorem list_of {α : Type} {n : Nat} {p : Nat → α → Prop} (h : ∀ i, i < n → ∃ x, p i x) : ∃ l : List α, l.length = n ∧ ∀ i (hi : i < l.length), p i l[i] := by
  induction n with
  | zero => exact ⟨[], rfl, fun i hi => by simp at hi⟩
  | succ n ih =>
    obtain ⟨l, hl, hp⟩ := ih (fun i hi => h i (by omega))
    obtain ⟨x, hx⟩ := h n (by omega)
    refine ⟨l ++ [x], by simp [hl], fun i hi => ?_⟩
    by_cases hi' : i < l.length
    · rw [List.getElem_append_left hi']; exact hp i hi'
    · have e : i = n := by simp at hi; omega
      subst e
      rw [List.getElem_append_right (by omega)]
      simpa [hl] using hx
theorem rdVals {base : Nat} {v : Value} {d : DataW H} {p : List MemPlace} (hv : Value.okWide Tryz.prog W .any base 63 v) (h : DataW.Trod enc Tryz.prog W 0 (fun _ => true) true 63 v d p) : IsVals W v := by
  obtain ⟨ao, len, cap, rfl⟩ := okWide_slice Tryz.underlying63 hv
  obtain ⟨fuel, hf⟩ := h
  have hC : Tryz.prog.cellsOf 92 = 3 := by kernel_rfl
  rcases Deep.open_slice Tryz.underlying63 hf with ⟨hcs, _⟩ | ⟨a, len', cap', m, n, D, Pl, hcs, _, hl, hm, hmm, _, hx⟩
  · simp [Value.cells] at hcs
    obtain ⟨rfl, rfl, rfl⟩ := hcs
    exact ⟨none, 0, [], rfl, Nat.zero_le _, fun _ h => by simp at h, fun _ h => by simp at h, .inl rfl⟩
  · simp [Value.cells] at hcs
    obtain ⟨rfl, rfl, rfl⟩ := hcs
    rw [hC] at hx
    have hlm : len ≤ m := by simp at hmm; omega
    obtain ⟨vs, hvl, hvp⟩ := list_of (n := len) (p := fun i (x : Val) => (W.cell? ((a.add (i * 3)).add 0) = some (.int .i64 x.kind) ∧ W.cell? ((a.add (i * 3)).add 1) = some (.int .i64 x.num) ∧ W.cell? ((a.add (i * 3)).add 2) = some (.string x.text)) ∧ x.ok ∧ x.text.size ≤ maxLen) (fun i hi => by
      obtain ⟨cs', h1, h2⟩ := hx i (by omega)
      obtain ⟨x, rfl, ho, ht⟩ := trodVal h2
      exact ⟨x, cells3_at h1, ho, ht⟩)
    subst hvl
    refine ⟨_, cap, vs, rfl, by omega, fun v hv => ?_, fun v hv => ?_, ?_⟩
    · obtain ⟨i, hi, rfl⟩ := List.getElem_of_mem hv
      exact (hvp i hi).2.1
    · obtain ⟨i, hi, rfl⟩ := List.getElem_of_mem hv
      exact (hvp i hi).2.2
    · by_cases h0 : vs.length = 0
      · exact .inl h0
      · right
        obtain ⟨b, off, spot⟩ := a
        have h1 := (hvp 0 (by omega)).1.1
        have hspot : spot = none := by simpa [Addr.add] using World.cell?_spot h1
        subst hspot
        simp only [addOff] at hvp h1
        exact ⟨b, off, rfl, by simpa using block_lt_of_cell h1, fun i hi => (hvp i hi).1⟩
end
end Go.Proofs.YtkhklfnhninkjaaGreat
