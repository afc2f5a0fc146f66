/-
  Contracts and plain laws: ReadSch, TvRd, TbRLaw
-/
import Derived.Test.YtkhklfnhninkjaaGreatRows
import Derived.Test.YtkhklfnhninkjaaGreatSRow
import Derived.WalkKit
import Derived.ProofKit
import Derived.Deep.Slices
import Derived.Deep.Strs
import Derived.OpenShut
import Derived.ChangeSame
import Derived.Test.YtkhklfnhninkjaaGreatReadVal
import Derived.Test.YtkhklfnhninkjaaGreatQc
import Derived.Test.YtkhklfnhninkjaaGreatQe
import Derived.Test.YtkhklfnhninkjaaGreatQg
import Derived.Test.YtkhklfnhninkjaaGreatQh

/-
  What came in as an argument: numbers; a schema.
-/
namespace Go.Proofs.YtkhklfnhninkjaaGreat
open Go.RowKit Go.ChangeShapes Go.WideShapes
set_option maxRecDepth 100000

def IsNums (w : World) (v : Value) : Prop := ∃ ao cap l, v = .slice ao l.length cap ∧ (l.length ≤ cap ∧ cap ≤ maxLen) ∧ IntRow w 0 w.heap.size ao l
def IsSch (w : World) (v : Value) : Prop := ∃ ao c1 ko c2 xo c3 s, v = .agg #[.string s.name, .slice ao s.cols.length c1, .slice ko s.key.length c2, .slice xo s.idx.length c3] ∧ SchRow w 0 w.heap.size ao ko xo c2 s

section
variable {H : Type} {enc : TypeId × Value → H} {W : World}

theorem addOffS (b off : Nat) (k : Nat) : (⟨b, off, none⟩ : Addr).add k = ⟨b, off + k, none⟩ := by unfold Addr.add; split <;> simp_all
theorem listOf {α : Type} {n : Nat} {p : Nat → α → Prop} (h : ∀ i, i < n → ∃ x, p i x) : ∃ l : List α, l.length = n ∧ ∀ i (hi : i < l.length), p i l[i] := by
  induction n with
  | zero => exact ⟨[], rfl, fun i hi => by simp at hi⟩
  | succ n ih =>
    obtain ⟨l, hl, hp⟩ := ih (fun i hi => h i (by omega))
    obtain ⟨x, hx⟩ := h n (by omega)
    refine ⟨l ++ [x], by simp [hl], fun i hi => ?_⟩
    by_cases hi' : i < l.length
    · rw [List.getElem_append_left hi']; exact hp i hi'
    · have e : i = n := by simp at hi; omega
      subst e
      rw [List.getElem_append_right (by omega)]
      simpa [hl] using hx
/-- A slice whose elements can each be read as a thing. -/
theorem readSlice {α : Type} {t e : TypeId} {n : Nat} (hn : 1 ≤ n) (ht : Tryz.prog.underlying t = some (.slice e)) (hC : Tryz.prog.cellsOf e = n) (p : List Value → α → Prop) {base : Nat} {spare : Nat → Bool} {held : Bool}
    (he : ∀ fuel cs y, DataW.trod enc Tryz.prog W base spare held fuel e cs = some y → ∃ x, p cs x) {fuel : Nat} {cs : List Value} {y : DataW H × List MemPlace} (h : DataW.trod enc Tryz.prog W base spare held fuel t cs = some y) :
    ∃ ao cap l, cs = [.slice ao (List.length l) cap] ∧ (l.length ≤ cap ∧ cap ≤ maxLen) ∧ (l.length = 0 ∨ ∃ b off, ao = some ⟨b, off, none⟩ ∧ b < W.heap.size) ∧
      ∀ b off, ao = some ⟨b, off, none⟩ → ∀ i (hi : i < l.length), ∃ cs', p cs' l[i] ∧ cs'.length = n ∧ ∀ j (hj : j < cs'.length), W.cell? ⟨b, off + i * n + j, none⟩ = some cs'[j] := by
  rcases Deep.open_slice ht h with ⟨hcs, _⟩ | ⟨a, len', cap', m, n', D, Pl, hcs, _, hl, hm, hmm, _, hx⟩
  · exact ⟨none, 0, [], by simpa using hcs, ⟨Nat.le_refl _, Nat.zero_le _⟩, .inl rfl, fun b off e => by cases e⟩
  · rw [hC] at hx
    have hlm : len' ≤ m := by rw [hmm]; split <;> omega
    obtain ⟨l, hvl, hvp⟩ := listOf (n := len') (p := fun i (x : α) => ∃ cs', p cs' x ∧ cs'.length = n ∧ ∀ j (hj : j < cs'.length), W.cell? ((a.add (i * n)).add j) = some cs'[j]) (fun i hi => by
      obtain ⟨cs', h1, h2⟩ := hx i (by omega)
      obtain ⟨x, hp⟩ := he _ _ _ h2
      obtain ⟨_, hlen, hc⟩ := World.cells?_some h1
      exact ⟨x, cs', hp, hlen, fun j hj => (hc j (by omega)).trans (List.getElem?_eq_getElem hj)⟩)
    subst hvl
    obtain ⟨b, off, spot⟩ := a
    refine ⟨_, cap', l, hcs, ⟨hl, hm⟩, ?_, ?_⟩
    · by_cases h0 : l.length = 0
      · exact .inl h0
      · obtain ⟨cs', _, hlen, hc⟩ := hvp 0 (by omega)
        have h1 := hc 0 (by omega)
        have hspot : spot = none := by simpa [Addr.add] using World.cell?_spot h1
        subst hspot
        simp only [addOffS] at h1
        exact .inr ⟨b, off, rfl, by simpa using block_lt_of_cell h1⟩
    · intro b' off' e i hi
      cases e
      obtain ⟨cs', hp, hlen, hc⟩ := hvp i hi
      exact ⟨cs', hp, hlen, fun j hj => by have := hc j hj; simpa only [addOffS] using this⟩
theorem getD_of {α : Type} (l : List α) (d : α) (i : Nat) (h : i < l.length) : l.getD i d = l[i] := by
  rw [List.getD_eq_getElem?_getD, List.getElem?_eq_getElem h]; rfl
theorem readNums {base : Nat} {spare : Nat → Bool} {held : Bool} {fuel : Nat} {cs : List Value} {y : DataW H × List MemPlace} (h : DataW.trod enc Tryz.prog W base spare held fuel 23 cs = some y) :
    ∃ ao cap l, cs = [.slice ao (List.length l) cap] ∧ (l.length ≤ cap ∧ cap ≤ maxLen) ∧ IntRow W 0 W.heap.size ao l := by
  obtain ⟨ao, cap, l, rfl, hc, hb, hx⟩ := readSlice (n := 1) (Nat.le_refl _) Tryz.underlying23 (by kernel_rfl) (fun cs (x : Int) => cs = [.int .i64 x] ∧ inI64 x) (fun fuel cs y h => by
    obtain ⟨a, ea, _, wa⟩ := DataW.trod_int Tryz.underlying2 h
    exact ⟨a, ea, bounds_i64 wa⟩) h
  refine ⟨ao, cap, l, rfl, hc, fun x hx' => ?_, ?_⟩
  · obtain ⟨i, hi, rfl⟩ := List.getElem_of_mem hx'
    rcases hb with h0 | ⟨b, off, e, _⟩
    · omega
    · obtain ⟨_, hp, _⟩ := hx b off e i hi
      exact hp.2
  · rcases hb with h0 | ⟨b, off, e, hlt⟩
    · exact .inl h0
    · refine .inr ⟨b, off, e, Nat.zero_le _, hlt, fun i hi => ?_⟩
      obtain ⟨cs', ⟨rfl, _⟩, _, hcell⟩ := hx b off e i hi
      have := hcell 0 (by simp)
      rw [getD_of l 0 i hi]; simpa using this
theorem readCol {base : Nat} {spare : Nat → Bool} {held : Bool} {fuel : Nat} {cs : List Value} {y : DataW H × List MemPlace} (h : DataW.trod enc Tryz.prog W base spare held fuel 88 cs = some y) :
    ∃ c : Col, cs = [.string c.name, .int .i64 c.kind, .bool c.nul] ∧ inI64 c.kind ∧ c.name.size ≤ maxLen := by
  obtain ⟨y0, y1, y2, n, _, hl, h0, h1, h2⟩ := Deep.trod_struct3 Tryz.underlying88 h
  have hC : Tryz.prog.cellsOf 88 = 3 := by kernel_rfl
  rw [hC] at hl
  match cs, hl with
  | [c0, c1, c2], _ =>
    have cI : Tryz.prog.cellsOf 2 = 1 := by kernel_rfl
    have cS : Tryz.prog.cellsOf 9 = 1 := by kernel_rfl
    have cB : Tryz.prog.cellsOf 4 = 1 := by kernel_rfl
    have e0 : (([c0, c1, c2] : List Value).drop 0).take (Tryz.prog.cellsOf 9) = [c0] := by rw [cS]; rfl
    have e1 : (([c0, c1, c2] : List Value).drop 1).take (Tryz.prog.cellsOf 2) = [c1] := by rw [cI]; rfl
    have e2 : (([c0, c1, c2] : List Value).drop 2).take (Tryz.prog.cellsOf 4) = [c2] := by rw [cB]; rfl
    have h0' : DataW.trod enc Tryz.prog W base spare held n 9 [c0] = some y0 := by rw [← e0]; exact h0
    have h1' : DataW.trod enc Tryz.prog W base spare held n 2 [c1] = some y1 := by rw [← e1]; exact h1
    have h2' : DataW.trod enc Tryz.prog W base spare held n 4 [c2] = some y2 := by rw [← e2]; exact h2
    obtain ⟨t, et, _, wt⟩ := DataW.trod_string Tryz.underlying9 h0'
    obtain ⟨a, ea, _, wa⟩ := DataW.trod_int Tryz.underlying2 h1'
    obtain ⟨u, eu, _⟩ := DataW.trod_bool Tryz.underlying4 h2'
    simp only [List.cons.injEq, and_true] at ea eu et
    subst ea eu et
    exact ⟨⟨t, a, u⟩, rfl, bounds_i64 wa, wt⟩
theorem readCols {base : Nat} {spare : Nat → Bool} {held : Bool} {fuel : Nat} {cs : List Value} {y : DataW H × List MemPlace} (h : DataW.trod enc Tryz.prog W base spare held fuel 22 cs = some y) :
    ∃ ao cap l, cs = [.slice ao (List.length l) cap] ∧ (l.length ≤ cap ∧ cap ≤ maxLen) ∧ ColRow W 0 W.heap.size ao l := by
  obtain ⟨ao, cap, l, rfl, hc, hb, hx⟩ := readSlice (n := 3) (by omega) Tryz.underlying22 (by kernel_rfl) (fun cs (c : Col) => cs = [.string c.name, .int .i64 c.kind, .bool c.nul] ∧ inI64 c.kind ∧ c.name.size ≤ maxLen) (fun fuel cs y h => readCol h) h
  refine ⟨ao, cap, l, rfl, hc, fun x hx' => ?_, ?_⟩
  · obtain ⟨i, hi, rfl⟩ := List.getElem_of_mem hx'
    rcases hb with h0 | ⟨b, off, e, _⟩
    · omega
    · obtain ⟨_, hp, _⟩ := hx b off e i hi
      exact hp.2
  · rcases hb with h0 | ⟨b, off, e, hlt⟩
    · exact .inl h0
    · refine .inr ⟨b, off, e, Nat.zero_le _, hlt, fun i hi => ?_⟩
      obtain ⟨cs', ⟨rfl, _⟩, _, hcell⟩ := hx b off e i hi
      rw [getD_of l noCol i hi]
      exact ⟨by simpa using hcell 0 (by simp), by simpa using hcell 1 (by simp), by simpa using hcell 2 (by simp)⟩
theorem readIdx {base : Nat} {spare : Nat → Bool} {held : Bool} {fuel : Nat} {cs : List Value} {y : DataW H × List MemPlace} (h : DataW.trod enc Tryz.prog W base spare held fuel 90 cs = some y) :
    ∃ x : Idx, ∃ io cp, cs = [.slice io x.cols.length cp, .bool x.uniq] ∧ (x.cols.length ≤ cp ∧ cp ≤ maxLen) ∧ IntRow W 0 W.heap.size io x.cols := by
  obtain ⟨y0, y1, n, _, hl, h0, h1⟩ := trod_struct2 Tryz.underlying90 h
  have hC : Tryz.prog.cellsOf 90 = 2 := by kernel_rfl
  rw [hC] at hl
  match cs, hl with
  | [c0, c1], _ =>
    have cI : Tryz.prog.cellsOf 23 = 1 := by kernel_rfl
    have cB : Tryz.prog.cellsOf 4 = 1 := by kernel_rfl
    have e0 : (([c0, c1] : List Value).drop 0).take (Tryz.prog.cellsOf 23) = [c0] := by rw [cI]; rfl
    have e1 : (([c0, c1] : List Value).drop 1).take (Tryz.prog.cellsOf 4) = [c1] := by rw [cB]; rfl
    have h0' : DataW.trod enc Tryz.prog W base spare held n 23 [c0] = some y0 := by rw [← e0]; exact h0
    have h1' : DataW.trod enc Tryz.prog W base spare held n 4 [c1] = some y1 := by rw [← e1]; exact h1
    obtain ⟨io, cp, l, et, hcp, hr⟩ := readNums h0'
    obtain ⟨u, eu, _⟩ := DataW.trod_bool Tryz.underlying4 h1'
    simp only [List.cons.injEq, and_true] at eu et
    subst eu et
    exact ⟨⟨l, u⟩, io, cp, rfl, hcp, hr⟩
theorem readIdxs {base : Nat} {spare : Nat → Bool} {held : Bool} {fuel : Nat} {cs : List Value} {y : DataW H × List MemPlace} (h : DataW.trod enc Tryz.prog W base spare held fuel 24 cs = some y) :
    ∃ ao cap l, cs = [.slice ao (List.length l) cap] ∧ (l.length ≤ cap ∧ cap ≤ maxLen) ∧ IdxRow W 0 W.heap.size ao l := by
  obtain ⟨ao, cap, l, rfl, hc, hb, hx⟩ := readSlice (n := 2) (by omega) Tryz.underlying24 (by kernel_rfl) (fun cs (x : Idx) => ∃ io cp, cs = [.slice io x.cols.length cp, .bool x.uniq] ∧ (x.cols.length ≤ cp ∧ cp ≤ maxLen) ∧ IntRow W 0 W.heap.size io x.cols) (fun fuel cs y h => readIdx h) h
  refine ⟨ao, cap, l, rfl, hc, ?_⟩
  rcases hb with h0 | ⟨b, off, e, hlt⟩
  · exact .inl h0
  · refine .inr ⟨b, off, e, Nat.zero_le _, hlt, fun i hi => ?_⟩
    obtain ⟨cs', ⟨io, cp, rfl, hcp, hr⟩, _, hcell⟩ := hx b off e i hi
    rw [getD_of l noIdx i hi]
    exact ⟨io, cp, by simpa using hcell 0 (by simp), by simpa using hcell 1 (by simp), hcp, hr⟩
theorem rdNums {base : Nat} {v : Value} {d : DataW H} {p : List MemPlace} (hv : Value.okWide Tryz.prog W .any base 23 v) (h : DataW.Trod enc Tryz.prog W 0 (fun _ => true) true 23 v d p) : IsNums W v := by
  obtain ⟨ao, len, cap, rfl⟩ := okWide_slice Tryz.underlying23 hv
  obtain ⟨fuel, hf⟩ := h
  obtain ⟨ao', cap', l, hcs, hc, hr⟩ := readNums hf
  simp [Value.cells] at hcs
  obtain ⟨rfl, rfl, rfl⟩ := hcs
  exact ⟨ao, cap, l, rfl, hc, hr⟩
theorem rdSch {base : Nat} {v : Value} {d : DataW H} {p : List MemPlace} (hv : Value.okWide Tryz.prog W .any base 26 v) (h : DataW.Trod enc Tryz.prog W 0 (fun _ => true) true 26 v d p) : IsSch W v := by
  obtain ⟨fuel, hf⟩ := h
  obtain ⟨cs, rfl, _⟩ := okWide_struct Tryz.underlying26 hv
  obtain ⟨ys, n, _, _, hl, hlen, hx⟩ := DataW.trod_struct Tryz.underlying26 hf
  have hC : Tryz.prog.cellsOf 26 = 4 := by kernel_rfl
  rw [hC] at hl
  match ys, hlen with
  | [y0, y1, y2, y3], _ =>
    have h0 := hx 0 _ rfl
    have h1 := hx 1 _ rfl
    have h2 := hx 2 _ rfl
    have h3 := hx 3 _ rfl
    obtain ⟨c0, c1, c2, c3, hcs⟩ : ∃ c0 c1 c2 c3, cs.toList = [c0, c1, c2, c3] := by
      have hl' : cs.toList.length = 4 := by simpa [Value.cells] using hl
      match hcl : cs.toList, hl' with
      | [c0, c1, c2, c3], _ => exact ⟨c0, c1, c2, c3, rfl⟩
    have hcv : (Value.agg cs).cells.toList = [c0, c1, c2, c3] := by simpa [Value.cells] using hcs
    rw [hcv] at h0 h1 h2 h3
    have cS : Tryz.prog.cellsOf 9 = 1 := by kernel_rfl
    have cC : Tryz.prog.cellsOf 22 = 1 := by kernel_rfl
    have cN : Tryz.prog.cellsOf 23 = 1 := by kernel_rfl
    have cX : Tryz.prog.cellsOf 24 = 1 := by kernel_rfl
    have e0 : (([c0, c1, c2, c3] : List Value).drop 0).take (Tryz.prog.cellsOf 9) = [c0] := by rw [cS]; rfl
    have e1 : (([c0, c1, c2, c3] : List Value).drop 1).take (Tryz.prog.cellsOf 22) = [c1] := by rw [cC]; rfl
    have e2 : (([c0, c1, c2, c3] : List Value).drop 2).take (Tryz.prog.cellsOf 23) = [c2] := by rw [cN]; rfl
    have e3 : (([c0, c1, c2, c3] : List Value).drop 3).take (Tryz.prog.cellsOf 24) = [c3] := by rw [cX]; rfl
    have h0' : DataW.trod enc Tryz.prog W 0 (fun _ => true) true n 9 [c0] = some y0 := by rw [← e0]; exact h0
    have h1' : DataW.trod enc Tryz.prog W 0 (fun _ => true) true n 22 [c1] = some y1 := by rw [← e1]; exact h1
    have h2' : DataW.trod enc Tryz.prog W 0 (fun _ => true) true n 23 [c2] = some y2 := by rw [← e2]; exact h2
    have h3' : DataW.trod enc Tryz.prog W 0 (fun _ => true) true n 24 [c3] = some y3 := by rw [← e3]; exact h3
    obtain ⟨t, et, _, wt⟩ := DataW.trod_string Tryz.underlying9 h0'
    obtain ⟨ao, k1, lc, ec, hk1, hrc⟩ := readCols h1'
    obtain ⟨ko, k2, ln, en, hk2, hrn⟩ := readNums h2'
    obtain ⟨xo, k3, lx, ex, hk3, hrx⟩ := readIdxs h3'
    simp only [List.cons.injEq, and_true] at et ec en ex
    subst et ec en ex
    refine ⟨ao, k1, ko, k2, xo, k3, ⟨t, lc, ln, lx⟩, ?_, ⟨wt, Nat.le_trans hk1.1 hk1.2, hk2, Nat.le_trans hk3.1 hk3.2⟩, hrc, hrn, hrx⟩
    rw [← Array.toArray_toList (xs := cs), hcs]
end
end Go.Proofs.YtkhklfnhninkjaaGreat

/-
  What came in as an argument: a table.
-/
namespace Go.Proofs.YtkhklfnhninkjaaGreat
open Go.RowKit Go.ChangeShapes Go.WideShapes
set_option maxRecDepth 100000

section
variable {H : Type} {enc : TypeId × Value → H} {W : World}
theorem readVals {base : Nat} {spare : Nat → Bool} {held : Bool} {fuel : Nat} {cs : List Value} {y : DataW H × List MemPlace} (h : DataW.trod enc Tryz.prog W base spare held fuel 63 cs = some y) :
    ∃ vs, VEl W 0 W.heap.size vs cs := by
  obtain ⟨ao, cap, l, rfl, hc, hb, hx⟩ := readSlice (n := 3) (by omega) Tryz.underlying63 (by kernel_rfl) (fun cs (x : Val) => cs = [.int .i64 x.kind, .int .i64 x.num, .string x.text] ∧ x.ok ∧ x.text.size ≤ maxLen) (fun fuel cs y h => trodVal h) h
  refine ⟨l, ao, cap, rfl, hc, ⟨fun v hv => ?_, fun v hv => ?_, ?_⟩, ?_⟩
  · obtain ⟨i, hi, rfl⟩ := List.getElem_of_mem hv
    rcases hb with h0 | ⟨b, off, e, _⟩
    · omega
    · obtain ⟨_, hp, _⟩ := hx b off e i hi
      exact hp.2.1
  · obtain ⟨i, hi, rfl⟩ := List.getElem_of_mem hv
    rcases hb with h0 | ⟨b, off, e, _⟩
    · omega
    · obtain ⟨_, hp, _⟩ := hx b off e i hi
      exact hp.2.2
  · rcases hb with h0 | ⟨b, off, e, hlt⟩
    · exact .inl h0
    · refine .inr ⟨b, off, e, hlt, fun i hi => ?_⟩
      obtain ⟨cs', ⟨rfl, _⟩, _, hcell⟩ := hx b off e i hi
      exact ⟨hcell 0 (by simp), hcell 1 (by simp), hcell 2 (by simp)⟩
  · rcases hb with h0 | ⟨b, off, e, hlt⟩
    · exact .inl h0
    · exact .inr ⟨b, off, e, Nat.zero_le _⟩
theorem readRows {base : Nat} {spare : Nat → Bool} {held : Bool} {fuel : Nat} {cs : List Value} {y : DataW H × List MemPlace} (h : DataW.trod enc Tryz.prog W base spare held fuel 27 cs = some y) :
    ∃ ao cap l, cs = [.slice ao (List.length l) cap] ∧ (l.length ≤ cap ∧ cap ≤ maxLen) ∧ RwRow W 0 W.heap.size ao l := by
  obtain ⟨ao, cap, l, rfl, hc, hb, hx⟩ := readSlice (n := 1) (Nat.le_refl _) Tryz.underlying27 (by kernel_rfl) (fun cs (x : List Val) => VEl W 0 W.heap.size x cs) (fun fuel cs y h => readVals h) h
  refine ⟨ao, cap, l, rfl, hc, ?_⟩
  rcases hb with h0 | ⟨b, off, e, hlt⟩
  · exact .inl h0
  · refine .inr ⟨b, off, e, Nat.zero_le _, hlt, fun i hi => ?_⟩
    obtain ⟨cs', hp, hlen, hcell⟩ := hx b off e i hi
    refine ⟨cs', by rw [getD_of l [] i hi]; exact hp, fun j u hu => ?_⟩
    obtain ⟨hj, rfl⟩ := List.getElem?_eq_some_iff.1 hu
    exact hcell j hj
theorem readSchT {base : Nat} {spare : Nat → Bool} {held : Bool} {fuel : Nat} {cs : List Value} {y : DataW H × List MemPlace} (h : DataW.trod enc Tryz.prog W base spare held fuel 26 cs = some y) :
    ∃ ao k1 ko k2 xo k3, ∃ s : Sch, cs = [.string s.name, .slice ao s.cols.length k1, .slice ko s.key.length k2, .slice xo s.idx.length k3] ∧ SchRow W 0 W.heap.size ao ko xo k2 s := by
  obtain ⟨ys, n, _, _, hl, hlen, hx⟩ := DataW.trod_struct Tryz.underlying26 h
  have hC : Tryz.prog.cellsOf 26 = 4 := by kernel_rfl
  rw [hC] at hl
  match ys, hlen, cs, hl with
  | [y0, y1, y2, y3], _, [c0, c1, c2, c3], _ =>
    have g0 := hx 0 _ rfl
    have z0 : Tryz.prog.cellsOf 9 = 1 := by kernel_rfl
    have q0 : (([c0, c1, c2, c3] : List Value).drop 0).take (Tryz.prog.cellsOf 9) = [c0] := by rw [z0]; rfl
    have k0 : DataW.trod enc Tryz.prog W base spare held n 9 [c0] = some y0 := by rw [← q0]; exact g0
    have g1 := hx 1 _ rfl
    have z1 : Tryz.prog.cellsOf 22 = 1 := by kernel_rfl
    have q1 : (([c0, c1, c2, c3] : List Value).drop 1).take (Tryz.prog.cellsOf 22) = [c1] := by rw [z1]; rfl
    have k1 : DataW.trod enc Tryz.prog W base spare held n 22 [c1] = some y1 := by rw [← q1]; exact g1
    have g2 := hx 2 _ rfl
    have z2 : Tryz.prog.cellsOf 23 = 1 := by kernel_rfl
    have q2 : (([c0, c1, c2, c3] : List Value).drop 2).take (Tryz.prog.cellsOf 23) = [c2] := by rw [z2]; rfl
    have k2 : DataW.trod enc Tryz.prog W base spare held n 23 [c2] = some y2 := by rw [← q2]; exact g2
    have g3 := hx 3 _ rfl
    have z3 : Tryz.prog.cellsOf 24 = 1 := by kernel_rfl
    have q3 : (([c0, c1, c2, c3] : List Value).drop 3).take (Tryz.prog.cellsOf 24) = [c3] := by rw [z3]; rfl
    have k3 : DataW.trod enc Tryz.prog W base spare held n 24 [c3] = some y3 := by rw [← q3]; exact g3
    obtain ⟨t, et, _, wt⟩ := DataW.trod_string Tryz.underlying9 k0
    obtain ⟨ao, p1, lc, ec, hk1, hrc⟩ := readCols k1
    obtain ⟨ko, p2, ln, en, hk2, hrn⟩ := readNums k2
    obtain ⟨xo, p3, lx, ex, hk3, hrx⟩ := readIdxs k3
    simp only [List.cons.injEq, and_true] at et ec en ex
    subst et ec en ex
    exact ⟨ao, p1, ko, p2, xo, p3, ⟨t, lc, ln, lx⟩, rfl, ⟨wt, Nat.le_trans hk1.1 hk1.2, hk2, Nat.le_trans hk3.1 hk3.2⟩, hrc, hrn, hrx⟩
theorem rdTable {base : Nat} {v : Value} {d : DataW H} {p : List MemPlace} (hv : Value.okWide Tryz.prog W .any base 29 v) (h : DataW.Trod enc Tryz.prog W 0 (fun _ => true) true 29 v d p) : IsTbl W v := by
  obtain ⟨fuel, hf⟩ := h
  obtain ⟨vs, rfl, _⟩ := okWide_struct Tryz.underlying29 hv
  have key : ∀ (spare : Nat → Bool) (held : Bool) (base : Nat) (cs : List Value) (y : DataW H × List MemPlace), DataW.trod enc Tryz.prog W base spare held fuel 29 cs = some y → ∃ a1 c1 a2 c2 a3 c3 a4 c4, ∃ s : Sch, ∃ l : List (List Val), cs = [.string s.name, .slice a1 s.cols.length c1, .slice a2 s.key.length c2, .slice a3 s.idx.length c3, .slice a4 l.length c4] ∧ SchRow W 0 W.heap.size a1 a2 a3 c2 s ∧ l.length ≤ maxLen ∧ RwRow W 0 W.heap.size a4 l := by
    intro spare held base cs y h
    obtain ⟨ys, n, _, _, hl, hlen, hx⟩ := DataW.trod_struct Tryz.underlying29 h
    have hC : Tryz.prog.cellsOf 29 = 5 := by kernel_rfl
    rw [hC] at hl
    match ys, hlen, cs, hl with
    | [y0, y1], _, [c0, c1, c2, c3, c4], _ =>
    have g0 := hx 0 _ rfl
    have z0 : Tryz.prog.cellsOf 26 = 4 := by kernel_rfl
    have q0 : (([c0, c1, c2, c3, c4] : List Value).drop 0).take (Tryz.prog.cellsOf 26) = [c0, c1, c2, c3] := by rw [z0]; rfl
    have k0 : DataW.trod enc Tryz.prog W base spare held n 26 [c0, c1, c2, c3] = some y0 := by rw [← q0]; exact g0
    have g1 := hx 1 _ rfl
    have z1 : Tryz.prog.cellsOf 27 = 1 := by kernel_rfl
    have q1 : (([c0, c1, c2, c3, c4] : List Value).drop 4).take (Tryz.prog.cellsOf 27) = [c4] := by rw [z1]; rfl
    have k1 : DataW.trod enc Tryz.prog W base spare held n 27 [c4] = some y1 := by rw [← q1]; exact g1
    obtain ⟨a1, p1, a2, p2, a3, p3, s, es, hs⟩ := readSchT k0
    obtain ⟨a4, p4, l, el, hc, hr⟩ := readRows k1
    simp only [List.cons.injEq, and_true] at es el
    obtain ⟨rfl, rfl, rfl, rfl⟩ := es
    subst el
    exact ⟨a1, p1, a2, p2, a3, p3, a4, p4, s, l, rfl, hs, Nat.le_trans hc.1 hc.2, hr⟩
  obtain ⟨a1, c1, a2, c2, a3, c3, a4, c4, s, l, hcs, hs, hl, hr⟩ := key _ _ _ _ _ hf
  refine ⟨a1, c1, a2, c2, a3, c3, a4, c4, s, l, ?_, hs, hl, hr⟩
  have : vs.toList = [.string s.name, .slice a1 s.cols.length c1, .slice a2 s.key.length c2, .slice a3 s.idx.length c3, .slice a4 l.length c4] := by simpa [Value.cells] using hcs
  rw [← Array.toArray_toList (xs := vs), this]
end
end Go.Proofs.YtkhklfnhninkjaaGreat

/-
  The law on TableRight, out of the contracts.
-/
namespace Go.Proofs.YtkhklfnhninkjaaGreat
open Go.RowKit
set_option maxRecDepth 100000

set_option maxHeartbeats 4000000 in
theorem lawTableRight (v0 : Value) (w : World) (h0 : IsTbl w v0) (hsh : w.ShapedOpen Tryz.prog) :
    Calls Tryz.prog 3 #[v0] w fun e w' => e = .returned (.bool true) ∧ Below w.heap.size w w' := by
  obtain ⟨m, hm⟩ := maxLen_some hsh
  have HM : Hid (∀ W, Below w.heap.size w W → W.cell? ⟨0, 0, none⟩ = some (.int .i64 m)) := fun W hb => (hb.cell (p := ⟨0, 0, none⟩) (block_lt_of_cell hm)).trans hm
  obtain ⟨a1, c1, a2, c2, a3, c3, a4, c4, s, l, rfl, h1, hl, h2⟩ := h0
  have HSZ := hide (fun (W : World) (hb : Below w.heap.size w W) => szTable_any 0 w.heap.size s l a1 c1 a2 c2 a3 c3 a4 c4 1048576 W hb.size hl (h1.kept hb) (h2.kept hb) (by omega) (by omega))
  have HTO := hide (fun (hf : tFits s l) (W : World) (hb : Below w.heap.size w W) => toTable_any 0 w.heap.size s l a1 c1 a2 c2 a3 c3 a4 c4 W hb.size hf (h1.kept hb) (h2.kept hb))
  have HSP := hide (fun (A B : Nat) (b1 : Option Addr) (p1 : Nat) (b2 : Option Addr) (p2 : Nat) (b3 : Option Addr) (p3 : Nat) (b4 : Option Addr) (p4 : Nat) (W : World) (hB : B ≤ W.heap.size) (k1 : SchRow W A B b1 b2 b3 p2 s) (k2 : RwRow W A B b4 l) => specTableRight_any A B s l b1 p1 b2 p2 b3 p3 b4 p4 W hB hl k1 k2)
  have HIM := hide (fun (A B : Nat) (b1 : Option Addr) (p1 : Nat) (b2 : Option Addr) (p2 : Nat) (b3 : Option Addr) (p3 : Nat) (b4 : Option Addr) (p4 : Nat) (W : World) (hB : B ≤ W.heap.size) (k1 : SchRow W A B b1 b2 b3 p2 s) (k2 : RwRow W A B b4 l) (hmm : W.cell? ⟨0, 0, none⟩ = some (.int .i64 m)) => implTableRight_any A B s l b1 p1 b2 p2 b3 p3 b4 p4 m W hB hl k1 k2 hmm)
  have HEQ := hide (fun (hf : tFits s l) (A B A' B' : Nat) (b1 : Option Addr) (p1 : Nat) (b2 : Option Addr) (p2 : Nat) (b3 : Option Addr) (p3 : Nat) (b4 : Option Addr) (p4 : Nat) (e1 : Option Addr) (r1 : Nat) (e2 : Option Addr) (r2 : Nat) (e3 : Option Addr) (r3 : Nat) (e4 : Option Addr) (r4 : Nat) (W : World) (hB : B ≤ W.heap.size) (hB' : B' ≤ W.heap.size) (k1 : SchRow W A B b1 b2 b3 p2 s) (k2 : RwRow W A B b4 l) (l1 : SchRow W A' B' e1 e2 e3 r2 s) (l2 : RwRow W A' B' e4 l) => eqTable_same A B A' B' s l b1 p1 b2 p2 b3 p3 b4 p4 e1 r1 e2 r2 e3 r3 e4 r4 W hB hB' hf k1 k2 l1 l2)
  generalize tblB s l = rq at *
  generalize tFits s l = sm at *
  clear h1 h2 hl hm hsh
  generalize s.name = nm at *
  generalize s.cols.length = n1 at *
  generalize s.key.length = n2 at *
  generalize s.idx.length = n3 at *
  generalize l.length = n4 at *
  have B0 := hide ((Below.refl w.heap.size w).alloc (Nat.le_refl _) (.cells #[.string nm, .slice a1 n1 c1, .slice a2 n2 c2, .slice a3 n3 c3, .slice a4 n4 c4] 29))
  have X0 := hide (heap_alloc_new w (.cells #[.string nm, .slice a1 n1 c1, .slice a2 n2 c2, .slice a3 n3 c3, .slice a4 n4 c4] 29))
  go_enter Tryz.func3, Tryz.ntmps3
  go_upto_region 1 with fail
  generalize w.alloc (.cells #[.string nm, .slice a1 n1 c1, .slice a2 n2 c2, .slice a3 n3 c3, .slice a4 n4 c4] 29) = W0 at *
  obtain ⟨y0, y1, y2, y3, y4, yf⟩ := cellsN5 X0.out
  go_wp2_with fail
  refine (HSZ.out _ B0.out).mono ?_
  rintro e w1 ⟨r, rfl, hr1, hcase, b1⟩
  have X1 := hide ((b1.block _ (blkC X0.out)).trans X0.out)
  have B1 := hide (B0.out.trans (b1.mono B0.out.size))
  clear b1 X0 B0 HSZ y0 y1 y2 y3 y4 yf
  rcases hcase with hneg | ⟨hr0, hsm⟩
  · go_wp2
    go_ret
    exact ⟨rfl, B1.out⟩
  · have HS := hide hsm
    clear hsm
    obtain ⟨y0, y1, y2, y3, y4, yf⟩ := cellsN5 X1.out
    go_wp2_with fail
    refine (HTO.out HS.out _ B1.out).mono ?_
    rintro e w2 ⟨b1, p1, b2, p2, b3, p3, b4, p4, rfl, k1, k2, kb⟩
    have X2 := hide ((kb.block _ (blkC X1.out)).trans X1.out)
    have B2 := hide (B1.out.trans (kb.mono B1.out.size))
    have R2 := hide (And.intro k1 k2)
    clear kb k1 k2 X1 B1 y0 y1 y2 y3 y4 yf
    obtain ⟨y0, y1, y2, y3, y4, yf⟩ := cellsN5 X2.out
    go_wp2_with fail
    refine (HSP.out _ _ _ _ _ _ _ _ _ _ _ (Nat.le_refl _) R2.out.1 R2.out.2).mono ?_
    rintro e w3 ⟨rfl, kb⟩
    have X3 := hide ((kb.block _ (blkC X2.out)).trans X2.out)
    have B3 := hide (B2.out.trans (kb.mono B2.out.size))
    clear kb X2 B2 R2 y0 y1 y2 y3 y4 yf
    obtain ⟨y0, y1, y2, y3, y4, yf⟩ := cellsN5 X3.out
    go_wp2_with fail
    refine (HTO.out HS.out _ B3.out).mono ?_
    rintro e w4 ⟨d1, s1, d2, s2, d3, s3, d4, s4, rfl, k1, k2, kb⟩
    have X4 := hide ((kb.block _ (blkC X3.out)).trans X3.out)
    have B4 := hide (B3.out.trans (kb.mono B3.out.size))
    have R4 := hide (And.intro k1 k2)
    clear kb k1 k2 X3 B3 y0 y1 y2 y3 y4 yf
    obtain ⟨y0, y1, y2, y3, y4, yf⟩ := cellsN5 X4.out
    have BX := hide (B4.out.alloc B4.out.size (.cells #[.string nm, .slice d1 n1 s1, .slice d2 n2 s2, .slice d3 n3 s3, .slice d4 n4 s4] 38))
    have XX := hide (heap_alloc_new w4 (.cells #[.string nm, .slice d1 n1 s1, .slice d2 n2 s2, .slice d3 n3 s3, .slice d4 n4 s4] 38))
    have BB := (Below.refl w4.heap.size w4).alloc (Nat.le_refl _) (.cells #[.string nm, .slice d1 n1 s1, .slice d2 n2 s2, .slice d3 n3 s3, .slice d4 n4 s4] 38)
    have XL := hide ((BB.block _ (blkC X4.out)).trans X4.out)
    have RX := hide (And.intro (R4.out.1.kept BB) (R4.out.2.kept BB))
    have ZX := hide BB.size
    clear BB
    go_upto_region 7 with fail
    generalize w4.alloc (.cells #[.string nm, .slice d1 n1 s1, .slice d2 n2 s2, .slice d3 n3 s3, .slice d4 n4 s4] 38) = W5 at *
    clear y0 y1 y2 y3 y4 yf X4 B4 R4
    obtain ⟨z0, z1, z2, z3, z4, zf⟩ := cellsN5 XX.out
    go_wp2_with fail
    refine (HIM.out _ _ _ _ _ _ _ _ _ _ _ ZX.out RX.out.1 RX.out.2 (HM.out _ BX.out)).mono ?_
    rintro e w6 ⟨rfl, kb⟩
    have X6 := hide ((kb.block _ (blkC XX.out)).trans XX.out)
    have L6 := hide ((kb.block _ (blkC XL.out)).trans XL.out)
    have B6 := hide (BX.out.trans (kb.mono BX.out.size))
    have R6 := hide (And.intro (RX.out.1.kept (kb.mono ZX.out)) (RX.out.2.kept (kb.mono ZX.out)))
    have Z6 := hide (Nat.le_trans ZX.out kb.size)
    clear kb XX XL BX RX ZX HIM HSP HM z0 z1 z2 z3 z4 zf
    generalize w4.heap.size = g at *
    obtain ⟨z0, z1, z2, z3, z4, zf⟩ := cellsN5 X6.out
    obtain ⟨y0, y1, y2, y3, y4, yf⟩ := cellsN5 L6.out
    have hz5 : g < w6.heap.size := blkC X6.out
    have hz6 : w.heap.size < w6.heap.size := blkC L6.out
    clear X6 L6 yf zf
    go_wp2
    go_region_held3 (fun W => (W.cell? ⟨g, 0, none⟩ = some (.string nm) ∧ W.cell? ⟨g, 1, none⟩ = some (.slice d1 n1 s1) ∧ W.cell? ⟨g, 2, none⟩ = some (.slice d2 n2 s2) ∧ W.cell? ⟨g, 3, none⟩ = some (.slice d3 n3 s3) ∧ W.cell? ⟨g, 4, none⟩ = some (.slice d4 n4 s4)) ∧ (W.cell? ⟨w.heap.size, 0, none⟩ = some (.string nm) ∧ W.cell? ⟨w.heap.size, 1, none⟩ = some (.slice a1 n1 c1) ∧ W.cell? ⟨w.heap.size, 2, none⟩ = some (.slice a2 n2 c2) ∧ W.cell? ⟨w.heap.size, 3, none⟩ = some (.slice a3 n3 c3) ∧ W.cell? ⟨w.heap.size, 4, none⟩ = some (.slice a4 n4 c4))) (go_keep) (first | (go_at_call 6; refine (HTO.out HS.out _ B6.out.drew).mono ?_; rintro e w7 ⟨e1, f1, e2, f2, e3, f3, e4, f4, rfl, k1, k2, kb⟩; have kb7 : Below w6.heap.size w6 w7 := (Below.refl _ _).drew.trans kb; have B7 := hide (B6.out.trans (kb7.mono B6.out.size)); have R7 := hide (And.intro k1 k2); have Z7 := hide kb7.size; have R67 := hide (And.intro (R6.out.1.kept (kb7.mono Z6.out)) (R6.out.2.kept (kb7.mono Z6.out))); obtain ⟨hc7, hf7⟩ := bcell kb7; have K7 := hide kb7; clear k1 k2 kb kb7) | (go_at_call 8; refine (HEQ.out HS.out _ _ _ _ _ _ _ _ _ _ _ _ _ _ _ _ _ _ _ _ _ (Nat.le_trans Z6.out Z7.out) (Nat.le_refl _) R67.out.1 R67.out.2 R7.out.1 R7.out.2).mono ?_; rintro e w8 ⟨rfl, kb8⟩; have B8 := hide (B7.out.trans (kb8.mono B7.out.size)); have kb9 : Below w6.heap.size w6 w8 := K7.out.trans (kb8.mono K7.out.size); obtain ⟨hc8, hf8⟩ := bcell kb9; clear kb8 kb9))
    all_goals
      go_wp2
      go_ret
      exact ⟨rfl, B8.out⟩
end Go.Proofs.YtkhklfnhninkjaaGreat
