/-
  What came in as an argument: numbers; a schema.
-/
import Derived.Test.YtpbbmmapbmgijaaRows
import Derived.Test.YtpbbmmapbmgijaaSRow
import Derived.WalkKit
import Derived.ProofKit
import Derived.Deep.Slices
import Derived.Deep.Strs
import Derived.OpenShut
import Derived.ChangeSame
namespace Go.Proofs.Ytpbbmmapbmgijaa
open Go.RowKit Go.ChangeShapes Go.WideShapes
set_option maxRecDepth 100000

def IsNums (w : World) (v : Value) : Prop := ∃ ao cap l, v = .slice ao l.length cap ∧ (l.length ≤ cap ∧ cap ≤ maxLen) ∧ IntRow w 0 w.heap.size ao l
def IsSch (w : World) (v : Value) : Prop := ∃ ao c1 ko c2 xo c3 s, v = .agg #[.string s.name, .slice ao s.cols.length c1, .slice ko s.key.length c2, .slice xo s.idx.length c3] ∧ SchRow w 0 w.heap.size ao ko xo c2 s

section
variable {H : Type} {enc : TypeId × Value → H} {W : World}

theorem addOffS (b off : Nat) (k : Nat) : (⟨b, off, none⟩ : Addr).add k = ⟨b, off + k, none⟩ := by unfold Addr.add; split <;> simp_all
theorem listOf {α : Type} {n : Nat} {p : Nat → α → Prop} (h : ∀ i, i < n → ∃ x, p i x) : ∃ l : List α, l.length = n ∧ ∀ i (hi : i < l.length), p i l[i] := by
  induction n with
  | zero => exact ⟨[], rfl, fun i hi => by simp at hi⟩
  | succ n ih =>
    obtain ⟨l, hl, hp⟩ := ih (fun i hi => h i (by omega))
    obtain ⟨x, hx⟩ := h n (by omega)
    refine ⟨l ++ [x], by simp [hl], fun i hi => ?_⟩
    by_cases hi' : i < l.length
    · rw [List.getElem_append_left hi']; exact hp i hi'
    · have e : i = n := by simp at hi; omega
      subst e
      rw [List.getElem_append_right (by omega)]
      simpa [hl] using hx
/-- A slice whose elements can each be read as a thing. -/
theorem readSlice {α : Type} {t e : TypeId} {n : Nat} (hn : 1 ≤ n) (ht : Try.prog.underlying t = some (.slice e)) (hC : Try.prog.cellsOf e = n) (p : List Value → α → Prop) {base : Nat} {spare : Nat → Bool} {held : Bool}
    (he : ∀ fuel cs y, DataW.trod enc Try.prog W base spare held fuel e cs = some y → ∃ x, p cs x) {fuel : Nat} {cs : List Value} {y : DataW H × List MemPlace} (h : DataW.trod enc Try.prog W base spare held fuel t cs = some y) :
    ∃ ao cap l, cs = [.slice ao (List.length l) cap] ∧ (l.length ≤ cap ∧ cap ≤ maxLen) ∧ (l.length = 0 ∨ ∃ b off, ao = some ⟨b, off, none⟩ ∧ b < W.heap.size) ∧
      ∀ b off, ao = some ⟨b, off, none⟩ → ∀ i (hi : i < l.length), ∃ cs', p cs' l[i] ∧ cs'.length = n ∧ ∀ j (hj : j < cs'.length), W.cell? ⟨b, off + i * n + j, none⟩ = some cs'[j] := by
  rcases Deep.open_slice ht h with ⟨hcs, _⟩ | ⟨a, len', cap', m, n', D, Pl, hcs, _, hl, hm, hmm, _, hx⟩
  · exact ⟨none, 0, [], by simpa using hcs, ⟨Nat.le_refl _, Nat.zero_le _⟩, .inl rfl, fun b off e => by cases e⟩
  · rw [hC] at hx
    have hlm : len' ≤ m := by rw [hmm]; split <;> omega
    obtain ⟨l, hvl, hvp⟩ := listOf (n := len') (p := fun i (x : α) => ∃ cs', p cs' x ∧ cs'.length = n ∧ ∀ j (hj : j < cs'.length), W.cell? ((a.add (i * n)).add j) = some cs'[j]) (fun i hi => by
      obtain ⟨cs', h1, h2⟩ := hx i (by omega)
      obtain ⟨x, hp⟩ := he _ _ _ h2
      obtain ⟨_, hlen, hc⟩ := World.cells?_some h1
      exact ⟨x, cs', hp, hlen, fun j hj => (hc j (by omega)).trans (List.getElem?_eq_getElem hj)⟩)
    subst hvl
    obtain ⟨b, off, spot⟩ := a
    refine ⟨_, cap', l, hcs, ⟨hl, hm⟩, ?_, ?_⟩
    · by_cases h0 : l.length = 0
      · exact .inl h0
      · obtain ⟨cs', _, hlen, hc⟩ := hvp 0 (by omega)
        have h1 := hc 0 (by omega)
        have hspot : spot = none := by simpa [Addr.add] using World.cell?_spot h1
        subst hspot
        simp only [addOffS] at h1
        exact .inr ⟨b, off, rfl, by simpa using block_lt_of_cell h1⟩
    · intro b' off' e i hi
      cases e
      obtain ⟨cs', hp, hlen, hc⟩ := hvp i hi
      exact ⟨cs', hp, hlen, fun j hj => by have := hc j hj; simpa only [addOffS] using this⟩
theorem getD_of {α : Type} (l : List α) (d : α) (i : Nat) (h : i < l.length) : l.getD i d = l[i] := by
  rw [List.getD_eq_getElem?_getD, List.getElem?_eq_getElem h]; rfl
theorem readNums {base : Nat} {spare : Nat → Bool} {held : Bool} {fuel : Nat} {cs : List Value} {y : DataW H × List MemPlace} (h : DataW.trod enc Try.prog W base spare held fuel 30 cs = some y) :
    ∃ ao cap l, cs = [.slice ao (List.length l) cap] ∧ (l.length ≤ cap ∧ cap ≤ maxLen) ∧ IntRow W 0 W.heap.size ao l := by
  obtain ⟨ao, cap, l, rfl, hc, hb, hx⟩ := readSlice (n := 1) (Nat.le_refl _) Try.underlying30 (by kernel_rfl) (fun cs (x : Int) => cs = [.int .i64 x] ∧ inI64 x) (fun fuel cs y h => by
    obtain ⟨a, ea, _, wa⟩ := DataW.trod_int Try.underlying2 h
    exact ⟨a, ea, bounds_i64 wa⟩) h
  refine ⟨ao, cap, l, rfl, hc, fun x hx' => ?_, ?_⟩
  · obtain ⟨i, hi, rfl⟩ := List.getElem_of_mem hx'
    rcases hb with h0 | ⟨b, off, e, _⟩
    · omega
    · obtain ⟨_, hp, _⟩ := hx b off e i hi
      exact hp.2
  · rcases hb with h0 | ⟨b, off, e, hlt⟩
    · exact .inl h0
    · refine .inr ⟨b, off, e, Nat.zero_le _, hlt, fun i hi => ?_⟩
      obtain ⟨cs', ⟨rfl, _⟩, _, hcell⟩ := hx b off e i hi
      have := hcell 0 (by simp)
      rw [getD_of l 0 i hi]; simpa using this
theorem readCol {base : Nat} {spare : Nat → Bool} {held : Bool} {fuel : Nat} {cs : List Value} {y : DataW H × List MemPlace} (h : DataW.trod enc Try.prog W base spare held fuel 89 cs = some y) :
    ∃ c : Col, cs = [.string c.name, .int .i64 c.kind, .bool c.nul] ∧ inI64 c.kind ∧ c.name.size ≤ maxLen := by
  obtain ⟨y0, y1, y2, n, _, hl, h0, h1, h2⟩ := Deep.trod_struct3 Try.underlying89 h
  have hC : Try.prog.cellsOf 89 = 3 := by kernel_rfl
  rw [hC] at hl
  match cs, hl with
  | [c0, c1, c2], _ =>
    have cI : Try.prog.cellsOf 2 = 1 := by kernel_rfl
    have cS : Try.prog.cellsOf 9 = 1 := by kernel_rfl
    have cB : Try.prog.cellsOf 4 = 1 := by kernel_rfl
    have e0 : (([c0, c1, c2] : List Value).drop 0).take (Try.prog.cellsOf 9) = [c0] := by rw [cS]; rfl
    have e1 : (([c0, c1, c2] : List Value).drop 1).take (Try.prog.cellsOf 2) = [c1] := by rw [cI]; rfl
    have e2 : (([c0, c1, c2] : List Value).drop 2).take (Try.prog.cellsOf 4) = [c2] := by rw [cB]; rfl
    have h0' : DataW.trod enc Try.prog W base spare held n 9 [c0] = some y0 := by rw [← e0]; exact h0
    have h1' : DataW.trod enc Try.prog W base spare held n 2 [c1] = some y1 := by rw [← e1]; exact h1
    have h2' : DataW.trod enc Try.prog W base spare held n 4 [c2] = some y2 := by rw [← e2]; exact h2
    obtain ⟨t, et, _, wt⟩ := DataW.trod_string Try.underlying9 h0'
    obtain ⟨a, ea, _, wa⟩ := DataW.trod_int Try.underlying2 h1'
    obtain ⟨u, eu, _⟩ := DataW.trod_bool Try.underlying4 h2'
    simp only [List.cons.injEq, and_true] at ea eu et
    subst ea eu et
    exact ⟨⟨t, a, u⟩, rfl, bounds_i64 wa, wt⟩
theorem readCols {base : Nat} {spare : Nat → Bool} {held : Bool} {fuel : Nat} {cs : List Value} {y : DataW H × List MemPlace} (h : DataW.trod enc Try.prog W base spare held fuel 29 cs = some y) :
    ∃ ao cap l, cs = [.slice ao (List.length l) cap] ∧ (l.length ≤ cap ∧ cap ≤ maxLen) ∧ ColRow W 0 W.heap.size ao l := by
  obtain ⟨ao, cap, l, rfl, hc, hb, hx⟩ := readSlice (n := 3) (by omega) Try.underlying29 (by kernel_rfl) (fun cs (c : Col) => cs = [.string c.name, .int .i64 c.kind, .bool c.nul] ∧ inI64 c.kind ∧ c.name.size ≤ maxLen) (fun fuel cs y h => readCol h) h
  refine ⟨ao, cap, l, rfl, hc, fun x hx' => ?_, ?_⟩
  · obtain ⟨i, hi, rfl⟩ := List.getElem_of_mem hx'
    rcases hb with h0 | ⟨b, off, e, _⟩
    · omega
    · obtain ⟨_, hp, _⟩ := hx b off e i hi
      exact hp.2
  · rcases hb with h0 | ⟨b, off, e, hlt⟩
    · exact .inl h0
    · refine .inr ⟨b, off, e, Nat.zero_le _, hlt, fun i hi => ?_⟩
      obtain ⟨cs', ⟨rfl, _⟩, _, hcell⟩ := hx b off e i hi
      rw [getD_of l noCol i hi]
      exact ⟨by simpa using hcell 0 (by simp), by simpa using hcell 1 (by simp), by simpa using hcell 2 (by simp)⟩
theorem readIdx {base : Nat} {spare : Nat → Bool} {held : Bool} {fuel : Nat} {cs : List Value} {y : DataW H × List MemPlace} (h : DataW.trod enc Try.prog W base spare held fuel 91 cs = some y) :
    ∃ x : Idx, ∃ io cp, cs = [.slice io x.cols.length cp, .bool x.uniq] ∧ (x.cols.length ≤ cp ∧ cp ≤ maxLen) ∧ IntRow W 0 W.heap.size io x.cols := by
  obtain ⟨y0, y1, n, _, hl, h0, h1⟩ := trod_struct2 Try.underlying91 h
  have hC : Try.prog.cellsOf 91 = 2 := by kernel_rfl
  rw [hC] at hl
  match cs, hl with
  | [c0, c1], _ =>
    have cI : Try.prog.cellsOf 30 = 1 := by kernel_rfl
    have cB : Try.prog.cellsOf 4 = 1 := by kernel_rfl
    have e0 : (([c0, c1] : List Value).drop 0).take (Try.prog.cellsOf 30) = [c0] := by rw [cI]; rfl
    have e1 : (([c0, c1] : List Value).drop 1).take (Try.prog.cellsOf 4) = [c1] := by rw [cB]; rfl
    have h0' : DataW.trod enc Try.prog W base spare held n 30 [c0] = some y0 := by rw [← e0]; exact h0
    have h1' : DataW.trod enc Try.prog W base spare held n 4 [c1] = some y1 := by rw [← e1]; exact h1
    obtain ⟨io, cp, l, et, hcp, hr⟩ := readNums h0'
    obtain ⟨u, eu, _⟩ := DataW.trod_bool Try.underlying4 h1'
    simp only [List.cons.injEq, and_true] at eu et
    subst eu et
    exact ⟨⟨l, u⟩, io, cp, rfl, hcp, hr⟩
theorem readIdxs {base : Nat} {spare : Nat → Bool} {held : Bool} {fuel : Nat} {cs : List Value} {y : DataW H × List MemPlace} (h : DataW.trod enc Try.prog W base spare held fuel 31 cs = some y) :
    ∃ ao cap l, cs = [.slice ao (List.length l) cap] ∧ (l.length ≤ cap ∧ cap ≤ maxLen) ∧ IdxRow W 0 W.heap.size ao l := by
  obtain ⟨ao, cap, l, rfl, hc, hb, hx⟩ := readSlice (n := 2) (by omega) Try.underlying31 (by kernel_rfl) (fun cs (x : Idx) => ∃ io cp, cs = [.slice io x.cols.length cp, .bool x.uniq] ∧ (x.cols.length ≤ cp ∧ cp ≤ maxLen) ∧ IntRow W 0 W.heap.size io x.cols) (fun fuel cs y h => readIdx h) h
  refine ⟨ao, cap, l, rfl, hc, ?_⟩
  rcases hb with h0 | ⟨b, off, e, hlt⟩
  · exact .inl h0
  · refine .inr ⟨b, off, e, Nat.zero_le _, hlt, fun i hi => ?_⟩
    obtain ⟨cs', ⟨io, cp, rfl, hcp, hr⟩, _, hcell⟩ := hx b off e i hi
    rw [getD_of l noIdx i hi]
    exact ⟨io, cp, by simpa using hcell 0 (by simp), by simpa using hcell 1 (by simp), hcp, hr⟩
theorem rdNums {base : Nat} {v : Value} {d : DataW H} {p : List MemPlace} (hv : Value.okWide Try.prog W .any base 30 v) (h : DataW.Trod enc Try.prog W 0 (fun _ => true) true 30 v d p) : IsNums W v := by
  obtain ⟨ao, len, cap, rfl⟩ := okWide_slice Try.underlying30 hv
  obtain ⟨fuel, hf⟩ := h
  obtain ⟨ao', cap', l, hcs, hc, hr⟩ := readNums hf
  simp [Value.cells] at hcs
  obtain ⟨rfl, rfl, rfl⟩ := hcs
  exact ⟨ao, cap, l, rfl, hc, hr⟩
theorem rdSch {base : Nat} {v : Value} {d : DataW H} {p : List MemPlace} (hv : Value.okWide Try.prog W .any base 33 v) (h : DataW.Trod enc Try.prog W 0 (fun _ => true) true 33 v d p) : IsSch W v := by
  obtain ⟨fuel, hf⟩ := h
  obtain ⟨cs, rfl, _⟩ := okWide_struct Try.underlying33 hv
  obtain ⟨ys, n, _, _, hl, hlen, hx⟩ := DataW.trod_struct Try.underlying33 hf
  have hC : Try.prog.cellsOf 33 = 4 := by kernel_rfl
  rw [hC] at hl
  match ys, hlen with
  | [y0, y1, y2, y3], _ =>
    have h0 := hx 0 _ rfl
    have h1 := hx 1 _ rfl
    have h2 := hx 2 _ rfl
    have h3 := hx 3 _ rfl
    obtain ⟨c0, c1, c2, c3, hcs⟩ : ∃ c0 c1 c2 c3, cs.toList = [c0, c1, c2, c3] := by
      have hl' : cs.toList.length = 4 := by simpa [Value.cells] using hl
      match hcl : cs.toList, hl' with
      | [c0, c1, c2, c3], _ => exact ⟨c0, c1, c2, c3, rfl⟩
    have hcv : (Value.agg cs).cells.toList = [c0, c1, c2, c3] := by simpa [Value.cells] using hcs
    rw [hcv] at h0 h1 h2 h3
    have cS : Try.prog.cellsOf 9 = 1 := by kernel_rfl
    have cC : Try.prog.cellsOf 29 = 1 := by kernel_rfl
    have cN : Try.prog.cellsOf 30 = 1 := by kernel_rfl
    have cX : Try.prog.cellsOf 31 = 1 := by kernel_rfl
    have e0 : (([c0, c1, c2, c3] : List Value).drop 0).take (Try.prog.cellsOf 9) = [c0] := by rw [cS]; rfl
    have e1 : (([c0, c1, c2, c3] : List Value).drop 1).take (Try.prog.cellsOf 29) = [c1] := by rw [cC]; rfl
    have e2 : (([c0, c1, c2, c3] : List Value).drop 2).take (Try.prog.cellsOf 30) = [c2] := by rw [cN]; rfl
    have e3 : (([c0, c1, c2, c3] : List Value).drop 3).take (Try.prog.cellsOf 31) = [c3] := by rw [cX]; rfl
    have h0' : DataW.trod enc Try.prog W 0 (fun _ => true) true n 9 [c0] = some y0 := by rw [← e0]; exact h0
    have h1' : DataW.trod enc Try.prog W 0 (fun _ => true) true n 29 [c1] = some y1 := by rw [← e1]; exact h1
    have h2' : DataW.trod enc Try.prog W 0 (fun _ => true) true n 30 [c2] = some y2 := by rw [← e2]; exact h2
    have h3' : DataW.trod enc Try.prog W 0 (fun _ => true) true n 31 [c3] = some y3 := by rw [← e3]; exact h3
    obtain ⟨t, et, _, wt⟩ := DataW.trod_string Try.underlying9 h0'
    obtain ⟨ao, k1, lc, ec, hk1, hrc⟩ := readCols h1'
    obtain ⟨ko, k2, ln, en, hk2, hrn⟩ := readNums h2'
    obtain ⟨xo, k3, lx, ex, hk3, hrx⟩ := readIdxs h3'
    simp only [List.cons.injEq, and_true] at et ec en ex
    subst et ec en ex
    refine ⟨ao, k1, ko, k2, xo, k3, ⟨t, lc, ln, lx⟩, ?_, ⟨wt, Nat.le_trans hk1.1 hk1.2, hk2, Nat.le_trans hk3.1 hk3.2⟩, hrc, hrn, hrx⟩
    rw [← Array.toArray_toList (xs := cs), hcs]
end
end Go.Proofs.Ytpbbmmapbmgijaa
