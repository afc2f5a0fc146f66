/-
  Ops: what they are as a list of cells, and when they are right. Plain laws.
-/
import Derived.Test.YtpbbmmapbmgijaaSRight
import Derived.Test.YtpbbmmapbmgijaaVRow
import Derived.Test.YtpbbmmapbmgijaaKeyPlain
import Derived.Test.YtpbbmmapbmgijaaName
namespace Go.Proofs.Ytpbbmmapbmgijaa
open Go.RowKit
set_option maxRecDepth 100000

structure Opn where
  kind : Int
  table : ByteArray
  sch : Sch
  row : List Val
def noOp : Opn := ⟨0, ByteArray.empty, ⟨ByteArray.empty, [], [], []⟩, []⟩
/-- Is it the zero schema? -/
def noSchB (s : Sch) : Bool := s.name.toList.isEmpty && decide (s.cols.length = 0) && decide (s.key.length = 0) && decide (s.idx.length = 0)
/-- Is an op right? -/
def opOk (o : Opn) : Bool :=
  if o.kind = 1 then schRight o.sch && o.table.toList.isEmpty && decide (o.row.length = 0)
  else if o.kind = 2 ∨ o.kind = 3 ∨ o.kind = 4 then nameOk o.table.data.toList && noSchB o.sch && vsRight o.row else false
def opsOk (l : List Opn) : Bool := decide (1 ≤ l.length) && decide (l.length ≤ 20) && upto (fun i => opOk (l.getD i noOp)) l.length
/-- Values whose block is not below A. -/
def VRowA (w : World) (A B : Nat) (vo : Option Addr) (vs : List Val) : Prop := ValRow w B vo vs ∧ (vs.length = 0 ∨ ∃ b off, vo = some ⟨b, off, none⟩ ∧ A ≤ b)
theorem VRowA.kept {w w' : World} {A B : Nat} {vo : Option Addr} {vs : List Val} (h : VRowA w A B vo vs) (hb : Below B w w') : VRowA w' A B vo vs := ⟨h.1.kept hb, h.2⟩
theorem VRowA.mono {w : World} {A B A' C : Nat} {vo : Option Addr} {vs : List Val} (h : VRowA w A B vo vs) (ha : A' ≤ A) (hc : B ≤ C) : VRowA w A' C vo vs :=
  ⟨h.1.mono hc, h.2.imp id (fun ⟨b, off, e, hA⟩ => ⟨b, off, e, Nat.le_trans ha hA⟩)⟩
theorem VRowA.other {w : World} {A B : Nat} {vo : Option Addr} {vs : List Val} (h : VRowA w A B vo vs) (g m : Nat) (v : Value) (hg : g < A) : VRowA (w.setCell ⟨g, m, none⟩ v) A B vo vs := by
  refine ⟨⟨h.1.1, h.1.2.1, ?_⟩, h.2⟩
  rcases h.1.2.2 with h0 | ⟨b, off, e, hB, hc⟩
  · exact .inl h0
  · rcases h.2 with h0 | ⟨b', off', e', hA⟩
    · exact .inl h0
    · rw [e] at e'
      obtain ⟨rfl, rfl⟩ : b = b' ∧ off = off' := by simpa using e'
      refine .inr ⟨b, off, e, hB, fun i hi => ?_⟩
      obtain ⟨d0, d1, d2⟩ := hc i hi
      have hne : ∀ k, (⟨g, m, none⟩ : Addr) ≠ ⟨b, k, none⟩ := fun k e' => by have : g = b := congrArg Addr.block e'; omega
      exact ⟨(World.cell?_setCell_other w _ _ v (hne _)).trans d0, (World.cell?_setCell_other w _ _ v (hne _)).trans d1, (World.cell?_setCell_other w _ _ v (hne _)).trans d2⟩
/-- An op's cells: what they hold lies within [A, B). -/
def OpEl (w : World) (A B : Nat) (o : Opn) (cs : List Value) : Prop := ∃ ao c1 ko c2 xo c3 vo c4,
  cs = [.int .i64 o.kind, .string o.table, .string o.sch.name, .slice ao o.sch.cols.length c1, .slice ko o.sch.key.length c2, .slice xo o.sch.idx.length c3, .slice vo o.row.length c4] ∧
    (inI64 o.kind ∧ o.table.size ≤ maxLen ∧ o.row.length ≤ maxLen) ∧ SchRow w A B ao ko xo c2 o.sch ∧ VRowA w A B vo o.row
theorem OpEl.kept {w w' : World} {A B : Nat} {o : Opn} {cs : List Value} (h : OpEl w A B o cs) (hb : Below B w w') : OpEl w' A B o cs := by
  obtain ⟨ao, c1, ko, c2, xo, c3, vo, c4, e, hk, hs, hv⟩ := h
  exact ⟨ao, c1, ko, c2, xo, c3, vo, c4, e, hk, hs.kept hb, hv.kept hb⟩
theorem OpEl.mono {w : World} {A B A' C : Nat} {o : Opn} {cs : List Value} (h : OpEl w A B o cs) (ha : A' ≤ A) (hc : B ≤ C) : OpEl w A' C o cs := by
  obtain ⟨ao, c1, ko, c2, xo, c3, vo, c4, e, hk, hs, hv⟩ := h
  exact ⟨ao, c1, ko, c2, xo, c3, vo, c4, e, hk, hs.mono ha hc, hv.mono ha hc⟩
theorem OpEl.other {w : World} {A B : Nat} {o : Opn} {cs : List Value} (h : OpEl w A B o cs) (g m : Nat) (v : Value) (hg : g < A) : OpEl (w.setCell ⟨g, m, none⟩ v) A B o cs := by
  obtain ⟨ao, c1, ko, c2, xo, c3, vo, c4, e, hk, hs, hv⟩ := h
  exact ⟨ao, c1, ko, c2, xo, c3, vo, c4, e, hk, hs.other g m v hg, hv.other g m v hg⟩
/-- Ops that lie one behind the other. -/
def OpRow (w : World) (A B : Nat) (ao : Option Addr) (l : List Opn) : Prop :=
  l.length = 0 ∨ ∃ b off, ao = some ⟨b, off, none⟩ ∧ A ≤ b ∧ b < B ∧ ∀ i, i < l.length → ∃ cs, OpEl w A B (l.getD i noOp) cs ∧ ∀ j u, cs[j]? = some u → w.cell? ⟨b, off + i * 7 + j, none⟩ = some u
theorem OpRow.kept {w w' : World} {A B : Nat} {ao : Option Addr} {l : List Opn} (h : OpRow w A B ao l) (hb : Below B w w') : OpRow w' A B ao l := by
  rcases h with h0 | ⟨b, off, e, hA, hB, hc⟩
  · exact .inl h0
  · refine .inr ⟨b, off, e, hA, hB, fun i hi => ?_⟩
    obtain ⟨cs, he, hj⟩ := hc i hi
    exact ⟨cs, he.kept hb, fun j u hu => (hb.cell (p := ⟨b, _, none⟩) hB).trans (hj j u hu)⟩
theorem OpRow.at {w : World} {A B : Nat} {ao : Option Addr} {l : List Opn} (h : OpRow w A B ao l) (i : Nat) (hi : i < l.length) :
    ∃ b off o a1 c1 a2 c2 a3 c3 a4 c4, ao = some ⟨b, off, none⟩ ∧ b < B ∧ l.getD i noOp = o ∧ (inI64 o.kind ∧ o.table.size ≤ maxLen ∧ o.row.length ≤ maxLen) ∧ SchRow w A B a1 a2 a3 c2 o.sch ∧ VRowA w A B a4 o.row ∧
      w.cell? ⟨b, off + i * 7, none⟩ = some (.int .i64 o.kind) ∧ w.cell? ⟨b, off + i * 7 + 1, none⟩ = some (.string o.table) ∧ w.cell? ⟨b, off + i * 7 + 2, none⟩ = some (.string o.sch.name) ∧ w.cell? ⟨b, off + i * 7 + 3, none⟩ = some (.slice a1 o.sch.cols.length c1) ∧
      w.cell? ⟨b, off + i * 7 + 4, none⟩ = some (.slice a2 o.sch.key.length c2) ∧ w.cell? ⟨b, off + i * 7 + 5, none⟩ = some (.slice a3 o.sch.idx.length c3) ∧ w.cell? ⟨b, off + i * 7 + 6, none⟩ = some (.slice a4 o.row.length c4) := by
  rcases h with h0 | ⟨b, off, e, hA, hB, hc⟩
  · omega
  · obtain ⟨cs, ⟨a1, c1, a2, c2, a3, c3, a4, c4, rfl, hk, hs, hv⟩, hj⟩ := hc i hi
    exact ⟨b, off, _, a1, c1, a2, c2, a3, c3, a4, c4, e, hB, rfl, hk, hs, hv, hj 0 _ rfl, hj 1 _ rfl, hj 2 _ rfl, hj 3 _ rfl, hj 4 _ rfl, hj 5 _ rfl, hj 6 _ rfl⟩
/-- The first k ops stand in a block's cells. -/
def OpCur (w : World) (g : Nat) (cur : List Value) (l : List Opn) (k : Nat) : Prop :=
  ∀ i, i < k → ∃ cs, OpEl w (g + 1) w.heap.size (l.getD i noOp) cs ∧ ∀ j u, cs[j]? = some u → cur[i * 7 + j]? = some u
theorem opEl_len {w : World} {A B : Nat} {o : Opn} {cs : List Value} (h : OpEl w A B o cs) : cs.length = 7 := by
  obtain ⟨_, _, _, _, _, _, _, _, rfl, _⟩ := h
  rfl
def set7 (w : World) (g m : Nat) (x0 x1 x2 x3 x4 x5 x6 : Value) : World :=
  ((((((w.setCell ⟨g, m, none⟩ x0).setCell ⟨g, m + 1, none⟩ x1).setCell ⟨g, m + 2, none⟩ x2).setCell ⟨g, m + 3, none⟩ x3).setCell ⟨g, m + 4, none⟩ x4).setCell ⟨g, m + 5, none⟩ x5).setCell ⟨g, m + 6, none⟩ x6
def lset7 (cur : List Value) (m : Nat) (x0 x1 x2 x3 x4 x5 x6 : Value) : List Value :=
  ((((((cur.set m x0).set (m + 1) x1).set (m + 2) x2).set (m + 3) x3).set (m + 4) x4).set (m + 5) x5).set (m + 6) x6
theorem lset7_len (cur : List Value) (m : Nat) (x0 x1 x2 x3 x4 x5 x6 : Value) : (lset7 cur m x0 x1 x2 x3 x4 x5 x6).length = cur.length := by simp [lset7]
theorem lset7_out {cur : List Value} {m i : Nat} {x0 x1 x2 x3 x4 x5 x6 : Value} (h : i < m ∨ m + 7 ≤ i) : (lset7 cur m x0 x1 x2 x3 x4 x5 x6)[i]? = cur[i]? := by
  unfold lset7
  rw [List.getElem?_set_ne (by omega), List.getElem?_set_ne (by omega), List.getElem?_set_ne (by omega), List.getElem?_set_ne (by omega), List.getElem?_set_ne (by omega), List.getElem?_set_ne (by omega), List.getElem?_set_ne (by omega)]
theorem lset7_in {cur : List Value} {m : Nat} {x0 x1 x2 x3 x4 x5 x6 : Value} (h : m + 7 ≤ cur.length) : ∀ j u, [x0, x1, x2, x3, x4, x5, x6][j]? = some u → (lset7 cur m x0 x1 x2 x3 x4 x5 x6)[m + j]? = some u := by
  intro j u hu
  have hj : j < 7 := (List.getElem?_eq_some_iff.1 hu).1
  unfold lset7
  match j, hj, hu with
  | 0, _, hu | 1, _, hu | 2, _, hu | 3, _, hu | 4, _, hu | 5, _, hu | 6, _, hu =>
    simp at hu
    subst hu
    simp only [List.getElem?_set, List.length_set]
    simp
    omega
theorem set7_heap {W : World} {g m : Nat} {cur : List Value} {t : TypeId} {x0 x1 x2 x3 x4 x5 x6 : Value} (h : W.heap[g]? = some (.cells cur.toArray t (0, 0))) :
    (set7 W g m x0 x1 x2 x3 x4 x5 x6).heap[g]? = some (.cells (lset7 cur m x0 x1 x2 x3 x4 x5 x6).toArray t (0, 0)) := by
  have h0 := heap_setCell_same W g m _ t x0 h
  have h1 := heap_setCell_same _ g (m + 1) _ t x1 h0
  have h2 := heap_setCell_same _ g (m + 2) _ t x2 h1
  have h3 := heap_setCell_same _ g (m + 3) _ t x3 h2
  have h4 := heap_setCell_same _ g (m + 4) _ t x4 h3
  have h5 := heap_setCell_same _ g (m + 5) _ t x5 h4
  have h6 := heap_setCell_same _ g (m + 6) _ t x6 h5
  unfold set7 lset7
  rw [h6]; simp
theorem set7_below {W w : World} {g m B : Nat} {x0 x1 x2 x3 x4 x5 x6 : Value} (h : Below B w W) (hg : B ≤ g) : Below B w (set7 W g m x0 x1 x2 x3 x4 x5 x6) :=
  ((((((h.setCell (p := ⟨g, m, none⟩) hg x0).setCell (p := ⟨g, m + 1, none⟩) hg x1).setCell (p := ⟨g, m + 2, none⟩) hg x2).setCell (p := ⟨g, m + 3, none⟩) hg x3).setCell (p := ⟨g, m + 4, none⟩) hg x4).setCell (p := ⟨g, m + 5, none⟩) hg x5).setCell (p := ⟨g, m + 6, none⟩) hg x6
theorem OpEl.other7 {W : World} {A B : Nat} {o : Opn} {cs : List Value} (h : OpEl W A B o cs) {g m : Nat} {x0 x1 x2 x3 x4 x5 x6 : Value} (hg : g < A) : OpEl (set7 W g m x0 x1 x2 x3 x4 x5 x6) A B o cs :=
  ((((((h.other g m x0 hg).other g (m + 1) x1 hg).other g (m + 2) x2 hg).other g (m + 3) x3 hg).other g (m + 4) x4 hg).other g (m + 5) x5 hg).other g (m + 6) x6 hg
theorem set7_size (W : World) (g m : Nat) (x0 x1 x2 x3 x4 x5 x6 : Value) : (set7 W g m x0 x1 x2 x3 x4 x5 x6).heap.size = W.heap.size := by simp [set7]
theorem opCur_step {w w' : World} {g : Nat} {cur : List Value} {l : List Opn} {k : Nat} (h : OpCur w g cur l k) (hb : Below w.heap.size w w') (hl : k * 7 + 7 ≤ cur.length) {x0 x1 x2 x3 x4 x5 x6 : Value}
    (he : OpEl w' (g + 1) w'.heap.size (l.getD k noOp) [x0, x1, x2, x3, x4, x5, x6]) : OpCur (set7 w' g (k * 7) x0 x1 x2 x3 x4 x5 x6) g (lset7 cur (k * 7) x0 x1 x2 x3 x4 x5 x6) l (k + 1) := by
  intro i hi
  rw [set7_size]
  by_cases hik : i = k
  · subst hik
    exact ⟨_, he.other7 (Nat.lt_succ_self _), lset7_in hl⟩
  · obtain ⟨cs, h1, h2⟩ := h i (by omega)
    have h7 := opEl_len h1
    refine ⟨cs, ((h1.kept hb).mono (Nat.le_refl _) hb.size).other7 (Nat.lt_succ_self _), fun j u hu => ?_⟩
    have hj := (List.getElem?_eq_some_iff.1 hu).1
    rw [lset7_out (by omega)]
    exact h2 j u hu
theorem opRow_of {w : World} {g : Nat} {cur : List Value} {t : TypeId} {f : Nat × Nat} {l : List Opn} (hg : w.heap[g]? = some (.cells cur.toArray t f)) (hc : OpCur w g cur l l.length) : OpRow w g w.heap.size (some ⟨g, 0, none⟩) l := by
  have hlt : g < w.heap.size := (Array.getElem?_eq_some_iff.1 hg).1
  refine .inr ⟨g, 0, rfl, Nat.le_refl _, hlt, fun i hi => ?_⟩
  obtain ⟨cs, he, hj⟩ := hc i hi
  refine ⟨cs, he.mono (Nat.le_succ _) (Nat.le_refl _), fun j u hu => ?_⟩
  rw [cell_of_row _ _ _ _ _ _ hg, List.getElem?_toArray, Nat.zero_add, hj j u hu]
end Go.Proofs.Ytpbbmmapbmgijaa
