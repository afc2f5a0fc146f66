/-
  Contracts and plain laws: OpP, OpSz, VTo, OpTo, OpTo2, OpEq, ReadSch, OpRd
-/
import Derived.Test.YtnangmjcgjlndaaGreatSRight
import Derived.Test.YtnangmjcgjlndaaGreatVRow
import Derived.Test.YtnangmjcgjlndaaGreatKeyPlain
import Derived.Test.YtnangmjcgjlndaaGreatName
import Derived.Test.YtnangmjcgjlndaaGreatSSize
import Derived.Deep.CutRange
import Derived.Test.YtnangmjcgjlndaaGreatVals2
import Derived.Test.YtnangmjcgjlndaaGreatOwnV
import Derived.Test.YtnangmjcgjlndaaGreatSCopy3
import Derived.Test.YtnangmjcgjlndaaGreatBase
import Derived.Test.YtnangmjcgjlndaaGreatSEq
import Derived.Test.YtnangmjcgjlndaaGreatEqV
import Derived.Deep.RegionHeld3
import Derived.Test.YtnangmjcgjlndaaGreatRows
import Derived.Test.YtnangmjcgjlndaaGreatSRow
import Derived.WalkKit
import Derived.ProofKit
import Derived.Deep.Slices
import Derived.Deep.Strs
import Derived.OpenShut
import Derived.ChangeSame
import Derived.Test.YtnangmjcgjlndaaGreatReadVal

/-
  Ops: what they are as a list of cells, and when they are right. Plain laws.
-/
namespace Go.Proofs.YtnangmjcgjlndaaGreat
open Go.RowKit
set_option maxRecDepth 100000

structure Opn where
  kind : Int
  table : ByteArray
  sch : Sch
  row : List Val
def noOp : Opn := ⟨0, ByteArray.empty, ⟨ByteArray.empty, [], [], []⟩, []⟩
/-- Is it the zero schema? -/
def noSchB (s : Sch) : Bool := s.name.toList.isEmpty && decide (s.cols.length = 0) && decide (s.key.length = 0) && decide (s.idx.length = 0)
/-- Is an op right? -/
def opOk (o : Opn) : Bool :=
  if o.kind = 1 then schRight o.sch && o.table.toList.isEmpty && decide (o.row.length = 0)
  else if o.kind = 2 ∨ o.kind = 3 ∨ o.kind = 4 then nameOk o.table.data.toList && noSchB o.sch && vsRight o.row else false
def opsOk (l : List Opn) : Bool := decide (1 ≤ l.length) && decide (l.length ≤ 20) && upto (fun i => opOk (l.getD i noOp)) l.length
/-- Values whose block is not below A. -/
def VRowA (w : World) (A B : Nat) (vo : Option Addr) (vs : List Val) : Prop := ValRow w B vo vs ∧ (vs.length = 0 ∨ ∃ b off, vo = some ⟨b, off, none⟩ ∧ A ≤ b)
theorem VRowA.kept {w w' : World} {A B : Nat} {vo : Option Addr} {vs : List Val} (h : VRowA w A B vo vs) (hb : Below B w w') : VRowA w' A B vo vs := ⟨h.1.kept hb, h.2⟩
theorem VRowA.mono {w : World} {A B A' C : Nat} {vo : Option Addr} {vs : List Val} (h : VRowA w A B vo vs) (ha : A' ≤ A) (hc : B ≤ C) : VRowA w A' C vo vs :=
  ⟨h.1.mono hc, h.2.imp id (fun ⟨b, off, e, hA⟩ => ⟨b, off, e, Nat.le_trans ha hA⟩)⟩
theorem VRowA.other {w : World} {A B : Nat} {vo : Option Addr} {vs : List Val} (h : VRowA w A B vo vs) (g m : Nat) (v : Value) (hg : g < A) : VRowA (w.setCell ⟨g, m, none⟩ v) A B vo vs := by
  refine ⟨⟨h.1.1, h.1.2.1, ?_⟩, h.2⟩
  rcases h.1.2.2 with h0 | ⟨b, off, e, hB, hc⟩
  · exact .inl h0
  · rcases h.2 with h0 | ⟨b', off', e', hA⟩
    · exact .inl h0
    · rw [e] at e'
      obtain ⟨rfl, rfl⟩ : b = b' ∧ off = off' := by simpa using e'
      refine .inr ⟨b, off, e, hB, fun i hi => ?_⟩
      obtain ⟨d0, d1, d2⟩ := hc i hi
      have hne : ∀ k, (⟨g, m, none⟩ : Addr) ≠ ⟨b, k, none⟩ := fun k e' => by have : g = b := congrArg Addr.block e'; omega
      exact ⟨(World.cell?_setCell_other w _ _ v (hne _)).trans d0, (World.cell?_setCell_other w _ _ v (hne _)).trans d1, (World.cell?_setCell_other w _ _ v (hne _)).trans d2⟩
/-- An op's cells: what they hold lies within [A, B). -/
def OpEl (w : World) (A B : Nat) (o : Opn) (cs : List Value) : Prop := ∃ ao c1 ko c2 xo c3 vo c4,
  cs = [.int .i64 o.kind, .string o.table, .string o.sch.name, .slice ao o.sch.cols.length c1, .slice ko o.sch.key.length c2, .slice xo o.sch.idx.length c3, .slice vo o.row.length c4] ∧
    (inI64 o.kind ∧ o.table.size ≤ maxLen ∧ o.row.length ≤ maxLen) ∧ SchRow w A B ao ko xo c2 o.sch ∧ VRowA w A B vo o.row
theorem OpEl.kept {w w' : World} {A B : Nat} {o : Opn} {cs : List Value} (h : OpEl w A B o cs) (hb : Below B w w') : OpEl w' A B o cs := by
  obtain ⟨ao, c1, ko, c2, xo, c3, vo, c4, e, hk, hs, hv⟩ := h
  exact ⟨ao, c1, ko, c2, xo, c3, vo, c4, e, hk, hs.kept hb, hv.kept hb⟩
theorem OpEl.mono {w : World} {A B A' C : Nat} {o : Opn} {cs : List Value} (h : OpEl w A B o cs) (ha : A' ≤ A) (hc : B ≤ C) : OpEl w A' C o cs := by
  obtain ⟨ao, c1, ko, c2, xo, c3, vo, c4, e, hk, hs, hv⟩ := h
  exact ⟨ao, c1, ko, c2, xo, c3, vo, c4, e, hk, hs.mono ha hc, hv.mono ha hc⟩
theorem OpEl.other {w : World} {A B : Nat} {o : Opn} {cs : List Value} (h : OpEl w A B o cs) (g m : Nat) (v : Value) (hg : g < A) : OpEl (w.setCell ⟨g, m, none⟩ v) A B o cs := by
  obtain ⟨ao, c1, ko, c2, xo, c3, vo, c4, e, hk, hs, hv⟩ := h
  exact ⟨ao, c1, ko, c2, xo, c3, vo, c4, e, hk, hs.other g m v hg, hv.other g m v hg⟩
/-- Ops that lie one behind the other. -/
def OpRow (w : World) (A B : Nat) (ao : Option Addr) (l : List Opn) : Prop :=
  l.length = 0 ∨ ∃ b off, ao = some ⟨b, off, none⟩ ∧ A ≤ b ∧ b < B ∧ ∀ i, i < l.length → ∃ cs, OpEl w A B (l.getD i noOp) cs ∧ ∀ j u, cs[j]? = some u → w.cell? ⟨b, off + i * 7 + j, none⟩ = some u
theorem OpRow.kept {w w' : World} {A B : Nat} {ao : Option Addr} {l : List Opn} (h : OpRow w A B ao l) (hb : Below B w w') : OpRow w' A B ao l := by
  rcases h with h0 | ⟨b, off, e, hA, hB, hc⟩
  · exact .inl h0
  · refine .inr ⟨b, off, e, hA, hB, fun i hi => ?_⟩
    obtain ⟨cs, he, hj⟩ := hc i hi
    exact ⟨cs, he.kept hb, fun j u hu => (hb.cell (p := ⟨b, _, none⟩) hB).trans (hj j u hu)⟩
theorem OpRow.at {w : World} {A B : Nat} {ao : Option Addr} {l : List Opn} (h : OpRow w A B ao l) (i : Nat) (hi : i < l.length) :
    ∃ b off o a1 c1 a2 c2 a3 c3 a4 c4, ao = some ⟨b, off, none⟩ ∧ b < B ∧ l.getD i noOp = o ∧ (inI64 o.kind ∧ o.table.size ≤ maxLen ∧ o.row.length ≤ maxLen) ∧ SchRow w A B a1 a2 a3 c2 o.sch ∧ VRowA w A B a4 o.row ∧
      w.cell? ⟨b, off + i * 7, none⟩ = some (.int .i64 o.kind) ∧ w.cell? ⟨b, off + i * 7 + 1, none⟩ = some (.string o.table) ∧ w.cell? ⟨b, off + i * 7 + 2, none⟩ = some (.string o.sch.name) ∧ w.cell? ⟨b, off + i * 7 + 3, none⟩ = some (.slice a1 o.sch.cols.length c1) ∧
      w.cell? ⟨b, off + i * 7 + 4, none⟩ = some (.slice a2 o.sch.key.length c2) ∧ w.cell? ⟨b, off + i * 7 + 5, none⟩ = some (.slice a3 o.sch.idx.length c3) ∧ w.cell? ⟨b, off + i * 7 + 6, none⟩ = some (.slice a4 o.row.length c4) := by
  rcases h with h0 | ⟨b, off, e, hA, hB, hc⟩
  · omega
  · obtain ⟨cs, ⟨a1, c1, a2, c2, a3, c3, a4, c4, rfl, hk, hs, hv⟩, hj⟩ := hc i hi
    exact ⟨b, off, _, a1, c1, a2, c2, a3, c3, a4, c4, e, hB, rfl, hk, hs, hv, hj 0 _ rfl, hj 1 _ rfl, hj 2 _ rfl, hj 3 _ rfl, hj 4 _ rfl, hj 5 _ rfl, hj 6 _ rfl⟩
/-- The first k ops stand in a block's cells. -/
def OpCur (w : World) (g : Nat) (cur : List Value) (l : List Opn) (k : Nat) : Prop :=
  ∀ i, i < k → ∃ cs, OpEl w (g + 1) w.heap.size (l.getD i noOp) cs ∧ ∀ j u, cs[j]? = some u → cur[i * 7 + j]? = some u
theorem opEl_len {w : World} {A B : Nat} {o : Opn} {cs : List Value} (h : OpEl w A B o cs) : cs.length = 7 := by
  obtain ⟨_, _, _, _, _, _, _, _, rfl, _⟩ := h
  rfl
def set7 (w : World) (g m : Nat) (x0 x1 x2 x3 x4 x5 x6 : Value) : World :=
  ((((((w.setCell ⟨g, m, none⟩ x0).setCell ⟨g, m + 1, none⟩ x1).setCell ⟨g, m + 2, none⟩ x2).setCell ⟨g, m + 3, none⟩ x3).setCell ⟨g, m + 4, none⟩ x4).setCell ⟨g, m + 5, none⟩ x5).setCell ⟨g, m + 6, none⟩ x6
def lset7 (cur : List Value) (m : Nat) (x0 x1 x2 x3 x4 x5 x6 : Value) : List Value :=
  ((((((cur.set m x0).set (m + 1) x1).set (m + 2) x2).set (m + 3) x3).set (m + 4) x4).set (m + 5) x5).set (m + 6) x6
theorem lset7_len (cur : List Value) (m : Nat) (x0 x1 x2 x3 x4 x5 x6 : Value) : (lset7 cur m x0 x1 x2 x3 x4 x5 x6).length = cur.length := by simp [lset7]
theorem lset7_out {cur : List Value} {m i : Nat} {x0 x1 x2 x3 x4 x5 x6 : Value} (h : i < m ∨ m + 7 ≤ i) : (lset7 cur m x0 x1 x2 x3 x4 x5 x6)[i]? = cur[i]? := by
  unfold lset7
  rw [List.getElem?_set_ne (by omega), List.getElem?_set_ne (by omega), List.getElem?_set_ne (by omega), List.getElem?_set_ne (by omega), List.getElem?_set_ne (by omega), List.getElem?_set_ne (by omega), List.getElem?_set_ne (by omega)]
theorem lset7_in {cur : List Value} {m : Nat} {x0 x1 x2 x3 x4 x5 x6 : Value} (h : m + 7 ≤ cur.length) : ∀ j u, [x0, x1, x2, x3, x4, x5, x6][j]? = some u → (lset7 cur m x0 x1 x2 x3 x4 x5 x6)[m + j]? = some u := by
  intro j u hu
  have hj : j < 7 := (List.getElem?_eq_some_iff.1 hu).1
  unfold lset7
  match j, hj, hu with
  | 0, _, hu | 1, _, hu | 2, _, hu | 3, _, hu | 4, _, hu | 5, _, hu | 6, _, hu =>
    simp at hu
    subst hu
    simp only [List.getElem?_set, List.length_set]
    simp
    omega
theorem set7_heap {W : World} {g m : Nat} {cur : List Value} {t : TypeId} {x0 x1 x2 x3 x4 x5 x6 : Value} (h : W.heap[g]? = some (.cells cur.toArray t (0, 0))) :
    (set7 W g m x0 x1 x2 x3 x4 x5 x6).heap[g]? = some (.cells (lset7 cur m x0 x1 x2 x3 x4 x5 x6).toArray t (0, 0)) := by
  have h0 := heap_setCell_same W g m _ t x0 h
  have h1 := heap_setCell_same _ g (m + 1) _ t x1 h0
  have h2 := heap_setCell_same _ g (m + 2) _ t x2 h1
  have h3 := heap_setCell_same _ g (m + 3) _ t x3 h2
  have h4 := heap_setCell_same _ g (m + 4) _ t x4 h3
  have h5 := heap_setCell_same _ g (m + 5) _ t x5 h4
  have h6 := heap_setCell_same _ g (m + 6) _ t x6 h5
  unfold set7 lset7
  rw [h6]; simp
theorem set7_below {W w : World} {g m B : Nat} {x0 x1 x2 x3 x4 x5 x6 : Value} (h : Below B w W) (hg : B ≤ g) : Below B w (set7 W g m x0 x1 x2 x3 x4 x5 x6) :=
  ((((((h.setCell (p := ⟨g, m, none⟩) hg x0).setCell (p := ⟨g, m + 1, none⟩) hg x1).setCell (p := ⟨g, m + 2, none⟩) hg x2).setCell (p := ⟨g, m + 3, none⟩) hg x3).setCell (p := ⟨g, m + 4, none⟩) hg x4).setCell (p := ⟨g, m + 5, none⟩) hg x5).setCell (p := ⟨g, m + 6, none⟩) hg x6
theorem OpEl.other7 {W : World} {A B : Nat} {o : Opn} {cs : List Value} (h : OpEl W A B o cs) {g m : Nat} {x0 x1 x2 x3 x4 x5 x6 : Value} (hg : g < A) : OpEl (set7 W g m x0 x1 x2 x3 x4 x5 x6) A B o cs :=
  ((((((h.other g m x0 hg).other g (m + 1) x1 hg).other g (m + 2) x2 hg).other g (m + 3) x3 hg).other g (m + 4) x4 hg).other g (m + 5) x5 hg).other g (m + 6) x6 hg
theorem set7_size (W : World) (g m : Nat) (x0 x1 x2 x3 x4 x5 x6 : Value) : (set7 W g m x0 x1 x2 x3 x4 x5 x6).heap.size = W.heap.size := by simp [set7]
theorem opCur_step {w w' : World} {g : Nat} {cur : List Value} {l : List Opn} {k : Nat} (h : OpCur w g cur l k) (hb : Below w.heap.size w w') (hl : k * 7 + 7 ≤ cur.length) {x0 x1 x2 x3 x4 x5 x6 : Value}
    (he : OpEl w' (g + 1) w'.heap.size (l.getD k noOp) [x0, x1, x2, x3, x4, x5, x6]) : OpCur (set7 w' g (k * 7) x0 x1 x2 x3 x4 x5 x6) g (lset7 cur (k * 7) x0 x1 x2 x3 x4 x5 x6) l (k + 1) := by
  intro i hi
  rw [set7_size]
  by_cases hik : i = k
  · subst hik
    exact ⟨_, he.other7 (Nat.lt_succ_self _), lset7_in hl⟩
  · obtain ⟨cs, h1, h2⟩ := h i (by omega)
    have h7 := opEl_len h1
    refine ⟨cs, ((h1.kept hb).mono (Nat.le_refl _) hb.size).other7 (Nat.lt_succ_self _), fun j u hu => ?_⟩
    have hj := (List.getElem?_eq_some_iff.1 hu).1
    rw [lset7_out (by omega)]
    exact h2 j u hu
theorem opRow_of {w : World} {g : Nat} {cur : List Value} {t : TypeId} {f : Nat × Nat} {l : List Opn} (hg : w.heap[g]? = some (.cells cur.toArray t f)) (hc : OpCur w g cur l l.length) : OpRow w g w.heap.size (some ⟨g, 0, none⟩) l := by
  have hlt : g < w.heap.size := (Array.getElem?_eq_some_iff.1 hg).1
  refine .inr ⟨g, 0, rfl, Nat.le_refl _, hlt, fun i hi => ?_⟩
  obtain ⟨cs, he, hj⟩ := hc i hi
  refine ⟨cs, he.mono (Nat.le_succ _) (Nat.le_refl _), fun j u hu => ?_⟩
  rw [cell_of_row _ _ _ _ _ _ hg, List.getElem?_toArray, Nat.zero_add, hj j u hu]
end Go.Proofs.YtnangmjcgjlndaaGreat

/-
  Contracts: the sizes of ops, as the laws count them.
-/
namespace Go.Proofs.YtnangmjcgjlndaaGreat
open Go.RowKit
set_option maxRecDepth 100000

theorem cells7 {w : World} {g : Nat} {x0 x1 x2 x3 x4 x5 x6 : Value} {t : TypeId} (h : w.heap[g]? = some (.cells #[x0, x1, x2, x3, x4, x5, x6] t (0, 0))) :
    w.cell? ⟨g, 0, none⟩ = some x0 ∧ w.cell? ⟨g, 1, none⟩ = some x1 ∧ w.cell? ⟨g, 2, none⟩ = some x2 ∧ w.cell? ⟨g, 3, none⟩ = some x3 ∧ w.cell? ⟨g, 4, none⟩ = some x4 ∧ w.cell? ⟨g, 5, none⟩ = some x5 ∧ w.cell? ⟨g, 6, none⟩ = some x6 ∧ ∀ j, w.frozen? ⟨g, j, none⟩ = false := by
  refine ⟨?_, ?_, ?_, ?_, ?_, ?_, ?_, fun j => frozen_of_row _ _ _ _ _ h⟩ <;> (rw [cell_of_row _ _ _ _ _ _ h]; rfl)
theorem blkO {W : World} {g : Nat} {o : Obj} (h : W.heap[g]? = some o) : g < W.heap.size := (Array.getElem?_eq_some_iff.1 h).1
def opFits (o : Opn) : Prop := schFits o.sch ∧ o.row.length ≤ 1048576
set_option maxHeartbeats 4000000 in
theorem szOp_any (A B : Nat) (o : Opn) (a1 : Option Addr) (c1 : Nat) (a2 : Option Addr) (c2 : Nat) (a3 : Option Addr) (c3 : Nat) (a4 : Option Addr) (c4 : Nat) (left : Int) (w : World) (hB : B ≤ w.heap.size) (hk : inI64 o.kind ∧ o.table.size ≤ maxLen ∧ o.row.length ≤ maxLen) (hs : SchRow w A B a1 a2 a3 c2 o.sch) (hv : VRowA w A B a4 o.row) (h0 : 0 ≤ left) (h1 : left ≤ 1048576) :
    Calls Tryz.prog 9 #[(.agg #[.int .i64 o.kind, .string o.table, .string o.sch.name, .slice a1 o.sch.cols.length c1, .slice a2 o.sch.key.length c2, .slice a3 o.sch.idx.length c3, .slice a4 o.row.length c4]), .int .i64 left] w fun e w' => ∃ r : Int, e = .returned (.int .i64 r) ∧ r ≤ left ∧ (r < 0 ∨ 0 ≤ r ∧ opFits o) ∧ Below w.heap.size w w' := by
  have HSZ := hide (fun (r : Int) (hr0 : 0 ≤ r) (hr1 : r ≤ 1048576) (W : World) (hb : Below w.heap.size w W) => szSchema_any A B a1 c1 a2 c2 a3 c3 o.sch r W (Nat.le_trans hB hb.size) (hs.kept (hb.mono hB)) hr0 hr1)
  have HVS := hide (fun (r : Int) (hr0 : 0 ≤ r) (hr1 : r ≤ 1048576) (W : World) (hb : Below w.heap.size w W) => szValueS_any B a4 c4 o.row r W (Nat.le_trans hB hb.size) hk.2.2 (hv.1.kept (hb.mono hB)) hr0 hr1)
  have HFIT := hide (fun (hf : schFits o.sch) (r : Int) (hr1 : r ≤ 1048576) (hz : szFits r o.row) => show opFits o from ⟨hf, by unfold szFits at hz; omega⟩)
  have htb : o.table.size ≤ maxLen := hk.2.1
  unfold maxLen at htb
  clear hk hs hv hB
  generalize o.kind = kd at *
  generalize o.table = tb at *
  generalize o.sch.name = nm at *
  generalize o.sch.cols.length = n1 at *
  generalize o.sch.key.length = n2 at *
  generalize o.sch.idx.length = n3 at *
  generalize o.row.length = n4 at *
  have X0 := hide (heap_alloc_new w (.cells #[.int .i64 kd, .string tb, .string nm, .slice a1 n1 c1, .slice a2 n2 c2, .slice a3 n3 c3, .slice a4 n4 c4] 37))
  have B0 := hide ((Below.refl w.heap.size w).alloc (Nat.le_refl _) (.cells #[.int .i64 kd, .string tb, .string nm, .slice a1 n1 c1, .slice a2 n2 c2, .slice a3 n3 c3, .slice a4 n4 c4] 37))
  by_cases hlong : left < (tb.size : Int)
  · go_enter Tryz.func9, Tryz.ntmps9
    go_wp2
    go_ret
    exact ⟨-1, rfl, by omega, .inl (by omega), B0.out⟩
  · have hw1 : IntKind.i64.wrap (left - (tb.size : Int)) = left - (tb.size : Int) := by rw [IntKind.wrap_i64]; omega
    go_enter Tryz.func9, Tryz.ntmps9
    go_upto_region 4 with fail
    generalize w.alloc (.cells #[.int .i64 kd, .string tb, .string nm, .slice a1 n1 c1, .slice a2 n2 c2, .slice a3 n3 c3, .slice a4 n4 c4] 37) = W0 at *
    obtain ⟨x0, x1, x2, x3, x4, x5, x6, xf⟩ := cells7 X0.out
    obtain ⟨q, hq⟩ : ∃ q, q = left - (tb.size : Int) := ⟨_, rfl⟩
    have HQ : Hid (0 ≤ q ∧ q ≤ left) := by show _ ∧ _; omega
    rw [← hq]
    clear hlong htb hw1 hq
    go_wp2_with fail
    refine (HSZ.out q HQ.out.1 (by have := HQ.out.2; omega) _ B0.out).mono ?_
    rintro e w1 ⟨r1, rfl, hr1, hcase, b1⟩
    have X1 := hide ((b1.block _ (blkO X0.out)).trans X0.out)
    have B1 := hide (B0.out.trans (b1.mono B0.out.size))
    clear b1 X0 B0 HSZ x0 x1 x2 x3 x4 x5 x6 xf
    rcases hcase with hneg | ⟨hr0, hf⟩
    · go_wp2
      go_ret
      exact ⟨-1, rfl, by omega, .inl (by omega), B1.out⟩
    · have HR1 : Hid (0 ≤ r1 ∧ r1 ≤ q) := ⟨hr0, hr1⟩
      have HF := hide hf
      clear hf hr1
      obtain ⟨x0, x1, x2, x3, x4, x5, x6, xf⟩ := cells7 X1.out
      go_wp2_with fail
      refine (HVS.out r1 HR1.out.1 (by have := HR1.out.2; have := HQ.out.2; omega) _ B1.out).mono ?_
      rintro e w2 ⟨r2, rfl, hr2, hcase2, b2⟩
      have B2 := hide (B1.out.trans (b2.mono B1.out.size))
      clear b2 X1 B1 HVS x0 x1 x2 x3 x4 x5 x6 xf
      rcases hcase2 with hneg | ⟨hr20, hz⟩
      · go_wp2
        go_ret
        exact ⟨-1, rfl, by omega, .inl (by omega), B2.out⟩
      · have HZ := hide hz
        clear hz
        go_wp2
        go_ret
        exact ⟨r2, rfl, by have := HR1.out.2; have := HQ.out.2; omega, .inr ⟨hr20, HFIT.out HF.out r1 (by have := HR1.out.2; have := HQ.out.2; omega) HZ.out⟩, B2.out⟩
set_option maxHeartbeats 4000000 in
theorem szOpS_any (A B : Nat) (ao : Option Addr) (cap : Nat) (l : List Opn) (left : Int) (w : World) (hB : B ≤ w.heap.size) (hl : l.length ≤ maxLen) (hr : OpRow w A B ao l) (h0 : 0 ≤ left) (h1 : left ≤ 1048576) :
    Calls Tryz.prog 4 #[.slice ao l.length cap, .int .i64 left] w fun e w' => ∃ r : Int, e = .returned (.int .i64 r) ∧ r ≤ left ∧ (r < 0 ∨ 0 ≤ r ∧ l.length ≤ 1048576 ∧ ∀ i, i < l.length → opFits (l.getD i noOp)) ∧ Below w.heap.size w w' := by
  unfold maxLen at hl
  by_cases hlong : left < l.length
  · go_enter Tryz.func4, Tryz.ntmps4
    go_wp2
    go_ret
    exact ⟨-1, rfl, by omega, .inl (by omega), Below.refl _ _⟩
  · have HR : Hid (OpRow w A B ao l) := hr
    clear hr
    go_enter Tryz.func4, Tryz.ntmps4
    go_wp2
    go_loopw [1, 5] (fun x i wr => ∃ (k : Nat) (r : Int), k ≤ l.length ∧ i = .int .i64 k ∧ x = .int .i64 r ∧ 0 ≤ r ∧ r ≤ left ∧ Hid (∀ i, i < k → opFits (l.getD i noOp)) ∧ Below w.heap.size w wr) (fun _ i _ => l.length - (intOf i).toNat)
    case atStart => exact ⟨0, left - l.length, Nat.zero_le _, rfl, rfl, by omega, by omega, fun i hi => absurd hi (Nat.not_lt_zero _), Below.refl _ _⟩
    case round =>
      obtain ⟨k, r, hk, rfl, rfl, hr0, hr1, HF, hb⟩ := hrel
      by_cases hlt : k < l.length
      · obtain ⟨b, off, o, a1, c1, a2, c2, a3, c3, a4, c4, rfl, hbB, hv, hok, hs, hva, d0, d1, d2, d3, d4, d5, d6⟩ := (HR.out.kept (hb.mono hB)).at k hlt
        have HV : Hid (l.getD k noOp = o) := hv
        have HC := hide (szOp_any A B o a1 c1 a2 c2 a3 c3 a4 c4 r wr (Nat.le_trans hB hb.size) hok hs hva hr0 (by omega))
        clear hv hok hs hva
        go_wp2_with fail
        refine HC.out.mono ?_
        rintro e w1 ⟨q, rfl, hq, hcase, hb1⟩
        have hb2 := hb.trans (hb1.mono hb.size)
        clear hb hb1 d0 d1 d2 d3 d4 d5 d6 HC
        rcases hcase with hs | ⟨hs, hll⟩
        · go_wp2
          go_ret
          exact ⟨-1, rfl, by omega, .inl (by omega), hb2⟩
        · have HF2 : Hid (∀ i, i < k + 1 → opFits (l.getD i noOp)) := fun i hi => by
            by_cases e : i = k
            · subst e; rw [HV.out]; exact hll
            · exact HF.out i (by omega)
          clear HF HV hll
          go_wp2
          go_roundw
          case rel => exact ⟨k + 1, q, by omega, by go_num, rfl, by omega, by omega, HF2, hb2⟩
          case measure => simp [intOf]; omega
      · obtain rfl : k = l.length := by omega
        go_wp2
        go_ret
        exact ⟨r, rfl, hr1, .inr ⟨hr0, by omega, HF.out⟩, hb⟩
end Go.Proofs.YtnangmjcgjlndaaGreat

/-
  Contract: values copied into a row of their own.
-/
namespace Go.Proofs.YtnangmjcgjlndaaGreat
open Go.RowKit
set_option maxRecDepth 100000

set_option maxHeartbeats 1000000 in
theorem toValueS_own (B : Nat) (ao : Option Addr) (cap : Nat) (vs : List Val) (w : World) (hB : B ≤ w.heap.size) (hl : vs.length ≤ 1048576) (hr : ValRow w B ao vs) :
    Calls Tryz.prog 31 #[.slice ao vs.length cap] w fun e w' => ∃ v, e = .returned v ∧ OwnV w.heap.size v vs w' ∧ Below w.heap.size w w' := by
  obtain ⟨i0, hi, hz0, hz1, hz2⟩ := info_parts Tryz.infoVal
  have HR : Hid (ValRow w B ao vs) := hr
  clear hr
  go_enter Tryz.func31, Tryz.ntmps31
  go_wp2_with (at_make; refine wpList_make_full _ rfl _ _ 44 rfl w.heap.size 76 i0 (.agg #[.int .i64 0, .int .i64 0, .string ⟨#[]⟩]) 3 Tryz.underlying44 hi hz0 hz1 .i64 .i64 _ _ vs.length rfl rfl rfl rfl (by rw [hz2]; omega) (by unfold maxLen; omega) (Nat.le_refl _) ?_; intro w1 hown1 hgrow1)
  obtain ⟨cur0, hg0, hl0⟩ : ∃ cur : List Value, w1.heap[w.heap.size]? = some (.cells cur.toArray 76 (0, 0)) ∧ cur.length = vs.length * 3 := by
    rcases hown1.2 with ⟨h, _⟩ | ⟨g, cap', cur, hv, _, hg, _, _, hs, _⟩
    · simp at h
    · simp at hv
      obtain ⟨rfl, rfl⟩ := hv
      exact ⟨cur.toList, by simpa using hg, by simpa using hs⟩
  have hb1 : Below w.heap.size w w1 := (Below.refl _ _).grown hgrow1 (Nat.le_refl _) (fun j hj => by simp at hj)
  clear hown1 hgrow1
  go_loopw [4] (fun i wr => ∃ (k : Nat) (cur : List Value), k ≤ vs.length ∧ i = .int .i64 k ∧ cur.length = vs.length * 3 ∧ wr.heap[w.heap.size]? = some (.cells cur.toArray 76 (0, 0)) ∧ Hid (cur.take (k * 3) = flatV (vs.take k)) ∧ Below w.heap.size w wr) (fun i _ => vs.length - (intOf i).toNat)
  case atStart => exact ⟨0, cur0, Nat.zero_le _, rfl, hl0, hg0, by show _ = _; simp [flatV], hb1⟩
  case round =>
    obtain ⟨k, cur, hk, rfl, hlen, hg, HC, hb⟩ := hrel
    clear hb1 hg0 hl0
    have hlt0 : w.heap.size < wr.heap.size := (Array.getElem?_eq_some_iff.1 hg).1
    by_cases hlt : k < vs.length
    · obtain ⟨b, off, kk, nn, tt, rfl, hbB, hv, htt, d0, d1, d2⟩ := (HR.out.kept (hb.mono hB)).at k hlt
      obtain ⟨HC2, hlen2⟩ := flatV_step cur vs k hlt hlen HC.out kk nn tt hv
      have HC3 : Hid ((((cur.set (k * 3) (.int .i64 kk)).set (k * 3 + 1) (.int .i64 nn)).set (k * 3 + 2) (.string tt)).take ((k + 1) * 3) = flatV (vs.take (k + 1))) := HC2
      clear hv HC HC2
      go_wp2_with fail
      refine (toValue_any kk nn tt _).mono ?_
      rintro e w2 ⟨rfl, hb2⟩
      have hg2 : w2.heap[w.heap.size]? = some (.cells cur.toArray 76 (0, 0)) := (hb2.block _ hlt0).trans hg
      have hb3 := hb.trans (hb2.mono hb.size)
      obtain ⟨x0, hx0⟩ : ∃ v, cur[k * 3]? = some v := ⟨_, List.getElem?_eq_getElem (by omega)⟩
      obtain ⟨x1, hx1⟩ : ∃ v, cur[k * 3 + 1]? = some v := ⟨_, List.getElem?_eq_getElem (by omega)⟩
      obtain ⟨x2, hx2⟩ : ∃ v, cur[k * 3 + 2]? = some v := ⟨_, List.getElem?_eq_getElem (by omega)⟩
      have e0 : w2.cell? ⟨w.heap.size, k * 3, none⟩ = some x0 := by rw [cell_of_row _ _ _ _ _ _ hg2, List.getElem?_toArray, hx0]
      have e1 : w2.cell? ⟨w.heap.size, k * 3 + 1, none⟩ = some x1 := by rw [cell_of_row _ _ _ _ _ _ hg2, List.getElem?_toArray, hx1]
      have e2 : w2.cell? ⟨w.heap.size, k * 3 + 2, none⟩ = some x2 := by rw [cell_of_row _ _ _ _ _ _ hg2, List.getElem?_toArray, hx2]
      have ef : ∀ j, w2.frozen? ⟨w.heap.size, j, none⟩ = false := fun j => frozen_of_row _ _ _ _ _ hg2
      have HG : Hid (w2.heap[w.heap.size]? = some (.cells cur.toArray 76 (0, 0))) := hg2
      clear hx0 hx1 hx2 hg2 hg d0 d1 d2 hb hb2
      go_wp2
      go_roundw
      case rel => exact ⟨k + 1, _, by omega, by go_num, hlen2, set3_heap HG.out, HC3, ((hb3.setCell (Nat.le_refl _) _).setCell (Nat.le_refl _) _).setCell (Nat.le_refl _) _⟩
      case measure => simp [intOf]; omega
    · obtain rfl : k = vs.length := by omega
      have HF : Hid (OwnV w.heap.size (.slice (some ⟨w.heap.size, 0, none⟩) vs.length vs.length) vs wr) := ⟨by rw [flatV_len], .inr ⟨w.heap.size, vs.length, cur.toArray, rfl, Nat.le_refl _, hg, Nat.le_refl _, by unfold maxLen; omega, by simpa using hlen, by have := HC.out; rw [List.take_length] at this; simpa using this⟩⟩
      go_wp2
      go_ret
      exact ⟨_, rfl, HF.out, hb⟩
end Go.Proofs.YtnangmjcgjlndaaGreat

/-
  Contracts: ops copied.
-/
namespace Go.Proofs.YtnangmjcgjlndaaGreat
open Go.RowKit
set_option maxRecDepth 100000

theorem vrowA_own {base : Nat} {v : Value} {vs : List Val} {w : World} (h : OwnV base v vs w) (ho : ∀ x ∈ vs, x.ok) (ht : ∀ x ∈ vs, x.text.size ≤ maxLen) : ∃ ao cap, v = .slice ao vs.length cap ∧ VRowA w base w.heap.size ao vs := by
  obtain ⟨ao, cap, hv, hr⟩ := valRow_own h ho ht
  refine ⟨ao, cap, hv, hr, ?_⟩
  rcases h.2 with ⟨_, h0⟩ | ⟨g, cp, cur, h1, hB, _⟩
  · exact .inl h0
  · rw [h1] at hv
    injection hv with e1 e2 e3
    exact .inr ⟨g, 0, e1.symm, hB⟩
theorem resOp {fn : Func} {p : Tmp} (h : fn.results = #[.cell p 46]) (tmps : Array Value) (w : World) (g : Nat) (x0 x1 x2 x3 x4 x5 x6 : Value) (hp : tmps.getD p undef = .pointer (some ⟨g, 0, none⟩))
    (hg : w.heap[g]? = some (.cells #[x0, x1, x2, x3, x4, x5, x6] 46 (0, 0))) : (results fn tmps).run Tryz.prog w = .ok (.agg #[x0, x1, x2, x3, x4, x5, x6]) w :=
  results_cell_row h tmps w g 46 #[x0, x1, x2, x3, x4, x5, x6] (0, 0) _ hp hg Tryz.underlying46 rfl (by kernel_rfl)
theorem set7_row {W : World} {g : Nat} {a b c d e f h x0 x1 x2 x3 x4 x5 x6 : Value} {t : TypeId} (hg : W.heap[g]? = some (.cells #[a, b, c, d, e, f, h] t (0, 0))) :
    (set7 W g 0 x0 x1 x2 x3 x4 x5 x6).heap[g]? = some (.cells #[x0, x1, x2, x3, x4, x5, x6] t (0, 0)) := by
  have := set7_heap (m := 0) (x0 := x0) (x1 := x1) (x2 := x2) (x3 := x3) (x4 := x4) (x5 := x5) (x6 := x6) (cur := [a, b, c, d, e, f, h]) hg
  simpa [lset7] using this
set_option maxHeartbeats 4000000 in
theorem toOp_any (A B : Nat) (o : Opn) (a1 : Option Addr) (c1 : Nat) (a2 : Option Addr) (c2 : Nat) (a3 : Option Addr) (c3 : Nat) (a4 : Option Addr) (c4 : Nat) (w : World) (hB : B ≤ w.heap.size) (hf : opFits o) (hk : inI64 o.kind ∧ o.table.size ≤ maxLen ∧ o.row.length ≤ maxLen) (hs : SchRow w A B a1 a2 a3 c2 o.sch) (hv : VRowA w A B a4 o.row) :
    Calls Tryz.prog 15 #[(.agg #[.int .i64 o.kind, .string o.table, .string o.sch.name, .slice a1 o.sch.cols.length c1, .slice a2 o.sch.key.length c2, .slice a3 o.sch.idx.length c3, .slice a4 o.row.length c4])] w fun e w' => ∃ b1 q1 b2 q2 b3 q3 b4 q4, e = .returned (.agg #[.int .i64 o.kind, .string o.table, .string o.sch.name, .slice b1 o.sch.cols.length q1, .slice b2 o.sch.key.length q2, .slice b3 o.sch.idx.length q3, .slice b4 o.row.length q4]) ∧ OpEl w' w.heap.size w'.heap.size o [.int .i64 o.kind, .string o.table, .string o.sch.name, .slice b1 o.sch.cols.length q1, .slice b2 o.sch.key.length q2, .slice b3 o.sch.idx.length q3, .slice b4 o.row.length q4] ∧ Below w.heap.size w w' := by
  have HTS := hide (fun (W : World) (hb : Below w.heap.size w W) => toSchema_any A B a1 c1 a2 c2 a3 c3 o.sch W (Nat.le_trans hB hb.size) hf.1 (hs.kept (hb.mono hB)))
  have HTV : Hid (∀ W : World, Below w.heap.size w W → Calls Tryz.prog 31 #[.slice a4 o.row.length c4] W fun e w' => ∃ b4 q4, e = .returned (.slice b4 o.row.length q4) ∧ VRowA w' W.heap.size w'.heap.size b4 o.row ∧ Below W.heap.size W w') := fun W hb => by
    refine (toValueS_own B a4 c4 o.row W (Nat.le_trans hB hb.size) hf.2 (hv.1.kept (hb.mono hB))).mono ?_
    rintro e w' ⟨v, rfl, ov, k⟩
    obtain ⟨b4, q4, rfl, hvr⟩ := vrowA_own ov hv.1.1 hv.1.2.1
    exact ⟨b4, q4, rfl, hvr, k⟩
  have HEL := hide (fun (W : World) (A' : Nat) (b1 : Option Addr) (q1 : Nat) (b2 : Option Addr) (q2 : Nat) (b3 : Option Addr) (q3 : Nat) (b4 : Option Addr) (q4 : Nat) (h1 : SchRow W A' W.heap.size b1 b2 b3 q2 o.sch) (h2 : VRowA W A' W.heap.size b4 o.row) => show OpEl W A' W.heap.size o [.int .i64 o.kind, .string o.table, .string o.sch.name, .slice b1 o.sch.cols.length q1, .slice b2 o.sch.key.length q2, .slice b3 o.sch.idx.length q3, .slice b4 o.row.length q4] from ⟨b1, q1, b2, q2, b3, q3, b4, q4, rfl, hk, h1, h2⟩)
  clear hk hs hv hf hB
  generalize o.kind = kd at *
  generalize o.table = tb at *
  generalize o.sch.name = nm at *
  generalize o.sch.cols.length = n1 at *
  generalize o.sch.key.length = n2 at *
  generalize o.sch.idx.length = n3 at *
  generalize o.row.length = n4 at *
  have BA := ((Below.refl w.heap.size w).alloc (Nat.le_refl _) (.cells #[.int .i64 kd, .string tb, .string nm, .slice a1 n1 c1, .slice a2 n2 c2, .slice a3 n3 c3, .slice a4 n4 c4] 37))
  have X0 := hide (heap_alloc_new w (.cells #[.int .i64 kd, .string tb, .string nm, .slice a1 n1 c1, .slice a2 n2 c2, .slice a3 n3 c3, .slice a4 n4 c4] 37))
  have B0 := hide BA
  have Z0 : Hid ((w.alloc (.cells #[.int .i64 kd, .string tb, .string nm, .slice a1 n1 c1, .slice a2 n2 c2, .slice a3 n3 c3, .slice a4 n4 c4] 37)).heap.size = w.heap.size + 1) := by show _ = _; simp
  clear BA
  go_enter Tryz.func15, Tryz.ntmps15
  go_upto_region 2 with fail
  have BB1 := B0.out.alloc B0.out.size (.cells #[.int .i64 0, .string ⟨#[]⟩, .string ⟨#[]⟩, .slice none 0 0, .slice none 0 0, .slice none 0 0, .slice none 0 0] 46)
  have BB := hide (BB1.alloc BB1.size (.cells #[.int .i64 0, .string ⟨#[]⟩, .string ⟨#[]⟩, .slice none 0 0, .slice none 0 0, .slice none 0 0, .slice none 0 0] 46))
  clear BB1
  have X2 := hide ((heap_old _ (.cells #[.int .i64 0, .string ⟨#[]⟩, .string ⟨#[]⟩, .slice none 0 0, .slice none 0 0, .slice none 0 0, .slice none 0 0] 46) w.heap.size (by first | (simp; done) | (simp; omega))).trans ((heap_old _ (.cells #[.int .i64 0, .string ⟨#[]⟩, .string ⟨#[]⟩, .slice none 0 0, .slice none 0 0, .slice none 0 0, .slice none 0 0] 46) w.heap.size (by first | (simp; done) | (simp; omega))).trans X0.out))
  have Y2 := hide ((heap_old _ (.cells #[.int .i64 0, .string ⟨#[]⟩, .string ⟨#[]⟩, .slice none 0 0, .slice none 0 0, .slice none 0 0, .slice none 0 0] 46) (w.heap.size + 1) (by first | (simp; done) | (simp; omega))).trans (show ((w.alloc (.cells #[.int .i64 kd, .string tb, .string nm, .slice a1 n1 c1, .slice a2 n2 c2, .slice a3 n3 c3, .slice a4 n4 c4] 37)).alloc (.cells #[.int .i64 0, .string ⟨#[]⟩, .string ⟨#[]⟩, .slice none 0 0, .slice none 0 0, .slice none 0 0, .slice none 0 0] 46)).heap[w.heap.size + 1]? = some (.cells #[.int .i64 0, .string ⟨#[]⟩, .string ⟨#[]⟩, .slice none 0 0, .slice none 0 0, .slice none 0 0, .slice none 0 0] 46 (0, 0)) from by have := heap_alloc_new (w.alloc (.cells #[.int .i64 kd, .string tb, .string nm, .slice a1 n1 c1, .slice a2 n2 c2, .slice a3 n3 c3, .slice a4 n4 c4] 37)) (.cells #[.int .i64 0, .string ⟨#[]⟩, .string ⟨#[]⟩, .slice none 0 0, .slice none 0 0, .slice none 0 0, .slice none 0 0] 46); rw [Z0.out] at this; exact this))
  have V2 : Hid ((((w.alloc (.cells #[.int .i64 kd, .string tb, .string nm, .slice a1 n1 c1, .slice a2 n2 c2, .slice a3 n3 c3, .slice a4 n4 c4] 37)).alloc (.cells #[.int .i64 0, .string ⟨#[]⟩, .string ⟨#[]⟩, .slice none 0 0, .slice none 0 0, .slice none 0 0, .slice none 0 0] 46)).alloc (.cells #[.int .i64 0, .string ⟨#[]⟩, .string ⟨#[]⟩, .slice none 0 0, .slice none 0 0, .slice none 0 0, .slice none 0 0] 46)).heap[w.heap.size + 2]? = some (.cells #[.int .i64 0, .string ⟨#[]⟩, .string ⟨#[]⟩, .slice none 0 0, .slice none 0 0, .slice none 0 0, .slice none 0 0] 46 (0, 0))) := by
    have := heap_alloc_new ((w.alloc (.cells #[.int .i64 kd, .string tb, .string nm, .slice a1 n1 c1, .slice a2 n2 c2, .slice a3 n3 c3, .slice a4 n4 c4] 37)).alloc (.cells #[.int .i64 0, .string ⟨#[]⟩, .string ⟨#[]⟩, .slice none 0 0, .slice none 0 0, .slice none 0 0, .slice none 0 0] 46)) (.cells #[.int .i64 0, .string ⟨#[]⟩, .string ⟨#[]⟩, .slice none 0 0, .slice none 0 0, .slice none 0 0, .slice none 0 0] 46)
    have e : ((w.alloc (.cells #[.int .i64 kd, .string tb, .string nm, .slice a1 n1 c1, .slice a2 n2 c2, .slice a3 n3 c3, .slice a4 n4 c4] 37)).alloc (.cells #[.int .i64 0, .string ⟨#[]⟩, .string ⟨#[]⟩, .slice none 0 0, .slice none 0 0, .slice none 0 0, .slice none 0 0] 46)).heap.size = w.heap.size + 2 := by simp
    rw [e] at this
    exact this
  generalize ((w.alloc (.cells #[.int .i64 kd, .string tb, .string nm, .slice a1 n1 c1, .slice a2 n2 c2, .slice a3 n3 c3, .slice a4 n4 c4] 37)).alloc (.cells #[.int .i64 0, .string ⟨#[]⟩, .string ⟨#[]⟩, .slice none 0 0, .slice none 0 0, .slice none 0 0, .slice none 0 0] 46)).alloc (.cells #[.int .i64 0, .string ⟨#[]⟩, .string ⟨#[]⟩, .slice none 0 0, .slice none 0 0, .slice none 0 0, .slice none 0 0] 46) = W0 at *
  obtain ⟨g, hg⟩ : ∃ g, g = w.heap.size + 1 + 1 := ⟨_, rfl⟩
  have V3 := hide (show W0.heap[g]? = some (.cells #[.int .i64 0, .string ⟨#[]⟩, .string ⟨#[]⟩, .slice none 0 0, .slice none 0 0, .slice none 0 0, .slice none 0 0] 46 (0, 0)) from by rw [hg]; exact V2.out)
  have HG : Hid (w.heap.size + 1 < g) := by show _ < _; omega
  rw [← hg]
  clear hg V2 Z0 X0 B0
  obtain ⟨x0, x1, x2, x3, x4, x5, x6, xf⟩ := cells7 X2.out
  obtain ⟨v0, v1, v2, v3, v4, v5, v6, vf⟩ := cells7 V3.out
  have hgx : ¬ g = w.heap.size := by have := HG.out; omega
  have hgx' : ¬ w.heap.size = g := fun e => hgx e.symm
  have BS := hide ((BB.out.setCell (p := ⟨g, 0, none⟩) (by have := HG.out; show _ ≤ g; omega) (.int .i64 kd)).setCell (p := ⟨g, 1, none⟩) (by have := HG.out; show _ ≤ g; omega) (.string tb))
  have XS := hide (show ((W0.setCell ⟨g, 0, none⟩ (.int .i64 kd)).setCell ⟨g, 1, none⟩ (.string tb)).heap[w.heap.size]? = some (.cells #[.int .i64 kd, .string tb, .string nm, .slice a1 n1 c1, .slice a2 n2 c2, .slice a3 n3 c3, .slice a4 n4 c4] 37 (0, 0)) from by rw [heap_setCell_other _ _ _ _ (show w.heap.size ≠ g from hgx'), heap_setCell_other _ _ _ _ (show w.heap.size ≠ g from hgx')]; exact X2.out)
  have YS := hide (show ((W0.setCell ⟨g, 0, none⟩ (.int .i64 kd)).setCell ⟨g, 1, none⟩ (.string tb)).heap[w.heap.size + 1]? = some (.cells #[.int .i64 0, .string ⟨#[]⟩, .string ⟨#[]⟩, .slice none 0 0, .slice none 0 0, .slice none 0 0, .slice none 0 0] 46 (0, 0)) from by rw [heap_setCell_other _ _ _ _ (show w.heap.size + 1 ≠ g by have := HG.out; omega), heap_setCell_other _ _ _ _ (show w.heap.size + 1 ≠ g by have := HG.out; omega)]; exact Y2.out)
  have VS : Hid (((W0.setCell ⟨g, 0, none⟩ (.int .i64 kd)).setCell ⟨g, 1, none⟩ (.string tb)).heap[g]? = some (.cells #[.int .i64 kd, .string tb, .string ⟨#[]⟩, .slice none 0 0, .slice none 0 0, .slice none 0 0, .slice none 0 0] 46 (0, 0))) := by
    have h1 := heap_setCell_same W0 g 0 _ _ (.int .i64 kd) V3.out
    have h2 := heap_setCell_same _ g 1 _ _ (.string tb) h1
    show _ = _
    simpa using h2
  go_upto_region 4 with fail
  generalize (W0.setCell ⟨g, 0, none⟩ (.int .i64 kd)).setCell ⟨g, 1, none⟩ (.string tb) = W1 at *
  clear x0 x1 x2 x3 x4 x5 x6 xf v0 v1 v2 v3 v4 v5 v6 vf BB X2 Y2 V3
  obtain ⟨x0, x1, x2, x3, x4, x5, x6, xf⟩ := cells7 XS.out
  go_wp2_with fail
  refine (HTS.out _ BS.out).mono ?_
  rintro e w2 ⟨b1, q1, b2, q2, b3, q3, rfl, hr2, k2⟩
  have XT := hide ((k2.block _ (blkO XS.out)).trans XS.out)
  have YT := hide ((k2.block _ (blkO YS.out)).trans YS.out)
  have VT := hide ((k2.block _ (blkO VS.out)).trans VS.out)
  have BT := hide (BS.out.trans (k2.mono BS.out.size))
  have RT := hide hr2
  have GT : Hid (g < W1.heap.size) := blkO VS.out
  have ZK : Hid (W1.heap.size ≤ w2.heap.size) := k2.size
  clear k2 hr2 x0 x1 x2 x3 x4 x5 x6 xf XS YS VS HTS
  have S4 : Hid ((((w2.setCell ⟨g, 2, none⟩ (.string nm)).setCell ⟨g, 3, none⟩ (.slice b1 n1 q1)).setCell ⟨g, 4, none⟩ (.slice b2 n2 q2)).setCell ⟨g, 5, none⟩ (.slice b3 n3 q3) = (((w2.setCell ⟨g, 2, none⟩ (.string nm)).setCell ⟨g, 3, none⟩ (.slice b1 n1 q1)).setCell ⟨g, 4, none⟩ (.slice b2 n2 q2)).setCell ⟨g, 5, none⟩ (.slice b3 n3 q3)) := rfl
  clear S4
  have VU : Hid (((((w2.setCell ⟨g, 2, none⟩ (.string nm)).setCell ⟨g, 3, none⟩ (.slice b1 n1 q1)).setCell ⟨g, 4, none⟩ (.slice b2 n2 q2)).setCell ⟨g, 5, none⟩ (.slice b3 n3 q3)).heap[g]? = some (.cells #[.int .i64 kd, .string tb, .string nm, .slice b1 n1 q1, .slice b2 n2 q2, .slice b3 n3 q3, .slice none 0 0] 46 (0, 0))) := by
    have h1 := heap_setCell_same w2 g 2 _ _ (.string nm) VT.out
    have h2 := heap_setCell_same _ g 3 _ _ (.slice b1 n1 q1) h1
    have h3 := heap_setCell_same _ g 4 _ _ (.slice b2 n2 q2) h2
    have h4 := heap_setCell_same _ g 5 _ _ (.slice b3 n3 q3) h3
    show _ = _
    simpa using h4
  have hgy : w.heap.size + 1 ≠ g := by have := HG.out; omega
  have XU := hide (show ((((w2.setCell ⟨g, 2, none⟩ (.string nm)).setCell ⟨g, 3, none⟩ (.slice b1 n1 q1)).setCell ⟨g, 4, none⟩ (.slice b2 n2 q2)).setCell ⟨g, 5, none⟩ (.slice b3 n3 q3)).heap[w.heap.size]? = some (.cells #[.int .i64 kd, .string tb, .string nm, .slice a1 n1 c1, .slice a2 n2 c2, .slice a3 n3 c3, .slice a4 n4 c4] 37 (0, 0)) from by rw [heap_setCell_other _ _ _ _ (show w.heap.size ≠ g from hgx'), heap_setCell_other _ _ _ _ (show w.heap.size ≠ g from hgx'), heap_setCell_other _ _ _ _ (show w.heap.size ≠ g from hgx'), heap_setCell_other _ _ _ _ (show w.heap.size ≠ g from hgx')]; exact XT.out)
  have YU := hide (show ((((w2.setCell ⟨g, 2, none⟩ (.string nm)).setCell ⟨g, 3, none⟩ (.slice b1 n1 q1)).setCell ⟨g, 4, none⟩ (.slice b2 n2 q2)).setCell ⟨g, 5, none⟩ (.slice b3 n3 q3)).heap[w.heap.size + 1]? = some (.cells #[.int .i64 0, .string ⟨#[]⟩, .string ⟨#[]⟩, .slice none 0 0, .slice none 0 0, .slice none 0 0, .slice none 0 0] 46 (0, 0)) from by rw [heap_setCell_other _ _ _ _ (show w.heap.size + 1 ≠ g from hgy), heap_setCell_other _ _ _ _ (show w.heap.size + 1 ≠ g from hgy), heap_setCell_other _ _ _ _ (show w.heap.size + 1 ≠ g from hgy), heap_setCell_other _ _ _ _ (show w.heap.size + 1 ≠ g from hgy)]; exact YT.out)
  have hgw : w.heap.size ≤ g := by have := HG.out; omega
  have BU := hide ((((BT.out.setCell (p := ⟨g, 2, none⟩) hgw (.string nm)).setCell (p := ⟨g, 3, none⟩) hgw (.slice b1 n1 q1)).setCell (p := ⟨g, 4, none⟩) hgw (.slice b2 n2 q2)).setCell (p := ⟨g, 5, none⟩) hgw (.slice b3 n3 q3))
  have RU := hide (((((RT.out.other g 2 (.string nm) GT.out).other g 3 (.slice b1 n1 q1) GT.out).other g 4 (.slice b2 n2 q2) GT.out).other g 5 (.slice b3 n3 q3) GT.out))
  have W1le : Hid (w.heap.size ≤ W1.heap.size) := BS.out.size
  have ZU : Hid (((((w2.setCell ⟨g, 2, none⟩ (.string nm)).setCell ⟨g, 3, none⟩ (.slice b1 n1 q1)).setCell ⟨g, 4, none⟩ (.slice b2 n2 q2)).setCell ⟨g, 5, none⟩ (.slice b3 n3 q3)).heap.size = w2.heap.size) := by show _ = _; simp
  obtain ⟨v0, v1, v2, v3, v4, v5, v6, vf⟩ := cells7 VT.out
  clear BS RT BT
  go_upto_region 5 with fail
  generalize (((w2.setCell ⟨g, 2, none⟩ (.string nm)).setCell ⟨g, 3, none⟩ (.slice b1 n1 q1)).setCell ⟨g, 4, none⟩ (.slice b2 n2 q2)).setCell ⟨g, 5, none⟩ (.slice b3 n3 q3) = W3 at *
  clear v0 v1 v2 v3 v4 v5 v6 vf XT YT VT
  obtain ⟨x0, x1, x2, x3, x4, x5, x6, xf⟩ := cells7 XU.out
  go_wp2_with fail
  refine (HTV.out _ BU.out).mono ?_
  rintro e w4 ⟨b4, q4, rfl, hvr, k4⟩
  have VV := hide ((k4.block _ (blkO VU.out)).trans VU.out)
  have YV := hide ((k4.block _ (blkO YU.out)).trans YU.out)
  have BV := hide (BU.out.trans (k4.mono BU.out.size))
  have GV : Hid (g < W3.heap.size) := blkO VU.out
  have RV := hide (RU.out.kept (k4.mono (by rw [ZU.out]; exact Nat.le_refl _)))
  have HV4 := hide hvr
  have ZV : Hid (W3.heap.size ≤ w4.heap.size) := k4.size
  have EV := hide (HEL.out w4 W1.heap.size b1 q1 b2 q2 b3 q3 b4 q4 (RV.out.mono (Nat.le_refl _) (by have := ZU.out; have := ZV.out; omega)) (HV4.out.mono (by have := ZU.out; have := ZK.out; omega) (Nat.le_refl _)))
  have EW := hide (EV.out.other g 6 (.slice b4 n4 q4) GT.out)
  have ZW : Hid ((w4.setCell ⟨g, 6, none⟩ (.slice b4 n4 q4)).heap.size = w4.heap.size) := by show _ = _; simp
  have VW : Hid ((w4.setCell ⟨g, 6, none⟩ (.slice b4 n4 q4)).heap[g]? = some (.cells #[.int .i64 kd, .string tb, .string nm, .slice b1 n1 q1, .slice b2 n2 q2, .slice b3 n3 q3, .slice b4 n4 q4] 46 (0, 0))) := by
    have h1 := heap_setCell_same w4 g 6 _ _ (.slice b4 n4 q4) VV.out
    show _ = _
    simpa using h1
  have YW := hide (show (w4.setCell ⟨g, 6, none⟩ (.slice b4 n4 q4)).heap[w.heap.size + 1]? = some (.cells #[.int .i64 0, .string ⟨#[]⟩, .string ⟨#[]⟩, .slice none 0 0, .slice none 0 0, .slice none 0 0, .slice none 0 0] 46 (0, 0)) from by rw [heap_setCell_other _ _ _ _ (show w.heap.size + 1 ≠ g from hgy)]; exact YV.out)
  have BW := hide (BV.out.setCell (p := ⟨g, 6, none⟩) hgw (.slice b4 n4 q4))
  obtain ⟨v0, v1, v2, v3, v4, v5, v6, vf⟩ := cells7 VV.out
  clear k4 hvr HEL HTV RU RV HV4 EV BV x0 x1 x2 x3 x4 x5 x6 xf XU YU VU YV
  go_upto_region 6 with fail
  generalize w4.setCell ⟨g, 6, none⟩ (.slice b4 n4 q4) = W5 at *
  clear v0 v1 v2 v3 v4 v5 v6 vf VV
  obtain ⟨x0, x1, x2, x3, x4, x5, x6, xf⟩ := cells7 VW.out
  obtain ⟨y0, y1, y2, y3, y4, y5, y6, yf⟩ := cells7 YW.out
  have hlt1 : w.heap.size + 1 < W1.heap.size := by have := HG.out; have := GT.out; omega
  have EF := hide ((EW.out.other7 (m := 0) (x0 := .int .i64 kd) (x1 := .string tb) (x2 := .string nm) (x3 := .slice b1 n1 q1) (x4 := .slice b2 n2 q2) (x5 := .slice b3 n3 q3) (x6 := .slice b4 n4 q4) hlt1).mono W1le.out (Nat.le_of_eq (ZW.out.symm.trans (set7_size W5 (w.heap.size + 1) 0 (.int .i64 kd) (.string tb) (.string nm) (.slice b1 n1 q1) (.slice b2 n2 q2) (.slice b3 n3 q3) (.slice b4 n4 q4)).symm)))
  have BF := hide (set7_below (m := 0) (x0 := .int .i64 kd) (x1 := .string tb) (x2 := .string nm) (x3 := .slice b1 n1 q1) (x4 := .slice b2 n2 q2) (x5 := .slice b3 n3 q3) (x6 := .slice b4 n4 q4) BW.out (Nat.le_succ _))
  have YF := hide (set7_row (x0 := .int .i64 kd) (x1 := .string tb) (x2 := .string nm) (x3 := .slice b1 n1 q1) (x4 := .slice b2 n2 q2) (x5 := .slice b3 n3 q3) (x6 := .slice b4 n4 q4) YW.out)
  clear EW BW ZW ZV ZU ZK GV
  go_wp2
  refine bodyPost_ret (v := .agg #[.int .i64 kd, .string tb, .string nm, .slice b1 n1 q1, .slice b2 n2 q2, .slice b3 n3 q3, .slice b4 n4 q4]) (resOp Tryz.results15 _ _ (w.heap.size + 1) _ _ _ _ _ _ _ rfl YF.out) rfl ⟨b1, q1, b2, q2, b3, q3, b4, q4, rfl, EF.out, BF.out⟩
end Go.Proofs.YtnangmjcgjlndaaGreat

/-
  Contracts: a list of ops copied.
-/
namespace Go.Proofs.YtnangmjcgjlndaaGreat
open Go.RowKit
set_option maxRecDepth 100000

theorem Tryz.infoOp : (Tryz.prog.info? 46).map (fun i => (i.zero, i.size, i.bytes)) = some (some (.agg #[.int .i64 0, .string ⟨#[]⟩, .string ⟨#[]⟩, .slice none 0 0, .slice none 0 0, .slice none 0 0, .slice none 0 0]), 7, 136) := by kernel_rfl
set_option maxHeartbeats 1000000 in
theorem toOpS_any (A B : Nat) (ao : Option Addr) (cap : Nat) (l : List Opn) (w : World) (hB : B ≤ w.heap.size) (hl : l.length ≤ 1048576) (hxl : ∀ i, i < l.length → opFits (l.getD i noOp)) (hr : OpRow w A B ao l) :
    Calls Tryz.prog 6 #[.slice ao l.length cap] w fun e w' => ∃ bo cp, e = .returned (.slice bo l.length cp) ∧ OpRow w' w.heap.size w'.heap.size bo l ∧ Below w.heap.size w w' := by
  obtain ⟨i0, hi, hz0, hz1, hz2⟩ := info_parts Tryz.infoOp
  have HR : Hid (OpRow w A B ao l) := hr
  clear hr
  go_enter Tryz.func6, Tryz.ntmps6
  go_wp2_with (at_make; refine wpList_make_full _ rfl _ _ 25 rfl w.heap.size 46 i0 (.agg #[.int .i64 0, .string ⟨#[]⟩, .string ⟨#[]⟩, .slice none 0 0, .slice none 0 0, .slice none 0 0, .slice none 0 0]) 7 Tryz.underlying25 hi hz0 hz1 .i64 .i64 _ _ l.length rfl rfl rfl rfl (by rw [hz2]; omega) (by unfold maxLen; omega) (Nat.le_refl _) ?_; intro w1 hown1 hgrow1)
  obtain ⟨cur0, hg0, hl0⟩ : ∃ cur : List Value, w1.heap[w.heap.size]? = some (.cells cur.toArray 46 (0, 0)) ∧ cur.length = l.length * 7 := by
    rcases hown1.2 with ⟨h, _⟩ | ⟨g, cap', cur, hv, _, hg, _, _, hs, _⟩
    · simp at h
    · simp at hv
      obtain ⟨rfl, rfl⟩ := hv
      exact ⟨cur.toList, by simpa using hg, by simpa using hs⟩
  have hb1 : Below w.heap.size w w1 := (Below.refl _ _).grown hgrow1 (Nat.le_refl _) (fun j hj => by simp at hj)
  clear hown1 hgrow1
  go_loopw [4] (fun i wr => ∃ (k : Nat) (cur : List Value), k ≤ l.length ∧ i = .int .i64 k ∧ cur.length = l.length * 7 ∧ wr.heap[w.heap.size]? = some (.cells cur.toArray 46 (0, 0)) ∧ Hid (OpCur wr w.heap.size cur l k) ∧ Below w.heap.size w wr) (fun i _ => l.length - (intOf i).toNat)
  case atStart => exact ⟨0, cur0, Nat.zero_le _, rfl, hl0, hg0, fun i hi => absurd hi (Nat.not_lt_zero _), hb1⟩
  case round =>
    obtain ⟨k, cur, hk, rfl, hlen, hg, HC, hb⟩ := hrel
    clear hb1 hg0 hl0
    have hlt0 : w.heap.size < wr.heap.size := (Array.getElem?_eq_some_iff.1 hg).1
    by_cases hlt : k < l.length
    · obtain ⟨b, off, o, a1, c1, a2, c2, a3, c3, a4, c4, rfl, hbB, hv, hok, hs, hva, d0, d1, d2, d3, d4, d5, d6⟩ := (HR.out.kept (hb.mono hB)).at k hlt
      have HV : Hid (l.getD k noOp = o) := hv
      have HT := hide (toOp_any A B o a1 c1 a2 c2 a3 c3 a4 c4 wr (Nat.le_trans hB hb.size) (hv ▸ hxl k hlt) hok hs hva)
      clear hv hok hs hva
      go_wp2_with fail
      refine HT.out.mono ?_
      rintro e w2 ⟨b1, q1, b2, q2, b3, q3, b4, q4, rfl, he2, hb2⟩
      have hg2 : w2.heap[w.heap.size]? = some (.cells cur.toArray 46 (0, 0)) := (hb2.block _ hlt0).trans hg
      have hk7 : k * 7 + 7 ≤ cur.length := by omega
      have HC3 : Hid (OpCur (set7 w2 w.heap.size (k * 7) (.int .i64 o.kind) (.string o.table) (.string o.sch.name) (.slice b1 o.sch.cols.length q1) (.slice b2 o.sch.key.length q2) (.slice b3 o.sch.idx.length q3) (.slice b4 o.row.length q4)) w.heap.size (lset7 cur (k * 7) (.int .i64 o.kind) (.string o.table) (.string o.sch.name) (.slice b1 o.sch.cols.length q1) (.slice b2 o.sch.key.length q2) (.slice b3 o.sch.idx.length q3) (.slice b4 o.row.length q4)) l (k + 1)) := opCur_step HC.out hb2 hk7 (by rw [HV.out]; exact he2.mono (by omega) (Nat.le_refl _))
      have hb3 := hb.trans (hb2.mono hb.size)
      have e0 : ∃ v, w2.cell? ⟨w.heap.size, k * 7, none⟩ = some v := ⟨_, by rw [cell_of_row _ _ _ _ _ _ hg2, List.getElem?_toArray]; exact List.getElem?_eq_getElem (by omega)⟩
      have e1 : ∃ v, w2.cell? ⟨w.heap.size, k * 7 + 1, none⟩ = some v := ⟨_, by rw [cell_of_row _ _ _ _ _ _ hg2, List.getElem?_toArray]; exact List.getElem?_eq_getElem (by omega)⟩
      have e2 : ∃ v, w2.cell? ⟨w.heap.size, k * 7 + 2, none⟩ = some v := ⟨_, by rw [cell_of_row _ _ _ _ _ _ hg2, List.getElem?_toArray]; exact List.getElem?_eq_getElem (by omega)⟩
      have e3 : ∃ v, w2.cell? ⟨w.heap.size, k * 7 + 3, none⟩ = some v := ⟨_, by rw [cell_of_row _ _ _ _ _ _ hg2, List.getElem?_toArray]; exact List.getElem?_eq_getElem (by omega)⟩
      have e4 : ∃ v, w2.cell? ⟨w.heap.size, k * 7 + 4, none⟩ = some v := ⟨_, by rw [cell_of_row _ _ _ _ _ _ hg2, List.getElem?_toArray]; exact List.getElem?_eq_getElem (by omega)⟩
      have e5 : ∃ v, w2.cell? ⟨w.heap.size, k * 7 + 5, none⟩ = some v := ⟨_, by rw [cell_of_row _ _ _ _ _ _ hg2, List.getElem?_toArray]; exact List.getElem?_eq_getElem (by omega)⟩
      have e6 : ∃ v, w2.cell? ⟨w.heap.size, k * 7 + 6, none⟩ = some v := ⟨_, by rw [cell_of_row _ _ _ _ _ _ hg2, List.getElem?_toArray]; exact List.getElem?_eq_getElem (by omega)⟩
      obtain ⟨u0, e0⟩ := e0
      obtain ⟨u1, e1⟩ := e1
      obtain ⟨u2, e2⟩ := e2
      obtain ⟨u3, e3⟩ := e3
      obtain ⟨u4, e4⟩ := e4
      obtain ⟨u5, e5⟩ := e5
      obtain ⟨u6, e6⟩ := e6
      have ef : ∀ j, w2.frozen? ⟨w.heap.size, j, none⟩ = false := fun j => frozen_of_row _ _ _ _ _ hg2
      have HG := hide (set7_heap (m := k * 7) (x0 := .int .i64 o.kind) (x1 := .string o.table) (x2 := .string o.sch.name) (x3 := .slice b1 o.sch.cols.length q1) (x4 := .slice b2 o.sch.key.length q2) (x5 := .slice b3 o.sch.idx.length q3) (x6 := .slice b4 o.row.length q4) hg2)
      have hlen2 : (lset7 cur (k * 7) (.int .i64 o.kind) (.string o.table) (.string o.sch.name) (.slice b1 o.sch.cols.length q1) (.slice b2 o.sch.key.length q2) (.slice b3 o.sch.idx.length q3) (.slice b4 o.row.length q4)).length = l.length * 7 := (lset7_len _ _ _ _ _ _ _ _ _).trans hlen
      have HB3 := hide (set7_below (m := k * 7) (x0 := .int .i64 o.kind) (x1 := .string o.table) (x2 := .string o.sch.name) (x3 := .slice b1 o.sch.cols.length q1) (x4 := .slice b2 o.sch.key.length q2) (x5 := .slice b3 o.sch.idx.length q3) (x6 := .slice b4 o.row.length q4) hb3 (Nat.le_refl _))
      clear hg2 hg d0 d1 d2 d3 d4 d5 d6 hb hb2 hb3 he2 HC HV HT hk7
      go_wp2
      go_roundw
      case rel => exact ⟨k + 1, lset7 cur (k * 7) (.int .i64 o.kind) (.string o.table) (.string o.sch.name) (.slice b1 o.sch.cols.length q1) (.slice b2 o.sch.key.length q2) (.slice b3 o.sch.idx.length q3) (.slice b4 o.row.length q4), by omega, by go_num, hlen2, HG.out, HC3, HB3.out⟩
      case measure => simp [intOf]; omega
    · obtain rfl : k = l.length := by omega
      have HF := hide (opRow_of hg HC.out)
      go_wp2
      go_ret
      exact ⟨_, _, rfl, HF.out, hb⟩
end Go.Proofs.YtnangmjcgjlndaaGreat

/-
  Contracts: ops held against each other.
-/
namespace Go.Proofs.YtnangmjcgjlndaaGreat
open Go.RowKit
set_option maxRecDepth 100000

set_option maxHeartbeats 4000000 in
theorem eqOp_same (A B A' B' : Nat) (o : Opn) (a1 : Option Addr) (c1 : Nat) (a2 : Option Addr) (c2 : Nat) (a3 : Option Addr) (c3 : Nat) (a4 : Option Addr) (c4 : Nat) (b1 : Option Addr) (q1 : Nat) (b2 : Option Addr) (q2 : Nat) (b3 : Option Addr) (q3 : Nat) (b4 : Option Addr) (q4 : Nat) (w : World) (hB : B ≤ w.heap.size) (hB' : B' ≤ w.heap.size) (hf : opFits o)
    (hs : SchRow w A B a1 a2 a3 c2 o.sch) (hv : VRowA w A B a4 o.row) (hs' : SchRow w A' B' b1 b2 b3 q2 o.sch) (hv' : VRowA w A' B' b4 o.row) :
    Calls Tryz.prog 22 #[(.agg #[.int .i64 o.kind, .string o.table, .string o.sch.name, .slice a1 o.sch.cols.length c1, .slice a2 o.sch.key.length c2, .slice a3 o.sch.idx.length c3, .slice a4 o.row.length c4]), (.agg #[.int .i64 o.kind, .string o.table, .string o.sch.name, .slice b1 o.sch.cols.length q1, .slice b2 o.sch.key.length q2, .slice b3 o.sch.idx.length q3, .slice b4 o.row.length q4])] w fun e w' => e = .returned (.bool true) ∧ Below w.heap.size w w' := by
  have HES := hide (fun (W : World) (hb : Below w.heap.size w W) => eqSchema_same A B A' B' a1 c1 a2 c2 a3 c3 b1 q1 b2 q2 b3 q3 o.sch W (Nat.le_trans hB hb.size) (Nat.le_trans hB' hb.size) hf.1 (hs.kept (hb.mono hB)) (hs'.kept (hb.mono hB')))
  have HEV := hide (fun (W : World) (hb : Below w.heap.size w W) => eqValueS_same a4 c4 b4 q4 o.row W hf.2 ((hv.1.kept (hb.mono hB)).mono (Nat.le_trans hB hb.size)) ((hv'.1.kept (hb.mono hB')).mono (Nat.le_trans hB' hb.size)))
  clear hs hv hs' hv' hf hB hB'
  generalize o.kind = kd at *
  generalize o.table = tb at *
  generalize o.sch.name = nm at *
  generalize o.sch.cols.length = n1 at *
  generalize o.sch.key.length = n2 at *
  generalize o.sch.idx.length = n3 at *
  generalize o.row.length = n4 at *
  have HA := hide (two_allocs w (.cells #[.int .i64 kd, .string tb, .string nm, .slice a1 n1 c1, .slice a2 n2 c2, .slice a3 n3 c3, .slice a4 n4 c4] 46) (.cells #[.int .i64 kd, .string tb, .string nm, .slice b1 n1 q1, .slice b2 n2 q2, .slice b3 n3 q3, .slice b4 n4 q4] 46))
  have B0 := hide (((Below.refl w.heap.size w).alloc (Nat.le_refl _) (.cells #[.int .i64 kd, .string tb, .string nm, .slice a1 n1 c1, .slice a2 n2 c2, .slice a3 n3 c3, .slice a4 n4 c4] 46)).alloc (by simp) (.cells #[.int .i64 kd, .string tb, .string nm, .slice b1 n1 q1, .slice b2 n2 q2, .slice b3 n3 q3, .slice b4 n4 q4] 46))
  go_enter Tryz.func22, Tryz.ntmps22
  go_wp2_with fail
  refine (HES.out _ B0.out).mono ?_
  generalize (w.alloc (.cells #[.int .i64 kd, .string tb, .string nm, .slice a1 n1 c1, .slice a2 n2 c2, .slice a3 n3 c3, .slice a4 n4 c4] 46)).alloc (.cells #[.int .i64 kd, .string tb, .string nm, .slice b1 n1 q1, .slice b2 n2 q2, .slice b3 n3 q3, .slice b4 n4 q4] 46) = W0 at *
  rintro e w1 ⟨rfl, g1⟩
  obtain ⟨hx, hy, hz⟩ := HA.out
  obtain ⟨x0, x1, x2, x3, x4, x5, x6, xf⟩ := cells7 ((g1.block w.heap.size (by omega)).trans hx)
  obtain ⟨y0, y1, y2, y3, y4, y5, y6, yf⟩ := cells7 ((g1.block (w.heap.size + 1) (by omega)).trans hy)
  have B1 := hide (B0.out.trans (g1.mono (by omega)))
  clear g1 hx hy hz HA B0 HES
  go_wp2_with fail
  refine (HEV.out _ B1.out).mono ?_
  rintro e w2 ⟨rfl, g2⟩
  have B2 := hide (B1.out.trans (g2.mono B1.out.size))
  clear g2 B1 HEV x0 x1 x2 x3 x4 x5 x6 xf y0 y1 y2 y3 y4 y5 y6 yf
  go_wp2
  go_ret
  exact ⟨rfl, B2.out⟩
set_option maxHeartbeats 4000000 in
theorem eqOpS_same (A B A' B' : Nat) (ao : Option Addr) (cap : Nat) (bo : Option Addr) (cp : Nat) (l : List Opn) (w : World) (hB : B ≤ w.heap.size) (hB' : B' ≤ w.heap.size) (hl : l.length ≤ 1048576) (hxl : ∀ i, i < l.length → opFits (l.getD i noOp)) (ha : OpRow w A B ao l) (hb : OpRow w A' B' bo l) :
    Calls Tryz.prog 8 #[.slice ao l.length cap, .slice bo l.length cp] w fun e w' => e = .returned (.bool true) ∧ Below w.heap.size w w' := by
  have HA : Hid (OpRow w A B ao l) := ha
  have HB : Hid (OpRow w A' B' bo l) := hb
  clear ha hb
  go_enter Tryz.func8, Tryz.ntmps8
  go_wp2
  go_loopw [5] (fun i wr => ∃ k : Nat, k ≤ l.length ∧ i = .int .i64 k ∧ Below w.heap.size w wr) (fun i _ => l.length - (intOf i).toNat)
  case atStart => exact ⟨0, Nat.zero_le _, rfl, Below.refl _ _⟩
  case round =>
    obtain ⟨k, hk, rfl, hbw⟩ := hrel
    by_cases hlt : k < l.length
    · obtain ⟨b, off, o, a1, c1, a2, c2, a3, c3, a4, c4, rfl, hbB, hv, hok, hs, hva, d0, d1, d2, d3, d4, d5, d6⟩ := (HA.out.kept (hbw.mono hB)).at k hlt
      obtain ⟨b', off', o', b1, q1, b2, q2, b3, q3, b4, q4, rfl, hbB', hv', hok', hs', hva', e0, e1, e2, e3, e4, e5, e6⟩ := (HB.out.kept (hbw.mono hB')).at k hlt
      rw [hv] at hv'
      subst hv'
      have hll := hxl k hlt
      rw [hv] at hll
      have hz := hbw.size
      have hi0 : (0 : Int) ≤ (k : Int) := by omega
      have hi1 : (k : Int) < (l.length : Int) := by omega
      have ht := (Int.toNat_natCast k)
      have HI := hide (fun (W : World) (hbW : Below wr.heap.size wr W) => eqOp_same A B A' B' o a1 c1 a2 c2 a3 c3 a4 c4 b1 q1 b2 q2 b3 q3 b4 q4 W (by have := hbW.size; omega) (by have := hbW.size; omega) hll (hs.kept (hbW.mono (by omega))) (hva.kept (hbW.mono (by omega))) (hs'.kept (hbW.mono (by omega))) (hva'.kept (hbW.mono (by omega))))
      clear hv hok hok' hs hs' hva hva' hll
      generalize o.kind = kd at *
      generalize o.table = tb at *
      generalize o.sch.name = nm at *
      generalize o.sch.cols.length = n1 at *
      generalize o.sch.key.length = n2 at *
      generalize o.sch.idx.length = n3 at *
      generalize o.row.length = n4 at *
      go_wp2
      go_region_held3 (fun W => (W.cell? ⟨b, off + k * 7, none⟩ = some (.int .i64 kd) ∧ W.cell? ⟨b, off + k * 7 + 1, none⟩ = some (.string tb) ∧ W.cell? ⟨b, off + k * 7 + 2, none⟩ = some (.string nm) ∧ W.cell? ⟨b, off + k * 7 + 3, none⟩ = some (.slice a1 n1 c1) ∧ W.cell? ⟨b, off + k * 7 + 4, none⟩ = some (.slice a2 n2 c2) ∧ W.cell? ⟨b, off + k * 7 + 5, none⟩ = some (.slice a3 n3 c3) ∧ W.cell? ⟨b, off + k * 7 + 6, none⟩ = some (.slice a4 n4 c4)) ∧ (W.cell? ⟨b', off' + k * 7, none⟩ = some (.int .i64 kd) ∧ W.cell? ⟨b', off' + k * 7 + 1, none⟩ = some (.string tb) ∧ W.cell? ⟨b', off' + k * 7 + 2, none⟩ = some (.string nm) ∧ W.cell? ⟨b', off' + k * 7 + 3, none⟩ = some (.slice b1 n1 q1) ∧ W.cell? ⟨b', off' + k * 7 + 4, none⟩ = some (.slice b2 n2 q2) ∧ W.cell? ⟨b', off' + k * 7 + 5, none⟩ = some (.slice b3 n3 q3) ∧ W.cell? ⟨b', off' + k * 7 + 6, none⟩ = some (.slice b4 n4 q4))) (go_keep) (first
        | (go_at_call 22; refine (HI.out _ (Below.refl _ _).drew).mono ?_; rintro e w1 ⟨rfl, hb1⟩; have hb1' : Below wr.heap.size wr w1 := (Below.refl _ _).drew.trans hb1; have hq1 : b < wr.heap.size := (by omega); have hq2 : b' < wr.heap.size := (by omega); have D0 := (hb1'.cell (p := ⟨b, off + k * 7, none⟩) hq1).trans d0; have D1 := (hb1'.cell (p := ⟨b, off + k * 7 + 1, none⟩) hq1).trans d1; have D2 := (hb1'.cell (p := ⟨b, off + k * 7 + 2, none⟩) hq1).trans d2; have D3 := (hb1'.cell (p := ⟨b, off + k * 7 + 3, none⟩) hq1).trans d3; have D4 := (hb1'.cell (p := ⟨b, off + k * 7 + 4, none⟩) hq1).trans d4; have D5 := (hb1'.cell (p := ⟨b, off + k * 7 + 5, none⟩) hq1).trans d5; have D6 := (hb1'.cell (p := ⟨b, off + k * 7 + 6, none⟩) hq1).trans d6; have E0 := (hb1'.cell (p := ⟨b', off' + k * 7, none⟩) hq2).trans e0; have E1 := (hb1'.cell (p := ⟨b', off' + k * 7 + 1, none⟩) hq2).trans e1; have E2 := (hb1'.cell (p := ⟨b', off' + k * 7 + 2, none⟩) hq2).trans e2; have E3 := (hb1'.cell (p := ⟨b', off' + k * 7 + 3, none⟩) hq2).trans e3; have E4 := (hb1'.cell (p := ⟨b', off' + k * 7 + 4, none⟩) hq2).trans e4; have E5 := (hb1'.cell (p := ⟨b', off' + k * 7 + 5, none⟩) hq2).trans e5; have E6 := (hb1'.cell (p := ⟨b', off' + k * 7 + 6, none⟩) hq2).trans e6; clear d0 d1 d2 d3 d4 d5 d6 e0 e1 e2 e3 e4 e5 e6))
      all_goals
        have hb2 := hbw.trans (hb1'.mono hz)
        clear D0 D1 D2 D3 D4 D5 D6 E0 E1 E2 E3 E4 E5 E6 hb1 hb1' hbw HI
        go_wp2
        go_roundw
        case rel => exact ⟨k + 1, by omega, by go_num, hb2⟩
        case measure => simp [intOf]; omega
    · go_wp2
      go_ret
      exact ⟨rfl, hbw⟩
end Go.Proofs.YtnangmjcgjlndaaGreat

/-
  What came in as an argument: numbers; a schema.
-/
namespace Go.Proofs.YtnangmjcgjlndaaGreat
open Go.RowKit Go.ChangeShapes Go.WideShapes
set_option maxRecDepth 100000

def IsNums (w : World) (v : Value) : Prop := ∃ ao cap l, v = .slice ao l.length cap ∧ (l.length ≤ cap ∧ cap ≤ maxLen) ∧ IntRow w 0 w.heap.size ao l
def IsSch (w : World) (v : Value) : Prop := ∃ ao c1 ko c2 xo c3 s, v = .agg #[.string s.name, .slice ao s.cols.length c1, .slice ko s.key.length c2, .slice xo s.idx.length c3] ∧ SchRow w 0 w.heap.size ao ko xo c2 s

section
variable {H : Type} {enc : TypeId × Value → H} {W : World}

theorem addOffS (b off : Nat) (k : Nat) : (⟨b, off, none⟩ : Addr).add k = ⟨b, off + k, none⟩ := by unfold Addr.add; split <;> simp_all
theorem listOf {α : Type} {n : Nat} {p : Nat → α → Prop} (h : ∀ i, i < n → ∃ x, p i x) : ∃ l : List α, l.length = n ∧ ∀ i (hi : i < l.length), p i l[i] := by
  induction n with
  | zero => exact ⟨[], rfl, fun i hi => by simp at hi⟩
  | succ n ih =>
    obtain ⟨l, hl, hp⟩ := ih (fun i hi => h i (by omega))
    obtain ⟨x, hx⟩ := h n (by omega)
    refine ⟨l ++ [x], by simp [hl], fun i hi => ?_⟩
    by_cases hi' : i < l.length
    · rw [List.getElem_append_left hi']; exact hp i hi'
    · have e : i = n := by simp at hi; omega
      subst e
      rw [List.getElem_append_right (by omega)]
      simpa [hl] using hx
/-- A slice whose elements can each be read as a thing. -/
theorem readSlice {α : Type} {t e : TypeId} {n : Nat} (hn : 1 ≤ n) (ht : Tryz.prog.underlying t = some (.slice e)) (hC : Tryz.prog.cellsOf e = n) (p : List Value → α → Prop) {base : Nat} {spare : Nat → Bool} {held : Bool}
    (he : ∀ fuel cs y, DataW.trod enc Tryz.prog W base spare held fuel e cs = some y → ∃ x, p cs x) {fuel : Nat} {cs : List Value} {y : DataW H × List MemPlace} (h : DataW.trod enc Tryz.prog W base spare held fuel t cs = some y) :
    ∃ ao cap l, cs = [.slice ao (List.length l) cap] ∧ (l.length ≤ cap ∧ cap ≤ maxLen) ∧ (l.length = 0 ∨ ∃ b off, ao = some ⟨b, off, none⟩ ∧ b < W.heap.size) ∧
      ∀ b off, ao = some ⟨b, off, none⟩ → ∀ i (hi : i < l.length), ∃ cs', p cs' l[i] ∧ cs'.length = n ∧ ∀ j (hj : j < cs'.length), W.cell? ⟨b, off + i * n + j, none⟩ = some cs'[j] := by
  rcases Deep.open_slice ht h with ⟨hcs, _⟩ | ⟨a, len', cap', m, n', D, Pl, hcs, _, hl, hm, hmm, _, hx⟩
  · exact ⟨none, 0, [], by simpa using hcs, ⟨Nat.le_refl _, Nat.zero_le _⟩, .inl rfl, fun b off e => by cases e⟩
  · rw [hC] at hx
    have hlm : len' ≤ m := by rw [hmm]; split <;> omega
    obtain ⟨l, hvl, hvp⟩ := listOf (n := len') (p := fun i (x : α) => ∃ cs', p cs' x ∧ cs'.length = n ∧ ∀ j (hj : j < cs'.length), W.cell? ((a.add (i * n)).add j) = some cs'[j]) (fun i hi => by
      obtain ⟨cs', h1, h2⟩ := hx i (by omega)
      obtain ⟨x, hp⟩ := he _ _ _ h2
      obtain ⟨_, hlen, hc⟩ := World.cells?_some h1
      exact ⟨x, cs', hp, hlen, fun j hj => (hc j (by omega)).trans (List.getElem?_eq_getElem hj)⟩)
    subst hvl
    obtain ⟨b, off, spot⟩ := a
    refine ⟨_, cap', l, hcs, ⟨hl, hm⟩, ?_, ?_⟩
    · by_cases h0 : l.length = 0
      · exact .inl h0
      · obtain ⟨cs', _, hlen, hc⟩ := hvp 0 (by omega)
        have h1 := hc 0 (by omega)
        have hspot : spot = none := by simpa [Addr.add] using World.cell?_spot h1
        subst hspot
        simp only [addOffS] at h1
        exact .inr ⟨b, off, rfl, by simpa using block_lt_of_cell h1⟩
    · intro b' off' e i hi
      cases e
      obtain ⟨cs', hp, hlen, hc⟩ := hvp i hi
      exact ⟨cs', hp, hlen, fun j hj => by have := hc j hj; simpa only [addOffS] using this⟩
theorem getD_of {α : Type} (l : List α) (d : α) (i : Nat) (h : i < l.length) : l.getD i d = l[i] := by
  rw [List.getD_eq_getElem?_getD, List.getElem?_eq_getElem h]; rfl
theorem readNums {base : Nat} {spare : Nat → Bool} {held : Bool} {fuel : Nat} {cs : List Value} {y : DataW H × List MemPlace} (h : DataW.trod enc Tryz.prog W base spare held fuel 31 cs = some y) :
    ∃ ao cap l, cs = [.slice ao (List.length l) cap] ∧ (l.length ≤ cap ∧ cap ≤ maxLen) ∧ IntRow W 0 W.heap.size ao l := by
  obtain ⟨ao, cap, l, rfl, hc, hb, hx⟩ := readSlice (n := 1) (Nat.le_refl _) Tryz.underlying31 (by kernel_rfl) (fun cs (x : Int) => cs = [.int .i64 x] ∧ inI64 x) (fun fuel cs y h => by
    obtain ⟨a, ea, _, wa⟩ := DataW.trod_int Tryz.underlying2 h
    exact ⟨a, ea, bounds_i64 wa⟩) h
  refine ⟨ao, cap, l, rfl, hc, fun x hx' => ?_, ?_⟩
  · obtain ⟨i, hi, rfl⟩ := List.getElem_of_mem hx'
    rcases hb with h0 | ⟨b, off, e, _⟩
    · omega
    · obtain ⟨_, hp, _⟩ := hx b off e i hi
      exact hp.2
  · rcases hb with h0 | ⟨b, off, e, hlt⟩
    · exact .inl h0
    · refine .inr ⟨b, off, e, Nat.zero_le _, hlt, fun i hi => ?_⟩
      obtain ⟨cs', ⟨rfl, _⟩, _, hcell⟩ := hx b off e i hi
      have := hcell 0 (by simp)
      rw [getD_of l 0 i hi]; simpa using this
theorem readCol {base : Nat} {spare : Nat → Bool} {held : Bool} {fuel : Nat} {cs : List Value} {y : DataW H × List MemPlace} (h : DataW.trod enc Tryz.prog W base spare held fuel 111 cs = some y) :
    ∃ c : Col, cs = [.string c.name, .int .i64 c.kind, .bool c.nul] ∧ inI64 c.kind ∧ c.name.size ≤ maxLen := by
  obtain ⟨y0, y1, y2, n, _, hl, h0, h1, h2⟩ := Deep.trod_struct3 Tryz.underlying111 h
  have hC : Tryz.prog.cellsOf 111 = 3 := by kernel_rfl
  rw [hC] at hl
  match cs, hl with
  | [c0, c1, c2], _ =>
    have cI : Tryz.prog.cellsOf 2 = 1 := by kernel_rfl
    have cS : Tryz.prog.cellsOf 9 = 1 := by kernel_rfl
    have cB : Tryz.prog.cellsOf 4 = 1 := by kernel_rfl
    have e0 : (([c0, c1, c2] : List Value).drop 0).take (Tryz.prog.cellsOf 9) = [c0] := by rw [cS]; rfl
    have e1 : (([c0, c1, c2] : List Value).drop 1).take (Tryz.prog.cellsOf 2) = [c1] := by rw [cI]; rfl
    have e2 : (([c0, c1, c2] : List Value).drop 2).take (Tryz.prog.cellsOf 4) = [c2] := by rw [cB]; rfl
    have h0' : DataW.trod enc Tryz.prog W base spare held n 9 [c0] = some y0 := by rw [← e0]; exact h0
    have h1' : DataW.trod enc Tryz.prog W base spare held n 2 [c1] = some y1 := by rw [← e1]; exact h1
    have h2' : DataW.trod enc Tryz.prog W base spare held n 4 [c2] = some y2 := by rw [← e2]; exact h2
    obtain ⟨t, et, _, wt⟩ := DataW.trod_string Tryz.underlying9 h0'
    obtain ⟨a, ea, _, wa⟩ := DataW.trod_int Tryz.underlying2 h1'
    obtain ⟨u, eu, _⟩ := DataW.trod_bool Tryz.underlying4 h2'
    simp only [List.cons.injEq, and_true] at ea eu et
    subst ea eu et
    exact ⟨⟨t, a, u⟩, rfl, bounds_i64 wa, wt⟩
theorem readCols {base : Nat} {spare : Nat → Bool} {held : Bool} {fuel : Nat} {cs : List Value} {y : DataW H × List MemPlace} (h : DataW.trod enc Tryz.prog W base spare held fuel 30 cs = some y) :
    ∃ ao cap l, cs = [.slice ao (List.length l) cap] ∧ (l.length ≤ cap ∧ cap ≤ maxLen) ∧ ColRow W 0 W.heap.size ao l := by
  obtain ⟨ao, cap, l, rfl, hc, hb, hx⟩ := readSlice (n := 3) (by omega) Tryz.underlying30 (by kernel_rfl) (fun cs (c : Col) => cs = [.string c.name, .int .i64 c.kind, .bool c.nul] ∧ inI64 c.kind ∧ c.name.size ≤ maxLen) (fun fuel cs y h => readCol h) h
  refine ⟨ao, cap, l, rfl, hc, fun x hx' => ?_, ?_⟩
  · obtain ⟨i, hi, rfl⟩ := List.getElem_of_mem hx'
    rcases hb with h0 | ⟨b, off, e, _⟩
    · omega
    · obtain ⟨_, hp, _⟩ := hx b off e i hi
      exact hp.2
  · rcases hb with h0 | ⟨b, off, e, hlt⟩
    · exact .inl h0
    · refine .inr ⟨b, off, e, Nat.zero_le _, hlt, fun i hi => ?_⟩
      obtain ⟨cs', ⟨rfl, _⟩, _, hcell⟩ := hx b off e i hi
      rw [getD_of l noCol i hi]
      exact ⟨by simpa using hcell 0 (by simp), by simpa using hcell 1 (by simp), by simpa using hcell 2 (by simp)⟩
theorem readIdx {base : Nat} {spare : Nat → Bool} {held : Bool} {fuel : Nat} {cs : List Value} {y : DataW H × List MemPlace} (h : DataW.trod enc Tryz.prog W base spare held fuel 113 cs = some y) :
    ∃ x : Idx, ∃ io cp, cs = [.slice io x.cols.length cp, .bool x.uniq] ∧ (x.cols.length ≤ cp ∧ cp ≤ maxLen) ∧ IntRow W 0 W.heap.size io x.cols := by
  obtain ⟨y0, y1, n, _, hl, h0, h1⟩ := trod_struct2 Tryz.underlying113 h
  have hC : Tryz.prog.cellsOf 113 = 2 := by kernel_rfl
  rw [hC] at hl
  match cs, hl with
  | [c0, c1], _ =>
    have cI : Tryz.prog.cellsOf 31 = 1 := by kernel_rfl
    have cB : Tryz.prog.cellsOf 4 = 1 := by kernel_rfl
    have e0 : (([c0, c1] : List Value).drop 0).take (Tryz.prog.cellsOf 31) = [c0] := by rw [cI]; rfl
    have e1 : (([c0, c1] : List Value).drop 1).take (Tryz.prog.cellsOf 4) = [c1] := by rw [cB]; rfl
    have h0' : DataW.trod enc Tryz.prog W base spare held n 31 [c0] = some y0 := by rw [← e0]; exact h0
    have h1' : DataW.trod enc Tryz.prog W base spare held n 4 [c1] = some y1 := by rw [← e1]; exact h1
    obtain ⟨io, cp, l, et, hcp, hr⟩ := readNums h0'
    obtain ⟨u, eu, _⟩ := DataW.trod_bool Tryz.underlying4 h1'
    simp only [List.cons.injEq, and_true] at eu et
    subst eu et
    exact ⟨⟨l, u⟩, io, cp, rfl, hcp, hr⟩
theorem readIdxs {base : Nat} {spare : Nat → Bool} {held : Bool} {fuel : Nat} {cs : List Value} {y : DataW H × List MemPlace} (h : DataW.trod enc Tryz.prog W base spare held fuel 32 cs = some y) :
    ∃ ao cap l, cs = [.slice ao (List.length l) cap] ∧ (l.length ≤ cap ∧ cap ≤ maxLen) ∧ IdxRow W 0 W.heap.size ao l := by
  obtain ⟨ao, cap, l, rfl, hc, hb, hx⟩ := readSlice (n := 2) (by omega) Tryz.underlying32 (by kernel_rfl) (fun cs (x : Idx) => ∃ io cp, cs = [.slice io x.cols.length cp, .bool x.uniq] ∧ (x.cols.length ≤ cp ∧ cp ≤ maxLen) ∧ IntRow W 0 W.heap.size io x.cols) (fun fuel cs y h => readIdx h) h
  refine ⟨ao, cap, l, rfl, hc, ?_⟩
  rcases hb with h0 | ⟨b, off, e, hlt⟩
  · exact .inl h0
  · refine .inr ⟨b, off, e, Nat.zero_le _, hlt, fun i hi => ?_⟩
    obtain ⟨cs', ⟨io, cp, rfl, hcp, hr⟩, _, hcell⟩ := hx b off e i hi
    rw [getD_of l noIdx i hi]
    exact ⟨io, cp, by simpa using hcell 0 (by simp), by simpa using hcell 1 (by simp), hcp, hr⟩
theorem rdNums {base : Nat} {v : Value} {d : DataW H} {p : List MemPlace} (hv : Value.okWide Tryz.prog W .any base 31 v) (h : DataW.Trod enc Tryz.prog W 0 (fun _ => true) true 31 v d p) : IsNums W v := by
  obtain ⟨ao, len, cap, rfl⟩ := okWide_slice Tryz.underlying31 hv
  obtain ⟨fuel, hf⟩ := h
  obtain ⟨ao', cap', l, hcs, hc, hr⟩ := readNums hf
  simp [Value.cells] at hcs
  obtain ⟨rfl, rfl, rfl⟩ := hcs
  exact ⟨ao, cap, l, rfl, hc, hr⟩
theorem rdSch {base : Nat} {v : Value} {d : DataW H} {p : List MemPlace} (hv : Value.okWide Tryz.prog W .any base 34 v) (h : DataW.Trod enc Tryz.prog W 0 (fun _ => true) true 34 v d p) : IsSch W v := by
  obtain ⟨fuel, hf⟩ := h
  obtain ⟨cs, rfl, _⟩ := okWide_struct Tryz.underlying34 hv
  obtain ⟨ys, n, _, _, hl, hlen, hx⟩ := DataW.trod_struct Tryz.underlying34 hf
  have hC : Tryz.prog.cellsOf 34 = 4 := by kernel_rfl
  rw [hC] at hl
  match ys, hlen with
  | [y0, y1, y2, y3], _ =>
    have h0 := hx 0 _ rfl
    have h1 := hx 1 _ rfl
    have h2 := hx 2 _ rfl
    have h3 := hx 3 _ rfl
    obtain ⟨c0, c1, c2, c3, hcs⟩ : ∃ c0 c1 c2 c3, cs.toList = [c0, c1, c2, c3] := by
      have hl' : cs.toList.length = 4 := by simpa [Value.cells] using hl
      match hcl : cs.toList, hl' with
      | [c0, c1, c2, c3], _ => exact ⟨c0, c1, c2, c3, rfl⟩
    have hcv : (Value.agg cs).cells.toList = [c0, c1, c2, c3] := by simpa [Value.cells] using hcs
    rw [hcv] at h0 h1 h2 h3
    have cS : Tryz.prog.cellsOf 9 = 1 := by kernel_rfl
    have cC : Tryz.prog.cellsOf 30 = 1 := by kernel_rfl
    have cN : Tryz.prog.cellsOf 31 = 1 := by kernel_rfl
    have cX : Tryz.prog.cellsOf 32 = 1 := by kernel_rfl
    have e0 : (([c0, c1, c2, c3] : List Value).drop 0).take (Tryz.prog.cellsOf 9) = [c0] := by rw [cS]; rfl
    have e1 : (([c0, c1, c2, c3] : List Value).drop 1).take (Tryz.prog.cellsOf 30) = [c1] := by rw [cC]; rfl
    have e2 : (([c0, c1, c2, c3] : List Value).drop 2).take (Tryz.prog.cellsOf 31) = [c2] := by rw [cN]; rfl
    have e3 : (([c0, c1, c2, c3] : List Value).drop 3).take (Tryz.prog.cellsOf 32) = [c3] := by rw [cX]; rfl
    have h0' : DataW.trod enc Tryz.prog W 0 (fun _ => true) true n 9 [c0] = some y0 := by rw [← e0]; exact h0
    have h1' : DataW.trod enc Tryz.prog W 0 (fun _ => true) true n 30 [c1] = some y1 := by rw [← e1]; exact h1
    have h2' : DataW.trod enc Tryz.prog W 0 (fun _ => true) true n 31 [c2] = some y2 := by rw [← e2]; exact h2
    have h3' : DataW.trod enc Tryz.prog W 0 (fun _ => true) true n 32 [c3] = some y3 := by rw [← e3]; exact h3
    obtain ⟨t, et, _, wt⟩ := DataW.trod_string Tryz.underlying9 h0'
    obtain ⟨ao, k1, lc, ec, hk1, hrc⟩ := readCols h1'
    obtain ⟨ko, k2, ln, en, hk2, hrn⟩ := readNums h2'
    obtain ⟨xo, k3, lx, ex, hk3, hrx⟩ := readIdxs h3'
    simp only [List.cons.injEq, and_true] at et ec en ex
    subst et ec en ex
    refine ⟨ao, k1, ko, k2, xo, k3, ⟨t, lc, ln, lx⟩, ?_, ⟨wt, Nat.le_trans hk1.1 hk1.2, hk2, Nat.le_trans hk3.1 hk3.2⟩, hrc, hrn, hrx⟩
    rw [← Array.toArray_toList (xs := cs), hcs]
end
end Go.Proofs.YtnangmjcgjlndaaGreat

/-
  What came in as an argument: a list of ops.
-/
namespace Go.Proofs.YtnangmjcgjlndaaGreat
open Go.RowKit Go.ChangeShapes Go.WideShapes
set_option maxRecDepth 100000

def IsOps (w : World) (v : Value) : Prop := ∃ ao cap l, v = .slice ao l.length cap ∧ l.length ≤ maxLen ∧ OpRow w 0 w.heap.size ao l

section
variable {H : Type} {enc : TypeId × Value → H} {W : World}

theorem readSchC {spare : Nat → Bool} {held : Bool} {base : Nat} {fuel : Nat} {cs : List Value} {y : DataW H × List MemPlace} (hf : DataW.trod enc Tryz.prog W base spare held fuel 34 cs = some y) :
    ∃ ao k1 ko k2 xo k3, ∃ s : Sch, cs = [.string s.name, .slice ao s.cols.length k1, .slice ko s.key.length k2, .slice xo s.idx.length k3] ∧ SchRow W 0 W.heap.size ao ko xo k2 s := by
  obtain ⟨ys, n, _, _, hl, hlen, hx⟩ := DataW.trod_struct Tryz.underlying34 hf
  have hC : Tryz.prog.cellsOf 34 = 4 := by kernel_rfl
  rw [hC] at hl
  match ys, hlen, cs, hl with
  | [y0, y1, y2, y3], _, [c0, c1, c2, c3], _ =>
    have h0 := hx 0 _ rfl
    have h1 := hx 1 _ rfl
    have h2 := hx 2 _ rfl
    have h3 := hx 3 _ rfl
    have cS : Tryz.prog.cellsOf 9 = 1 := by kernel_rfl
    have cC : Tryz.prog.cellsOf 30 = 1 := by kernel_rfl
    have cN : Tryz.prog.cellsOf 31 = 1 := by kernel_rfl
    have cX : Tryz.prog.cellsOf 32 = 1 := by kernel_rfl
    have e0 : (([c0, c1, c2, c3] : List Value).drop 0).take (Tryz.prog.cellsOf 9) = [c0] := by rw [cS]; rfl
    have e1 : (([c0, c1, c2, c3] : List Value).drop 1).take (Tryz.prog.cellsOf 30) = [c1] := by rw [cC]; rfl
    have e2 : (([c0, c1, c2, c3] : List Value).drop 2).take (Tryz.prog.cellsOf 31) = [c2] := by rw [cN]; rfl
    have e3 : (([c0, c1, c2, c3] : List Value).drop 3).take (Tryz.prog.cellsOf 32) = [c3] := by rw [cX]; rfl
    have h0' : DataW.trod enc Tryz.prog W base spare held n 9 [c0] = some y0 := by rw [← e0]; exact h0
    have h1' : DataW.trod enc Tryz.prog W base spare held n 30 [c1] = some y1 := by rw [← e1]; exact h1
    have h2' : DataW.trod enc Tryz.prog W base spare held n 31 [c2] = some y2 := by rw [← e2]; exact h2
    have h3' : DataW.trod enc Tryz.prog W base spare held n 32 [c3] = some y3 := by rw [← e3]; exact h3
    obtain ⟨t, et, _, wt⟩ := DataW.trod_string Tryz.underlying9 h0'
    obtain ⟨ao, k1, lc, ec, hk1, hrc⟩ := readCols h1'
    obtain ⟨ko, k2, ln, en, hk2, hrn⟩ := readNums h2'
    obtain ⟨xo, k3, lx, ex, hk3, hrx⟩ := readIdxs h3'
    simp only [List.cons.injEq, and_true] at et ec en ex
    subst et ec en ex
    exact ⟨ao, k1, ko, k2, xo, k3, ⟨t, lc, ln, lx⟩, rfl, ⟨wt, Nat.le_trans hk1.1 hk1.2, hk2, Nat.le_trans hk3.1 hk3.2⟩, hrc, hrn, hrx⟩
theorem readValC {spare : Nat → Bool} {held : Bool} {base : Nat} {fuel : Nat} {cs : List Value} {y : DataW H × List MemPlace} (h : DataW.trod enc Tryz.prog W base spare held fuel 35 cs = some y) :
    ∃ ao cap, ∃ vs : List Val, cs = [.slice ao vs.length cap] ∧ vs.length ≤ maxLen ∧ VRowA W 0 W.heap.size ao vs := by
  obtain ⟨ao, cap, l, rfl, hc, hb, hx⟩ := readSlice (n := 3) (by omega) Tryz.underlying35 (by kernel_rfl) (fun cs (x : Val) => cs = [.int .i64 x.kind, .int .i64 x.num, .string x.text] ∧ x.ok ∧ x.text.size ≤ maxLen) (fun fuel cs y h => trodVal h) h
  have hp : ∀ x ∈ l, x.ok ∧ x.text.size ≤ maxLen := fun x hx' => by
    obtain ⟨i, hi, rfl⟩ := List.getElem_of_mem hx'
    rcases hb with h0 | ⟨b, off, e, _⟩
    · omega
    · obtain ⟨_, hp, _⟩ := hx b off e i hi
      exact hp.2
  refine ⟨ao, cap, l, rfl, Nat.le_trans hc.1 hc.2, ⟨fun x h => (hp x h).1, fun x h => (hp x h).2, ?_⟩, ?_⟩
  · rcases hb with h0 | ⟨b, off, e, hlt⟩
    · exact .inl h0
    · refine .inr ⟨b, off, e, hlt, fun i hi => ?_⟩
      obtain ⟨cs', ⟨rfl, _⟩, _, hcell⟩ := hx b off e i hi
      exact ⟨by simpa using hcell 0 (by simp), by simpa using hcell 1 (by simp), by simpa using hcell 2 (by simp)⟩
  · rcases hb with h0 | ⟨b, off, e, hlt⟩
    · exact .inl h0
    · exact .inr ⟨b, off, e, Nat.zero_le _⟩
theorem readOpC {spare : Nat → Bool} {held : Bool} {base : Nat} {fuel : Nat} {cs : List Value} {y : DataW H × List MemPlace} (hf : DataW.trod enc Tryz.prog W base spare held fuel 37 cs = some y) :
    ∃ o : Opn, OpEl W 0 W.heap.size o cs := by
  obtain ⟨ys, n, _, _, hl, hlen, hx⟩ := DataW.trod_struct Tryz.underlying37 hf
  have hC : Tryz.prog.cellsOf 37 = 7 := by kernel_rfl
  rw [hC] at hl
  match ys, hlen, cs, hl with
  | [y0, y1, y2, y3], _, [c0, c1, c2, c3, c4, c5, c6], _ =>
    have h0 := hx 0 _ rfl
    have h1 := hx 1 _ rfl
    have h2 := hx 2 _ rfl
    have h3 := hx 3 _ rfl
    have cI : Tryz.prog.cellsOf 2 = 1 := by kernel_rfl
    have cS : Tryz.prog.cellsOf 9 = 1 := by kernel_rfl
    have cH : Tryz.prog.cellsOf 34 = 4 := by kernel_rfl
    have cV : Tryz.prog.cellsOf 35 = 1 := by kernel_rfl
    have e0 : (([c0, c1, c2, c3, c4, c5, c6] : List Value).drop 0).take (Tryz.prog.cellsOf 2) = [c0] := by rw [cI]; rfl
    have e1 : (([c0, c1, c2, c3, c4, c5, c6] : List Value).drop 1).take (Tryz.prog.cellsOf 9) = [c1] := by rw [cS]; rfl
    have e2 : (([c0, c1, c2, c3, c4, c5, c6] : List Value).drop 2).take (Tryz.prog.cellsOf 34) = [c2, c3, c4, c5] := by rw [cH]; rfl
    have e3 : (([c0, c1, c2, c3, c4, c5, c6] : List Value).drop 6).take (Tryz.prog.cellsOf 35) = [c6] := by rw [cV]; rfl
    have h0' : DataW.trod enc Tryz.prog W base spare held n 2 [c0] = some y0 := by rw [← e0]; exact h0
    have h1' : DataW.trod enc Tryz.prog W base spare held n 9 [c1] = some y1 := by rw [← e1]; exact h1
    have h2' : DataW.trod enc Tryz.prog W base spare held n 34 [c2, c3, c4, c5] = some y2 := by rw [← e2]; exact h2
    have h3' : DataW.trod enc Tryz.prog W base spare held n 35 [c6] = some y3 := by rw [← e3]; exact h3
    obtain ⟨a, ea, _, wa⟩ := DataW.trod_int Tryz.underlying2 h0'
    obtain ⟨t, et, _, wt⟩ := DataW.trod_string Tryz.underlying9 h1'
    obtain ⟨ao, k1, ko, k2, xo, k3, s, es, hs⟩ := readSchC h2'
    obtain ⟨vo, k4, vs, ev, hv, hr⟩ := readValC h3'
    simp only [List.cons.injEq, and_true] at ea et es ev
    obtain ⟨es0, es1, es2, es3⟩ := es
    subst ea et es0 es1 es2 es3 ev
    exact ⟨⟨a, t, s, vs⟩, ao, k1, ko, k2, xo, k3, vo, k4, rfl, ⟨bounds_i64 wa, wt, hv⟩, hs, hr⟩
theorem rdOps {base : Nat} {v : Value} {d : DataW H} {p : List MemPlace} (hv : Value.okWide Tryz.prog W .any base 22 v) (h : DataW.Trod enc Tryz.prog W 0 (fun _ => true) true 22 v d p) : IsOps W v := by
  obtain ⟨ao0, len, cap0, rfl⟩ := okWide_slice Tryz.underlying22 hv
  obtain ⟨fuel, hf⟩ := h
  obtain ⟨ao, cap, l, hcs, hc, hb, hx⟩ := readSlice (n := 7) (by omega) Tryz.underlying22 (by kernel_rfl) (fun cs (o : Opn) => OpEl W 0 W.heap.size o cs) (fun fuel cs y h => readOpC h) hf
  simp [Value.cells] at hcs
  obtain ⟨rfl, rfl, rfl⟩ := hcs
  refine ⟨ao0, cap0, l, rfl, Nat.le_trans hc.1 hc.2, ?_⟩
  rcases hb with h0 | ⟨b, off, e, hlt⟩
  · exact .inl h0
  · refine .inr ⟨b, off, e, Nat.zero_le _, hlt, fun i hi => ?_⟩
    obtain ⟨cs', hp, _, hcell⟩ := hx b off e i hi
    rw [getD_of l noOp i hi]
    refine ⟨cs', hp, fun j u hu => ?_⟩
    obtain ⟨hj, hu⟩ := List.getElem?_eq_some_iff.1 hu
    rw [hcell j hj, hu]
end
end Go.Proofs.YtnangmjcgjlndaaGreat
