/-
  Contracts: a query copied.
-/
import Derived.Test.YteanieiphpehcaaItTo
import Derived.Test.YteanieiphpehcaaTmTo
import Derived.Test.YteanieiphpehcaaQyP
namespace Go.Proofs.Yteanieiphpehcaa
open Go.RowKit
set_option maxRecDepth 100000

theorem cellsN10 {w : World} {g : Nat} {x0 x1 x2 x3 x4 x5 x6 x7 x8 x9 : Value} {t : TypeId} (h : w.heap[g]? = some (.cells #[x0, x1, x2, x3, x4, x5, x6, x7, x8, x9] t (0, 0))) :
    w.cell? ⟨g, 0, none⟩ = some x0 ∧ w.cell? ⟨g, 1, none⟩ = some x1 ∧ w.cell? ⟨g, 2, none⟩ = some x2 ∧ w.cell? ⟨g, 3, none⟩ = some x3 ∧ w.cell? ⟨g, 4, none⟩ = some x4 ∧ w.cell? ⟨g, 5, none⟩ = some x5 ∧ w.cell? ⟨g, 6, none⟩ = some x6 ∧ w.cell? ⟨g, 7, none⟩ = some x7 ∧ w.cell? ⟨g, 8, none⟩ = some x8 ∧ w.cell? ⟨g, 9, none⟩ = some x9 ∧ ∀ j, w.frozen? ⟨g, j, none⟩ = false := by
  refine ⟨?_, ?_, ?_, ?_, ?_, ?_, ?_, ?_, ?_, ?_, fun j => frozen_of_row _ _ _ _ _ h⟩ <;> (rw [cell_of_row _ _ _ _ _ _ h]; rfl)
theorem resQuery {fn : Func} {p : Tmp} (h : fn.results = #[.cell p 39]) (tmps : Array Value) (w : World) (g : Nat) (x0 x1 x2 x3 x4 x5 x6 x7 x8 x9 : Value) (hp : tmps.getD p undef = .pointer (some ⟨g, 0, none⟩))
    (hg : w.heap[g]? = some (.cells #[x0, x1, x2, x3, x4, x5, x6, x7, x8, x9] 39 (0, 0))) : (results fn tmps).run Try.prog w = .ok (.agg #[x0, x1, x2, x3, x4, x5, x6, x7, x8, x9]) w :=
  results_cell_row h tmps w g 39 #[x0, x1, x2, x3, x4, x5, x6, x7, x8, x9] (0, 0) _ hp hg Try.underlying39 rfl (by kernel_rfl)
set_option maxHeartbeats 8000000 in
theorem toQuery_any (A B : Nat) (q : Qry) (a1 : Option Addr) (c1 : Nat) (a2 : Option Addr) (c2 : Nat) (w : World) (hB : B ≤ w.heap.size) (hi : q.items.length ≤ 1048576) (ht : q.wh.length ≤ 1048576) (h1 : ItmRow w A B a1 q.items) (h2 : TrmRow w A B a2 q.wh) :
    Calls Try.prog 14 #[.agg #[.slice a1 q.items.length c1, .string q.table, .string q.join, .string q.left, .string q.right, .slice a2 q.wh.length c2, .string q.group, .string q.order, .bool q.down, .int .i64 q.limit]] w fun e w' => ∃ b1 p1 b2 p2, e = .returned (.agg #[.slice b1 q.items.length p1, .string q.table, .string q.join, .string q.left, .string q.right, .slice b2 q.wh.length p2, .string q.group, .string q.order, .bool q.down, .int .i64 q.limit]) ∧ ItmRow w' w.heap.size w'.heap.size b1 q.items ∧ TrmRow w' w.heap.size w'.heap.size b2 q.wh ∧ Below w.heap.size w w' := by
  have HTI := hide (fun (W : World) (hb : Below w.heap.size w W) => toItemS_any A B a1 c1 q.items W (Nat.le_trans hB hb.size) hi (FRow.kept h1 (hb.mono hB)))
  have HTT := hide (fun (W : World) (hb : Below w.heap.size w W) => toTermS_any A B a2 c2 q.wh W (Nat.le_trans hB hb.size) ht (FRow.kept h2 (hb.mono hB)))
  have HI : Hid (∀ (W : World) (A' B' : Nat) (bo : Option Addr), ItmRow W A' B' bo q.items → FRow itCells noItm 2 Itm.fits W A' B' bo q.items) := fun _ _ _ _ h => h
  clear h1 h2 hi ht hB HI
  generalize q.table = qt at *
  generalize q.join = qj at *
  generalize q.left = ql at *
  generalize q.right = qr at *
  generalize q.group = qg at *
  generalize q.order = qo at *
  generalize q.down = qd at *
  generalize q.limit = qm at *
  generalize q.items.length = n1 at *
  generalize q.wh.length = n2 at *
  have X0 := hide (heap_alloc_new w (.cells #[.slice a1 n1 c1, .string qt, .string qj, .string ql, .string qr, .slice a2 n2 c2, .string qg, .string qo, .bool qd, .int .i64 qm] 33))
  have B0 := hide ((Below.refl w.heap.size w).alloc (Nat.le_refl _) (.cells #[.slice a1 n1 c1, .string qt, .string qj, .string ql, .string qr, .slice a2 n2 c2, .string qg, .string qo, .bool qd, .int .i64 qm] 33))
  have Z0 : Hid ((w.alloc (.cells #[.slice a1 n1 c1, .string qt, .string qj, .string ql, .string qr, .slice a2 n2 c2, .string qg, .string qo, .bool qd, .int .i64 qm] 33)).heap.size = w.heap.size + 1) := by show _ = _; simp
  have Y0 := hide (show ((w.alloc (.cells #[.slice a1 n1 c1, .string qt, .string qj, .string ql, .string qr, .slice a2 n2 c2, .string qg, .string qo, .bool qd, .int .i64 qm] 33)).alloc (.cells #[.slice none 0 0, .string ⟨#[]⟩, .string ⟨#[]⟩, .string ⟨#[]⟩, .string ⟨#[]⟩, .slice none 0 0, .string ⟨#[]⟩, .string ⟨#[]⟩, .bool false, .int .i64 0] 39)).heap[w.heap.size + 1]? = some (.cells #[.slice none 0 0, .string ⟨#[]⟩, .string ⟨#[]⟩, .string ⟨#[]⟩, .string ⟨#[]⟩, .slice none 0 0, .string ⟨#[]⟩, .string ⟨#[]⟩, .bool false, .int .i64 0] 39 (0, 0)) from by have := heap_alloc_new (w.alloc (.cells #[.slice a1 n1 c1, .string qt, .string qj, .string ql, .string qr, .slice a2 n2 c2, .string qg, .string qo, .bool qd, .int .i64 qm] 33)) (.cells #[.slice none 0 0, .string ⟨#[]⟩, .string ⟨#[]⟩, .string ⟨#[]⟩, .string ⟨#[]⟩, .slice none 0 0, .string ⟨#[]⟩, .string ⟨#[]⟩, .bool false, .int .i64 0] 39); rw [Z0.out] at this; exact this)
  have Z1 : Hid (((w.alloc (.cells #[.slice a1 n1 c1, .string qt, .string qj, .string ql, .string qr, .slice a2 n2 c2, .string qg, .string qo, .bool qd, .int .i64 qm] 33)).alloc (.cells #[.slice none 0 0, .string ⟨#[]⟩, .string ⟨#[]⟩, .string ⟨#[]⟩, .string ⟨#[]⟩, .slice none 0 0, .string ⟨#[]⟩, .string ⟨#[]⟩, .bool false, .int .i64 0] 39)).heap.size = w.heap.size + 2) := by show _ = _; simp
  have V0 := hide (show (((w.alloc (.cells #[.slice a1 n1 c1, .string qt, .string qj, .string ql, .string qr, .slice a2 n2 c2, .string qg, .string qo, .bool qd, .int .i64 qm] 33)).alloc (.cells #[.slice none 0 0, .string ⟨#[]⟩, .string ⟨#[]⟩, .string ⟨#[]⟩, .string ⟨#[]⟩, .slice none 0 0, .string ⟨#[]⟩, .string ⟨#[]⟩, .bool false, .int .i64 0] 39)).alloc (.cells #[.slice none 0 0, .string ⟨#[]⟩, .string ⟨#[]⟩, .string ⟨#[]⟩, .string ⟨#[]⟩, .slice none 0 0, .string ⟨#[]⟩, .string ⟨#[]⟩, .bool false, .int .i64 0] 39)).heap[w.heap.size + 2]? = some (.cells #[.slice none 0 0, .string ⟨#[]⟩, .string ⟨#[]⟩, .string ⟨#[]⟩, .string ⟨#[]⟩, .slice none 0 0, .string ⟨#[]⟩, .string ⟨#[]⟩, .bool false, .int .i64 0] 39 (0, 0)) from by have := heap_alloc_new ((w.alloc (.cells #[.slice a1 n1 c1, .string qt, .string qj, .string ql, .string qr, .slice a2 n2 c2, .string qg, .string qo, .bool qd, .int .i64 qm] 33)).alloc (.cells #[.slice none 0 0, .string ⟨#[]⟩, .string ⟨#[]⟩, .string ⟨#[]⟩, .string ⟨#[]⟩, .slice none 0 0, .string ⟨#[]⟩, .string ⟨#[]⟩, .bool false, .int .i64 0] 39)) (.cells #[.slice none 0 0, .string ⟨#[]⟩, .string ⟨#[]⟩, .string ⟨#[]⟩, .string ⟨#[]⟩, .slice none 0 0, .string ⟨#[]⟩, .string ⟨#[]⟩, .bool false, .int .i64 0] 39); rw [Z1.out] at this; exact this)
  have XA := hide ((heap_old ((w.alloc (.cells #[.slice a1 n1 c1, .string qt, .string qj, .string ql, .string qr, .slice a2 n2 c2, .string qg, .string qo, .bool qd, .int .i64 qm] 33)).alloc (.cells #[.slice none 0 0, .string ⟨#[]⟩, .string ⟨#[]⟩, .string ⟨#[]⟩, .string ⟨#[]⟩, .slice none 0 0, .string ⟨#[]⟩, .string ⟨#[]⟩, .bool false, .int .i64 0] 39)) (.cells #[.slice none 0 0, .string ⟨#[]⟩, .string ⟨#[]⟩, .string ⟨#[]⟩, .string ⟨#[]⟩, .slice none 0 0, .string ⟨#[]⟩, .string ⟨#[]⟩, .bool false, .int .i64 0] 39) w.heap.size (by rw [Z1.out]; omega)).trans ((heap_old (w.alloc (.cells #[.slice a1 n1 c1, .string qt, .string qj, .string ql, .string qr, .slice a2 n2 c2, .string qg, .string qo, .bool qd, .int .i64 qm] 33)) (.cells #[.slice none 0 0, .string ⟨#[]⟩, .string ⟨#[]⟩, .string ⟨#[]⟩, .string ⟨#[]⟩, .slice none 0 0, .string ⟨#[]⟩, .string ⟨#[]⟩, .bool false, .int .i64 0] 39) w.heap.size (by rw [Z0.out]; omega)).trans X0.out))
  have YA := hide ((heap_old ((w.alloc (.cells #[.slice a1 n1 c1, .string qt, .string qj, .string ql, .string qr, .slice a2 n2 c2, .string qg, .string qo, .bool qd, .int .i64 qm] 33)).alloc (.cells #[.slice none 0 0, .string ⟨#[]⟩, .string ⟨#[]⟩, .string ⟨#[]⟩, .string ⟨#[]⟩, .slice none 0 0, .string ⟨#[]⟩, .string ⟨#[]⟩, .bool false, .int .i64 0] 39)) (.cells #[.slice none 0 0, .string ⟨#[]⟩, .string ⟨#[]⟩, .string ⟨#[]⟩, .string ⟨#[]⟩, .slice none 0 0, .string ⟨#[]⟩, .string ⟨#[]⟩, .bool false, .int .i64 0] 39) (w.heap.size + 1) (by rw [Z1.out]; omega)).trans Y0.out)
  have BA := hide ((B0.out.alloc B0.out.size (.cells #[.slice none 0 0, .string ⟨#[]⟩, .string ⟨#[]⟩, .string ⟨#[]⟩, .string ⟨#[]⟩, .slice none 0 0, .string ⟨#[]⟩, .string ⟨#[]⟩, .bool false, .int .i64 0] 39)).alloc (Nat.le_trans B0.out.size (by simp)) (.cells #[.slice none 0 0, .string ⟨#[]⟩, .string ⟨#[]⟩, .string ⟨#[]⟩, .string ⟨#[]⟩, .slice none 0 0, .string ⟨#[]⟩, .string ⟨#[]⟩, .bool false, .int .i64 0] 39))
  clear X0 B0 Y0
  go_enter Try.func14, Try.ntmps14
  go_upto_region 2 with fail
  generalize ((w.alloc (.cells #[.slice a1 n1 c1, .string qt, .string qj, .string ql, .string qr, .slice a2 n2 c2, .string qg, .string qo, .bool qd, .int .i64 qm] 33)).alloc (.cells #[.slice none 0 0, .string ⟨#[]⟩, .string ⟨#[]⟩, .string ⟨#[]⟩, .string ⟨#[]⟩, .slice none 0 0, .string ⟨#[]⟩, .string ⟨#[]⟩, .bool false, .int .i64 0] 39)).alloc (.cells #[.slice none 0 0, .string ⟨#[]⟩, .string ⟨#[]⟩, .string ⟨#[]⟩, .string ⟨#[]⟩, .slice none 0 0, .string ⟨#[]⟩, .string ⟨#[]⟩, .bool false, .int .i64 0] 39) = U0 at *
  obtain ⟨g, hg⟩ : ∃ g, g = w.heap.size + 1 + 1 := ⟨_, rfl⟩
  have VA := hide (show U0.heap[g]? = some (.cells #[.slice none 0 0, .string ⟨#[]⟩, .string ⟨#[]⟩, .string ⟨#[]⟩, .string ⟨#[]⟩, .slice none 0 0, .string ⟨#[]⟩, .string ⟨#[]⟩, .bool false, .int .i64 0] 39 (0, 0)) from by rw [hg]; exact V0.out)
  have HG : Hid (w.heap.size + 1 < g) := by show _ < _; omega
  rw [← hg]
  clear hg V0 Z0 Z1
  have hgx' : ¬ w.heap.size = g := by have := HG.out; omega
  have hgx : ¬ g = w.heap.size := by have := HG.out; omega
  have hgy : ¬ w.heap.size + 1 = g := by have := HG.out; omega
  have hgy' : ¬ g = w.heap.size + 1 := by have := HG.out; omega
  have hgw : w.heap.size ≤ g := by have := HG.out; omega
  obtain ⟨x0, x1, x2, x3, x4, x5, x6, x7, x8, x9, xf⟩ := cellsN10 XA.out
  go_wp2_with fail
  refine (HTI.out _ BA.out).mono ?_
  rintro e U1 ⟨b1, p1, rfl, hRI, kb⟩
  have XAc := hide ((kb.block _ (blkG XA.out)).trans XA.out)
  have YAc := hide ((kb.block _ (blkG YA.out)).trans YA.out)
  have VAc := hide ((kb.block _ (blkG VA.out)).trans VA.out)
  have GT1 : Hid (g < U0.heap.size) := blkG VA.out
  have GW1 : Hid (w.heap.size ≤ U0.heap.size) := BA.out.size
  have BAc := hide (BA.out.trans (kb.mono BA.out.size))
  have RI := hide hRI
  clear kb x0 x1 x2 x3 x4 x5 x6 x7 x8 x9 xf BA XA YA VA hRI
  obtain ⟨v0, v1, v2, v3, v4, v5, v6, v7, v8, v9, vf⟩ := cellsN10 VAc.out
  have BAcs := hide (BAc.out.setCell (p := ⟨g, 0, none⟩) hgw (.slice b1 n1 p1))
  have XAcs := hide (show (U1.setCell ⟨g, 0, none⟩ (.slice b1 n1 p1)).heap[w.heap.size]? = some (.cells #[.slice a1 n1 c1, .string qt, .string qj, .string ql, .string qr, .slice a2 n2 c2, .string qg, .string qo, .bool qd, .int .i64 qm] 33 (0, 0)) from by rw [heap_setCell_other _ _ _ _ (show w.heap.size ≠ g from hgx')]; exact XAc.out)
  have YAcs := hide (show (U1.setCell ⟨g, 0, none⟩ (.slice b1 n1 p1)).heap[w.heap.size + 1]? = some (.cells #[.slice none 0 0, .string ⟨#[]⟩, .string ⟨#[]⟩, .string ⟨#[]⟩, .string ⟨#[]⟩, .slice none 0 0, .string ⟨#[]⟩, .string ⟨#[]⟩, .bool false, .int .i64 0] 39 (0, 0)) from by rw [heap_setCell_other _ _ _ _ (show w.heap.size + 1 ≠ g from hgy)]; exact YAc.out)
  have VAcs : Hid ((U1.setCell ⟨g, 0, none⟩ (.slice b1 n1 p1)).heap[g]? = some (.cells #[.slice b1 n1 p1, .string ⟨#[]⟩, .string ⟨#[]⟩, .string ⟨#[]⟩, .string ⟨#[]⟩, .slice none 0 0, .string ⟨#[]⟩, .string ⟨#[]⟩, .bool false, .int .i64 0] 39 (0, 0))) := by
    have h0 := heap_setCell_same _ g 0 _ _ (.slice b1 n1 p1) VAc.out
    show _ = _
    simpa using h0
  have RIs := hide (FRow.mono (FRow.other RI.out g 0 (.slice b1 n1 p1) GT1.out) (Nat.le_refl _) (show U1.heap.size ≤ (U1.setCell ⟨g, 0, none⟩ (.slice b1 n1 p1)).heap.size by simp))
  go_upto_region 3 with fail
  generalize U1.setCell ⟨g, 0, none⟩ (.slice b1 n1 p1) = U2 at *
  clear v0 v1 v2 v3 v4 v5 v6 v7 v8 v9 vf BAc XAc YAc VAc RI
  obtain ⟨x0, x1, x2, x3, x4, x5, x6, x7, x8, x9, xf⟩ := cellsN10 XAcs.out
  obtain ⟨v0, v1, v2, v3, v4, v5, v6, v7, v8, v9, vf⟩ := cellsN10 VAcs.out
  have BAcss := hide ((((BAcs.out.setCell (p := ⟨g, 1, none⟩) hgw (.string qt)).setCell (p := ⟨g, 2, none⟩) hgw (.string qj)).setCell (p := ⟨g, 3, none⟩) hgw (.string ql)).setCell (p := ⟨g, 4, none⟩) hgw (.string qr))
  have XAcss := hide (show ((((U2.setCell ⟨g, 1, none⟩ (.string qt)).setCell ⟨g, 2, none⟩ (.string qj)).setCell ⟨g, 3, none⟩ (.string ql)).setCell ⟨g, 4, none⟩ (.string qr)).heap[w.heap.size]? = some (.cells #[.slice a1 n1 c1, .string qt, .string qj, .string ql, .string qr, .slice a2 n2 c2, .string qg, .string qo, .bool qd, .int .i64 qm] 33 (0, 0)) from by rw [heap_setCell_other _ _ _ _ (show w.heap.size ≠ g from hgx'), heap_setCell_other _ _ _ _ (show w.heap.size ≠ g from hgx'), heap_setCell_other _ _ _ _ (show w.heap.size ≠ g from hgx'), heap_setCell_other _ _ _ _ (show w.heap.size ≠ g from hgx')]; exact XAcs.out)
  have YAcss := hide (show ((((U2.setCell ⟨g, 1, none⟩ (.string qt)).setCell ⟨g, 2, none⟩ (.string qj)).setCell ⟨g, 3, none⟩ (.string ql)).setCell ⟨g, 4, none⟩ (.string qr)).heap[w.heap.size + 1]? = some (.cells #[.slice none 0 0, .string ⟨#[]⟩, .string ⟨#[]⟩, .string ⟨#[]⟩, .string ⟨#[]⟩, .slice none 0 0, .string ⟨#[]⟩, .string ⟨#[]⟩, .bool false, .int .i64 0] 39 (0, 0)) from by rw [heap_setCell_other _ _ _ _ (show w.heap.size + 1 ≠ g from hgy), heap_setCell_other _ _ _ _ (show w.heap.size + 1 ≠ g from hgy), heap_setCell_other _ _ _ _ (show w.heap.size + 1 ≠ g from hgy), heap_setCell_other _ _ _ _ (show w.heap.size + 1 ≠ g from hgy)]; exact YAcs.out)
  have VAcss : Hid (((((U2.setCell ⟨g, 1, none⟩ (.string qt)).setCell ⟨g, 2, none⟩ (.string qj)).setCell ⟨g, 3, none⟩ (.string ql)).setCell ⟨g, 4, none⟩ (.string qr)).heap[g]? = some (.cells #[.slice b1 n1 p1, .string qt, .string qj, .string ql, .string qr, .slice none 0 0, .string ⟨#[]⟩, .string ⟨#[]⟩, .bool false, .int .i64 0] 39 (0, 0))) := by
    have h0 := heap_setCell_same _ g 1 _ _ (.string qt) VAcs.out
    have h1 := heap_setCell_same _ g 2 _ _ (.string qj) h0
    have h2 := heap_setCell_same _ g 3 _ _ (.string ql) h1
    have h3 := heap_setCell_same _ g 4 _ _ (.string qr) h2
    show _ = _
    simpa using h3
  have RIss := hide (FRow.mono (FRow.other (FRow.other (FRow.other (FRow.other RIs.out g 1 (.string qt) GT1.out) g 2 (.string qj) GT1.out) g 3 (.string ql) GT1.out) g 4 (.string qr) GT1.out) (Nat.le_refl _) (show U2.heap.size ≤ ((((U2.setCell ⟨g, 1, none⟩ (.string qt)).setCell ⟨g, 2, none⟩ (.string qj)).setCell ⟨g, 3, none⟩ (.string ql)).setCell ⟨g, 4, none⟩ (.string qr)).heap.size by simp))
  go_upto_region 7 with fail
  generalize (((U2.setCell ⟨g, 1, none⟩ (.string qt)).setCell ⟨g, 2, none⟩ (.string qj)).setCell ⟨g, 3, none⟩ (.string ql)).setCell ⟨g, 4, none⟩ (.string qr) = U3 at *
  clear x0 x1 x2 x3 x4 x5 x6 x7 x8 x9 xf v0 v1 v2 v3 v4 v5 v6 v7 v8 v9 vf BAcs XAcs YAcs VAcs RIs
  obtain ⟨x0, x1, x2, x3, x4, x5, x6, x7, x8, x9, xf⟩ := cellsN10 XAcss.out
  go_wp2_with fail
  refine (HTT.out _ BAcss.out).mono ?_
  rintro e U4 ⟨b2, p2, rfl, hRT, kb⟩
  have XAcssc := hide ((kb.block _ (blkG XAcss.out)).trans XAcss.out)
  have YAcssc := hide ((kb.block _ (blkG YAcss.out)).trans YAcss.out)
  have VAcssc := hide ((kb.block _ (blkG VAcss.out)).trans VAcss.out)
  have GT2 : Hid (g < U3.heap.size) := blkG VAcss.out
  have GW2 : Hid (w.heap.size ≤ U3.heap.size) := BAcss.out.size
  have BAcssc := hide (BAcss.out.trans (kb.mono BAcss.out.size))
  have RIssc := hide (FRow.mono (FRow.kept RIss.out kb) (Nat.le_refl _) kb.size)
  have RT := hide hRT
  clear kb x0 x1 x2 x3 x4 x5 x6 x7 x8 x9 xf BAcss XAcss YAcss VAcss RIss hRT
  obtain ⟨v0, v1, v2, v3, v4, v5, v6, v7, v8, v9, vf⟩ := cellsN10 VAcssc.out
  have BAcsscs := hide (BAcssc.out.setCell (p := ⟨g, 5, none⟩) hgw (.slice b2 n2 p2))
  have XAcsscs := hide (show (U4.setCell ⟨g, 5, none⟩ (.slice b2 n2 p2)).heap[w.heap.size]? = some (.cells #[.slice a1 n1 c1, .string qt, .string qj, .string ql, .string qr, .slice a2 n2 c2, .string qg, .string qo, .bool qd, .int .i64 qm] 33 (0, 0)) from by rw [heap_setCell_other _ _ _ _ (show w.heap.size ≠ g from hgx')]; exact XAcssc.out)
  have YAcsscs := hide (show (U4.setCell ⟨g, 5, none⟩ (.slice b2 n2 p2)).heap[w.heap.size + 1]? = some (.cells #[.slice none 0 0, .string ⟨#[]⟩, .string ⟨#[]⟩, .string ⟨#[]⟩, .string ⟨#[]⟩, .slice none 0 0, .string ⟨#[]⟩, .string ⟨#[]⟩, .bool false, .int .i64 0] 39 (0, 0)) from by rw [heap_setCell_other _ _ _ _ (show w.heap.size + 1 ≠ g from hgy)]; exact YAcssc.out)
  have VAcsscs : Hid ((U4.setCell ⟨g, 5, none⟩ (.slice b2 n2 p2)).heap[g]? = some (.cells #[.slice b1 n1 p1, .string qt, .string qj, .string ql, .string qr, .slice b2 n2 p2, .string ⟨#[]⟩, .string ⟨#[]⟩, .bool false, .int .i64 0] 39 (0, 0))) := by
    have h0 := heap_setCell_same _ g 5 _ _ (.slice b2 n2 p2) VAcssc.out
    show _ = _
    simpa using h0
  have RIsscs := hide (FRow.mono (FRow.other RIssc.out g 5 (.slice b2 n2 p2) GT1.out) (Nat.le_refl _) (show U4.heap.size ≤ (U4.setCell ⟨g, 5, none⟩ (.slice b2 n2 p2)).heap.size by simp))
  have RTs := hide (FRow.mono (FRow.other RT.out g 5 (.slice b2 n2 p2) GT2.out) (Nat.le_refl _) (show U4.heap.size ≤ (U4.setCell ⟨g, 5, none⟩ (.slice b2 n2 p2)).heap.size by simp))
  go_upto_region 8 with fail
  generalize U4.setCell ⟨g, 5, none⟩ (.slice b2 n2 p2) = U5 at *
  clear v0 v1 v2 v3 v4 v5 v6 v7 v8 v9 vf BAcssc XAcssc YAcssc VAcssc RIssc RT
  obtain ⟨x0, x1, x2, x3, x4, x5, x6, x7, x8, x9, xf⟩ := cellsN10 XAcsscs.out
  obtain ⟨v0, v1, v2, v3, v4, v5, v6, v7, v8, v9, vf⟩ := cellsN10 VAcsscs.out
  have BAcsscss := hide ((((BAcsscs.out.setCell (p := ⟨g, 6, none⟩) hgw (.string qg)).setCell (p := ⟨g, 7, none⟩) hgw (.string qo)).setCell (p := ⟨g, 8, none⟩) hgw (.bool qd)).setCell (p := ⟨g, 9, none⟩) hgw (.int .i64 qm))
  have XAcsscss := hide (show ((((U5.setCell ⟨g, 6, none⟩ (.string qg)).setCell ⟨g, 7, none⟩ (.string qo)).setCell ⟨g, 8, none⟩ (.bool qd)).setCell ⟨g, 9, none⟩ (.int .i64 qm)).heap[w.heap.size]? = some (.cells #[.slice a1 n1 c1, .string qt, .string qj, .string ql, .string qr, .slice a2 n2 c2, .string qg, .string qo, .bool qd, .int .i64 qm] 33 (0, 0)) from by rw [heap_setCell_other _ _ _ _ (show w.heap.size ≠ g from hgx'), heap_setCell_other _ _ _ _ (show w.heap.size ≠ g from hgx'), heap_setCell_other _ _ _ _ (show w.heap.size ≠ g from hgx'), heap_setCell_other _ _ _ _ (show w.heap.size ≠ g from hgx')]; exact XAcsscs.out)
  have YAcsscss := hide (show ((((U5.setCell ⟨g, 6, none⟩ (.string qg)).setCell ⟨g, 7, none⟩ (.string qo)).setCell ⟨g, 8, none⟩ (.bool qd)).setCell ⟨g, 9, none⟩ (.int .i64 qm)).heap[w.heap.size + 1]? = some (.cells #[.slice none 0 0, .string ⟨#[]⟩, .string ⟨#[]⟩, .string ⟨#[]⟩, .string ⟨#[]⟩, .slice none 0 0, .string ⟨#[]⟩, .string ⟨#[]⟩, .bool false, .int .i64 0] 39 (0, 0)) from by rw [heap_setCell_other _ _ _ _ (show w.heap.size + 1 ≠ g from hgy), heap_setCell_other _ _ _ _ (show w.heap.size + 1 ≠ g from hgy), heap_setCell_other _ _ _ _ (show w.heap.size + 1 ≠ g from hgy), heap_setCell_other _ _ _ _ (show w.heap.size + 1 ≠ g from hgy)]; exact YAcsscs.out)
  have VAcsscss : Hid (((((U5.setCell ⟨g, 6, none⟩ (.string qg)).setCell ⟨g, 7, none⟩ (.string qo)).setCell ⟨g, 8, none⟩ (.bool qd)).setCell ⟨g, 9, none⟩ (.int .i64 qm)).heap[g]? = some (.cells #[.slice b1 n1 p1, .string qt, .string qj, .string ql, .string qr, .slice b2 n2 p2, .string qg, .string qo, .bool qd, .int .i64 qm] 39 (0, 0))) := by
    have h0 := heap_setCell_same _ g 6 _ _ (.string qg) VAcsscs.out
    have h1 := heap_setCell_same _ g 7 _ _ (.string qo) h0
    have h2 := heap_setCell_same _ g 8 _ _ (.bool qd) h1
    have h3 := heap_setCell_same _ g 9 _ _ (.int .i64 qm) h2
    show _ = _
    simpa using h3
  have RIsscss := hide (FRow.mono (FRow.other (FRow.other (FRow.other (FRow.other RIsscs.out g 6 (.string qg) GT1.out) g 7 (.string qo) GT1.out) g 8 (.bool qd) GT1.out) g 9 (.int .i64 qm) GT1.out) (Nat.le_refl _) (show U5.heap.size ≤ ((((U5.setCell ⟨g, 6, none⟩ (.string qg)).setCell ⟨g, 7, none⟩ (.string qo)).setCell ⟨g, 8, none⟩ (.bool qd)).setCell ⟨g, 9, none⟩ (.int .i64 qm)).heap.size by simp))
  have RTss := hide (FRow.mono (FRow.other (FRow.other (FRow.other (FRow.other RTs.out g 6 (.string qg) GT2.out) g 7 (.string qo) GT2.out) g 8 (.bool qd) GT2.out) g 9 (.int .i64 qm) GT2.out) (Nat.le_refl _) (show U5.heap.size ≤ ((((U5.setCell ⟨g, 6, none⟩ (.string qg)).setCell ⟨g, 7, none⟩ (.string qo)).setCell ⟨g, 8, none⟩ (.bool qd)).setCell ⟨g, 9, none⟩ (.int .i64 qm)).heap.size by simp))
  go_upto_region 12 with fail
  generalize (((U5.setCell ⟨g, 6, none⟩ (.string qg)).setCell ⟨g, 7, none⟩ (.string qo)).setCell ⟨g, 8, none⟩ (.bool qd)).setCell ⟨g, 9, none⟩ (.int .i64 qm) = U6 at *
  clear x0 x1 x2 x3 x4 x5 x6 x7 x8 x9 xf v0 v1 v2 v3 v4 v5 v6 v7 v8 v9 vf BAcsscs XAcsscs YAcsscs VAcsscs RIsscs RTs
  obtain ⟨v0, v1, v2, v3, v4, v5, v6, v7, v8, v9, vf⟩ := cellsN10 VAcsscss.out
  obtain ⟨y0, y1, y2, y3, y4, y5, y6, y7, y8, y9, yf⟩ := cellsN10 YAcsscss.out
  have BF := hide (setL_below (g := w.heap.size + 1) (m := 0) [.slice b1 n1 p1, .string qt, .string qj, .string ql, .string qr, .slice b2 n2 p2, .string qg, .string qo, .bool qd, .int .i64 qm] BAcsscss.out (Nat.le_succ _))
  have YF := hide (setL_heapL (m := 0) [.slice b1 n1 p1, .string qt, .string qj, .string ql, .string qr, .slice b2 n2 p2, .string qg, .string qo, .bool qd, .int .i64 qm] (cur := [.slice none 0 0, .string ⟨#[]⟩, .string ⟨#[]⟩, .string ⟨#[]⟩, .string ⟨#[]⟩, .slice none 0 0, .string ⟨#[]⟩, .string ⟨#[]⟩, .bool false, .int .i64 0]) YAcsscss.out)
  have FI := hide (FRow.mono (FRow.setL (g := w.heap.size + 1) (m := 0) [.slice b1 n1 p1, .string qt, .string qj, .string ql, .string qr, .slice b2 n2 p2, .string qg, .string qo, .bool qd, .int .i64 qm] RIsscss.out (show w.heap.size + 1 < _ by have := HG.out; have := GT1.out; omega)) GW1.out (Nat.le_of_eq (setL_size [.slice b1 n1 p1, .string qt, .string qj, .string ql, .string qr, .slice b2 n2 p2, .string qg, .string qo, .bool qd, .int .i64 qm] U6 (w.heap.size + 1) 0).symm))
  have FT := hide (FRow.mono (FRow.setL (g := w.heap.size + 1) (m := 0) [.slice b1 n1 p1, .string qt, .string qj, .string ql, .string qr, .slice b2 n2 p2, .string qg, .string qo, .bool qd, .int .i64 qm] RTss.out (show w.heap.size + 1 < _ by have := HG.out; have := GT2.out; omega)) GW2.out (Nat.le_of_eq (setL_size [.slice b1 n1 p1, .string qt, .string qj, .string ql, .string qr, .slice b2 n2 p2, .string qg, .string qo, .bool qd, .int .i64 qm] U6 (w.heap.size + 1) 0).symm))
  go_wp2
  refine bodyPost_ret (v := .agg #[.slice b1 n1 p1, .string qt, .string qj, .string ql, .string qr, .slice b2 n2 p2, .string qg, .string qo, .bool qd, .int .i64 qm]) (resQuery Try.results14 _ _ (w.heap.size + 1) _ _ _ _ _ _ _ _ _ _ rfl YF.out) rfl ⟨b1, p1, b2, p2, rfl, FI.out, FT.out, BF.out⟩
end Go.Proofs.Yteanieiphpehcaa
