/-
  Contracts: ops copied.
-/
import Derived.Test.YtpbbmmapbmgijaaOpSz
import Derived.Test.YtpbbmmapbmgijaaVTo
import Derived.Test.YtpbbmmapbmgijaaSCopy3
namespace Go.Proofs.Ytpbbmmapbmgijaa
open Go.RowKit
set_option maxRecDepth 100000

theorem vrowA_own {base : Nat} {v : Value} {vs : List Val} {w : World} (h : OwnV base v vs w) (ho : ∀ x ∈ vs, x.ok) (ht : ∀ x ∈ vs, x.text.size ≤ maxLen) : ∃ ao cap, v = .slice ao vs.length cap ∧ VRowA w base w.heap.size ao vs := by
  obtain ⟨ao, cap, hv, hr⟩ := valRow_own h ho ht
  refine ⟨ao, cap, hv, hr, ?_⟩
  rcases h.2 with ⟨_, h0⟩ | ⟨g, cp, cur, h1, hB, _⟩
  · exact .inl h0
  · rw [h1] at hv
    injection hv with e1 e2 e3
    exact .inr ⟨g, 0, e1.symm, hB⟩
theorem resOp {fn : Func} {p : Tmp} (h : fn.results = #[.cell p 57]) (tmps : Array Value) (w : World) (g : Nat) (x0 x1 x2 x3 x4 x5 x6 : Value) (hp : tmps.getD p undef = .pointer (some ⟨g, 0, none⟩))
    (hg : w.heap[g]? = some (.cells #[x0, x1, x2, x3, x4, x5, x6] 57 (0, 0))) : (results fn tmps).run Try.prog w = .ok (.agg #[x0, x1, x2, x3, x4, x5, x6]) w :=
  results_cell_row h tmps w g 57 #[x0, x1, x2, x3, x4, x5, x6] (0, 0) _ hp hg Try.underlying57 rfl (by kernel_rfl)
theorem set7_row {W : World} {g : Nat} {a b c d e f h x0 x1 x2 x3 x4 x5 x6 : Value} {t : TypeId} (hg : W.heap[g]? = some (.cells #[a, b, c, d, e, f, h] t (0, 0))) :
    (set7 W g 0 x0 x1 x2 x3 x4 x5 x6).heap[g]? = some (.cells #[x0, x1, x2, x3, x4, x5, x6] t (0, 0)) := by
  have := set7_heap (m := 0) (x0 := x0) (x1 := x1) (x2 := x2) (x3 := x3) (x4 := x4) (x5 := x5) (x6 := x6) (cur := [a, b, c, d, e, f, h]) hg
  simpa [lset7] using this
set_option maxHeartbeats 4000000 in
theorem toOp_any (A B : Nat) (o : Opn) (a1 : Option Addr) (c1 : Nat) (a2 : Option Addr) (c2 : Nat) (a3 : Option Addr) (c3 : Nat) (a4 : Option Addr) (c4 : Nat) (w : World) (hB : B ≤ w.heap.size) (hf : opFits o) (hk : inI64 o.kind ∧ o.table.size ≤ maxLen ∧ o.row.length ≤ maxLen) (hs : SchRow w A B a1 a2 a3 c2 o.sch) (hv : VRowA w A B a4 o.row) :
    Calls Try.prog 26 #[(.agg #[.int .i64 o.kind, .string o.table, .string o.sch.name, .slice a1 o.sch.cols.length c1, .slice a2 o.sch.key.length c2, .slice a3 o.sch.idx.length c3, .slice a4 o.row.length c4])] w fun e w' => ∃ b1 q1 b2 q2 b3 q3 b4 q4, e = .returned (.agg #[.int .i64 o.kind, .string o.table, .string o.sch.name, .slice b1 o.sch.cols.length q1, .slice b2 o.sch.key.length q2, .slice b3 o.sch.idx.length q3, .slice b4 o.row.length q4]) ∧ OpEl w' w.heap.size w'.heap.size o [.int .i64 o.kind, .string o.table, .string o.sch.name, .slice b1 o.sch.cols.length q1, .slice b2 o.sch.key.length q2, .slice b3 o.sch.idx.length q3, .slice b4 o.row.length q4] ∧ Below w.heap.size w w' := by
  have HTS := hide (fun (W : World) (hb : Below w.heap.size w W) => toSchema_any A B a1 c1 a2 c2 a3 c3 o.sch W (Nat.le_trans hB hb.size) hf.1 (hs.kept (hb.mono hB)))
  have HTV : Hid (∀ W : World, Below w.heap.size w W → Calls Try.prog 19 #[.slice a4 o.row.length c4] W fun e w' => ∃ b4 q4, e = .returned (.slice b4 o.row.length q4) ∧ VRowA w' W.heap.size w'.heap.size b4 o.row ∧ Below W.heap.size W w') := fun W hb => by
    refine (toValueS_own B a4 c4 o.row W (Nat.le_trans hB hb.size) hf.2 (hv.1.kept (hb.mono hB))).mono ?_
    rintro e w' ⟨v, rfl, ov, k⟩
    obtain ⟨b4, q4, rfl, hvr⟩ := vrowA_own ov hv.1.1 hv.1.2.1
    exact ⟨b4, q4, rfl, hvr, k⟩
  have HEL := hide (fun (W : World) (A' : Nat) (b1 : Option Addr) (q1 : Nat) (b2 : Option Addr) (q2 : Nat) (b3 : Option Addr) (q3 : Nat) (b4 : Option Addr) (q4 : Nat) (h1 : SchRow W A' W.heap.size b1 b2 b3 q2 o.sch) (h2 : VRowA W A' W.heap.size b4 o.row) => show OpEl W A' W.heap.size o [.int .i64 o.kind, .string o.table, .string o.sch.name, .slice b1 o.sch.cols.length q1, .slice b2 o.sch.key.length q2, .slice b3 o.sch.idx.length q3, .slice b4 o.row.length q4] from ⟨b1, q1, b2, q2, b3, q3, b4, q4, rfl, hk, h1, h2⟩)
  clear hk hs hv hf hB
  generalize o.kind = kd at *
  generalize o.table = tb at *
  generalize o.sch.name = nm at *
  generalize o.sch.cols.length = n1 at *
  generalize o.sch.key.length = n2 at *
  generalize o.sch.idx.length = n3 at *
  generalize o.row.length = n4 at *
  have BA := ((Below.refl w.heap.size w).alloc (Nat.le_refl _) (.cells #[.int .i64 kd, .string tb, .string nm, .slice a1 n1 c1, .slice a2 n2 c2, .slice a3 n3 c3, .slice a4 n4 c4] 54))
  have X0 := hide (heap_alloc_new w (.cells #[.int .i64 kd, .string tb, .string nm, .slice a1 n1 c1, .slice a2 n2 c2, .slice a3 n3 c3, .slice a4 n4 c4] 54))
  have B0 := hide BA
  have Z0 : Hid ((w.alloc (.cells #[.int .i64 kd, .string tb, .string nm, .slice a1 n1 c1, .slice a2 n2 c2, .slice a3 n3 c3, .slice a4 n4 c4] 54)).heap.size = w.heap.size + 1) := by show _ = _; simp
  clear BA
  go_enter Try.func26, Try.ntmps26
  go_upto_region 2 with fail
  have BB1 := B0.out.alloc B0.out.size (.cells #[.int .i64 0, .string ⟨#[]⟩, .string ⟨#[]⟩, .slice none 0 0, .slice none 0 0, .slice none 0 0, .slice none 0 0] 57)
  have BB := hide (BB1.alloc BB1.size (.cells #[.int .i64 0, .string ⟨#[]⟩, .string ⟨#[]⟩, .slice none 0 0, .slice none 0 0, .slice none 0 0, .slice none 0 0] 57))
  clear BB1
  have X2 := hide ((heap_old _ (.cells #[.int .i64 0, .string ⟨#[]⟩, .string ⟨#[]⟩, .slice none 0 0, .slice none 0 0, .slice none 0 0, .slice none 0 0] 57) w.heap.size (by first | (simp; done) | (simp; omega))).trans ((heap_old _ (.cells #[.int .i64 0, .string ⟨#[]⟩, .string ⟨#[]⟩, .slice none 0 0, .slice none 0 0, .slice none 0 0, .slice none 0 0] 57) w.heap.size (by first | (simp; done) | (simp; omega))).trans X0.out))
  have Y2 := hide ((heap_old _ (.cells #[.int .i64 0, .string ⟨#[]⟩, .string ⟨#[]⟩, .slice none 0 0, .slice none 0 0, .slice none 0 0, .slice none 0 0] 57) (w.heap.size + 1) (by first | (simp; done) | (simp; omega))).trans (show ((w.alloc (.cells #[.int .i64 kd, .string tb, .string nm, .slice a1 n1 c1, .slice a2 n2 c2, .slice a3 n3 c3, .slice a4 n4 c4] 54)).alloc (.cells #[.int .i64 0, .string ⟨#[]⟩, .string ⟨#[]⟩, .slice none 0 0, .slice none 0 0, .slice none 0 0, .slice none 0 0] 57)).heap[w.heap.size + 1]? = some (.cells #[.int .i64 0, .string ⟨#[]⟩, .string ⟨#[]⟩, .slice none 0 0, .slice none 0 0, .slice none 0 0, .slice none 0 0] 57 (0, 0)) from by have := heap_alloc_new (w.alloc (.cells #[.int .i64 kd, .string tb, .string nm, .slice a1 n1 c1, .slice a2 n2 c2, .slice a3 n3 c3, .slice a4 n4 c4] 54)) (.cells #[.int .i64 0, .string ⟨#[]⟩, .string ⟨#[]⟩, .slice none 0 0, .slice none 0 0, .slice none 0 0, .slice none 0 0] 57); rw [Z0.out] at this; exact this))
  have V2 : Hid ((((w.alloc (.cells #[.int .i64 kd, .string tb, .string nm, .slice a1 n1 c1, .slice a2 n2 c2, .slice a3 n3 c3, .slice a4 n4 c4] 54)).alloc (.cells #[.int .i64 0, .string ⟨#[]⟩, .string ⟨#[]⟩, .slice none 0 0, .slice none 0 0, .slice none 0 0, .slice none 0 0] 57)).alloc (.cells #[.int .i64 0, .string ⟨#[]⟩, .string ⟨#[]⟩, .slice none 0 0, .slice none 0 0, .slice none 0 0, .slice none 0 0] 57)).heap[w.heap.size + 2]? = some (.cells #[.int .i64 0, .string ⟨#[]⟩, .string ⟨#[]⟩, .slice none 0 0, .slice none 0 0, .slice none 0 0, .slice none 0 0] 57 (0, 0))) := by
    have := heap_alloc_new ((w.alloc (.cells #[.int .i64 kd, .string tb, .string nm, .slice a1 n1 c1, .slice a2 n2 c2, .slice a3 n3 c3, .slice a4 n4 c4] 54)).alloc (.cells #[.int .i64 0, .string ⟨#[]⟩, .string ⟨#[]⟩, .slice none 0 0, .slice none 0 0, .slice none 0 0, .slice none 0 0] 57)) (.cells #[.int .i64 0, .string ⟨#[]⟩, .string ⟨#[]⟩, .slice none 0 0, .slice none 0 0, .slice none 0 0, .slice none 0 0] 57)
    have e : ((w.alloc (.cells #[.int .i64 kd, .string tb, .string nm, .slice a1 n1 c1, .slice a2 n2 c2, .slice a3 n3 c3, .slice a4 n4 c4] 54)).alloc (.cells #[.int .i64 0, .string ⟨#[]⟩, .string ⟨#[]⟩, .slice none 0 0, .slice none 0 0, .slice none 0 0, .slice none 0 0] 57)).heap.size = w.heap.size + 2 := by simp
    rw [e] at this
    exact this
  generalize ((w.alloc (.cells #[.int .i64 kd, .string tb, .string nm, .slice a1 n1 c1, .slice a2 n2 c2, .slice a3 n3 c3, .slice a4 n4 c4] 54)).alloc (.cells #[.int .i64 0, .string ⟨#[]⟩, .string ⟨#[]⟩, .slice none 0 0, .slice none 0 0, .slice none 0 0, .slice none 0 0] 57)).alloc (.cells #[.int .i64 0, .string ⟨#[]⟩, .string ⟨#[]⟩, .slice none 0 0, .slice none 0 0, .slice none 0 0, .slice none 0 0] 57) = W0 at *
  obtain ⟨g, hg⟩ : ∃ g, g = w.heap.size + 1 + 1 := ⟨_, rfl⟩
  have V3 := hide (show W0.heap[g]? = some (.cells #[.int .i64 0, .string ⟨#[]⟩, .string ⟨#[]⟩, .slice none 0 0, .slice none 0 0, .slice none 0 0, .slice none 0 0] 57 (0, 0)) from by rw [hg]; exact V2.out)
  have HG : Hid (w.heap.size + 1 < g) := by show _ < _; omega
  rw [← hg]
  clear hg V2 Z0 X0 B0
  obtain ⟨x0, x1, x2, x3, x4, x5, x6, xf⟩ := cells7 X2.out
  obtain ⟨v0, v1, v2, v3, v4, v5, v6, vf⟩ := cells7 V3.out
  have hgx : ¬ g = w.heap.size := by have := HG.out; omega
  have hgx' : ¬ w.heap.size = g := fun e => hgx e.symm
  have BS := hide ((BB.out.setCell (p := ⟨g, 0, none⟩) (by have := HG.out; show _ ≤ g; omega) (.int .i64 kd)).setCell (p := ⟨g, 1, none⟩) (by have := HG.out; show _ ≤ g; omega) (.string tb))
  have XS := hide (show ((W0.setCell ⟨g, 0, none⟩ (.int .i64 kd)).setCell ⟨g, 1, none⟩ (.string tb)).heap[w.heap.size]? = some (.cells #[.int .i64 kd, .string tb, .string nm, .slice a1 n1 c1, .slice a2 n2 c2, .slice a3 n3 c3, .slice a4 n4 c4] 54 (0, 0)) from by rw [heap_setCell_other _ _ _ _ (show w.heap.size ≠ g from hgx'), heap_setCell_other _ _ _ _ (show w.heap.size ≠ g from hgx')]; exact X2.out)
  have YS := hide (show ((W0.setCell ⟨g, 0, none⟩ (.int .i64 kd)).setCell ⟨g, 1, none⟩ (.string tb)).heap[w.heap.size + 1]? = some (.cells #[.int .i64 0, .string ⟨#[]⟩, .string ⟨#[]⟩, .slice none 0 0, .slice none 0 0, .slice none 0 0, .slice none 0 0] 57 (0, 0)) from by rw [heap_setCell_other _ _ _ _ (show w.heap.size + 1 ≠ g by have := HG.out; omega), heap_setCell_other _ _ _ _ (show w.heap.size + 1 ≠ g by have := HG.out; omega)]; exact Y2.out)
  have VS : Hid (((W0.setCell ⟨g, 0, none⟩ (.int .i64 kd)).setCell ⟨g, 1, none⟩ (.string tb)).heap[g]? = some (.cells #[.int .i64 kd, .string tb, .string ⟨#[]⟩, .slice none 0 0, .slice none 0 0, .slice none 0 0, .slice none 0 0] 57 (0, 0))) := by
    have h1 := heap_setCell_same W0 g 0 _ _ (.int .i64 kd) V3.out
    have h2 := heap_setCell_same _ g 1 _ _ (.string tb) h1
    show _ = _
    simpa using h2
  go_upto_region 4 with fail
  generalize (W0.setCell ⟨g, 0, none⟩ (.int .i64 kd)).setCell ⟨g, 1, none⟩ (.string tb) = W1 at *
  clear x0 x1 x2 x3 x4 x5 x6 xf v0 v1 v2 v3 v4 v5 v6 vf BB X2 Y2 V3
  obtain ⟨x0, x1, x2, x3, x4, x5, x6, xf⟩ := cells7 XS.out
  go_wp2_with fail
  refine (HTS.out _ BS.out).mono ?_
  rintro e w2 ⟨b1, q1, b2, q2, b3, q3, rfl, hr2, k2⟩
  have XT := hide ((k2.block _ (blkO XS.out)).trans XS.out)
  have YT := hide ((k2.block _ (blkO YS.out)).trans YS.out)
  have VT := hide ((k2.block _ (blkO VS.out)).trans VS.out)
  have BT := hide (BS.out.trans (k2.mono BS.out.size))
  have RT := hide hr2
  have GT : Hid (g < W1.heap.size) := blkO VS.out
  have ZK : Hid (W1.heap.size ≤ w2.heap.size) := k2.size
  clear k2 hr2 x0 x1 x2 x3 x4 x5 x6 xf XS YS VS HTS
  have S4 : Hid ((((w2.setCell ⟨g, 2, none⟩ (.string nm)).setCell ⟨g, 3, none⟩ (.slice b1 n1 q1)).setCell ⟨g, 4, none⟩ (.slice b2 n2 q2)).setCell ⟨g, 5, none⟩ (.slice b3 n3 q3) = (((w2.setCell ⟨g, 2, none⟩ (.string nm)).setCell ⟨g, 3, none⟩ (.slice b1 n1 q1)).setCell ⟨g, 4, none⟩ (.slice b2 n2 q2)).setCell ⟨g, 5, none⟩ (.slice b3 n3 q3)) := rfl
  clear S4
  have VU : Hid (((((w2.setCell ⟨g, 2, none⟩ (.string nm)).setCell ⟨g, 3, none⟩ (.slice b1 n1 q1)).setCell ⟨g, 4, none⟩ (.slice b2 n2 q2)).setCell ⟨g, 5, none⟩ (.slice b3 n3 q3)).heap[g]? = some (.cells #[.int .i64 kd, .string tb, .string nm, .slice b1 n1 q1, .slice b2 n2 q2, .slice b3 n3 q3, .slice none 0 0] 57 (0, 0))) := by
    have h1 := heap_setCell_same w2 g 2 _ _ (.string nm) VT.out
    have h2 := heap_setCell_same _ g 3 _ _ (.slice b1 n1 q1) h1
    have h3 := heap_setCell_same _ g 4 _ _ (.slice b2 n2 q2) h2
    have h4 := heap_setCell_same _ g 5 _ _ (.slice b3 n3 q3) h3
    show _ = _
    simpa using h4
  have hgy : w.heap.size + 1 ≠ g := by have := HG.out; omega
  have XU := hide (show ((((w2.setCell ⟨g, 2, none⟩ (.string nm)).setCell ⟨g, 3, none⟩ (.slice b1 n1 q1)).setCell ⟨g, 4, none⟩ (.slice b2 n2 q2)).setCell ⟨g, 5, none⟩ (.slice b3 n3 q3)).heap[w.heap.size]? = some (.cells #[.int .i64 kd, .string tb, .string nm, .slice a1 n1 c1, .slice a2 n2 c2, .slice a3 n3 c3, .slice a4 n4 c4] 54 (0, 0)) from by rw [heap_setCell_other _ _ _ _ (show w.heap.size ≠ g from hgx'), heap_setCell_other _ _ _ _ (show w.heap.size ≠ g from hgx'), heap_setCell_other _ _ _ _ (show w.heap.size ≠ g from hgx'), heap_setCell_other _ _ _ _ (show w.heap.size ≠ g from hgx')]; exact XT.out)
  have YU := hide (show ((((w2.setCell ⟨g, 2, none⟩ (.string nm)).setCell ⟨g, 3, none⟩ (.slice b1 n1 q1)).setCell ⟨g, 4, none⟩ (.slice b2 n2 q2)).setCell ⟨g, 5, none⟩ (.slice b3 n3 q3)).heap[w.heap.size + 1]? = some (.cells #[.int .i64 0, .string ⟨#[]⟩, .string ⟨#[]⟩, .slice none 0 0, .slice none 0 0, .slice none 0 0, .slice none 0 0] 57 (0, 0)) from by rw [heap_setCell_other _ _ _ _ (show w.heap.size + 1 ≠ g from hgy), heap_setCell_other _ _ _ _ (show w.heap.size + 1 ≠ g from hgy), heap_setCell_other _ _ _ _ (show w.heap.size + 1 ≠ g from hgy), heap_setCell_other _ _ _ _ (show w.heap.size + 1 ≠ g from hgy)]; exact YT.out)
  have hgw : w.heap.size ≤ g := by have := HG.out; omega
  have BU := hide ((((BT.out.setCell (p := ⟨g, 2, none⟩) hgw (.string nm)).setCell (p := ⟨g, 3, none⟩) hgw (.slice b1 n1 q1)).setCell (p := ⟨g, 4, none⟩) hgw (.slice b2 n2 q2)).setCell (p := ⟨g, 5, none⟩) hgw (.slice b3 n3 q3))
  have RU := hide (((((RT.out.other g 2 (.string nm) GT.out).other g 3 (.slice b1 n1 q1) GT.out).other g 4 (.slice b2 n2 q2) GT.out).other g 5 (.slice b3 n3 q3) GT.out))
  have W1le : Hid (w.heap.size ≤ W1.heap.size) := BS.out.size
  have ZU : Hid (((((w2.setCell ⟨g, 2, none⟩ (.string nm)).setCell ⟨g, 3, none⟩ (.slice b1 n1 q1)).setCell ⟨g, 4, none⟩ (.slice b2 n2 q2)).setCell ⟨g, 5, none⟩ (.slice b3 n3 q3)).heap.size = w2.heap.size) := by show _ = _; simp
  obtain ⟨v0, v1, v2, v3, v4, v5, v6, vf⟩ := cells7 VT.out
  clear BS RT BT
  go_upto_region 5 with fail
  generalize (((w2.setCell ⟨g, 2, none⟩ (.string nm)).setCell ⟨g, 3, none⟩ (.slice b1 n1 q1)).setCell ⟨g, 4, none⟩ (.slice b2 n2 q2)).setCell ⟨g, 5, none⟩ (.slice b3 n3 q3) = W3 at *
  clear v0 v1 v2 v3 v4 v5 v6 vf XT YT VT
  obtain ⟨x0, x1, x2, x3, x4, x5, x6, xf⟩ := cells7 XU.out
  go_wp2_with fail
  refine (HTV.out _ BU.out).mono ?_
  rintro e w4 ⟨b4, q4, rfl, hvr, k4⟩
  have VV := hide ((k4.block _ (blkO VU.out)).trans VU.out)
  have YV := hide ((k4.block _ (blkO YU.out)).trans YU.out)
  have BV := hide (BU.out.trans (k4.mono BU.out.size))
  have GV : Hid (g < W3.heap.size) := blkO VU.out
  have RV := hide (RU.out.kept (k4.mono (by rw [ZU.out]; exact Nat.le_refl _)))
  have HV4 := hide hvr
  have ZV : Hid (W3.heap.size ≤ w4.heap.size) := k4.size
  have EV := hide (HEL.out w4 W1.heap.size b1 q1 b2 q2 b3 q3 b4 q4 (RV.out.mono (Nat.le_refl _) (by have := ZU.out; have := ZV.out; omega)) (HV4.out.mono (by have := ZU.out; have := ZK.out; omega) (Nat.le_refl _)))
  have EW := hide (EV.out.other g 6 (.slice b4 n4 q4) GT.out)
  have ZW : Hid ((w4.setCell ⟨g, 6, none⟩ (.slice b4 n4 q4)).heap.size = w4.heap.size) := by show _ = _; simp
  have VW : Hid ((w4.setCell ⟨g, 6, none⟩ (.slice b4 n4 q4)).heap[g]? = some (.cells #[.int .i64 kd, .string tb, .string nm, .slice b1 n1 q1, .slice b2 n2 q2, .slice b3 n3 q3, .slice b4 n4 q4] 57 (0, 0))) := by
    have h1 := heap_setCell_same w4 g 6 _ _ (.slice b4 n4 q4) VV.out
    show _ = _
    simpa using h1
  have YW := hide (show (w4.setCell ⟨g, 6, none⟩ (.slice b4 n4 q4)).heap[w.heap.size + 1]? = some (.cells #[.int .i64 0, .string ⟨#[]⟩, .string ⟨#[]⟩, .slice none 0 0, .slice none 0 0, .slice none 0 0, .slice none 0 0] 57 (0, 0)) from by rw [heap_setCell_other _ _ _ _ (show w.heap.size + 1 ≠ g from hgy)]; exact YV.out)
  have BW := hide (BV.out.setCell (p := ⟨g, 6, none⟩) hgw (.slice b4 n4 q4))
  obtain ⟨v0, v1, v2, v3, v4, v5, v6, vf⟩ := cells7 VV.out
  clear k4 hvr HEL HTV RU RV HV4 EV BV x0 x1 x2 x3 x4 x5 x6 xf XU YU VU YV
  go_upto_region 6 with fail
  generalize w4.setCell ⟨g, 6, none⟩ (.slice b4 n4 q4) = W5 at *
  clear v0 v1 v2 v3 v4 v5 v6 vf VV
  obtain ⟨x0, x1, x2, x3, x4, x5, x6, xf⟩ := cells7 VW.out
  obtain ⟨y0, y1, y2, y3, y4, y5, y6, yf⟩ := cells7 YW.out
  have hlt1 : w.heap.size + 1 < W1.heap.size := by have := HG.out; have := GT.out; omega
  have EF := hide ((EW.out.other7 (m := 0) (x0 := .int .i64 kd) (x1 := .string tb) (x2 := .string nm) (x3 := .slice b1 n1 q1) (x4 := .slice b2 n2 q2) (x5 := .slice b3 n3 q3) (x6 := .slice b4 n4 q4) hlt1).mono W1le.out (Nat.le_of_eq (ZW.out.symm.trans (set7_size W5 (w.heap.size + 1) 0 (.int .i64 kd) (.string tb) (.string nm) (.slice b1 n1 q1) (.slice b2 n2 q2) (.slice b3 n3 q3) (.slice b4 n4 q4)).symm)))
  have BF := hide (set7_below (m := 0) (x0 := .int .i64 kd) (x1 := .string tb) (x2 := .string nm) (x3 := .slice b1 n1 q1) (x4 := .slice b2 n2 q2) (x5 := .slice b3 n3 q3) (x6 := .slice b4 n4 q4) BW.out (Nat.le_succ _))
  have YF := hide (set7_row (x0 := .int .i64 kd) (x1 := .string tb) (x2 := .string nm) (x3 := .slice b1 n1 q1) (x4 := .slice b2 n2 q2) (x5 := .slice b3 n3 q3) (x6 := .slice b4 n4 q4) YW.out)
  clear EW BW ZW ZV ZU ZK GV
  go_wp2
  refine bodyPost_ret (v := .agg #[.int .i64 kd, .string tb, .string nm, .slice b1 n1 q1, .slice b2 n2 q2, .slice b3 n3 q3, .slice b4 n4 q4]) (resOp Try.results26 _ _ (w.heap.size + 1) _ _ _ _ _ _ _ rfl YF.out) rfl ⟨b1, q1, b2, q2, b3, q3, b4, q4, rfl, EF.out, BF.out⟩
end Go.Proofs.Ytpbbmmapbmgijaa
