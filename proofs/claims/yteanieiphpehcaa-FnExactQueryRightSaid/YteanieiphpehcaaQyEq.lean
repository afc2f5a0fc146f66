/-
  Contract: two queries of the same parts are the same.
-/
import Derived.Test.YteanieiphpehcaaItEq
import Derived.Test.YteanieiphpehcaaTmEq
import Derived.Test.YteanieiphpehcaaQyTo
namespace Go.Proofs.Yteanieiphpehcaa
open Go.RowKit
set_option maxRecDepth 100000

set_option maxHeartbeats 4000000 in
theorem eqQuery_same (A B A' B' : Nat) (q : Qry) (a1 : Option Addr) (c1 : Nat) (a2 : Option Addr) (c2 : Nat) (b1 : Option Addr) (p1 : Nat) (b2 : Option Addr) (p2 : Nat) (w : World) (hB : B ≤ w.heap.size) (hB' : B' ≤ w.heap.size) (hi : q.items.length ≤ 1048576) (ht : q.wh.length ≤ 1048576) (h1 : ItmRow w A B a1 q.items) (h2 : TrmRow w A B a2 q.wh) (k1 : ItmRow w A' B' b1 q.items) (k2 : TrmRow w A' B' b2 q.wh) :
    Calls Try.prog 16 #[.agg #[.slice a1 q.items.length c1, .string q.table, .string q.join, .string q.left, .string q.right, .slice a2 q.wh.length c2, .string q.group, .string q.order, .bool q.down, .int .i64 q.limit], .agg #[.slice b1 q.items.length p1, .string q.table, .string q.join, .string q.left, .string q.right, .slice b2 q.wh.length p2, .string q.group, .string q.order, .bool q.down, .int .i64 q.limit]] w fun e w' => e = .returned (.bool true) ∧ Below w.heap.size w w' := by
  have HEI := hide (fun (W : World) (hb : Below w.heap.size w W) => eqItemS_same A B A' B' a1 c1 b1 p1 q.items W (Nat.le_trans hB hb.size) (Nat.le_trans hB' hb.size) hi (FRow.kept h1 (hb.mono hB)) (FRow.kept k1 (hb.mono hB')))
  have HET := hide (fun (W : World) (hb : Below w.heap.size w W) => eqTermS_same A B A' B' a2 c2 b2 p2 q.wh W (Nat.le_trans hB hb.size) (Nat.le_trans hB' hb.size) ht (FRow.kept h2 (hb.mono hB)) (FRow.kept k2 (hb.mono hB')))
  clear h1 h2 k1 k2 hB hB' hi ht
  generalize q.table = qt at *
  generalize q.join = qj at *
  generalize q.left = ql at *
  generalize q.right = qr at *
  generalize q.group = qg at *
  generalize q.order = qo at *
  generalize q.down = qd at *
  generalize q.limit = qm at *
  generalize q.items.length = n1 at *
  generalize q.wh.length = n2 at *
  have B0 := hide (((Below.refl w.heap.size w).alloc (Nat.le_refl _) (.cells #[.slice a1 n1 c1, .string qt, .string qj, .string ql, .string qr, .slice a2 n2 c2, .string qg, .string qo, .bool qd, .int .i64 qm] 39)).alloc (by simp) (.cells #[.slice b1 n1 p1, .string qt, .string qj, .string ql, .string qr, .slice b2 n2 p2, .string qg, .string qo, .bool qd, .int .i64 qm] 39))
  have X0 := hide ((heap_old (w.alloc (.cells #[.slice a1 n1 c1, .string qt, .string qj, .string ql, .string qr, .slice a2 n2 c2, .string qg, .string qo, .bool qd, .int .i64 qm] 39)) (.cells #[.slice b1 n1 p1, .string qt, .string qj, .string ql, .string qr, .slice b2 n2 p2, .string qg, .string qo, .bool qd, .int .i64 qm] 39) w.heap.size (by simp)).trans (heap_alloc_new w (.cells #[.slice a1 n1 c1, .string qt, .string qj, .string ql, .string qr, .slice a2 n2 c2, .string qg, .string qo, .bool qd, .int .i64 qm] 39)))
  have Y0 := hide (show ((w.alloc (.cells #[.slice a1 n1 c1, .string qt, .string qj, .string ql, .string qr, .slice a2 n2 c2, .string qg, .string qo, .bool qd, .int .i64 qm] 39)).alloc (.cells #[.slice b1 n1 p1, .string qt, .string qj, .string ql, .string qr, .slice b2 n2 p2, .string qg, .string qo, .bool qd, .int .i64 qm] 39)).heap[w.heap.size + 1]? = some (.cells #[.slice b1 n1 p1, .string qt, .string qj, .string ql, .string qr, .slice b2 n2 p2, .string qg, .string qo, .bool qd, .int .i64 qm] 39 (0, 0)) from by have := heap_alloc_new (w.alloc (.cells #[.slice a1 n1 c1, .string qt, .string qj, .string ql, .string qr, .slice a2 n2 c2, .string qg, .string qo, .bool qd, .int .i64 qm] 39)) (.cells #[.slice b1 n1 p1, .string qt, .string qj, .string ql, .string qr, .slice b2 n2 p2, .string qg, .string qo, .bool qd, .int .i64 qm] 39); simpa using this)
  go_enter Try.func16, Try.ntmps16
  go_upto_region 1 with fail
  generalize (w.alloc (.cells #[.slice a1 n1 c1, .string qt, .string qj, .string ql, .string qr, .slice a2 n2 c2, .string qg, .string qo, .bool qd, .int .i64 qm] 39)).alloc (.cells #[.slice b1 n1 p1, .string qt, .string qj, .string ql, .string qr, .slice b2 n2 p2, .string qg, .string qo, .bool qd, .int .i64 qm] 39) = W0 at *
  obtain ⟨x0, x1, x2, x3, x4, x5, x6, x7, x8, x9, xf⟩ := cellsN10 X0.out
  obtain ⟨y0, y1, y2, y3, y4, y5, y6, y7, y8, y9, yf⟩ := cellsN10 Y0.out
  go_wp2_with fail
  refine (HEI.out _ B0.out).mono ?_
  rintro e w1 ⟨rfl, hb1⟩
  have X1 := hide ((hb1.block _ (blkG X0.out)).trans X0.out)
  have Y1 := hide ((hb1.block _ (blkG Y0.out)).trans Y0.out)
  have B1 := hide (B0.out.trans (hb1.mono B0.out.size))
  clear hb1 x0 x1 x2 x3 x4 x5 x6 x7 x8 x9 xf y0 y1 y2 y3 y4 y5 y6 y7 y8 y9 yf X0 Y0 B0 HEI
  obtain ⟨x0, x1, x2, x3, x4, x5, x6, x7, x8, x9, xf⟩ := cellsN10 X1.out
  obtain ⟨y0, y1, y2, y3, y4, y5, y6, y7, y8, y9, yf⟩ := cellsN10 Y1.out
  go_wp2_with fail
  refine (HET.out _ B1.out).mono ?_
  rintro e w2 ⟨rfl, hb2⟩
  have X2 := hide ((hb2.block _ (blkG X1.out)).trans X1.out)
  have Y2 := hide ((hb2.block _ (blkG Y1.out)).trans Y1.out)
  have B2 := hide (B1.out.trans (hb2.mono B1.out.size))
  clear hb2 x0 x1 x2 x3 x4 x5 x6 x7 x8 x9 xf y0 y1 y2 y3 y4 y5 y6 y7 y8 y9 yf X1 Y1 B1 HET
  obtain ⟨x0, x1, x2, x3, x4, x5, x6, x7, x8, x9, xf⟩ := cellsN10 X2.out
  obtain ⟨y0, y1, y2, y3, y4, y5, y6, y7, y8, y9, yf⟩ := cellsN10 Y2.out
  go_wp2
  go_ret
  exact ⟨rfl, B2.out⟩
end Go.Proofs.Yteanieiphpehcaa
