/-
  The law on QueryRight, out of the contracts.
-/
import Derived.Test.YteanieiphpehcaaQI6
import Derived.Test.YteanieiphpehcaaQS4
import Derived.Test.YteanieiphpehcaaQyTo
import Derived.Test.YteanieiphpehcaaQySz
import Derived.Test.YteanieiphpehcaaQyEq
import Derived.Test.YteanieiphpehcaaQyRd
namespace Go.Proofs.Yteanieiphpehcaa
open Go.RowKit
set_option maxRecDepth 100000

set_option maxHeartbeats 4000000 in
theorem lawQueryRight (v0 : Value) (w : World) (h0 : IsQry w v0) (hsh : w.ShapedOpen Try.prog) :
    Calls Try.prog 5 #[v0] w fun e w' => e = .returned (.bool true) ∧ Below w.heap.size w w' := by
  obtain ⟨m, hm⟩ := maxLen_someQ hsh
  have HM : Hid (∀ W, Below w.heap.size w W → MaxL m W) := fun W hb => hm.kept hb
  obtain ⟨a1, c1, a2, c2, q, rfl, hf, h1, h2⟩ := h0
  have HSZ := hide (fun (W : World) (hb : Below w.heap.size w W) => szQuery_any 0 w.heap.size q a1 c1 a2 c2 1048576 W hb.size hf (FRow.kept h1 hb) (FRow.kept h2 hb) (by omega) (by omega))
  have HTO := hide (fun (hs : q.small) (W : World) (hb : Below w.heap.size w W) => toQuery_any 0 w.heap.size q a1 c1 a2 c2 W hb.size hs.1 hs.2.1 (FRow.kept h1 hb) (FRow.kept h2 hb))
  have HSP := hide (fun (hs : q.small) (A B : Nat) (b1 : Option Addr) (p1 : Nat) (b2 : Option Addr) (p2 : Nat) (W : World) (hB : B ≤ W.heap.size) (k1 : ItmRow W A B b1 q.items) (k2 : TrmRow W A B b2 q.wh) => specQuery_any A B q b1 p1 b2 p2 W hB hs k1 k2)
  have HIM := hide (fun (hs : q.small) (A B : Nat) (b1 : Option Addr) (p1 : Nat) (b2 : Option Addr) (p2 : Nat) (W : World) (hB : B ≤ W.heap.size) (k1 : ItmRow W A B b1 q.items) (k2 : TrmRow W A B b2 q.wh) (hmm : MaxL m W) => implQuery_any A B q b1 p1 b2 p2 m W hB hs k1 k2 hmm)
  have HEQ := hide (fun (hs : q.small) (A B A' B' : Nat) (b1 : Option Addr) (p1 : Nat) (b2 : Option Addr) (p2 : Nat) (e1 : Option Addr) (r1 : Nat) (e2 : Option Addr) (r2 : Nat) (W : World) (hB : B ≤ W.heap.size) (hB' : B' ≤ W.heap.size) (k1 : ItmRow W A B b1 q.items) (k2 : TrmRow W A B b2 q.wh) (l1 : ItmRow W A' B' e1 q.items) (l2 : TrmRow W A' B' e2 q.wh) => eqQuery_same A B A' B' q b1 p1 b2 p2 e1 r1 e2 r2 W hB hB' hs.1 hs.2.1 k1 k2 l1 l2)
  generalize qOk q = rq at *
  generalize q.small = sm at *
  generalize q.table = qt at *
  generalize q.join = qj at *
  generalize q.left = ql at *
  generalize q.right = qr at *
  generalize q.group = qg at *
  generalize q.order = qo at *
  generalize q.down = qd at *
  generalize q.limit = qm at *
  clear h1 h2 hf hm hsh
  have B0 := hide ((Below.refl w.heap.size w).alloc (Nat.le_refl _) (.cells #[.slice a1 q.items.length c1, .string qt, .string qj, .string ql, .string qr, .slice a2 q.wh.length c2, .string qg, .string qo, .bool qd, .int .i64 qm] 33))
  have X0 := hide (heap_alloc_new w (.cells #[.slice a1 q.items.length c1, .string qt, .string qj, .string ql, .string qr, .slice a2 q.wh.length c2, .string qg, .string qo, .bool qd, .int .i64 qm] 33))
  go_enter Try.func5, Try.ntmps5
  go_upto_region 1 with fail
  generalize w.alloc (.cells #[.slice a1 q.items.length c1, .string qt, .string qj, .string ql, .string qr, .slice a2 q.wh.length c2, .string qg, .string qo, .bool qd, .int .i64 qm] 33) = W0 at *
  obtain ⟨y0, y1, y2, y3, y4, y5, y6, y7, y8, y9, yf⟩ := cellsN10 X0.out
  go_wp2_with fail
  refine (HSZ.out _ B0.out).mono ?_
  rintro e w1 ⟨r, rfl, hr1, hcase, b1⟩
  have X1 := hide ((b1.block _ (blkG X0.out)).trans X0.out)
  have B1 := hide (B0.out.trans (b1.mono B0.out.size))
  clear b1 X0 B0 HSZ y0 y1 y2 y3 y4 y5 y6 y7 y8 y9 yf
  rcases hcase with hneg | ⟨hr0, hsm⟩
  · go_wp2
    go_ret
    exact ⟨rfl, B1.out⟩
  · have HS := hide hsm
    clear hsm
    obtain ⟨y0, y1, y2, y3, y4, y5, y6, y7, y8, y9, yf⟩ := cellsN10 X1.out
    go_wp2_with fail
    refine (HTO.out HS.out _ B1.out).mono ?_
    rintro e w2 ⟨b1, p1, b2, p2, rfl, k1, k2, kb⟩
    have X2 := hide ((kb.block _ (blkG X1.out)).trans X1.out)
    have B2 := hide (B1.out.trans (kb.mono B1.out.size))
    have R2 := hide (And.intro k1 k2)
    clear kb k1 k2 X1 B1 y0 y1 y2 y3 y4 y5 y6 y7 y8 y9 yf
    obtain ⟨y0, y1, y2, y3, y4, y5, y6, y7, y8, y9, yf⟩ := cellsN10 X2.out
    go_wp2_with fail
    refine (HSP.out HS.out _ _ _ _ _ _ _ (Nat.le_refl _) R2.out.1 R2.out.2).mono ?_
    rintro e w3 ⟨rfl, kb⟩
    have X3 := hide ((kb.block _ (blkG X2.out)).trans X2.out)
    have B3 := hide (B2.out.trans (kb.mono B2.out.size))
    clear kb X2 B2 R2 y0 y1 y2 y3 y4 y5 y6 y7 y8 y9 yf
    obtain ⟨y0, y1, y2, y3, y4, y5, y6, y7, y8, y9, yf⟩ := cellsN10 X3.out
    go_wp2_with fail
    refine (HTO.out HS.out _ B3.out).mono ?_
    rintro e w4 ⟨d1, s1, d2, s2, rfl, k1, k2, kb⟩
    have X4 := hide ((kb.block _ (blkG X3.out)).trans X3.out)
    have B4 := hide (B3.out.trans (kb.mono B3.out.size))
    have R4 := hide (And.intro k1 k2)
    clear kb k1 k2 X3 B3 y0 y1 y2 y3 y4 y5 y6 y7 y8 y9 yf
    obtain ⟨y0, y1, y2, y3, y4, y5, y6, y7, y8, y9, yf⟩ := cellsN10 X4.out
    have BX := hide (B4.out.alloc B4.out.size (.cells #[.slice d1 q.items.length s1, .string qt, .string qj, .string ql, .string qr, .slice d2 q.wh.length s2, .string qg, .string qo, .bool qd, .int .i64 qm] 39))
    have XX := hide (heap_alloc_new w4 (.cells #[.slice d1 q.items.length s1, .string qt, .string qj, .string ql, .string qr, .slice d2 q.wh.length s2, .string qg, .string qo, .bool qd, .int .i64 qm] 39))
    have BB := (Below.refl w4.heap.size w4).alloc (Nat.le_refl _) (.cells #[.slice d1 q.items.length s1, .string qt, .string qj, .string ql, .string qr, .slice d2 q.wh.length s2, .string qg, .string qo, .bool qd, .int .i64 qm] 39)
    have XL := hide ((BB.block _ (blkG X4.out)).trans X4.out)
    have RX := hide (And.intro (FRow.kept R4.out.1 BB) (FRow.kept R4.out.2 BB))
    have ZX := hide BB.size
    clear BB
    go_upto_region 7 with fail
    generalize w4.alloc (.cells #[.slice d1 q.items.length s1, .string qt, .string qj, .string ql, .string qr, .slice d2 q.wh.length s2, .string qg, .string qo, .bool qd, .int .i64 qm] 39) = W5 at *
    clear y0 y1 y2 y3 y4 y5 y6 y7 y8 y9 yf X4 B4 R4
    obtain ⟨z0, z1, z2, z3, z4, z5, z6, z7, z8, z9, zf⟩ := cellsN10 XX.out
    go_wp2_with fail
    refine (HIM.out HS.out _ _ _ _ _ _ _ ZX.out RX.out.1 RX.out.2 (HM.out _ BX.out)).mono ?_
    rintro e w6 ⟨rfl, kb⟩
    have X6 := hide ((kb.block _ (blkG XX.out)).trans XX.out)
    have L6 := hide ((kb.block _ (blkG XL.out)).trans XL.out)
    have B6 := hide (BX.out.trans (kb.mono BX.out.size))
    have R6 := hide (And.intro (FRow.kept RX.out.1 (kb.mono ZX.out)) (FRow.kept RX.out.2 (kb.mono ZX.out)))
    have Z6 := hide (Nat.le_trans ZX.out kb.size)
    clear kb XX XL BX RX ZX HIM HSP HM z0 z1 z2 z3 z4 z5 z6 z7 z8 z9 zf
    generalize w4.heap.size = g at *
    obtain ⟨z0, z1, z2, z3, z4, z5, z6, z7, z8, z9, zf⟩ := cellsN10 X6.out
    obtain ⟨y0, y1, y2, y3, y4, y5, y6, y7, y8, y9, yf⟩ := cellsN10 L6.out
    have hz5 : g < w6.heap.size := blkG X6.out
    have hz6 : w.heap.size < w6.heap.size := blkG L6.out
    clear X6 L6 yf zf
    go_wp2
    go_region_held3 (fun W => (W.cell? ⟨g, 0, none⟩ = some (.slice d1 q.items.length s1) ∧ W.cell? ⟨g, 1, none⟩ = some (.string qt) ∧ W.cell? ⟨g, 2, none⟩ = some (.string qj) ∧ W.cell? ⟨g, 3, none⟩ = some (.string ql) ∧ W.cell? ⟨g, 4, none⟩ = some (.string qr) ∧ W.cell? ⟨g, 5, none⟩ = some (.slice d2 q.wh.length s2) ∧ W.cell? ⟨g, 6, none⟩ = some (.string qg) ∧ W.cell? ⟨g, 7, none⟩ = some (.string qo) ∧ W.cell? ⟨g, 8, none⟩ = some (.bool qd) ∧ W.cell? ⟨g, 9, none⟩ = some (.int .i64 qm)) ∧ (W.cell? ⟨w.heap.size, 0, none⟩ = some (.slice a1 q.items.length c1) ∧ W.cell? ⟨w.heap.size, 1, none⟩ = some (.string qt) ∧ W.cell? ⟨w.heap.size, 2, none⟩ = some (.string qj) ∧ W.cell? ⟨w.heap.size, 3, none⟩ = some (.string ql) ∧ W.cell? ⟨w.heap.size, 4, none⟩ = some (.string qr) ∧ W.cell? ⟨w.heap.size, 5, none⟩ = some (.slice a2 q.wh.length c2) ∧ W.cell? ⟨w.heap.size, 6, none⟩ = some (.string qg) ∧ W.cell? ⟨w.heap.size, 7, none⟩ = some (.string qo) ∧ W.cell? ⟨w.heap.size, 8, none⟩ = some (.bool qd) ∧ W.cell? ⟨w.heap.size, 9, none⟩ = some (.int .i64 qm))) (go_keep) (first | (go_at_call 14; refine (HTO.out HS.out _ B6.out.drew).mono ?_; rintro e w7 ⟨e1, f1, e2, f2, rfl, k1, k2, kb⟩; have kb7 : Below w6.heap.size w6 w7 := (Below.refl _ _).drew.trans kb; have B7 := hide (B6.out.trans (kb7.mono B6.out.size)); have R7 := hide (And.intro k1 k2); have Z7 := hide kb7.size; have R67 := hide (And.intro (FRow.kept R6.out.1 (kb7.mono Z6.out)) (FRow.kept R6.out.2 (kb7.mono Z6.out))); obtain ⟨hc7, hf7⟩ := bcell kb7; have K7 := hide kb7; clear k1 k2 kb kb7) | (go_at_call 16; refine (HEQ.out HS.out _ _ _ _ _ _ _ _ _ _ _ _ _ (Nat.le_trans Z6.out Z7.out) (Nat.le_refl _) R67.out.1 R67.out.2 R7.out.1 R7.out.2).mono ?_; rintro e w8 ⟨rfl, kb8⟩; have B8 := hide (B7.out.trans (kb8.mono B7.out.size)); have kb9 : Below w6.heap.size w6 w8 := K7.out.trans (kb8.mono K7.out.size); obtain ⟨hc8, hf8⟩ := bcell kb9; clear kb8 kb9))
    all_goals
      go_wp2
      go_ret
      exact ⟨rfl, B8.out⟩
end Go.Proofs.Yteanieiphpehcaa
