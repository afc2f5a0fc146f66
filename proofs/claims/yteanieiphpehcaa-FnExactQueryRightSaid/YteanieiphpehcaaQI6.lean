/-
  Contract: is a query right? The program's answer.
-/
import Derived.Test.YteanieiphpehcaaQI4b
import Derived.Test.YteanieiphpehcaaQI5
namespace Go.Proofs.Yteanieiphpehcaa
open Go.RowKit
set_option maxRecDepth 100000

set_option maxHeartbeats 16000000 in
theorem implQuery_any (A B : Nat) (q : Qry) (a1 : Option Addr) (c1 : Nat) (a2 : Option Addr) (c2 : Nat) (m : Int) (w : World) (hB : B ≤ w.heap.size) (hs : q.small) (h1 : ItmRow w A B a1 q.items) (h2 : TrmRow w A B a2 q.wh) (hm : MaxL m w) :
    Calls Try.prog 15 #[.agg #[.slice a1 q.items.length c1, .string q.table, .string q.join, .string q.left, .string q.right, .slice a2 q.wh.length c2, .string q.group, .string q.order, .bool q.down, .int .i64 q.limit]] w fun e w' => e = .returned (.bool (qOk q)) ∧ Below w.heap.size w w' := by
  have HQ : Hid (qOk q = (itemsOk q.items && (nameOk q.table.data.toList && (joinOk q && (whereOk q.wh && (groupOk q && (orderOk q && limitOk q.limit))))))) := rfl
  have HI := hide (fun (W : World) (hb : Below w.heap.size w W) => implItems_any A B a1 c1 q.items m W (Nat.le_trans hB hb.size) hs.1 hs.2.2.2.2.2.2.2.2.1 (FRow.kept h1 (hb.mono hB)) (hm.kept hb))
  have HN := hide (fun (W : World) => implName_any q.table W)
  have HJ := hide (fun (W : World) (hb : Below w.heap.size w W) => implJoin_any q a1 c1 a2 c2 m W hs (hm.kept hb))
  have HW := hide (fun (W : World) (hb : Below w.heap.size w W) => implWhere_any A B a2 c2 q.wh m W (Nat.le_trans hB hb.size) hs.2.1 hs.2.2.2.2.2.2.2.2.2 (FRow.kept h2 (hb.mono hB)) (hm.kept hb))
  have HG := hide (fun (W : World) (hb : Below w.heap.size w W) => implGroup_any A B q a1 c1 a2 c2 m W (Nat.le_trans hB hb.size) hs (FRow.kept h1 (hb.mono hB)) (hm.kept hb))
  have HO := hide (fun (W : World) (hb : Below w.heap.size w W) => implOrder_any q a1 c1 a2 c2 m W hs (hm.kept hb))
  have HL := hide (fun (W : World) => implLimit_any q.limit W)
  clear hs hm h1 h2 hB
  generalize qOk q = r at *
  generalize itemsOk q.items = x1 at *
  generalize nameOk q.table.data.toList = x2 at *
  generalize joinOk q = x3 at *
  generalize whereOk q.wh = x4 at *
  generalize groupOk q = x5 at *
  generalize orderOk q = x6 at *
  generalize limitOk q.limit = x7 at *
  generalize q.table = qt at *
  generalize q.join = qj at *
  generalize q.left = ql at *
  generalize q.right = qr at *
  generalize q.group = qg at *
  generalize q.order = qo at *
  generalize q.down = qd at *
  generalize q.limit = qm at *
  generalize q.items.length = n1 at *
  generalize q.wh.length = n2 at *
  have B0 := hide ((Below.refl w.heap.size w).alloc (Nat.le_refl _) (.cells #[.slice a1 n1 c1, .string qt, .string qj, .string ql, .string qr, .slice a2 n2 c2, .string qg, .string qo, .bool qd, .int .i64 qm] 39))
  have X0 := hide (heap_alloc_new w (.cells #[.slice a1 n1 c1, .string qt, .string qj, .string ql, .string qr, .slice a2 n2 c2, .string qg, .string qo, .bool qd, .int .i64 qm] 39))
  cases x1 with
  | false =>
    go_enter Try.func15, Try.ntmps15
    go_upto_region 1 with fail
    generalize w.alloc (.cells #[.slice a1 n1 c1, .string qt, .string qj, .string ql, .string qr, .slice a2 n2 c2, .string qg, .string qo, .bool qd, .int .i64 qm] 39) = W0 at *
    obtain ⟨y0, y1, y2, y3, y4, y5, y6, y7, y8, y9, yf⟩ := cellsN10 X0.out
    go_wp2_with (first | (go_at_call 28; refine (HI.out _ B0.out).mono ?_; rintro e u0 ⟨rfl, k0⟩; have B1 := hide (B0.out.trans (k0.mono B0.out.size)); have X1 := hide ((k0.block _ (blkG X0.out)).trans X0.out); clear k0 y0 y1 y2 y3 y4 y5 y6 y7 y8 y9 yf; obtain ⟨y0, y1, y2, y3, y4, y5, y6, y7, y8, y9, yf⟩ := cellsN10 X1.out))
    go_ret
    exact ⟨ret_bool (by rw [HQ.out]; rfl), B1.out⟩
  | true =>
    cases x2 with
    | false =>
      go_enter Try.func15, Try.ntmps15
      go_upto_region 1 with fail
      generalize w.alloc (.cells #[.slice a1 n1 c1, .string qt, .string qj, .string ql, .string qr, .slice a2 n2 c2, .string qg, .string qo, .bool qd, .int .i64 qm] 39) = W0 at *
      obtain ⟨y0, y1, y2, y3, y4, y5, y6, y7, y8, y9, yf⟩ := cellsN10 X0.out
      go_wp2_with (first | (go_at_call 28; refine (HI.out _ B0.out).mono ?_; rintro e u0 ⟨rfl, k0⟩; have B1 := hide (B0.out.trans (k0.mono B0.out.size)); have X1 := hide ((k0.block _ (blkG X0.out)).trans X0.out); clear k0 y0 y1 y2 y3 y4 y5 y6 y7 y8 y9 yf; obtain ⟨y0, y1, y2, y3, y4, y5, y6, y7, y8, y9, yf⟩ := cellsN10 X1.out) | (go_at_call 7; refine (HN.out _).mono ?_; rintro e u1 ⟨rfl, rfl⟩))
      go_ret
      exact ⟨ret_bool (by rw [HQ.out]; rfl), B1.out⟩
    | true =>
      cases x3 with
      | false =>
        go_enter Try.func15, Try.ntmps15
        go_upto_region 1 with fail
        generalize w.alloc (.cells #[.slice a1 n1 c1, .string qt, .string qj, .string ql, .string qr, .slice a2 n2 c2, .string qg, .string qo, .bool qd, .int .i64 qm] 39) = W0 at *
        obtain ⟨y0, y1, y2, y3, y4, y5, y6, y7, y8, y9, yf⟩ := cellsN10 X0.out
        go_wp2_with (first | (go_at_call 28; refine (HI.out _ B0.out).mono ?_; rintro e u0 ⟨rfl, k0⟩; have B1 := hide (B0.out.trans (k0.mono B0.out.size)); have X1 := hide ((k0.block _ (blkG X0.out)).trans X0.out); clear k0 y0 y1 y2 y3 y4 y5 y6 y7 y8 y9 yf; obtain ⟨y0, y1, y2, y3, y4, y5, y6, y7, y8, y9, yf⟩ := cellsN10 X1.out) | (go_at_call 7; refine (HN.out _).mono ?_; rintro e u1 ⟨rfl, rfl⟩) | (go_at_call 29; refine (HJ.out _ B1.out).mono ?_; rintro e u2 ⟨rfl, k2⟩; have B3 := hide (B1.out.trans (k2.mono B1.out.size)); have X3 := hide ((k2.block _ (blkG X1.out)).trans X1.out); clear k2 y0 y1 y2 y3 y4 y5 y6 y7 y8 y9 yf; obtain ⟨y0, y1, y2, y3, y4, y5, y6, y7, y8, y9, yf⟩ := cellsN10 X3.out))
        go_ret
        exact ⟨ret_bool (by rw [HQ.out]; rfl), B3.out⟩
      | true =>
        cases x4 with
        | false =>
          go_enter Try.func15, Try.ntmps15
          go_upto_region 1 with fail
          generalize w.alloc (.cells #[.slice a1 n1 c1, .string qt, .string qj, .string ql, .string qr, .slice a2 n2 c2, .string qg, .string qo, .bool qd, .int .i64 qm] 39) = W0 at *
          obtain ⟨y0, y1, y2, y3, y4, y5, y6, y7, y8, y9, yf⟩ := cellsN10 X0.out
          go_wp2_with (first | (go_at_call 28; refine (HI.out _ B0.out).mono ?_; rintro e u0 ⟨rfl, k0⟩; have B1 := hide (B0.out.trans (k0.mono B0.out.size)); have X1 := hide ((k0.block _ (blkG X0.out)).trans X0.out); clear k0 y0 y1 y2 y3 y4 y5 y6 y7 y8 y9 yf; obtain ⟨y0, y1, y2, y3, y4, y5, y6, y7, y8, y9, yf⟩ := cellsN10 X1.out) | (go_at_call 7; refine (HN.out _).mono ?_; rintro e u1 ⟨rfl, rfl⟩) | (go_at_call 29; refine (HJ.out _ B1.out).mono ?_; rintro e u2 ⟨rfl, k2⟩; have B3 := hide (B1.out.trans (k2.mono B1.out.size)); have X3 := hide ((k2.block _ (blkG X1.out)).trans X1.out); clear k2 y0 y1 y2 y3 y4 y5 y6 y7 y8 y9 yf; obtain ⟨y0, y1, y2, y3, y4, y5, y6, y7, y8, y9, yf⟩ := cellsN10 X3.out) | (go_at_call 30; refine (HW.out _ B3.out).mono ?_; rintro e u3 ⟨rfl, k3⟩; have B4 := hide (B3.out.trans (k3.mono B3.out.size)); have X4 := hide ((k3.block _ (blkG X3.out)).trans X3.out); clear k3 y0 y1 y2 y3 y4 y5 y6 y7 y8 y9 yf; obtain ⟨y0, y1, y2, y3, y4, y5, y6, y7, y8, y9, yf⟩ := cellsN10 X4.out))
          go_ret
          exact ⟨ret_bool (by rw [HQ.out]; rfl), B4.out⟩
        | true =>
          cases x5 with
          | false =>
            go_enter Try.func15, Try.ntmps15
            go_upto_region 1 with fail
            generalize w.alloc (.cells #[.slice a1 n1 c1, .string qt, .string qj, .string ql, .string qr, .slice a2 n2 c2, .string qg, .string qo, .bool qd, .int .i64 qm] 39) = W0 at *
            obtain ⟨y0, y1, y2, y3, y4, y5, y6, y7, y8, y9, yf⟩ := cellsN10 X0.out
            go_wp2_with (first | (go_at_call 28; refine (HI.out _ B0.out).mono ?_; rintro e u0 ⟨rfl, k0⟩; have B1 := hide (B0.out.trans (k0.mono B0.out.size)); have X1 := hide ((k0.block _ (blkG X0.out)).trans X0.out); clear k0 y0 y1 y2 y3 y4 y5 y6 y7 y8 y9 yf; obtain ⟨y0, y1, y2, y3, y4, y5, y6, y7, y8, y9, yf⟩ := cellsN10 X1.out) | (go_at_call 7; refine (HN.out _).mono ?_; rintro e u1 ⟨rfl, rfl⟩) | (go_at_call 29; refine (HJ.out _ B1.out).mono ?_; rintro e u2 ⟨rfl, k2⟩; have B3 := hide (B1.out.trans (k2.mono B1.out.size)); have X3 := hide ((k2.block _ (blkG X1.out)).trans X1.out); clear k2 y0 y1 y2 y3 y4 y5 y6 y7 y8 y9 yf; obtain ⟨y0, y1, y2, y3, y4, y5, y6, y7, y8, y9, yf⟩ := cellsN10 X3.out) | (go_at_call 30; refine (HW.out _ B3.out).mono ?_; rintro e u3 ⟨rfl, k3⟩; have B4 := hide (B3.out.trans (k3.mono B3.out.size)); have X4 := hide ((k3.block _ (blkG X3.out)).trans X3.out); clear k3 y0 y1 y2 y3 y4 y5 y6 y7 y8 y9 yf; obtain ⟨y0, y1, y2, y3, y4, y5, y6, y7, y8, y9, yf⟩ := cellsN10 X4.out) | (go_at_call 31; refine (HG.out _ B4.out).mono ?_; rintro e u4 ⟨rfl, k4⟩; have B5 := hide (B4.out.trans (k4.mono B4.out.size)); have X5 := hide ((k4.block _ (blkG X4.out)).trans X4.out); clear k4 y0 y1 y2 y3 y4 y5 y6 y7 y8 y9 yf; obtain ⟨y0, y1, y2, y3, y4, y5, y6, y7, y8, y9, yf⟩ := cellsN10 X5.out))
            go_ret
            exact ⟨ret_bool (by rw [HQ.out]; rfl), B5.out⟩
          | true =>
            cases x6 with
            | false =>
              go_enter Try.func15, Try.ntmps15
              go_upto_region 1 with fail
              generalize w.alloc (.cells #[.slice a1 n1 c1, .string qt, .string qj, .string ql, .string qr, .slice a2 n2 c2, .string qg, .string qo, .bool qd, .int .i64 qm] 39) = W0 at *
              obtain ⟨y0, y1, y2, y3, y4, y5, y6, y7, y8, y9, yf⟩ := cellsN10 X0.out
              go_wp2_with (first | (go_at_call 28; refine (HI.out _ B0.out).mono ?_; rintro e u0 ⟨rfl, k0⟩; have B1 := hide (B0.out.trans (k0.mono B0.out.size)); have X1 := hide ((k0.block _ (blkG X0.out)).trans X0.out); clear k0 y0 y1 y2 y3 y4 y5 y6 y7 y8 y9 yf; obtain ⟨y0, y1, y2, y3, y4, y5, y6, y7, y8, y9, yf⟩ := cellsN10 X1.out) | (go_at_call 7; refine (HN.out _).mono ?_; rintro e u1 ⟨rfl, rfl⟩) | (go_at_call 29; refine (HJ.out _ B1.out).mono ?_; rintro e u2 ⟨rfl, k2⟩; have B3 := hide (B1.out.trans (k2.mono B1.out.size)); have X3 := hide ((k2.block _ (blkG X1.out)).trans X1.out); clear k2 y0 y1 y2 y3 y4 y5 y6 y7 y8 y9 yf; obtain ⟨y0, y1, y2, y3, y4, y5, y6, y7, y8, y9, yf⟩ := cellsN10 X3.out) | (go_at_call 30; refine (HW.out _ B3.out).mono ?_; rintro e u3 ⟨rfl, k3⟩; have B4 := hide (B3.out.trans (k3.mono B3.out.size)); have X4 := hide ((k3.block _ (blkG X3.out)).trans X3.out); clear k3 y0 y1 y2 y3 y4 y5 y6 y7 y8 y9 yf; obtain ⟨y0, y1, y2, y3, y4, y5, y6, y7, y8, y9, yf⟩ := cellsN10 X4.out) | (go_at_call 31; refine (HG.out _ B4.out).mono ?_; rintro e u4 ⟨rfl, k4⟩; have B5 := hide (B4.out.trans (k4.mono B4.out.size)); have X5 := hide ((k4.block _ (blkG X4.out)).trans X4.out); clear k4 y0 y1 y2 y3 y4 y5 y6 y7 y8 y9 yf; obtain ⟨y0, y1, y2, y3, y4, y5, y6, y7, y8, y9, yf⟩ := cellsN10 X5.out) | (go_at_call 32; refine (HO.out _ B5.out).mono ?_; rintro e u5 ⟨rfl, k5⟩; have B6 := hide (B5.out.trans (k5.mono B5.out.size)); have X6 := hide ((k5.block _ (blkG X5.out)).trans X5.out); clear k5 y0 y1 y2 y3 y4 y5 y6 y7 y8 y9 yf; obtain ⟨y0, y1, y2, y3, y4, y5, y6, y7, y8, y9, yf⟩ := cellsN10 X6.out))
              go_ret
              exact ⟨ret_bool (by rw [HQ.out]; rfl), B6.out⟩
            | true =>
              cases x7 with
              | false =>
                go_enter Try.func15, Try.ntmps15
                go_upto_region 1 with fail
                generalize w.alloc (.cells #[.slice a1 n1 c1, .string qt, .string qj, .string ql, .string qr, .slice a2 n2 c2, .string qg, .string qo, .bool qd, .int .i64 qm] 39) = W0 at *
                obtain ⟨y0, y1, y2, y3, y4, y5, y6, y7, y8, y9, yf⟩ := cellsN10 X0.out
                go_wp2_with (first | (go_at_call 28; refine (HI.out _ B0.out).mono ?_; rintro e u0 ⟨rfl, k0⟩; have B1 := hide (B0.out.trans (k0.mono B0.out.size)); have X1 := hide ((k0.block _ (blkG X0.out)).trans X0.out); clear k0 y0 y1 y2 y3 y4 y5 y6 y7 y8 y9 yf; obtain ⟨y0, y1, y2, y3, y4, y5, y6, y7, y8, y9, yf⟩ := cellsN10 X1.out) | (go_at_call 7; refine (HN.out _).mono ?_; rintro e u1 ⟨rfl, rfl⟩) | (go_at_call 29; refine (HJ.out _ B1.out).mono ?_; rintro e u2 ⟨rfl, k2⟩; have B3 := hide (B1.out.trans (k2.mono B1.out.size)); have X3 := hide ((k2.block _ (blkG X1.out)).trans X1.out); clear k2 y0 y1 y2 y3 y4 y5 y6 y7 y8 y9 yf; obtain ⟨y0, y1, y2, y3, y4, y5, y6, y7, y8, y9, yf⟩ := cellsN10 X3.out) | (go_at_call 30; refine (HW.out _ B3.out).mono ?_; rintro e u3 ⟨rfl, k3⟩; have B4 := hide (B3.out.trans (k3.mono B3.out.size)); have X4 := hide ((k3.block _ (blkG X3.out)).trans X3.out); clear k3 y0 y1 y2 y3 y4 y5 y6 y7 y8 y9 yf; obtain ⟨y0, y1, y2, y3, y4, y5, y6, y7, y8, y9, yf⟩ := cellsN10 X4.out) | (go_at_call 31; refine (HG.out _ B4.out).mono ?_; rintro e u4 ⟨rfl, k4⟩; have B5 := hide (B4.out.trans (k4.mono B4.out.size)); have X5 := hide ((k4.block _ (blkG X4.out)).trans X4.out); clear k4 y0 y1 y2 y3 y4 y5 y6 y7 y8 y9 yf; obtain ⟨y0, y1, y2, y3, y4, y5, y6, y7, y8, y9, yf⟩ := cellsN10 X5.out) | (go_at_call 32; refine (HO.out _ B5.out).mono ?_; rintro e u5 ⟨rfl, k5⟩; have B6 := hide (B5.out.trans (k5.mono B5.out.size)); have X6 := hide ((k5.block _ (blkG X5.out)).trans X5.out); clear k5 y0 y1 y2 y3 y4 y5 y6 y7 y8 y9 yf; obtain ⟨y0, y1, y2, y3, y4, y5, y6, y7, y8, y9, yf⟩ := cellsN10 X6.out) | (go_at_call 33; refine (HL.out _).mono ?_; rintro e u6 ⟨rfl, rfl⟩))
                go_ret
                exact ⟨ret_bool (by rw [HQ.out]; rfl), B6.out⟩
              | true =>
                go_enter Try.func15, Try.ntmps15
                go_upto_region 1 with fail
                generalize w.alloc (.cells #[.slice a1 n1 c1, .string qt, .string qj, .string ql, .string qr, .slice a2 n2 c2, .string qg, .string qo, .bool qd, .int .i64 qm] 39) = W0 at *
                obtain ⟨y0, y1, y2, y3, y4, y5, y6, y7, y8, y9, yf⟩ := cellsN10 X0.out
                go_wp2_with (first | (go_at_call 28; refine (HI.out _ B0.out).mono ?_; rintro e u0 ⟨rfl, k0⟩; have B1 := hide (B0.out.trans (k0.mono B0.out.size)); have X1 := hide ((k0.block _ (blkG X0.out)).trans X0.out); clear k0 y0 y1 y2 y3 y4 y5 y6 y7 y8 y9 yf; obtain ⟨y0, y1, y2, y3, y4, y5, y6, y7, y8, y9, yf⟩ := cellsN10 X1.out) | (go_at_call 7; refine (HN.out _).mono ?_; rintro e u1 ⟨rfl, rfl⟩) | (go_at_call 29; refine (HJ.out _ B1.out).mono ?_; rintro e u2 ⟨rfl, k2⟩; have B3 := hide (B1.out.trans (k2.mono B1.out.size)); have X3 := hide ((k2.block _ (blkG X1.out)).trans X1.out); clear k2 y0 y1 y2 y3 y4 y5 y6 y7 y8 y9 yf; obtain ⟨y0, y1, y2, y3, y4, y5, y6, y7, y8, y9, yf⟩ := cellsN10 X3.out) | (go_at_call 30; refine (HW.out _ B3.out).mono ?_; rintro e u3 ⟨rfl, k3⟩; have B4 := hide (B3.out.trans (k3.mono B3.out.size)); have X4 := hide ((k3.block _ (blkG X3.out)).trans X3.out); clear k3 y0 y1 y2 y3 y4 y5 y6 y7 y8 y9 yf; obtain ⟨y0, y1, y2, y3, y4, y5, y6, y7, y8, y9, yf⟩ := cellsN10 X4.out) | (go_at_call 31; refine (HG.out _ B4.out).mono ?_; rintro e u4 ⟨rfl, k4⟩; have B5 := hide (B4.out.trans (k4.mono B4.out.size)); have X5 := hide ((k4.block _ (blkG X4.out)).trans X4.out); clear k4 y0 y1 y2 y3 y4 y5 y6 y7 y8 y9 yf; obtain ⟨y0, y1, y2, y3, y4, y5, y6, y7, y8, y9, yf⟩ := cellsN10 X5.out) | (go_at_call 32; refine (HO.out _ B5.out).mono ?_; rintro e u5 ⟨rfl, k5⟩; have B6 := hide (B5.out.trans (k5.mono B5.out.size)); have X6 := hide ((k5.block _ (blkG X5.out)).trans X5.out); clear k5 y0 y1 y2 y3 y4 y5 y6 y7 y8 y9 yf; obtain ⟨y0, y1, y2, y3, y4, y5, y6, y7, y8, y9, yf⟩ := cellsN10 X6.out) | (go_at_call 33; refine (HL.out _).mono ?_; rintro e u6 ⟨rfl, rfl⟩))
                go_ret
                exact ⟨ret_bool (by rw [HQ.out]; rfl), B6.out⟩
end Go.Proofs.Yteanieiphpehcaa
