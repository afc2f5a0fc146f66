/-
  Contract: the size of a query, as the laws count it.
-/
import Derived.Test.YteanieiphpehcaaItSz
import Derived.Test.YteanieiphpehcaaTmSz
import Derived.Test.YteanieiphpehcaaQyTo
namespace Go.Proofs.Yteanieiphpehcaa
open Go.RowKit
set_option maxRecDepth 100000

set_option maxHeartbeats 4000000 in
theorem szQuery_any (A B : Nat) (q : Qry) (a1 : Option Addr) (c1 : Nat) (a2 : Option Addr) (c2 : Nat) (left : Int) (w : World) (hB : B ≤ w.heap.size) (hf : q.fits) (h1 : ItmRow w A B a1 q.items) (h2 : TrmRow w A B a2 q.wh) (h0 : 0 ≤ left) (hl : left ≤ 1048576) :
    Calls Try.prog 12 #[.agg #[.slice a1 q.items.length c1, .string q.table, .string q.join, .string q.left, .string q.right, .slice a2 q.wh.length c2, .string q.group, .string q.order, .bool q.down, .int .i64 q.limit], .int .i64 left] w fun e w' => ∃ r : Int, e = .returned (.int .i64 r) ∧ r ≤ left ∧ (r < 0 ∨ 0 ≤ r ∧ q.small) ∧ Below w.heap.size w w' := by
  obtain ⟨f1, f2, ft, fj, fl, fr, fg, fo, fm⟩ := hf
  have HSI := hide (fun (W : World) (hb : Below w.heap.size w W) => szItemS_any A B a1 c1 q.items left W (Nat.le_trans hB hb.size) f1 (FRow.kept h1 (hb.mono hB)) h0 hl)
  have HST := hide (fun (r : Int) (hr0 : 0 ≤ r) (hr1 : r ≤ 1048576) (W : World) (hb : Below w.heap.size w W) => szTermS_any A B a2 c2 q.wh r W (Nat.le_trans hB hb.size) f2 (FRow.kept h2 (hb.mono hB)) hr0 hr1)
  unfold maxLen at ft fj fl fr fg fo
  have HSM := hide (fun (x1 : q.items.length ≤ 1048576 ∧ ∀ i, i < q.items.length → (q.items.getD i noItm).small) (x2 : q.wh.length ≤ 1048576 ∧ ∀ i, i < q.wh.length → (q.wh.getD i noTrm).small) (y1 : q.table.size ≤ 1048576) (y2 : q.join.size ≤ 1048576) (y3 : q.left.size ≤ 1048576) (y4 : q.right.size ≤ 1048576) (y5 : q.group.size ≤ 1048576) (y6 : q.order.size ≤ 1048576) => show q.small from ⟨x1.1, x2.1, y1, y2, y3, y4, y5, y6, x1.2, x2.2⟩)
  generalize q.small = qsm at *
  clear h1 h2 hB f1 f2 fm
  generalize q.table = qt at *
  generalize q.join = qj at *
  generalize q.left = ql at *
  generalize q.right = qr at *
  generalize q.group = qg at *
  generalize q.order = qo at *
  generalize q.down = qd at *
  generalize q.limit = qm at *
  generalize q.items.length = n1 at *
  generalize q.wh.length = n2 at *
  have B0 := hide ((Below.refl w.heap.size w).alloc (Nat.le_refl _) (.cells #[.slice a1 n1 c1, .string qt, .string qj, .string ql, .string qr, .slice a2 n2 c2, .string qg, .string qo, .bool qd, .int .i64 qm] 33))
  have X0 := hide (heap_alloc_new w (.cells #[.slice a1 n1 c1, .string qt, .string qj, .string ql, .string qr, .slice a2 n2 c2, .string qg, .string qo, .bool qd, .int .i64 qm] 33))
  go_enter Try.func12, Try.ntmps12
  go_upto_region 1 with fail
  generalize w.alloc (.cells #[.slice a1 n1 c1, .string qt, .string qj, .string ql, .string qr, .slice a2 n2 c2, .string qg, .string qo, .bool qd, .int .i64 qm] 33) = W0 at *
  obtain ⟨x0, x1, x2, x3, x4, x5, x6, x7, x8, x9, xf⟩ := cellsN10 X0.out
  go_wp2_with fail
  refine (HSI.out _ B0.out).mono ?_
  rintro e w1 ⟨r1, rfl, hr1, hcase, b1⟩
  have X1 := hide ((b1.block _ (blkG X0.out)).trans X0.out)
  have B1 := hide (B0.out.trans (b1.mono B0.out.size))
  clear b1 X0 B0 HSI x0 x1 x2 x3 x4 x5 x6 x7 x8 x9 xf
  rcases hcase with hneg | ⟨hr0, hfit⟩
  · clear HST
    go_wp2
    go_ret
    exact ⟨-1, rfl, by omega, .inl (by omega), B1.out⟩
  · have HFI := hide hfit
    clear hfit
    obtain ⟨x0, x1, x2, x3, x4, x5, x6, x7, x8, x9, xf⟩ := cellsN10 X1.out
    by_cases gqt : r1 < (qt.size : Int)
    · clear HST
      have hwqt : IntKind.i64.wrap (r1 - (qt.size : Int)) = r1 - (qt.size : Int) := by rw [IntKind.wrap_i64]; omega
      go_wp2
      go_ret
      exact ⟨-1, rfl, by omega, .inl (by omega), B1.out⟩
    · have hwqt : IntKind.i64.wrap (r1 - (qt.size : Int)) = r1 - (qt.size : Int) := by rw [IntKind.wrap_i64]; omega
      by_cases gqj : r1 - (qt.size : Int) < (qj.size : Int)
      · clear HST
        have hwqj : IntKind.i64.wrap (r1 - (qt.size : Int) - (qj.size : Int)) = r1 - (qt.size : Int) - (qj.size : Int) := by rw [IntKind.wrap_i64]; omega
        go_wp2
        go_ret
        exact ⟨-1, rfl, by omega, .inl (by omega), B1.out⟩
      · have hwqj : IntKind.i64.wrap (r1 - (qt.size : Int) - (qj.size : Int)) = r1 - (qt.size : Int) - (qj.size : Int) := by rw [IntKind.wrap_i64]; omega
        by_cases gql : r1 - (qt.size : Int) - (qj.size : Int) < (ql.size : Int)
        · clear HST
          have hwql : IntKind.i64.wrap (r1 - (qt.size : Int) - (qj.size : Int) - (ql.size : Int)) = r1 - (qt.size : Int) - (qj.size : Int) - (ql.size : Int) := by rw [IntKind.wrap_i64]; omega
          go_wp2
          go_ret
          exact ⟨-1, rfl, by omega, .inl (by omega), B1.out⟩
        · have hwql : IntKind.i64.wrap (r1 - (qt.size : Int) - (qj.size : Int) - (ql.size : Int)) = r1 - (qt.size : Int) - (qj.size : Int) - (ql.size : Int) := by rw [IntKind.wrap_i64]; omega
          by_cases gqr : r1 - (qt.size : Int) - (qj.size : Int) - (ql.size : Int) < (qr.size : Int)
          · clear HST
            have hwqr : IntKind.i64.wrap (r1 - (qt.size : Int) - (qj.size : Int) - (ql.size : Int) - (qr.size : Int)) = r1 - (qt.size : Int) - (qj.size : Int) - (ql.size : Int) - (qr.size : Int) := by rw [IntKind.wrap_i64]; omega
            go_wp2
            go_ret
            exact ⟨-1, rfl, by omega, .inl (by omega), B1.out⟩
          · have hwqr : IntKind.i64.wrap (r1 - (qt.size : Int) - (qj.size : Int) - (ql.size : Int) - (qr.size : Int)) = r1 - (qt.size : Int) - (qj.size : Int) - (ql.size : Int) - (qr.size : Int) := by rw [IntKind.wrap_i64]; omega
            obtain ⟨m1, hm1⟩ : ∃ m1, m1 = r1 - (qt.size : Int) - (qj.size : Int) - (ql.size : Int) - (qr.size : Int) := ⟨_, rfl⟩
            have HM1 : Hid (0 ≤ m1 ∧ m1 ≤ left) := by show _ ∧ _; omega
            have HS4 : Hid (qt.size ≤ 1048576 ∧ qj.size ≤ 1048576 ∧ ql.size ≤ 1048576 ∧ qr.size ≤ 1048576) := by show _ ∧ _; refine ⟨?_, ?_, ?_, ?_⟩ <;> omega
            go_wp2_with fail
            rw [← hm1]
            clear gqt gqj gql gqr hwqt hwqj hwql hwqr hm1 ft fj fl fr
            refine (HST.out m1 HM1.out.1 (by have := HM1.out.2; omega) _ B1.out).mono ?_
            rintro e w2 ⟨r2, rfl, hr2, hcase2, b2⟩
            have X2 := hide ((b2.block _ (blkG X1.out)).trans X1.out)
            have B2 := hide (B1.out.trans (b2.mono B1.out.size))
            clear b2 X1 B1 HST x0 x1 x2 x3 x4 x5 x6 x7 x8 x9 xf
            have hm2 : r2 ≤ left := by have := HM1.out.2; omega
            rcases hcase2 with hneg2 | ⟨hr20, hfit2⟩
            · go_wp2
              go_ret
              exact ⟨-1, rfl, by omega, .inl (by omega), B2.out⟩
            · have HFT := hide hfit2
              clear hfit2
              obtain ⟨x0, x1, x2, x3, x4, x5, x6, x7, x8, x9, xf⟩ := cellsN10 X2.out
              by_cases gqg : r2 < (qg.size : Int)
              · have hwqg : IntKind.i64.wrap (r2 - (qg.size : Int)) = r2 - (qg.size : Int) := by rw [IntKind.wrap_i64]; omega
                go_wp2
                go_ret
                exact ⟨-1, rfl, by omega, .inl (by omega), B2.out⟩
              · have hwqg : IntKind.i64.wrap (r2 - (qg.size : Int)) = r2 - (qg.size : Int) := by rw [IntKind.wrap_i64]; omega
                by_cases gqo : r2 - (qg.size : Int) < (qo.size : Int)
                · have hwqo : IntKind.i64.wrap (r2 - (qg.size : Int) - (qo.size : Int)) = r2 - (qg.size : Int) - (qo.size : Int) := by rw [IntKind.wrap_i64]; omega
                  go_wp2
                  go_ret
                  exact ⟨-1, rfl, by omega, .inl (by omega), B2.out⟩
                · have hwqo : IntKind.i64.wrap (r2 - (qg.size : Int) - (qo.size : Int)) = r2 - (qg.size : Int) - (qo.size : Int) := by rw [IntKind.wrap_i64]; omega
                  go_wp2
                  go_ret
                  exact ⟨_, rfl, by omega, .inr ⟨by omega, HSM.out HFI.out HFT.out HS4.out.1 HS4.out.2.1 HS4.out.2.2.1 HS4.out.2.2.2 (by omega) (by omega)⟩, B2.out⟩
end Go.Proofs.Yteanieiphpehcaa
