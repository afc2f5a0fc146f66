/-
  Contracts: ops held against each other.
-/
import Derived.Test.YtpbbmmapbmgijaaOpSz
import Derived.Test.YtpbbmmapbmgijaaSEq
import Derived.Test.YtpbbmmapbmgijaaEqV
import Derived.Deep.RegionHeld3
namespace Go.Proofs.Ytpbbmmapbmgijaa
open Go.RowKit
set_option maxRecDepth 100000

set_option maxHeartbeats 4000000 in
theorem eqOp_same (A B A' B' : Nat) (o : Opn) (a1 : Option Addr) (c1 : Nat) (a2 : Option Addr) (c2 : Nat) (a3 : Option Addr) (c3 : Nat) (a4 : Option Addr) (c4 : Nat) (b1 : Option Addr) (q1 : Nat) (b2 : Option Addr) (q2 : Nat) (b3 : Option Addr) (q3 : Nat) (b4 : Option Addr) (q4 : Nat) (w : World) (hB : B ≤ w.heap.size) (hB' : B' ≤ w.heap.size) (hf : opFits o)
    (hs : SchRow w A B a1 a2 a3 c2 o.sch) (hv : VRowA w A B a4 o.row) (hs' : SchRow w A' B' b1 b2 b3 q2 o.sch) (hv' : VRowA w A' B' b4 o.row) :
    Calls Try.prog 28 #[(.agg #[.int .i64 o.kind, .string o.table, .string o.sch.name, .slice a1 o.sch.cols.length c1, .slice a2 o.sch.key.length c2, .slice a3 o.sch.idx.length c3, .slice a4 o.row.length c4]), (.agg #[.int .i64 o.kind, .string o.table, .string o.sch.name, .slice b1 o.sch.cols.length q1, .slice b2 o.sch.key.length q2, .slice b3 o.sch.idx.length q3, .slice b4 o.row.length q4])] w fun e w' => e = .returned (.bool true) ∧ Below w.heap.size w w' := by
  have HES := hide (fun (W : World) (hb : Below w.heap.size w W) => eqSchema_same A B A' B' a1 c1 a2 c2 a3 c3 b1 q1 b2 q2 b3 q3 o.sch W (Nat.le_trans hB hb.size) (Nat.le_trans hB' hb.size) hf.1 (hs.kept (hb.mono hB)) (hs'.kept (hb.mono hB')))
  have HEV := hide (fun (W : World) (hb : Below w.heap.size w W) => eqValueS_same a4 c4 b4 q4 o.row W hf.2 ((hv.1.kept (hb.mono hB)).mono (Nat.le_trans hB hb.size)) ((hv'.1.kept (hb.mono hB')).mono (Nat.le_trans hB' hb.size)))
  clear hs hv hs' hv' hf hB hB'
  generalize o.kind = kd at *
  generalize o.table = tb at *
  generalize o.sch.name = nm at *
  generalize o.sch.cols.length = n1 at *
  generalize o.sch.key.length = n2 at *
  generalize o.sch.idx.length = n3 at *
  generalize o.row.length = n4 at *
  have HA := hide (two_allocs w (.cells #[.int .i64 kd, .string tb, .string nm, .slice a1 n1 c1, .slice a2 n2 c2, .slice a3 n3 c3, .slice a4 n4 c4] 57) (.cells #[.int .i64 kd, .string tb, .string nm, .slice b1 n1 q1, .slice b2 n2 q2, .slice b3 n3 q3, .slice b4 n4 q4] 57))
  have B0 := hide (((Below.refl w.heap.size w).alloc (Nat.le_refl _) (.cells #[.int .i64 kd, .string tb, .string nm, .slice a1 n1 c1, .slice a2 n2 c2, .slice a3 n3 c3, .slice a4 n4 c4] 57)).alloc (by simp) (.cells #[.int .i64 kd, .string tb, .string nm, .slice b1 n1 q1, .slice b2 n2 q2, .slice b3 n3 q3, .slice b4 n4 q4] 57))
  go_enter Try.func28, Try.ntmps28
  go_wp2_with fail
  refine (HES.out _ B0.out).mono ?_
  generalize (w.alloc (.cells #[.int .i64 kd, .string tb, .string nm, .slice a1 n1 c1, .slice a2 n2 c2, .slice a3 n3 c3, .slice a4 n4 c4] 57)).alloc (.cells #[.int .i64 kd, .string tb, .string nm, .slice b1 n1 q1, .slice b2 n2 q2, .slice b3 n3 q3, .slice b4 n4 q4] 57) = W0 at *
  rintro e w1 ⟨rfl, g1⟩
  obtain ⟨hx, hy, hz⟩ := HA.out
  obtain ⟨x0, x1, x2, x3, x4, x5, x6, xf⟩ := cells7 ((g1.block w.heap.size (by omega)).trans hx)
  obtain ⟨y0, y1, y2, y3, y4, y5, y6, yf⟩ := cells7 ((g1.block (w.heap.size + 1) (by omega)).trans hy)
  have B1 := hide (B0.out.trans (g1.mono (by omega)))
  clear g1 hx hy hz HA B0 HES
  go_wp2_with fail
  refine (HEV.out _ B1.out).mono ?_
  rintro e w2 ⟨rfl, g2⟩
  have B2 := hide (B1.out.trans (g2.mono B1.out.size))
  clear g2 B1 HEV x0 x1 x2 x3 x4 x5 x6 xf y0 y1 y2 y3 y4 y5 y6 yf
  go_wp2
  go_ret
  exact ⟨rfl, B2.out⟩
set_option maxHeartbeats 4000000 in
theorem eqOpS_same (A B A' B' : Nat) (ao : Option Addr) (cap : Nat) (bo : Option Addr) (cp : Nat) (l : List Opn) (w : World) (hB : B ≤ w.heap.size) (hB' : B' ≤ w.heap.size) (hl : l.length ≤ 1048576) (hxl : ∀ i, i < l.length → opFits (l.getD i noOp)) (ha : OpRow w A B ao l) (hb : OpRow w A' B' bo l) :
    Calls Try.prog 11 #[.slice ao l.length cap, .slice bo l.length cp] w fun e w' => e = .returned (.bool true) ∧ Below w.heap.size w w' := by
  have HA : Hid (OpRow w A B ao l) := ha
  have HB : Hid (OpRow w A' B' bo l) := hb
  clear ha hb
  go_enter Try.func11, Try.ntmps11
  go_wp2
  go_loopw [5] (fun i wr => ∃ k : Nat, k ≤ l.length ∧ i = .int .i64 k ∧ Below w.heap.size w wr) (fun i _ => l.length - (intOf i).toNat)
  case atStart => exact ⟨0, Nat.zero_le _, rfl, Below.refl _ _⟩
  case round =>
    obtain ⟨k, hk, rfl, hbw⟩ := hrel
    by_cases hlt : k < l.length
    · obtain ⟨b, off, o, a1, c1, a2, c2, a3, c3, a4, c4, rfl, hbB, hv, hok, hs, hva, d0, d1, d2, d3, d4, d5, d6⟩ := (HA.out.kept (hbw.mono hB)).at k hlt
      obtain ⟨b', off', o', b1, q1, b2, q2, b3, q3, b4, q4, rfl, hbB', hv', hok', hs', hva', e0, e1, e2, e3, e4, e5, e6⟩ := (HB.out.kept (hbw.mono hB')).at k hlt
      rw [hv] at hv'
      subst hv'
      have hll := hxl k hlt
      rw [hv] at hll
      have hz := hbw.size
      have hi0 : (0 : Int) ≤ (k : Int) := by omega
      have hi1 : (k : Int) < (l.length : Int) := by omega
      have ht := (Int.toNat_natCast k)
      have HI := hide (fun (W : World) (hbW : Below wr.heap.size wr W) => eqOp_same A B A' B' o a1 c1 a2 c2 a3 c3 a4 c4 b1 q1 b2 q2 b3 q3 b4 q4 W (by have := hbW.size; omega) (by have := hbW.size; omega) hll (hs.kept (hbW.mono (by omega))) (hva.kept (hbW.mono (by omega))) (hs'.kept (hbW.mono (by omega))) (hva'.kept (hbW.mono (by omega))))
      clear hv hok hok' hs hs' hva hva' hll
      generalize o.kind = kd at *
      generalize o.table = tb at *
      generalize o.sch.name = nm at *
      generalize o.sch.cols.length = n1 at *
      generalize o.sch.key.length = n2 at *
      generalize o.sch.idx.length = n3 at *
      generalize o.row.length = n4 at *
      go_wp2
      go_region_held3 (fun W => (W.cell? ⟨b, off + k * 7, none⟩ = some (.int .i64 kd) ∧ W.cell? ⟨b, off + k * 7 + 1, none⟩ = some (.string tb) ∧ W.cell? ⟨b, off + k * 7 + 2, none⟩ = some (.string nm) ∧ W.cell? ⟨b, off + k * 7 + 3, none⟩ = some (.slice a1 n1 c1) ∧ W.cell? ⟨b, off + k * 7 + 4, none⟩ = some (.slice a2 n2 c2) ∧ W.cell? ⟨b, off + k * 7 + 5, none⟩ = some (.slice a3 n3 c3) ∧ W.cell? ⟨b, off + k * 7 + 6, none⟩ = some (.slice a4 n4 c4)) ∧ (W.cell? ⟨b', off' + k * 7, none⟩ = some (.int .i64 kd) ∧ W.cell? ⟨b', off' + k * 7 + 1, none⟩ = some (.string tb) ∧ W.cell? ⟨b', off' + k * 7 + 2, none⟩ = some (.string nm) ∧ W.cell? ⟨b', off' + k * 7 + 3, none⟩ = some (.slice b1 n1 q1) ∧ W.cell? ⟨b', off' + k * 7 + 4, none⟩ = some (.slice b2 n2 q2) ∧ W.cell? ⟨b', off' + k * 7 + 5, none⟩ = some (.slice b3 n3 q3) ∧ W.cell? ⟨b', off' + k * 7 + 6, none⟩ = some (.slice b4 n4 q4))) (go_keep) (first
        | (go_at_call 28; refine (HI.out _ (Below.refl _ _).drew).mono ?_; rintro e w1 ⟨rfl, hb1⟩; have hb1' : Below wr.heap.size wr w1 := (Below.refl _ _).drew.trans hb1; have hq1 : b < wr.heap.size := (by omega); have hq2 : b' < wr.heap.size := (by omega); have D0 := (hb1'.cell (p := ⟨b, off + k * 7, none⟩) hq1).trans d0; have D1 := (hb1'.cell (p := ⟨b, off + k * 7 + 1, none⟩) hq1).trans d1; have D2 := (hb1'.cell (p := ⟨b, off + k * 7 + 2, none⟩) hq1).trans d2; have D3 := (hb1'.cell (p := ⟨b, off + k * 7 + 3, none⟩) hq1).trans d3; have D4 := (hb1'.cell (p := ⟨b, off + k * 7 + 4, none⟩) hq1).trans d4; have D5 := (hb1'.cell (p := ⟨b, off + k * 7 + 5, none⟩) hq1).trans d5; have D6 := (hb1'.cell (p := ⟨b, off + k * 7 + 6, none⟩) hq1).trans d6; have E0 := (hb1'.cell (p := ⟨b', off' + k * 7, none⟩) hq2).trans e0; have E1 := (hb1'.cell (p := ⟨b', off' + k * 7 + 1, none⟩) hq2).trans e1; have E2 := (hb1'.cell (p := ⟨b', off' + k * 7 + 2, none⟩) hq2).trans e2; have E3 := (hb1'.cell (p := ⟨b', off' + k * 7 + 3, none⟩) hq2).trans e3; have E4 := (hb1'.cell (p := ⟨b', off' + k * 7 + 4, none⟩) hq2).trans e4; have E5 := (hb1'.cell (p := ⟨b', off' + k * 7 + 5, none⟩) hq2).trans e5; have E6 := (hb1'.cell (p := ⟨b', off' + k * 7 + 6, none⟩) hq2).trans e6; clear d0 d1 d2 d3 d4 d5 d6 e0 e1 e2 e3 e4 e5 e6))
      all_goals
        have hb2 := hbw.trans (hb1'.mono hz)
        clear D0 D1 D2 D3 D4 D5 D6 E0 E1 E2 E3 E4 E5 E6 hb1 hb1' hbw HI
        go_wp2
        go_roundw
        case rel => exact ⟨k + 1, by omega, by go_num, hb2⟩
        case measure => simp [intOf]; omega
    · go_wp2
      go_ret
      exact ⟨rfl, hbw⟩
end Go.Proofs.Ytpbbmmapbmgijaa
