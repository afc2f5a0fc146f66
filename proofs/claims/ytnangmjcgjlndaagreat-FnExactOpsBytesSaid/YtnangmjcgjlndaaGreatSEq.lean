/-
  Contracts: two schemas of the same parts are the same.
-/
import Derived.Test.YtnangmjcgjlndaaGreatSCopy3
import Derived.Deep.RegionHeld3
namespace Go.Proofs.YtnangmjcgjlndaaGreat
open Go.RowKit
set_option maxRecDepth 100000

theorem eqColumn_same (t : ByteArray) (k : Int) (u : Bool) (w : World) :
    Calls Tryz.prog 74 #[.agg #[.string t, .int .i64 k, .bool u], .agg #[.string t, .int .i64 k, .bool u]] w fun e w' => e = .returned (.bool true) ∧ Below w.heap.size w w' := by
  go_enter Tryz.func74, Tryz.ntmps74
  go_wp2
  go_ret
  exact ⟨rfl, ((Below.refl _ _).alloc (Nat.le_refl _) _).alloc (by simp) _⟩
set_option maxHeartbeats 2000000 in
theorem eqColumnS_same (A B A' B' : Nat) (ao : Option Addr) (cap : Nat) (bo : Option Addr) (cp : Nat) (cs : List Col) (w : World) (hB : B ≤ w.heap.size) (hB' : B' ≤ w.heap.size) (hl : cs.length ≤ 1048576) (ha : ColRow w A B ao cs) (hb : ColRow w A' B' bo cs) :
    Calls Tryz.prog 61 #[.slice ao cs.length cap, .slice bo cs.length cp] w fun e w' => e = .returned (.bool true) ∧ Below w.heap.size w w' := by
  have HA : Hid (ColRow w A B ao cs) := ha
  have HB : Hid (ColRow w A' B' bo cs) := hb
  clear ha hb
  go_enter Tryz.func61, Tryz.ntmps61
  go_wp2
  go_loopw [5] (fun i wr => ∃ k : Nat, k ≤ cs.length ∧ i = .int .i64 k ∧ Below w.heap.size w wr) (fun i _ => cs.length - (intOf i).toNat)
  case atStart => exact ⟨0, Nat.zero_le _, rfl, Below.refl _ _⟩
  case round =>
    obtain ⟨k, hk, rfl, hbw⟩ := hrel
    by_cases hlt : k < cs.length
    · obtain ⟨b, off, kk, nn, tt, rfl, hbB, hv, htt, hki, d0, d1, d2⟩ := (HA.out.kept (hbw.mono hB)).at k hlt
      obtain ⟨b', off', kk', nn', tt', rfl, hbB', hv', htt', hki', e0, e1, e2⟩ := (HB.out.kept (hbw.mono hB')).at k hlt
      rw [hv] at hv'
      simp only [Col.mk.injEq] at hv'
      obtain ⟨rfl, rfl, rfl⟩ := hv'
      have hz := hbw.size
      have hi0 : (0 : Int) ≤ (k : Int) := by omega
      have hi1 : (k : Int) < (cs.length : Int) := by omega
      have ht := (Int.toNat_natCast k)
      have hq1 : b < wr.heap.size := by omega
      have hq2 : b' < wr.heap.size := by omega
      clear hv htt htt' hki hki'
      go_wp2
      go_region_held3 (fun W => W.cell? ⟨b, off + k * 3, none⟩ = some (.string kk) ∧ W.cell? ⟨b, off + k * 3 + 1, none⟩ = some (.int .i64 nn) ∧ W.cell? ⟨b, off + k * 3 + 2, none⟩ = some (.bool tt) ∧ W.cell? ⟨b', off' + k * 3, none⟩ = some (.string kk) ∧ W.cell? ⟨b', off' + k * 3 + 1, none⟩ = some (.int .i64 nn) ∧ W.cell? ⟨b', off' + k * 3 + 2, none⟩ = some (.bool tt)) (go_keep) (first | (go_at_call 74; refine (eqColumn_same kk nn tt _).mono ?_; rintro e w1 ⟨rfl, hb1⟩; have hb1' : Below wr.heap.size wr w1 := (Below.refl _ _).drew.trans hb1; obtain ⟨hc1, hf1⟩ := bcell hb1'))
      all_goals
        have hb2 := hbw.trans (hb1'.mono hz)
        clear d0 d1 d2 e0 e1 e2 hb1 hb1' hbw hc1 hf1
        go_wp2
        go_roundw
        case rel => exact ⟨k + 1, by omega, by go_num, hb2⟩
        case measure => simp [intOf]; omega
    · go_wp2
      go_ret
      exact ⟨rfl, hbw⟩
set_option maxHeartbeats 2000000 in
theorem eqInt64S_same (A B A' B' : Nat) (ao : Option Addr) (cap : Nat) (bo : Option Addr) (cp : Nat) (l : List Int) (w : World) (hB : B ≤ w.heap.size) (hB' : B' ≤ w.heap.size) (hl : l.length ≤ 1048576) (ha : IntRow w A B ao l) (hb : IntRow w A' B' bo l) :
    Calls Tryz.prog 62 #[.slice ao l.length cap, .slice bo l.length cp] w fun e w' => e = .returned (.bool true) ∧ Below w.heap.size w w' := by
  have HA : Hid (IntRow w A B ao l) := ha
  have HB : Hid (IntRow w A' B' bo l) := hb
  clear ha hb
  go_enter Tryz.func62, Tryz.ntmps62
  go_wp2
  go_loopw [5] (fun i wr => ∃ k : Nat, k ≤ l.length ∧ i = .int .i64 k ∧ Below w.heap.size w wr) (fun i _ => l.length - (intOf i).toNat)
  case atStart => exact ⟨0, Nat.zero_le _, rfl, Below.refl _ _⟩
  case round =>
    obtain ⟨k, hk, rfl, hbw⟩ := hrel
    by_cases hlt : k < l.length
    · obtain ⟨b, off, x, rfl, hbB, hv, hx, d0⟩ := (HA.out.kept (hbw.mono hB)).at k hlt
      obtain ⟨b', off', x', rfl, hbB', hv', hx', e0⟩ := (HB.out.kept (hbw.mono hB')).at k hlt
      rw [hv] at hv'
      subst hv'
      have hi0 : (0 : Int) ≤ (k : Int) := by omega
      have hi1 : (k : Int) < (l.length : Int) := by omega
      have ht := (Int.toNat_natCast k)
      clear hv hx hx'
      go_wp2
      go_region_held3 (fun W => W.cell? ⟨b, off + k, none⟩ = some (.int .i64 x) ∧ W.cell? ⟨b', off' + k, none⟩ = some (.int .i64 x)) (go_keep) (fail)
      all_goals
        have hb2 : Below w.heap.size w _ := hbw.drew
        clear d0 e0 hbw
        go_wp2
        go_roundw
        case rel => exact ⟨k + 1, by omega, by go_num, hb2⟩
        case measure => simp [intOf]; omega
    · go_wp2
      go_ret
      exact ⟨rfl, hbw⟩
set_option maxHeartbeats 1000000 in
theorem eqIndex_same (A B A' B' : Nat) (ao : Option Addr) (cap : Nat) (bo : Option Addr) (cp : Nat) (l : List Int) (u : Bool) (w : World) (hB : B ≤ w.heap.size) (hB' : B' ≤ w.heap.size) (hl : l.length ≤ 1048576) (ha : IntRow w A B ao l) (hb : IntRow w A' B' bo l) :
    Calls Tryz.prog 75 #[.agg #[.slice ao l.length cap, .bool u], .agg #[.slice bo l.length cp, .bool u]] w fun e w' => e = .returned (.bool true) ∧ Below w.heap.size w w' := by
  have HA : Hid (IntRow w A B ao l) := ha
  have HB : Hid (IntRow w A' B' bo l) := hb
  clear ha hb
  have B0 : Hid (Below w.heap.size w ((w.alloc (.cells #[.slice ao l.length cap, .bool u] 74)).alloc (.cells #[.slice bo l.length cp, .bool u] 74))) := ((Below.refl _ _).alloc (Nat.le_refl _) _).alloc (by simp) _
  go_enter Tryz.func75, Tryz.ntmps75
  go_wp2_with fail
  refine (eqInt64S_same A B A' B' ao cap bo cp l _ (Nat.le_trans hB B0.out.size) (Nat.le_trans hB' B0.out.size) hl (HA.out.kept (B0.out.mono hB)) (HB.out.kept (B0.out.mono hB'))).mono ?_
  rintro e w1 ⟨rfl, hb1⟩
  obtain ⟨hc1, hf1⟩ := bcell hb1
  have B1 : Hid (Below w.heap.size w w1) := B0.out.trans (hb1.mono B0.out.size)
  clear hb1
  go_wp2
  go_ret
  exact ⟨rfl, B1.out⟩
set_option maxHeartbeats 2000000 in
theorem eqIndexS_same (A B A' B' : Nat) (ao : Option Addr) (cap : Nat) (bo : Option Addr) (cp : Nat) (xs : List Idx) (w : World) (hB : B ≤ w.heap.size) (hB' : B' ≤ w.heap.size) (hl : xs.length ≤ 1048576) (hxl : ∀ x ∈ xs, x.cols.length ≤ 1048576) (ha : IdxRow w A B ao xs) (hb : IdxRow w A' B' bo xs) :
    Calls Tryz.prog 63 #[.slice ao xs.length cap, .slice bo xs.length cp] w fun e w' => e = .returned (.bool true) ∧ Below w.heap.size w w' := by
  have HA : Hid (IdxRow w A B ao xs) := ha
  have HB : Hid (IdxRow w A' B' bo xs) := hb
  clear ha hb
  go_enter Tryz.func63, Tryz.ntmps63
  go_wp2
  go_loopw [5] (fun i wr => ∃ k : Nat, k ≤ xs.length ∧ i = .int .i64 k ∧ Below w.heap.size w wr) (fun i _ => xs.length - (intOf i).toNat)
  case atStart => exact ⟨0, Nat.zero_le _, rfl, Below.refl _ _⟩
  case round =>
    obtain ⟨k, hk, rfl, hbw⟩ := hrel
    by_cases hlt : k < xs.length
    · obtain ⟨b, off, io, ca, l, u, rfl, hbB, hv, htt, hir, d0, d1⟩ := (HA.out.kept (hbw.mono hB)).at k hlt
      obtain ⟨b', off', io', ca', l', u', rfl, hbB', hv', htt', hir', e0, e1⟩ := (HB.out.kept (hbw.mono hB')).at k hlt
      rw [hv] at hv'
      simp only [Idx.mk.injEq] at hv'
      obtain ⟨rfl, rfl⟩ := hv'
      have hll : l.length ≤ 1048576 := by have := hxl _ (getD_mem xs noIdx k hlt); rw [hv] at this; exact this
      have hz := hbw.size
      have hi0 : (0 : Int) ≤ (k : Int) := by omega
      have hi1 : (k : Int) < (xs.length : Int) := by omega
      have ht := (Int.toNat_natCast k)
      have hq1 : b < wr.heap.size := by omega
      have hq2 : b' < wr.heap.size := by omega
      have HI : Hid (∀ W, Below wr.heap.size wr W → Calls Tryz.prog 75 #[.agg #[.slice io l.length ca, .bool u], .agg #[.slice io' l.length ca', .bool u]] W fun e w' => e = .returned (.bool true) ∧ Below W.heap.size W w') := fun W hbW =>
        eqIndex_same A B A' B' io ca io' ca' l u W (by have := hbW.size; omega) (by have := hbW.size; omega) hll (hir.kept (hbW.mono (by omega))) (hir'.kept (hbW.mono (by omega)))
      clear hv htt htt' hir hir'
      go_wp2
      go_region_held3 (fun W => W.cell? ⟨b, off + k * 2, none⟩ = some (.slice io l.length ca) ∧ W.cell? ⟨b, off + k * 2 + 1, none⟩ = some (.bool u) ∧ W.cell? ⟨b', off' + k * 2, none⟩ = some (.slice io' l.length ca') ∧ W.cell? ⟨b', off' + k * 2 + 1, none⟩ = some (.bool u)) (go_keep) (first | (go_at_call 75; refine (HI.out _ (Below.refl _ _).drew).mono ?_; rintro e w1 ⟨rfl, hb1⟩; have hb1' : Below wr.heap.size wr w1 := (Below.refl _ _).drew.trans hb1; obtain ⟨hc1, hf1⟩ := bcell hb1'))
      all_goals
        have hb2 := hbw.trans (hb1'.mono hz)
        clear d0 d1 e0 e1 hb1 hb1' hbw hc1 hf1 HI
        go_wp2
        go_roundw
        case rel => exact ⟨k + 1, by omega, by go_num, hb2⟩
        case measure => simp [intOf]; omega
    · go_wp2
      go_ret
      exact ⟨rfl, hbw⟩
set_option maxHeartbeats 1000000 in
theorem eqSchema_same (A B A' B' : Nat) (ao : Option Addr) (c1 : Nat) (ko : Option Addr) (c2 : Nat) (xo : Option Addr) (c3 : Nat) (ao' : Option Addr) (c1' : Nat) (ko' : Option Addr) (c2' : Nat) (xo' : Option Addr) (c3' : Nat) (s : Sch) (w : World)
    (hB : B ≤ w.heap.size) (hB' : B' ≤ w.heap.size) (hf : schFits s) (ha : SchRow w A B ao ko xo c2 s) (hb : SchRow w A' B' ao' ko' xo' c2' s) :
    Calls Tryz.prog 37 #[.agg #[.string s.name, .slice ao s.cols.length c1, .slice ko s.key.length c2, .slice xo s.idx.length c3], .agg #[.string s.name, .slice ao' s.cols.length c1', .slice ko' s.key.length c2', .slice xo' s.idx.length c3']] w fun e w' =>
      e = .returned (.bool true) ∧ Below w.heap.size w w' := by
  have HA : Hid (SchRow w A B ao ko xo c2 s) := ha
  have HB : Hid (SchRow w A' B' ao' ko' xo' c2' s) := hb
  have HF : Hid (schFits s) := hf
  clear ha hb hf
  obtain ⟨nm, cs, ky, xs⟩ := s
  simp only
  have B0 : Hid (Below w.heap.size w ((w.alloc (.cells #[.string nm, .slice ao cs.length c1, .slice ko ky.length c2, .slice xo xs.length c3] 43)).alloc (.cells #[.string nm, .slice ao' cs.length c1', .slice ko' ky.length c2', .slice xo' xs.length c3'] 43))) := ((Below.refl _ _).alloc (Nat.le_refl _) _).alloc (by simp) _
  go_enter Tryz.func37, Tryz.ntmps37
  go_wp2_with fail
  refine (eqColumnS_same A B A' B' ao c1 ao' c1' cs _ (Nat.le_trans hB B0.out.size) (Nat.le_trans hB' B0.out.size) HF.out.1 (HA.out.2.1.kept (B0.out.mono hB)) (HB.out.2.1.kept (B0.out.mono hB'))).mono ?_
  rintro e w1 ⟨rfl, hb1⟩
  have X1 : Hid (w1.heap[w.heap.size]? = some (.cells #[.string nm, .slice ao cs.length c1, .slice ko ky.length c2, .slice xo xs.length c3] 43 (0, 0))) := (hb1.block _ (by simp; omega)).trans (by rw [heap_old _ _ _ (by simp), heap_alloc_new])
  have Y1 : Hid (w1.heap[w.heap.size + 1]? = some (.cells #[.string nm, .slice ao' cs.length c1', .slice ko' ky.length c2', .slice xo' xs.length c3'] 43 (0, 0))) := (hb1.block _ (by simp)).trans (by have := heap_alloc_new (w.alloc (.cells #[.string nm, .slice ao cs.length c1, .slice ko ky.length c2, .slice xo xs.length c3] 43)) (.cells #[.string nm, .slice ao' cs.length c1', .slice ko' ky.length c2', .slice xo' xs.length c3'] 43 (0, 0)); simpa using this)
  have hlt1 : w.heap.size + 2 ≤ w1.heap.size := by have := hb1.size; simp at this; omega
  obtain ⟨x0, x1, x2, x3, xf⟩ := cells4 X1.out
  obtain ⟨y0, y1, y2, y3, yf⟩ := cells4 Y1.out
  have B1 : Hid (Below w.heap.size w w1) := B0.out.trans (hb1.mono B0.out.size)
  clear hb1 B0
  go_wp2_with fail
  refine (eqInt64S_same A B A' B' ko c2 ko' c2' ky _ (Nat.le_trans hB B1.out.size) (Nat.le_trans hB' B1.out.size) HF.out.2.1 (HA.out.2.2.1.kept (B1.out.mono hB)) (HB.out.2.2.1.kept (B1.out.mono hB'))).mono ?_
  rintro e w2 ⟨rfl, hb2⟩
  have X2 : Hid (w2.heap[w.heap.size]? = some (.cells #[.string nm, .slice ao cs.length c1, .slice ko ky.length c2, .slice xo xs.length c3] 43 (0, 0))) := (hb2.block _ (by omega)).trans X1.out
  have Y2 : Hid (w2.heap[w.heap.size + 1]? = some (.cells #[.string nm, .slice ao' cs.length c1', .slice ko' ky.length c2', .slice xo' xs.length c3'] 43 (0, 0))) := (hb2.block _ (by omega)).trans Y1.out
  clear x0 x1 x2 x3 xf y0 y1 y2 y3 yf
  obtain ⟨x0, x1, x2, x3, xf⟩ := cells4 X2.out
  obtain ⟨y0, y1, y2, y3, yf⟩ := cells4 Y2.out
  have B2 : Hid (Below w.heap.size w w2) := B1.out.trans (hb2.mono B1.out.size)
  clear hb2 B1 X1 Y1
  go_wp2_with fail
  refine (eqIndexS_same A B A' B' xo c3 xo' c3' xs _ (Nat.le_trans hB B2.out.size) (Nat.le_trans hB' B2.out.size) HF.out.2.2.1 HF.out.2.2.2 (HA.out.2.2.2.kept (B2.out.mono hB)) (HB.out.2.2.2.kept (B2.out.mono hB'))).mono ?_
  rintro e w3 ⟨rfl, hb3⟩
  have B3 : Hid (Below w.heap.size w w3) := B2.out.trans (hb3.mono B2.out.size)
  clear hb3 x0 x1 x2 x3 xf y0 y1 y2 y3 yf
  go_wp2
  go_ret
  exact ⟨rfl, B3.out⟩
end Go.Proofs.YtnangmjcgjlndaaGreat
