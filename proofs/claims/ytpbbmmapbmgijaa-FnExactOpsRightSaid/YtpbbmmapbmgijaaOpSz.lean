/-
  Contracts: the sizes of ops, as the laws count them.
-/
import Derived.Test.YtpbbmmapbmgijaaOpP
import Derived.Test.YtpbbmmapbmgijaaSSize
import Derived.Deep.CutRange
import Derived.Test.YtpbbmmapbmgijaaVals2
namespace Go.Proofs.Ytpbbmmapbmgijaa
open Go.RowKit
set_option maxRecDepth 100000

theorem cells7 {w : World} {g : Nat} {x0 x1 x2 x3 x4 x5 x6 : Value} {t : TypeId} (h : w.heap[g]? = some (.cells #[x0, x1, x2, x3, x4, x5, x6] t (0, 0))) :
    w.cell? ⟨g, 0, none⟩ = some x0 ∧ w.cell? ⟨g, 1, none⟩ = some x1 ∧ w.cell? ⟨g, 2, none⟩ = some x2 ∧ w.cell? ⟨g, 3, none⟩ = some x3 ∧ w.cell? ⟨g, 4, none⟩ = some x4 ∧ w.cell? ⟨g, 5, none⟩ = some x5 ∧ w.cell? ⟨g, 6, none⟩ = some x6 ∧ ∀ j, w.frozen? ⟨g, j, none⟩ = false := by
  refine ⟨?_, ?_, ?_, ?_, ?_, ?_, ?_, fun j => frozen_of_row _ _ _ _ _ h⟩ <;> (rw [cell_of_row _ _ _ _ _ _ h]; rfl)
theorem blkO {W : World} {g : Nat} {o : Obj} (h : W.heap[g]? = some o) : g < W.heap.size := (Array.getElem?_eq_some_iff.1 h).1
def opFits (o : Opn) : Prop := schFits o.sch ∧ o.row.length ≤ 1048576
set_option maxHeartbeats 4000000 in
theorem szOp_any (A B : Nat) (o : Opn) (a1 : Option Addr) (c1 : Nat) (a2 : Option Addr) (c2 : Nat) (a3 : Option Addr) (c3 : Nat) (a4 : Option Addr) (c4 : Nat) (left : Int) (w : World) (hB : B ≤ w.heap.size) (hk : inI64 o.kind ∧ o.table.size ≤ maxLen ∧ o.row.length ≤ maxLen) (hs : SchRow w A B a1 a2 a3 c2 o.sch) (hv : VRowA w A B a4 o.row) (h0 : 0 ≤ left) (h1 : left ≤ 1048576) :
    Calls Try.prog 24 #[(.agg #[.int .i64 o.kind, .string o.table, .string o.sch.name, .slice a1 o.sch.cols.length c1, .slice a2 o.sch.key.length c2, .slice a3 o.sch.idx.length c3, .slice a4 o.row.length c4]), .int .i64 left] w fun e w' => ∃ r : Int, e = .returned (.int .i64 r) ∧ r ≤ left ∧ (r < 0 ∨ 0 ≤ r ∧ opFits o) ∧ Below w.heap.size w w' := by
  have HSZ := hide (fun (r : Int) (hr0 : 0 ≤ r) (hr1 : r ≤ 1048576) (W : World) (hb : Below w.heap.size w W) => szSchema_any A B a1 c1 a2 c2 a3 c3 o.sch r W (Nat.le_trans hB hb.size) (hs.kept (hb.mono hB)) hr0 hr1)
  have HVS := hide (fun (r : Int) (hr0 : 0 ≤ r) (hr1 : r ≤ 1048576) (W : World) (hb : Below w.heap.size w W) => szValueS_any B a4 c4 o.row r W (Nat.le_trans hB hb.size) hk.2.2 (hv.1.kept (hb.mono hB)) hr0 hr1)
  have HFIT := hide (fun (hf : schFits o.sch) (r : Int) (hr1 : r ≤ 1048576) (hz : szFits r o.row) => show opFits o from ⟨hf, by unfold szFits at hz; omega⟩)
  have htb : o.table.size ≤ maxLen := hk.2.1
  unfold maxLen at htb
  clear hk hs hv hB
  generalize o.kind = kd at *
  generalize o.table = tb at *
  generalize o.sch.name = nm at *
  generalize o.sch.cols.length = n1 at *
  generalize o.sch.key.length = n2 at *
  generalize o.sch.idx.length = n3 at *
  generalize o.row.length = n4 at *
  have X0 := hide (heap_alloc_new w (.cells #[.int .i64 kd, .string tb, .string nm, .slice a1 n1 c1, .slice a2 n2 c2, .slice a3 n3 c3, .slice a4 n4 c4] 54))
  have B0 := hide ((Below.refl w.heap.size w).alloc (Nat.le_refl _) (.cells #[.int .i64 kd, .string tb, .string nm, .slice a1 n1 c1, .slice a2 n2 c2, .slice a3 n3 c3, .slice a4 n4 c4] 54))
  by_cases hlong : left < (tb.size : Int)
  · go_enter Try.func24, Try.ntmps24
    go_wp2
    go_ret
    exact ⟨-1, rfl, by omega, .inl (by omega), B0.out⟩
  · have hw1 : IntKind.i64.wrap (left - (tb.size : Int)) = left - (tb.size : Int) := by rw [IntKind.wrap_i64]; omega
    go_enter Try.func24, Try.ntmps24
    go_upto_region 4 with fail
    generalize w.alloc (.cells #[.int .i64 kd, .string tb, .string nm, .slice a1 n1 c1, .slice a2 n2 c2, .slice a3 n3 c3, .slice a4 n4 c4] 54) = W0 at *
    obtain ⟨x0, x1, x2, x3, x4, x5, x6, xf⟩ := cells7 X0.out
    obtain ⟨q, hq⟩ : ∃ q, q = left - (tb.size : Int) := ⟨_, rfl⟩
    have HQ : Hid (0 ≤ q ∧ q ≤ left) := by show _ ∧ _; omega
    rw [← hq]
    clear hlong htb hw1 hq
    go_wp2_with fail
    refine (HSZ.out q HQ.out.1 (by have := HQ.out.2; omega) _ B0.out).mono ?_
    rintro e w1 ⟨r1, rfl, hr1, hcase, b1⟩
    have X1 := hide ((b1.block _ (blkO X0.out)).trans X0.out)
    have B1 := hide (B0.out.trans (b1.mono B0.out.size))
    clear b1 X0 B0 HSZ x0 x1 x2 x3 x4 x5 x6 xf
    rcases hcase with hneg | ⟨hr0, hf⟩
    · go_wp2
      go_ret
      exact ⟨-1, rfl, by omega, .inl (by omega), B1.out⟩
    · have HR1 : Hid (0 ≤ r1 ∧ r1 ≤ q) := ⟨hr0, hr1⟩
      have HF := hide hf
      clear hf hr1
      obtain ⟨x0, x1, x2, x3, x4, x5, x6, xf⟩ := cells7 X1.out
      go_wp2_with fail
      refine (HVS.out r1 HR1.out.1 (by have := HR1.out.2; have := HQ.out.2; omega) _ B1.out).mono ?_
      rintro e w2 ⟨r2, rfl, hr2, hcase2, b2⟩
      have B2 := hide (B1.out.trans (b2.mono B1.out.size))
      clear b2 X1 B1 HVS x0 x1 x2 x3 x4 x5 x6 xf
      rcases hcase2 with hneg | ⟨hr20, hz⟩
      · go_wp2
        go_ret
        exact ⟨-1, rfl, by omega, .inl (by omega), B2.out⟩
      · have HZ := hide hz
        clear hz
        go_wp2
        go_ret
        exact ⟨r2, rfl, by have := HR1.out.2; have := HQ.out.2; omega, .inr ⟨hr20, HFIT.out HF.out r1 (by have := HR1.out.2; have := HQ.out.2; omega) HZ.out⟩, B2.out⟩
set_option maxHeartbeats 4000000 in
theorem szOpS_any (A B : Nat) (ao : Option Addr) (cap : Nat) (l : List Opn) (left : Int) (w : World) (hB : B ≤ w.heap.size) (hl : l.length ≤ maxLen) (hr : OpRow w A B ao l) (h0 : 0 ≤ left) (h1 : left ≤ 1048576) :
    Calls Try.prog 7 #[.slice ao l.length cap, .int .i64 left] w fun e w' => ∃ r : Int, e = .returned (.int .i64 r) ∧ r ≤ left ∧ (r < 0 ∨ 0 ≤ r ∧ l.length ≤ 1048576 ∧ ∀ i, i < l.length → opFits (l.getD i noOp)) ∧ Below w.heap.size w w' := by
  unfold maxLen at hl
  by_cases hlong : left < l.length
  · go_enter Try.func7, Try.ntmps7
    go_wp2
    go_ret
    exact ⟨-1, rfl, by omega, .inl (by omega), Below.refl _ _⟩
  · have HR : Hid (OpRow w A B ao l) := hr
    clear hr
    go_enter Try.func7, Try.ntmps7
    go_wp2
    go_loopw [1, 5] (fun x i wr => ∃ (k : Nat) (r : Int), k ≤ l.length ∧ i = .int .i64 k ∧ x = .int .i64 r ∧ 0 ≤ r ∧ r ≤ left ∧ Hid (∀ i, i < k → opFits (l.getD i noOp)) ∧ Below w.heap.size w wr) (fun _ i _ => l.length - (intOf i).toNat)
    case atStart => exact ⟨0, left - l.length, Nat.zero_le _, rfl, rfl, by omega, by omega, fun i hi => absurd hi (Nat.not_lt_zero _), Below.refl _ _⟩
    case round =>
      obtain ⟨k, r, hk, rfl, rfl, hr0, hr1, HF, hb⟩ := hrel
      by_cases hlt : k < l.length
      · obtain ⟨b, off, o, a1, c1, a2, c2, a3, c3, a4, c4, rfl, hbB, hv, hok, hs, hva, d0, d1, d2, d3, d4, d5, d6⟩ := (HR.out.kept (hb.mono hB)).at k hlt
        have HV : Hid (l.getD k noOp = o) := hv
        have HC := hide (szOp_any A B o a1 c1 a2 c2 a3 c3 a4 c4 r wr (Nat.le_trans hB hb.size) hok hs hva hr0 (by omega))
        clear hv hok hs hva
        go_wp2_with fail
        refine HC.out.mono ?_
        rintro e w1 ⟨q, rfl, hq, hcase, hb1⟩
        have hb2 := hb.trans (hb1.mono hb.size)
        clear hb hb1 d0 d1 d2 d3 d4 d5 d6 HC
        rcases hcase with hs | ⟨hs, hll⟩
        · go_wp2
          go_ret
          exact ⟨-1, rfl, by omega, .inl (by omega), hb2⟩
        · have HF2 : Hid (∀ i, i < k + 1 → opFits (l.getD i noOp)) := fun i hi => by
            by_cases e : i = k
            · subst e; rw [HV.out]; exact hll
            · exact HF.out i (by omega)
          clear HF HV hll
          go_wp2
          go_roundw
          case rel => exact ⟨k + 1, q, by omega, by go_num, rfl, by omega, by omega, HF2, hb2⟩
          case measure => simp [intOf]; omega
      · obtain rfl : k = l.length := by omega
        go_wp2
        go_ret
        exact ⟨r, rfl, hr1, .inr ⟨hr0, by omega, HF.out⟩, hb⟩
end Go.Proofs.Ytpbbmmapbmgijaa
