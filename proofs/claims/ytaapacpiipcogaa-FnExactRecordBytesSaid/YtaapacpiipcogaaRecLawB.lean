/-
  The law on RecordBytes, out of the contracts.
-/
import Derived.Test.YtaapacpiipcogaaRecB
import Derived.Test.YtaapacpiipcogaaRdRec
namespace Go.Proofs.Ytaapacpiipcogaa
open Go.RowKit
set_option maxRecDepth 100000

theorem lawRecordBytes (v0 : Value) (w : World) (h0 : ∃ (q : Int) (t : ByteArray), v0 = .agg #[.int .i64 q, .string t] ∧ wI64 q ∧ t.size ≤ maxLen) :
    Calls Try.prog 5 #[v0] w fun e w' => e = .returned (.bool true) ∧ Below w.heap.size w w' := by
  obtain ⟨q, t, rfl, hq, ht⟩ := h0
  have B0 := hide ((Below.refl w.heap.size w).alloc (Nat.le_refl _) (.cells #[.int .i64 q, .string t] 40))
  have X0 := hide (heap_alloc_new w (.cells #[.int .i64 q, .string t] 40))
  obtain ⟨x0, x1, xf⟩ := cells2 X0.out
  have HZ := hide (fun W => szRecord_any q t 1048576 ht (by omega) (by omega) W)
  have HT := hide (fun W => toRecord_any q t W)
  have HS := hide (fun W => specRecordBytes_any q t W hq)
  have HI := hide (fun W => implRecordBytes_any q t W hq)
  generalize szRec t 1048576 = z at *
  generalize recBytes q t = R at *
  clear hq ht
  by_cases hz : z < 0
  · go_enter Try.func5, Try.ntmps5
    go_wp2_with (go_at_call 17; refine (HZ.out _).mono ?_; rintro e w1 ⟨rfl, b1⟩; have B1 := hide (B0.out.trans (b1.mono B0.out.size)); have X1 := hide ((b1.block w.heap.size (by simp)).trans X0.out); clear b1 x0 x1 xf; obtain ⟨x0, x1, xf⟩ := cells2 X1.out)
    go_ret
    exact ⟨rfl, B1.out⟩
  · go_enter Try.func5, Try.ntmps5
    go_wp2_with (first
      | (go_at_call 17; refine (HZ.out _).mono ?_; rintro e w1 ⟨rfl, b1⟩; have B1 := hide (B0.out.trans (b1.mono B0.out.size)); have X1 := hide ((b1.block w.heap.size (by simp)).trans X0.out); clear b1 x0 x1 xf; obtain ⟨x0, x1, xf⟩ := cells2 X1.out)
      | (go_at_call 19; refine (HT.out _).mono ?_; rintro e w2 ⟨rfl, b2⟩; first | (have B3 := hide (B2.out.trans (b2.mono B2.out.size)); have X3 := hide ((b2.block w.heap.size (blk_lt X2.out)).trans X2.out); clear b2 x0 x1 xf; obtain ⟨x0, x1, xf⟩ := cells2 X3.out) | (have B2 := hide (B1.out.trans (b2.mono B1.out.size)); have X2 := hide ((b2.block w.heap.size (blk_lt X1.out)).trans X1.out); clear b2 x0 x1 xf; obtain ⟨x0, x1, xf⟩ := cells2 X2.out))
      | (go_at_call 21; refine (HS.out _).mono ?_; rintro e w3 ⟨rfl, b3⟩; have B1 := hide (B2.out.trans (b3.mono B2.out.size)); have X1 := hide ((b3.block w.heap.size (blk_lt X2.out)).trans X2.out); clear b3 x0 x1 xf B2 X2; obtain ⟨x0, x1, xf⟩ := cells2 X1.out)
      | (go_at_call 22; refine (HI.out _).mono ?_; rintro e w4 ⟨rfl, b4⟩; have B4 := hide (B2.out.trans (b4.mono B2.out.size)); clear b4))
    go_ret
    exact ⟨rfl, B4.out⟩
end Go.Proofs.Ytaapacpiipcogaa
