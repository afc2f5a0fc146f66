/-
  The law on OpsRight, out of the contracts.
-/
import Derived.Test.YtpbbmmapbmgijaaOpSpS
import Derived.Test.YtpbbmmapbmgijaaOpSpI
import Derived.Test.YtpbbmmapbmgijaaOpTo2
import Derived.Test.YtpbbmmapbmgijaaOpEq
import Derived.Test.YtpbbmmapbmgijaaOpRd
namespace Go.Proofs.Ytpbbmmapbmgijaa
open Go.RowKit
set_option maxRecDepth 100000

set_option maxHeartbeats 2000000 in
theorem lawOpsRight (v0 : Value) (w : World) (h0 : IsOps w v0) :
    Calls Try.prog 3 #[v0] w fun e w' => e = .returned (.bool true) ∧ Below w.heap.size w w' := by
  obtain ⟨ao, cap, l, rfl, hl, hr⟩ := h0
  have HSZ := hide (szOpS_any 0 w.heap.size ao cap l 1048576 w (Nat.le_refl _) hl hr (by omega) (by omega))
  have HTO := hide (fun (hn : l.length ≤ 1048576) (hf : ∀ i, i < l.length → opFits (l.getD i noOp)) (W : World) (hb : Below w.heap.size w W) => toOpS_any 0 w.heap.size ao cap l W hb.size hn hf (hr.kept hb))
  have HSP := hide (fun (hn : l.length ≤ 1048576) (A B : Nat) (bo : Option Addr) (cp : Nat) (W : World) (hB : B ≤ W.heap.size) (h : OpRow W A B bo l) => specOpsRight_any A B bo cp l W hB hn h)
  have HIM := hide (fun (hn : l.length ≤ 1048576) (A B : Nat) (bo : Option Addr) (cp : Nat) (W : World) (hB : B ≤ W.heap.size) (h : OpRow W A B bo l) => implOpsRight_any A B bo cp l W hB hn h)
  have HEQ := hide (fun (hn : l.length ≤ 1048576) (hf : ∀ i, i < l.length → opFits (l.getD i noOp)) (A B A' B' : Nat) (bo : Option Addr) (cp : Nat) (co : Option Addr) (cq : Nat) (W : World) (hB : B ≤ W.heap.size) (hB' : B' ≤ W.heap.size) (h : OpRow W A B bo l) (h' : OpRow W A' B' co l) => eqOpS_same A B A' B' bo cp co cq l W hB hB' hn hf h h')
  generalize opsOk l = q at *
  clear hr hl
  go_enter Try.func3, Try.ntmps3
  go_wp2_with fail
  refine HSZ.out.mono ?_
  rintro e w1 ⟨r, rfl, hr1, hcase, b1⟩
  have B1 := hide b1
  clear b1 HSZ
  rcases hcase with hneg | ⟨hr0, hn0, hf0⟩
  · go_wp2
    go_ret
    exact ⟨rfl, B1.out⟩
  · have HN := hide hn0
    have HF := hide hf0
    clear hn0 hf0
    go_wp2_with fail
    refine (HTO.out HN.out HF.out _ B1.out).mono ?_
    rintro e w2 ⟨bo, cp, rfl, r2, b2⟩
    have B2 := hide (B1.out.trans (b2.mono B1.out.size))
    have R2 := hide r2
    clear r2 b2
    go_wp2_with fail
    refine (HSP.out HN.out _ _ _ _ _ (Nat.le_refl _) R2.out).mono ?_
    rintro e w3 ⟨rfl, b3⟩
    have B3 := hide (B2.out.trans (b3.mono B2.out.size))
    clear b3 R2
    go_wp2_with fail
    refine (HTO.out HN.out HF.out _ B3.out).mono ?_
    rintro e w4 ⟨co, cq, rfl, r4, b4⟩
    have B4 := hide (B3.out.trans (b4.mono B3.out.size))
    have R4 := hide r4
    clear r4 b4
    go_wp2_with fail
    refine (HIM.out HN.out _ _ _ _ _ (Nat.le_refl _) R4.out).mono ?_
    rintro e w5 ⟨rfl, b5⟩
    have B5 := hide (B4.out.trans (b5.mono B4.out.size))
    have R5 := hide (R4.out.kept b5)
    have Z5 : Hid (w4.heap.size ≤ w5.heap.size) := b5.size
    clear b5 R4
    go_wp2_with fail
    refine (HTO.out HN.out HF.out _ B5.out).mono ?_
    rintro e w6 ⟨d1, d2, rfl, r6, b6⟩
    have B6 := hide (B5.out.trans (b6.mono B5.out.size))
    have R6 := hide r6
    have R56 := hide (R5.out.kept (b6.mono Z5.out))
    have Z6 : Hid (w4.heap.size ≤ w6.heap.size) := by have := Z5.out; have := b6.size; show _ ≤ _; omega
    clear r6 b6 R5
    go_wp2_with fail
    refine (HEQ.out HN.out HF.out _ _ _ _ _ _ _ _ _ Z6.out (Nat.le_refl _) R56.out R6.out).mono ?_
    rintro e w7 ⟨rfl, b7⟩
    have B7 := hide (B6.out.trans (b7.mono B6.out.size))
    clear b7 R56 R6 HTO HSP HIM HEQ
    go_wp2
    go_ret
    exact ⟨rfl, B7.out⟩
end Go.Proofs.Ytpbbmmapbmgijaa
