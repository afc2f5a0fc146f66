/-
  The law on DiskRight, out of the contracts.
-/
import Derived.Test.YtmladjahkhhpkaaDkRead
import Derived.Test.YtmladjahkhhpkaaDkTo2
import Derived.Test.YtmladjahkhhpkaaDkRightS
import Derived.Test.YtmladjahkhhpkaaDkRightI
import Derived.ChangeMaps5
namespace Go.Proofs.Ytmladjahkhhpkaa
open Go.RowKit
set_option maxRecDepth 100000

set_option maxHeartbeats 8000000 in
theorem lawDiskRight (v0 : Value) (w : World) (h0 : IsDisk w v0) :
    Calls Try.prog 4 #[v0] w fun e w' => e = .returned (.bool true) ∧ Below w.heap.size w w' := by
  obtain ⟨so, p, co, q, d, rfl, hr⟩ := h0
  have HIN := hide hr.inn
  have HSZ := hide (fun (W : World) (hb : Below w.heap.size w W) => szDisk_any 0 w.heap.size so p co q d 1048576 W hb.size (hr.kept hb) (by omega) (by omega))
  have HTO := hide (fun (hf : dkFits d) (W : World) (hb : Below w.heap.size w W) => toDisk_own 0 w.heap.size so p co q d W hb.size hf (hr.kept hb))
  have HSP := hide (fun (A B : Nat) (so : Option Addr) (p : Nat) (co : Option Addr) (q : Nat) (W : World) (hB : B ≤ W.heap.size) (hr : DkRow W A B so co d) => specDiskRight_any A B so p co q d W hB hr)
  have HIM := hide (fun (A B : Nat) (so : Option Addr) (p : Nat) (co : Option Addr) (q : Nat) (W : World) (hB : B ≤ W.heap.size) (hr : DkRow W A B so co d) => implDiskRight_any A B so p co q d W hB hr)
  generalize dkRight d = R at *
  obtain ⟨n1, hn1⟩ : ∃ n, n = d.secs.length := ⟨_, rfl⟩
  obtain ⟨n2, hn2⟩ : ∃ n, n = d.cache.length := ⟨_, rfl⟩
  rw [← hn1, ← hn2] at HSZ HTO HSP HIM ⊢
  have HN := hide (And.intro hn1 hn2)
  have X0 := hide (heap_alloc_new w (.cells #[.slice so n1 p, .slice co n2 q] 32))
  have B0 := hide ((Below.refl w.heap.size w).alloc (Nat.le_refl _) (.cells #[.slice so n1 p, .slice co n2 q] 32))
  have HZ : Hid ((w.alloc (.cells #[.slice so n1 p, .slice co n2 q] 32)).heap.size = w.heap.size + 1) := by show _ = _; simp
  clear hr hn1 hn2
  go_enter Try.func4, Try.ntmps4
  go_wp2_with fail
  refine (HSZ.out _ B0.out).mono ?_
  generalize w.alloc (.cells #[.slice so n1 p, .slice co n2 q] 32) = W0 at *
  rintro e w1 ⟨r, rfl, hr1, hcase, b1⟩
  have X1 := hide ((b1.block w.heap.size (by rw [HZ.out]; omega)).trans X0.out)
  have B1 := hide (B0.out.trans (b1.mono B0.out.size))
  have z1 : w.heap.size + 1 ≤ w1.heap.size := by have := b1.size; rw [HZ.out] at this; exact this
  clear b1 X0 B0 HZ HSZ
  obtain ⟨x0, x1, xf⟩ := cells2 X1.out
  rcases hcase with hneg | ⟨hr0, hfit⟩
  · go_wp2
    go_ret
    exact ⟨rfl, B1.out⟩
  have HF := hide hfit
  clear hfit
  go_wp2_with fail
  refine (HTO.out HF.out _ B1.out).mono ?_
  rintro e w2 ⟨s2, c2, rfl, o2, b2⟩
  obtain ⟨so2, p2, co2, q2, rfl, rfl, r2⟩ := o2.row HIN.out
  rw [← HN.out.1, ← HN.out.2]
  have R2 := hide r2
  have X2 := hide ((b2.block w.heap.size (by omega)).trans X1.out)
  have B2 := hide (B1.out.trans (b2.mono B1.out.size))
  have z2 : w1.heap.size ≤ w2.heap.size := b2.size
  clear r2 b2 o2 X1 x0 x1 xf
  go_wp2_with fail
  refine (HSP.out _ _ _ _ _ _ _ (Nat.le_refl _) R2.out).mono ?_
  rintro e w3 ⟨rfl, b3⟩
  have X3 := hide ((b3.block w.heap.size (by omega)).trans X2.out)
  have B3 := hide (B2.out.trans (b3.mono B2.out.size))
  have z3 : w2.heap.size ≤ w3.heap.size := b3.size
  clear b3 X2 B2 B1 R2 HSP
  obtain ⟨x0, x1, xf⟩ := cells2 X3.out
  go_wp2_with fail
  refine (HTO.out HF.out _ B3.out).mono ?_
  rintro e w4 ⟨s4, c4, rfl, o4, b4⟩
  obtain ⟨so4, p4, co4, q4, rfl, rfl, r4⟩ := o4.row HIN.out
  rw [← HN.out.1, ← HN.out.2] at o4 ⊢
  have BA := (Below.refl w4.heap.size w4).alloc (Nat.le_refl _) (.cells #[.slice so4 n1 p4, .slice co4 n2 q4] 25)
  have O4 := hide (o4.below BA)
  have z4 : w3.heap.size ≤ w4.heap.size := b4.size
  have X4 := hide ((BA.block w.heap.size (by omega)).trans ((b4.block w.heap.size (by omega)).trans X3.out))
  have Y4 := hide (heap_alloc_new w4 (.cells #[.slice so4 n1 p4, .slice co4 n2 q4] 25))
  have R4 := hide (r4.kept BA)
  have B4 := hide ((B3.out.trans (b4.mono B3.out.size)).trans (BA.mono (by omega)))
  have HZ4 : Hid ((w4.alloc (.cells #[.slice so4 n1 p4, .slice co4 n2 q4] 25)).heap.size = w4.heap.size + 1) := by show _ = _; simp
  clear r4 b4 o4 BA X3 B3 x0 x1 xf
  go_wp2_with fail
  refine (HIM.out _ _ _ _ _ _ _ (show w4.heap.size ≤ _ by rw [HZ4.out]; omega) R4.out).mono ?_
  generalize w4.alloc (.cells #[.slice so4 n1 p4, .slice co4 n2 q4] 25) = W4 at *
  generalize w4.heap.size = g at *
  rintro e w5 ⟨rfl, b5⟩
  have z5 : g < w5.heap.size := by have := b5.size; rw [HZ4.out] at this; omega
  have O5 := hide (O4.out.below b5)
  have Y5 := hide ((b5.block g (by rw [HZ4.out]; omega)).trans Y4.out)
  have X5 := hide ((b5.block w.heap.size (by rw [HZ4.out]; omega)).trans X4.out)
  have B5 := hide (B4.out.trans (b5.mono B4.out.size))
  have z8 : w.heap.size < w5.heap.size := by omega
  clear b5 X4 Y4 B4 HZ4 O4 R4 HIM
  obtain ⟨y0, y1, yf⟩ := cells2 Y5.out
  obtain ⟨x0, x1, xf⟩ := cells2 X5.out
  clear xf yf
  have HEQ := hide (fun (s' c' : Value) (b2 : Nat) (W : World) (hb : Below w5.heap.size w5 W) (h' : OwnD b2 s' c' d W) => eqDisk_own _ _ _ _ s' c' d W HF.out (O5.out.below hb) h')
  go_wp2
  go_region_held3 (fun W => (W.cell? ⟨g, 0, none⟩ = some (.slice so4 n1 p4) ∧ W.cell? ⟨g, 1, none⟩ = some (.slice co4 n2 q4)) ∧ W.cell? ⟨w.heap.size, 0, none⟩ = some (.slice so n1 p) ∧ W.cell? ⟨w.heap.size, 1, none⟩ = some (.slice co n2 q)) (go_keep) (first | (go_at_call 16; refine (HTO.out HF.out _ B5.out.drew).mono ?_; rintro e w6 ⟨s6, c6, rfl, o6, hb6⟩; obtain ⟨so6, p6, co6, q6, rfl, rfl⟩ := o6.shape; rw [← HN.out.1, ← HN.out.2] at o6 ⊢; have hb6' : Below w5.heap.size w5 w6 := (Below.refl _ _).drew.trans hb6; obtain ⟨hc6, hf6⟩ := bcell hb6') | (go_at_call 11; refine (HEQ.out _ _ _ _ hb6' o6).mono ?_; rintro e w7 ⟨rfl, hb7⟩; have hb7' : Below w5.heap.size w5 w7 := hb6'.trans (hb7.mono hb6'.size); obtain ⟨hc7, hf7⟩ := bcell hb7'))
  all_goals
    have B7 := hide (B5.out.trans (hb7'.mono B5.out.size))
    clear hb6 hb6' hc6 hf6 hb7 hb7' hc7 hf7 y0 y1 x0 x1 o6 HEQ
    go_wp2
    go_ret
    exact ⟨rfl, B7.out⟩
end Go.Proofs.Ytmladjahkhhpkaa
