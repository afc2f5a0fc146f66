/-
  The law on TreeRight, out of the contracts.
-/
import Derived.Test.YtffgobkgkhmeoaaTrRead
import Derived.Test.YtffgobkgkhmeoaaTrTo
import Derived.Test.YtffgobkgkhmeoaaTrEq
import Derived.Test.YtffgobkgkhmeoaaTrSpec
import Derived.Test.YtffgobkgkhmeoaaTrLevels
namespace Go.Proofs.Ytffgobkgkhmeoaa
open Go.RowKit
set_option maxRecDepth 100000

set_option maxHeartbeats 4000000 in
theorem lawTreeRight (v0 : Value) (w : World) (h0 : IsTree w v0) :
    Calls Try.prog 3 #[v0] w fun e w' => e = .returned (.bool true) ∧ Below w.heap.size w w' := by
  obtain ⟨n, t, ko, kc, vo, vc, xo, xc, rfl, hr⟩ := h0
  have HSZ := hide (fun (W : World) (hb : Below w.heap.size w W) => szTree_all n 0 w.heap.size ko kc vo vc xo xc t 1048576 W hb.size (TrRow.kept hb n _ _ _ _ hr) (by omega) (by omega))
  have HTO := hide (fun (hf : trFits n t) (W : World) (hb : Below w.heap.size w W) => toTree_all n 0 w.heap.size ko kc vo vc xo xc t W hb.size hf (TrRow.kept hb n _ _ _ _ hr))
  have HSP := hide (fun (A B : Nat) (ko : Option Addr) (kc : Nat) (vo : Option Addr) (vc : Nat) (xo : Option Addr) (xc : Nat) (W : World) (hB : B ≤ W.heap.size) (hr : TrRow W A B n t ko vo xo) => specTreeRight_any A B n ko kc vo vc xo xc t W hB hr)
  have HIM := hide (fun (A B : Nat) (ko : Option Addr) (kc : Nat) (vo : Option Addr) (vc : Nat) (xo : Option Addr) (xc : Nat) (W : World) (hB : B ≤ W.heap.size) (hr : TrRow W A B n t ko vo xo) => implTreeRight_any A B n ko kc vo vc xo xc t W hB hr)
  have HEQ := hide (fun (A B A' B' : Nat) (ko : Option Addr) (kc : Nat) (vo : Option Addr) (vc : Nat) (xo : Option Addr) (xc : Nat) (ko' : Option Addr) (kc' : Nat) (vo' : Option Addr) (vc' : Nat) (xo' : Option Addr) (xc' : Nat) (W : World) => eqTree_all n A B A' B' ko kc vo vc xo xc ko' kc' vo' vc' xo' xc' t W)
  generalize (trLev t).isSome = q at *
  generalize t.keys.length = n1 at *
  generalize t.vals.length = n2 at *
  generalize t.kids.length = n3 at *
  have X0 := hide (heap_alloc_new w (.cells #[.slice ko n1 kc, .slice vo n2 vc, .slice xo n3 xc] 25))
  have B0 := hide ((Below.refl w.heap.size w).alloc (Nat.le_refl _) (.cells #[.slice ko n1 kc, .slice vo n2 vc, .slice xo n3 xc] 25))
  have HZ : Hid ((w.alloc (.cells #[.slice ko n1 kc, .slice vo n2 vc, .slice xo n3 xc] 25)).heap.size = w.heap.size + 1) := by show _ = _; simp
  clear hr
  go_enter Try.func3, Try.ntmps3
  go_wp2_with fail
  refine (HSZ.out _ B0.out).mono ?_
  generalize w.alloc (.cells #[.slice ko n1 kc, .slice vo n2 vc, .slice xo n3 xc] 25) = W0 at *
  rintro e w1 ⟨r, rfl, hr1, hcase, b1⟩
  have X1 := hide ((b1.block w.heap.size (by rw [HZ.out]; omega)).trans X0.out)
  have B1 := hide (B0.out.trans (b1.mono B0.out.size))
  have z1 : w.heap.size + 1 ≤ w1.heap.size := by have := b1.size; rw [HZ.out] at this; exact this
  clear b1 X0 B0 HZ HSZ
  obtain ⟨x0, x1, x2, xf⟩ := cells3 X1.out
  rcases hcase with hneg | ⟨hr0, hfit⟩
  · go_wp2
    go_ret
    exact ⟨rfl, B1.out⟩
  · have HF := hide hfit
    clear hfit
    go_wp2_with fail
    refine (HTO.out HF.out _ B1.out).mono ?_
    rintro e w2 ⟨k2, p2, v2, q2, y2, s2, rfl, r2, b2⟩
    have R2 := hide r2
    have X2 := hide ((b2.block w.heap.size (by omega)).trans X1.out)
    have B2 := hide (B1.out.trans (b2.mono B1.out.size))
    have z2 : w1.heap.size ≤ w2.heap.size := b2.size
    clear r2 b2 X1 x0 x1 x2 xf
    go_wp2_with fail
    refine (HSP.out _ _ _ _ _ _ _ _ _ (Nat.le_refl _) R2.out).mono ?_
    rintro e w3 ⟨rfl, b3⟩
    have X3 := hide ((b3.block w.heap.size (by omega)).trans X2.out)
    have B3 := hide (B2.out.trans (b3.mono B2.out.size))
    have z3 : w2.heap.size ≤ w3.heap.size := b3.size
    clear b3 X2 B2 B1 R2 HSP
    obtain ⟨x0, x1, x2, xf⟩ := cells3 X3.out
    go_wp2_with fail
    refine (HTO.out HF.out _ B3.out).mono ?_
    rintro e w4 ⟨k4, p4, v4, q4, y4, s4, rfl, r4, b4⟩
    have BA := (Below.refl w4.heap.size w4).alloc (Nat.le_refl _) (.cells #[.slice k4 n1 p4, .slice v4 n2 q4, .slice y4 n3 s4] 30)
    have R4 := hide (TrRow.kept BA n _ _ _ _ r4)
    have X4 := hide ((BA.block w.heap.size (by have := b4.size; omega)).trans ((b4.block w.heap.size (by omega)).trans X3.out))
    have Y4 := hide (heap_alloc_new w4 (.cells #[.slice k4 n1 p4, .slice v4 n2 q4, .slice y4 n3 s4] 30))
    have B4 := hide ((B3.out.trans (b4.mono B3.out.size)).trans (BA.mono (by have := b4.size; omega)))
    have z4 : w3.heap.size ≤ w4.heap.size := b4.size
    have HZ : Hid ((w4.alloc (.cells #[.slice k4 n1 p4, .slice v4 n2 q4, .slice y4 n3 s4] 30)).heap.size = w4.heap.size + 1) := by show _ = _; simp
    clear r4 b4 BA X3 B3 x0 x1 x2 xf
    go_wp2_with fail
    refine (HIM.out _ _ _ _ _ _ _ _ _ (show w4.heap.size ≤ _ by rw [HZ.out]; omega) R4.out).mono ?_
    generalize w4.alloc (.cells #[.slice k4 n1 p4, .slice v4 n2 q4, .slice y4 n3 s4] 30) = W4 at *
    generalize w4.heap.size = g at *
    rintro e w5 ⟨rfl, b5⟩
    have R5 := hide (TrRow.kept (b5.mono (show g ≤ W4.heap.size by rw [HZ.out]; omega)) n _ _ _ _ R4.out)
    obtain ⟨y0, y1, y2', yf⟩ := cells3 ((b5.block g (by rw [HZ.out]; omega)).trans Y4.out)
    obtain ⟨x0, x1, x2, xf⟩ := cells3 ((b5.block w.heap.size (by rw [HZ.out]; omega)).trans X4.out)
    have B5 := hide (B4.out.trans (b5.mono B4.out.size))
    have z5 : g < w5.heap.size := by have := b5.size; rw [HZ.out] at this; omega
    have z6 : w.heap.size < w5.heap.size := by omega
    clear b5 X4 Y4 B4 HZ R4 HIM xf yf
    go_wp2
    go_region_held3 (fun W => (W.cell? ⟨g, 0, none⟩ = some (.slice k4 n1 p4) ∧ W.cell? ⟨g, 1, none⟩ = some (.slice v4 n2 q4) ∧ W.cell? ⟨g, 2, none⟩ = some (.slice y4 n3 s4)) ∧ W.cell? ⟨w.heap.size, 0, none⟩ = some (.slice ko n1 kc) ∧ W.cell? ⟨w.heap.size, 1, none⟩ = some (.slice vo n2 vc) ∧ W.cell? ⟨w.heap.size, 2, none⟩ = some (.slice xo n3 xc)) (go_keep) (first | (go_at_call 9; refine (HTO.out HF.out _ B5.out.drew).mono ?_; rintro e w6 ⟨k6, p6, v6, q6, y6, s6, rfl, hr6, hb6⟩; have hb6' : Below w5.heap.size w5 w6 := (Below.refl _ _).drew.trans hb6; obtain ⟨hc6, hf6⟩ := bcell hb6') | (go_at_call 11; refine (HEQ.out _ _ _ _ _ _ _ _ _ _ _ _ _ _ _ _ _ (by have := hb6'.size; omega : g ≤ _) (Nat.le_refl _) HF.out (TrRow.kept (hb6'.mono (Nat.le_of_lt z5)) n _ _ _ _ R5.out) hr6).mono ?_; rintro e w7 ⟨rfl, hb7⟩; have hb7' : Below w5.heap.size w5 w7 := hb6'.trans (hb7.mono hb6'.size); obtain ⟨hc7, hf7⟩ := bcell hb7'))
    all_goals
      have kZ := B5.out.trans (hb7'.mono B5.out.size)
      go_wp2
      go_ret
      exact ⟨rfl, kZ⟩
end Go.Proofs.Ytffgobkgkhmeoaa
