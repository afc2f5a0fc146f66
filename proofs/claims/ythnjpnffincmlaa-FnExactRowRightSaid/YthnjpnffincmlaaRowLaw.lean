/-
  The law on RowRight, out of the contracts.
-/
import Derived.Test.YthnjpnffincmlaaSRowL
import Derived.Test.YthnjpnffincmlaaSSize
import Derived.Test.YthnjpnffincmlaaSEq
import Derived.Test.YthnjpnffincmlaaReadSch
import Derived.Test.YthnjpnffincmlaaVals2
namespace Go.Proofs.Ythnjpnffincmlaa
open Go.RowKit
set_option maxRecDepth 100000

set_option maxHeartbeats 4000000 in
theorem lawRowRight (v0 v1 : Value) (w : World) (h0 : IsSch w v0) (h1 : IsVals w v1) :
    Calls Try.prog 7 #[v0, v1] w fun e w' => e = .returned (.bool true) ∧ Below w.heap.size w w' := by
  obtain ⟨ao, c1, ko, c2, xo, c3, s, rfl, hr⟩ := h0
  obtain ⟨vo, c4, vs, rfl, hvl, hvr⟩ := h1
  have hsz := fun (W : World) (hb : Below w.heap.size w W) => szSchema_any 0 w.heap.size ao c1 ko c2 xo c3 s 1048576 W hb.size (hr.kept hb) (by omega) (by omega)
  have hto := fun (hf : schFits s) (W : World) (hb : Below w.heap.size w W) => toSchema_any 0 w.heap.size ao c1 ko c2 xo c3 s W hb.size hf (hr.kept hb)
  have hsp := fun (A B B' : Nat) (ao : Option Addr) (c1 : Nat) (ko : Option Addr) (c2 : Nat) (xo : Option Addr) (c3 : Nat) (vo : Option Addr) (c4 : Nat) (W : World) => specRowRight_any A B B' ao c1 ko c2 xo c3 vo c4 s vs W
  have him := fun (A B B' : Nat) (ao : Option Addr) (c1 : Nat) (ko : Option Addr) (c2 : Nat) (xo : Option Addr) (c3 : Nat) (vo : Option Addr) (c4 : Nat) (W : World) => implRowRight_any A B B' ao c1 ko c2 xo c3 vo c4 s vs W
  have heq := fun (A B A' B' : Nat) (ao : Option Addr) (c1 : Nat) (ko : Option Addr) (c2 : Nat) (xo : Option Addr) (c3 : Nat) (ao' : Option Addr) (c1' : Nat) (ko' : Option Addr) (c2' : Nat) (xo' : Option Addr) (c3' : Nat) => eqSchema_same A B A' B' ao c1 ko c2 xo c3 ao' c1' ko' c2' xo' c3' s
  have hvs := fun (left : Int) (W : World) (hb : Below w.heap.size w W) => szValueS_any w.heap.size vo c4 vs left W hb.size hvl (hvr.kept hb)
  have hvt := fun (hf : vs.length ≤ 1048576) (W : World) (hb : Below w.heap.size w W) => toValueS_any w.heap.size vo c4 vs W hb.size hf (hvr.kept hb)
  generalize rowRight s vs = q at *
  obtain ⟨nm, cs, ky, xs⟩ := s
  simp only at *
  have HSZ := hide hsz
  have HTO := hide hto
  have HSP := hide hsp
  have HIM := hide him
  have HEQ := hide heq
  have HVS := hide hvs
  have HVT := hide hvt
  clear hsz hto hsp him heq hvs hvt hr hvr
  have B0 : Hid (Below w.heap.size w (w.alloc (.cells #[.string nm, .slice ao cs.length c1, .slice ko ky.length c2, .slice xo xs.length c3] 26))) := (Below.refl _ _).alloc (Nat.le_refl _) _
  go_enter Try.func7, Try.ntmps7
  go_wp2_with fail
  refine (HSZ.out _ B0.out).mono ?_
  rintro e w1 ⟨r, rfl, hr1, hcase, hb1⟩
  have X1 : Hid (w1.heap[w.heap.size]? = some (.cells #[.string nm, .slice ao cs.length c1, .slice ko ky.length c2, .slice xo xs.length c3] 26 (0, 0))) := (hb1.block _ (by simp)).trans (heap_alloc_new _ _)
  have B1 : Hid (Below w.heap.size w w1) := B0.out.trans (hb1.mono B0.out.size)
  have hs1 : w.heap.size < w1.heap.size := by have := hb1.size; simp at this; omega
  clear hb1 B0 HSZ
  rcases hcase with hneg | ⟨hr0, hf⟩
  · go_wp2
    go_ret
    exact ⟨rfl, B1.out⟩
  · have HF := hide hf
    clear hf
    go_wp2_with fail
    refine (HVS.out r _ B1.out hr0 hr1).mono ?_
    rintro e w1' ⟨r', rfl, hr1', hcase', hb1'⟩
    have X1' : Hid (w1'.heap[w.heap.size]? = some (.cells #[.string nm, .slice ao cs.length c1, .slice ko ky.length c2, .slice xo xs.length c3] 26 (0, 0))) := (hb1'.block _ hs1).trans X1.out
    have B1' : Hid (Below w.heap.size w w1') := B1.out.trans (hb1'.mono B1.out.size)
    have hs1' : w.heap.size < w1'.heap.size := by have := hb1'.size; omega
    clear hb1' X1 B1 hs1
    rcases hcase' with hneg | ⟨hr0', hfv⟩
    · go_wp2
      go_ret
      exact ⟨rfl, B1'.out⟩
    · have hn : vs.length ≤ 1048576 := by unfold szFits at hfv; omega
      clear hfv
      obtain ⟨x0, x1, x2, x3, xf⟩ := cells4 X1'.out
      go_wp2_with fail
      refine (HTO.out HF.out _ B1'.out).mono ?_
      rintro e w2 ⟨a2, p2, k2, q2, o2, t2, rfl, hr2, hb2⟩
      have R2 := hide hr2
      have B2 : Hid (Below w.heap.size w w2) := B1'.out.trans (hb2.mono B1'.out.size)
      have X2 : Hid (w2.heap[w.heap.size]? = some (.cells #[.string nm, .slice ao cs.length c1, .slice ko ky.length c2, .slice xo xs.length c3] 26 (0, 0))) := (hb2.block _ hs1').trans X1'.out
      have hs2 : w.heap.size < w2.heap.size := by have := hb2.size; omega
      clear hr2 hb2 x0 x1 x2 x3 xf X1' hs1' B1'
      go_wp2_with fail
      refine (HVT.out hn _ B2.out).mono ?_
      rintro e w2' ⟨b2, u2, rfl, hv2, hb2'⟩
      have R2' : Hid (SchRow w2' _ w2.heap.size a2 k2 o2 q2 ⟨nm, cs, ky, xs⟩) := R2.out.kept hb2'
      have V2 := hide hv2
      have B2' : Hid (Below w.heap.size w w2') := B2.out.trans (hb2'.mono B2.out.size)
      have X2' : Hid (w2'.heap[w.heap.size]? = some (.cells #[.string nm, .slice ao cs.length c1, .slice ko ky.length c2, .slice xo xs.length c3] 26 (0, 0))) := (hb2'.block _ hs2).trans X2.out
      have hs2' : w.heap.size < w2'.heap.size := by have := hb2'.size; omega
      have hs22 : w2.heap.size ≤ w2'.heap.size := hb2'.size
      clear hv2 hb2' X2 hs2 R2 B2
      go_wp2_with fail
      refine (HSP.out _ _ _ _ _ _ _ _ _ _ _ _ hs22 (Nat.le_refl _) hvl R2'.out V2.out).mono ?_
      rintro e w3 ⟨rfl, hb3⟩
      have B3 : Hid (Below w.heap.size w w3) := B2'.out.trans (hb3.mono B2'.out.size)
      have X3 : Hid (w3.heap[w.heap.size]? = some (.cells #[.string nm, .slice ao cs.length c1, .slice ko ky.length c2, .slice xo xs.length c3] 26 (0, 0))) := (hb3.block _ hs2').trans X2'.out
      have hs3 : w.heap.size < w3.heap.size := by have := hb3.size; omega
      clear hb3 hs2' X2' R2' V2 B2' hs22 HSP
      obtain ⟨x0, x1, x2, x3, xf⟩ := cells4 X3.out
      go_wp2_with fail
      refine (HTO.out HF.out _ B3.out).mono ?_
      rintro e w4 ⟨a4, p4, k4, q4, o4, t4, rfl, hr4, hb4⟩
      have B4 : Hid (Below w.heap.size w (w4.alloc (.cells #[.string nm, .slice a4 cs.length p4, .slice k4 ky.length q4, .slice o4 xs.length t4] 32))) := (B3.out.trans (hb4.mono B3.out.size)).alloc (by have := hb4.size; omega) _
      have X4 : Hid ((w4.alloc (.cells #[.string nm, .slice a4 cs.length p4, .slice k4 ky.length q4, .slice o4 xs.length t4] 32)).heap[w.heap.size]? = some (.cells #[.string nm, .slice ao cs.length c1, .slice ko ky.length c2, .slice xo xs.length c3] 26 (0, 0))) := (heap_old _ _ _ (by have := hb4.size; omega)).trans ((hb4.block _ hs3).trans X3.out)
      have Y4 : Hid ((w4.alloc (.cells #[.string nm, .slice a4 cs.length p4, .slice k4 ky.length q4, .slice o4 xs.length t4] 32)).heap[w4.heap.size]? = some (.cells #[.string nm, .slice a4 cs.length p4, .slice k4 ky.length q4, .slice o4 xs.length t4] 32 (0, 0))) := heap_alloc_new _ _
      have R4 : Hid (SchRow (w4.alloc (.cells #[.string nm, .slice a4 cs.length p4, .slice k4 ky.length q4, .slice o4 xs.length t4] 32)) w3.heap.size w4.heap.size a4 k4 o4 q4 ⟨nm, cs, ky, xs⟩) := hr4.kept ((Below.refl _ _).alloc (Nat.le_refl _) _)
      have hs4 : w4.heap.size < (w4.alloc (.cells #[.string nm, .slice a4 cs.length p4, .slice k4 ky.length q4, .slice o4 xs.length t4] 32)).heap.size := by simp
      have hs4' : w.heap.size < w4.heap.size := by have := hb4.size; omega
      clear hb4 hr4 X3 hs3 x0 x1 x2 x3 xf
      go_wp2_with fail
      refine (HVT.out hn _ B4.out).mono ?_
      generalize w4.alloc (.cells #[.string nm, .slice a4 cs.length p4, .slice k4 ky.length q4, .slice o4 xs.length t4] 32) = W4 at *
      generalize w4.heap.size = g at *
      rintro e w5 ⟨b5, u5, rfl, hv5, hb5⟩
      have B5 : Hid (Below w.heap.size w w5) := B4.out.trans (hb5.mono B4.out.size)
      have R5 : Hid (SchRow w5 w3.heap.size g a4 k4 o4 q4 ⟨nm, cs, ky, xs⟩) := R4.out.kept (hb5.mono (by omega))
      have V5 := hide hv5
      have X5 : Hid (w5.heap[w.heap.size]? = some (.cells #[.string nm, .slice ao cs.length c1, .slice ko ky.length c2, .slice xo xs.length c3] 26 (0, 0))) := (hb5.block _ (by omega : w.heap.size < W4.heap.size)).trans X4.out
      have Y5 : Hid (w5.heap[g]? = some (.cells #[.string nm, .slice a4 cs.length p4, .slice k4 ky.length q4, .slice o4 xs.length t4] 32 (0, 0))) := (hb5.block _ hs4).trans Y4.out
      have hz5 : g < w5.heap.size := by have := hb5.size; omega
      clear hv5 hb5 X4 Y4 R4 B4 hs4 B3
      obtain ⟨y0, y1, y2, y3, yf⟩ := cells4 Y5.out
      go_wp2_with fail
      refine (HIM.out _ _ _ _ _ _ _ _ _ _ _ _ (Nat.le_of_lt hz5) (Nat.le_refl _) hvl R5.out V5.out).mono ?_
      rintro e w6 ⟨rfl, hb6⟩
      have B6 : Hid (Below w.heap.size w w6) := B5.out.trans (hb6.mono B5.out.size)
      have R6 : Hid (SchRow w6 w3.heap.size g a4 k4 o4 q4 ⟨nm, cs, ky, xs⟩) := R5.out.kept (hb6.mono (by omega))
      have V6 : Hid (ValRow w6 w5.heap.size b5 vs) := V5.out.kept hb6
      clear y0 y1 y2 y3 yf
      obtain ⟨y0, y1, y2, y3, yf⟩ := cells4 ((hb6.block _ hz5).trans Y5.out)
      obtain ⟨x0, x1, x2, x3, xf⟩ := cells4 ((hb6.block _ (by omega : w.heap.size < w5.heap.size)).trans X5.out)
      have hz6 : g < w6.heap.size := by have := hb6.size; omega
      have hz7 : w.heap.size < w6.heap.size := by omega
      have hz8 : w5.heap.size ≤ w6.heap.size := hb6.size
      clear hb6 B5 R5 X5 Y5 V5 HIM xf yf
      go_wp2
      go_region_held3 (fun W => (W.cell? ⟨g, 0, none⟩ = some (.string nm) ∧ W.cell? ⟨g, 1, none⟩ = some (.slice a4 cs.length p4) ∧ W.cell? ⟨g, 2, none⟩ = some (.slice k4 ky.length q4) ∧ W.cell? ⟨g, 3, none⟩ = some (.slice o4 xs.length t4)) ∧ W.cell? ⟨w.heap.size, 0, none⟩ = some (.string nm) ∧ W.cell? ⟨w.heap.size, 1, none⟩ = some (.slice ao cs.length c1) ∧ W.cell? ⟨w.heap.size, 2, none⟩ = some (.slice ko ky.length c2) ∧ W.cell? ⟨w.heap.size, 3, none⟩ = some (.slice xo xs.length c3)) (go_keep) (first | (go_at_call 11; refine (HTO.out HF.out _ B6.out.drew).mono ?_; rintro e w7 ⟨a6, p6, k6, q6, o6, t6, rfl, hr7, hb7⟩; have hb7' : Below w6.heap.size w6 w7 := (Below.refl _ _).drew.trans hb7; obtain ⟨hc7, hf7⟩ := bcell hb7') | (go_at_call 13; refine (HEQ.out _ _ _ _ _ _ _ _ _ _ _ _ _ _ _ _ _ (by have := hb7'.size; omega : g ≤ _) (Nat.le_refl _) HF.out (R6.out.kept (hb7'.mono (Nat.le_of_lt hz6))) hr7).mono ?_; rintro e w8 ⟨rfl, hb8⟩; have hb8' : Below w6.heap.size w6 w8 := hb7'.trans (hb8.mono hb7'.size); obtain ⟨hc8, hf8⟩ := bcell hb8'))
      all_goals
        have B8 : Hid (Below w.heap.size w w8) := B6.out.trans (hb8'.mono B6.out.size)
        have V8 : Hid (ValRow w8 w5.heap.size b5 vs) := V6.out.kept (hb8'.mono hz8)
        have hz9 : w5.heap.size ≤ w8.heap.size := Nat.le_trans hz8 hb8'.size
        clear hb8 hb8' hb7 hb7' hc7 hf7 hc8 hf8 hr7 R6 V6 x0 x1 x2 x3 y0 y1 y2 y3
        go_wp2_with fail
        refine (HVT.out hn _ B8.out).mono ?_
        rintro e w9 ⟨b9, u9, rfl, hv9, hb9⟩
        have B9 : Hid (Below w.heap.size w w9) := B8.out.trans (hb9.mono B8.out.size)
        have V9 : Hid (ValRow w9 w9.heap.size b5 vs) := ((V8.out.mono hz9).kept hb9).mono hb9.size
        have V9' := hide hv9
        clear hv9 hb9
        go_wp2_with fail
        refine (eqValueS_same b5 u5 b9 u9 vs _ hn V9.out V9'.out).mono ?_
        rintro e w10 ⟨rfl, hb10⟩
        have kZ := B9.out.trans (hb10.mono B9.out.size)
        go_wp2
        go_ret
        exact ⟨rfl, kZ⟩
end Go.Proofs.Ythnjpnffincmlaa
