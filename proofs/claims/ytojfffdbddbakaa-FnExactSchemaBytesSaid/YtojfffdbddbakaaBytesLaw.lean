/-
  The law on SchemaBytes, out of the contracts.
-/
import Derived.Test.YtojfffdbddbakaaSBytes3
import Derived.Test.YtojfffdbddbakaaSSize
import Derived.Test.YtojfffdbddbakaaSEq
import Derived.Test.YtojfffdbddbakaaReadSch
namespace Go.Proofs.Ytojfffdbddbakaa
open Go.RowKit
set_option maxRecDepth 100000

set_option maxHeartbeats 2000000 in
theorem lawSchemaBytes (v0 : Value) (w : World) (h0 : IsSch w v0) :
    Calls Try.prog 5 #[v0] w fun e w' => e = .returned (.bool true) ∧ Below w.heap.size w w' := by
  obtain ⟨ao, c1, ko, c2, xo, c3, s, rfl, hr⟩ := h0
  have HR : Hid (SchRow w 0 w.heap.size ao ko xo c2 s) := hr
  have hsz := fun (W : World) (hb : Below w.heap.size w W) => szSchema_any 0 w.heap.size ao c1 ko c2 xo c3 s 1048576 W hb.size (hr.kept hb) (by omega) (by omega)
  have hto := fun (hf : schFits s) (W : World) (hb : Below w.heap.size w W) => toSchema_any 0 w.heap.size ao c1 ko c2 xo c3 s W hb.size hf (hr.kept hb)
  have hsp := fun (A B : Nat) (ao : Option Addr) (c1 : Nat) (ko : Option Addr) (c2 : Nat) (xo : Option Addr) (c3 : Nat) => specSchemaBytes_any A B ao c1 ko c2 xo c3 s
  have him := fun (A B : Nat) (ao : Option Addr) (c1 : Nat) (ko : Option Addr) (c2 : Nat) (xo : Option Addr) (c3 : Nat) => implSchemaBytes_any A B ao c1 ko c2 xo c3 s
  have heq := fun (A B A' B' : Nat) (ao : Option Addr) (c1 : Nat) (ko : Option Addr) (c2 : Nat) (xo : Option Addr) (c3 : Nat) (ao' : Option Addr) (c1' : Nat) (ko' : Option Addr) (c2' : Nat) (xo' : Option Addr) (c3' : Nat) => eqSchema_same A B A' B' ao c1 ko c2 xo c3 ao' c1' ko' c2' xo' c3' s
  generalize schB s = q at *
  obtain ⟨nm, cs, ky, xs⟩ := s
  simp only at *
  have HSZ := hide hsz
  have HTO := hide hto
  have HSP := hide hsp
  have HIM := hide him
  have HEQ := hide heq
  clear hsz hto hsp him heq hr HR
  have B0 : Hid (Below w.heap.size w (w.alloc (.cells #[.string nm, .slice ao cs.length c1, .slice ko ky.length c2, .slice xo xs.length c3] 44))) := (Below.refl _ _).alloc (Nat.le_refl _) _
  go_enter Try.func5, Try.ntmps5
  go_wp2_with fail
  refine (HSZ.out _ B0.out).mono ?_
  rintro e w1 ⟨r, rfl, hr1, hcase, hb1⟩
  have X1 : Hid (w1.heap[w.heap.size]? = some (.cells #[.string nm, .slice ao cs.length c1, .slice ko ky.length c2, .slice xo xs.length c3] 44 (0, 0))) := (hb1.block _ (by simp)).trans (heap_alloc_new _ _)
  have B1 : Hid (Below w.heap.size w w1) := B0.out.trans (hb1.mono B0.out.size)
  have hs1 : w.heap.size < w1.heap.size := by have := hb1.size; simp at this; omega
  clear hb1 B0 HSZ
  rcases hcase with hneg | ⟨hr0, hf⟩
  · go_wp2
    go_ret
    exact ⟨rfl, B1.out⟩
  · have HF := hide hf
    clear hf
    obtain ⟨x0, x1, x2, x3, xf⟩ := cells4 X1.out
    go_wp2_with fail
    refine (HTO.out HF.out _ B1.out).mono ?_
    rintro e w2 ⟨a2, p2, k2, q2, o2, t2, rfl, hr2, hb2⟩
    have R2 := hide hr2
    have B2 : Hid (Below w.heap.size w w2) := B1.out.trans (hb2.mono B1.out.size)
    have X2 : Hid (w2.heap[w.heap.size]? = some (.cells #[.string nm, .slice ao cs.length c1, .slice ko ky.length c2, .slice xo xs.length c3] 44 (0, 0))) := (hb2.block _ hs1).trans X1.out
    have hs2 : w.heap.size < w2.heap.size := by have := hb2.size; omega
    clear hr2 hb2 x0 x1 x2 x3 xf X1 hs1
    go_wp2_with fail
    refine (HSP.out _ _ _ _ _ _ _ _ _ (Nat.le_refl _) R2.out).mono ?_
    rintro e w3 ⟨rfl, hb3⟩
    have B3 : Hid (Below w.heap.size w w3) := B2.out.trans (hb3.mono B2.out.size)
    have X3 : Hid (w3.heap[w.heap.size]? = some (.cells #[.string nm, .slice ao cs.length c1, .slice ko ky.length c2, .slice xo xs.length c3] 44 (0, 0))) := (hb3.block _ hs2).trans X2.out
    have hs3 : w.heap.size < w3.heap.size := by have := hb3.size; omega
    clear hb3 hs2 X2 R2 B1 B2
    obtain ⟨x0, x1, x2, x3, xf⟩ := cells4 X3.out
    go_wp2_with fail
    refine (HTO.out HF.out _ B3.out).mono ?_
    rintro e w4 ⟨a4, p4, k4, q4, o4, t4, rfl, hr4, hb4⟩
    have B4 : Hid (Below w.heap.size w (w4.alloc (.cells #[.string nm, .slice a4 cs.length p4, .slice k4 ky.length q4, .slice o4 xs.length t4] 27))) := (B3.out.trans (hb4.mono B3.out.size)).alloc (by have := hb4.size; omega) _
    have X4 : Hid ((w4.alloc (.cells #[.string nm, .slice a4 cs.length p4, .slice k4 ky.length q4, .slice o4 xs.length t4] 27)).heap[w.heap.size]? = some (.cells #[.string nm, .slice ao cs.length c1, .slice ko ky.length c2, .slice xo xs.length c3] 44 (0, 0))) := (heap_old _ _ _ (by have := hb4.size; omega)).trans ((hb4.block _ hs3).trans X3.out)
    have Y4 : Hid ((w4.alloc (.cells #[.string nm, .slice a4 cs.length p4, .slice k4 ky.length q4, .slice o4 xs.length t4] 27)).heap[w4.heap.size]? = some (.cells #[.string nm, .slice a4 cs.length p4, .slice k4 ky.length q4, .slice o4 xs.length t4] 27 (0, 0))) := heap_alloc_new _ _
    have R4 : Hid (SchRow (w4.alloc (.cells #[.string nm, .slice a4 cs.length p4, .slice k4 ky.length q4, .slice o4 xs.length t4] 27)) w3.heap.size w4.heap.size a4 k4 o4 q4 ⟨nm, cs, ky, xs⟩) := hr4.kept ((Below.refl _ _).alloc (Nat.le_refl _) _)
    have hs4 : w4.heap.size < (w4.alloc (.cells #[.string nm, .slice a4 cs.length p4, .slice k4 ky.length q4, .slice o4 xs.length t4] 27)).heap.size := by simp
    have hs4' : w.heap.size < w4.heap.size := by have := hb4.size; omega
    clear hb4 hr4 X3 hs3 x0 x1 x2 x3 xf
    obtain ⟨y0, y1, y2, y3, yf⟩ := cells4 Y4.out
    go_wp2_with fail
    refine (HIM.out _ _ _ _ _ _ _ _ _ (Nat.le_of_lt hs4) R4.out).mono ?_
    generalize w4.alloc (.cells #[.string nm, .slice a4 cs.length p4, .slice k4 ky.length q4, .slice o4 xs.length t4] 27) = W4 at *
    generalize w4.heap.size = g at *
    rintro e w5 ⟨rfl, hb5⟩
    have B5 : Hid (Below w.heap.size w w5) := B4.out.trans (hb5.mono B4.out.size)
    have R5 : Hid (SchRow w5 w3.heap.size g a4 k4 o4 q4 ⟨nm, cs, ky, xs⟩) := R4.out.kept (hb5.mono (by omega))
    clear y0 y1 y2 y3 yf
    obtain ⟨y0, y1, y2, y3, yf⟩ := cells4 ((hb5.block _ hs4).trans Y4.out)
    obtain ⟨x0, x1, x2, x3, xf⟩ := cells4 ((hb5.block _ (by omega : w.heap.size < W4.heap.size)).trans X4.out)
    have hz5 : g < w5.heap.size := by have := hb5.size; omega
    have hz6 : w.heap.size < w5.heap.size := by omega
    clear hb5 B4 R4 X4 Y4 B3 HSP HIM xf yf
    go_wp2
    go_region_held3 (fun W => (W.cell? ⟨g, 0, none⟩ = some (.string nm) ∧ W.cell? ⟨g, 1, none⟩ = some (.slice a4 cs.length p4) ∧ W.cell? ⟨g, 2, none⟩ = some (.slice k4 ky.length q4) ∧ W.cell? ⟨g, 3, none⟩ = some (.slice o4 xs.length t4)) ∧ W.cell? ⟨w.heap.size, 0, none⟩ = some (.string nm) ∧ W.cell? ⟨w.heap.size, 1, none⟩ = some (.slice ao cs.length c1) ∧ W.cell? ⟨w.heap.size, 2, none⟩ = some (.slice ko ky.length c2) ∧ W.cell? ⟨w.heap.size, 3, none⟩ = some (.slice xo xs.length c3)) (go_keep) (first | (go_at_call 23; refine (HTO.out HF.out _ B5.out.drew).mono ?_; rintro e w6 ⟨a6, p6, k6, q6, o6, t6, rfl, hr6, hb6⟩; have hb6' : Below w5.heap.size w5 w6 := (Below.refl _ _).drew.trans hb6; obtain ⟨hc6, hf6⟩ := bcell hb6') | (go_at_call 24; refine (HEQ.out _ _ _ _ _ _ _ _ _ _ _ _ _ _ _ _ _ (by have := hb6'.size; omega : g ≤ _) (Nat.le_refl _) HF.out (R5.out.kept (hb6'.mono (Nat.le_of_lt hz5))) hr6).mono ?_; rintro e w7 ⟨rfl, hb7⟩; have hb7' : Below w5.heap.size w5 w7 := hb6'.trans (hb7.mono hb6'.size); obtain ⟨hc7, hf7⟩ := bcell hb7'))
    all_goals
      have kZ := B5.out.trans (hb7'.mono B5.out.size)
      go_wp2
      go_ret
      exact ⟨rfl, kZ⟩
end Go.Proofs.Ytojfffdbddbakaa
