/-
  The law on LogAppend, out of the contracts.
-/
import Derived.Test.YtaapacpiipcogaaLgApp
import Derived.Test.YtaapacpiipcogaaRdRec
import Derived.Test.YtaapacpiipcogaaDkOutAt
import Derived.Test.YtaapacpiipcogaaDkRead
import Derived.Test.YtaapacpiipcogaaRdInt
namespace Go.Proofs.Ytaapacpiipcogaa
open Go.RowKit
set_option maxRecDepth 100000

/-- Where an answer's box and lists lie, and the copy that was handed in. -/
structure LgX where
  g : Nat
  so : Option Addr
  p : Nat
  co : Option Addr
  q : Nat
  so' : Option Addr
  p' : Nat
  co' : Option Addr
  q' : Nat
set_option maxHeartbeats 16000000 in
theorem lawLogAppend (v0 v1 v2 : Value) (w : World) (h0 : IsDisk w v0) (h1 : ∃ n : Int, v1 = .int .i64 n ∧ wI64 n) (h2 : ∃ (q : Int) (t : ByteArray), v2 = .agg #[.int .i64 q, .string t] ∧ wI64 q ∧ t.size ≤ maxLen) :
    Calls Try.prog 7 #[v0, v1, v2] w fun e w' => e = .returned (.bool true) ∧ Below w.heap.size w w' := by
  obtain ⟨so, p, co, q, d, rfl, hr⟩ := h0
  obtain ⟨a, rfl, ha⟩ := h1
  obtain ⟨rq, rt, rfl, hq, ht⟩ := h2
  have HIN := hide hr.inn
  have HSZ := hide (fun (W : World) (hb : Below w.heap.size w W) => szDisk_any 0 w.heap.size so p co q d 1048576 W hb.size (hr.kept hb) (by omega) (by omega))
  have HTO := hide (fun (hf : dkFits d) (W : World) (hb : Below w.heap.size w W) => toDisk_own 0 w.heap.size so p co q d W hb.size hf (hr.kept hb))
  have HSR := hide (fun (left : Int) (W : World) (h0 : -1 ≤ left) (h1 : left ≤ 1048576) => szRecord_any rq rt left ht h0 h1 W)
  have HTR := hide (fun W => toRecord_any rq rt W)
  obtain ⟨n1, hn1⟩ : ∃ n, n = d.secs.length := ⟨_, rfl⟩
  obtain ⟨n2, hn2⟩ : ∃ n, n = d.cache.length := ⟨_, rfl⟩
  have HN := hide (And.intro hn1 hn2)
  rw [← hn1, ← hn2] at HSZ HTO ⊢
  have HA := two_allocs w (.cells #[.slice so n1 p, .slice co n2 q] 25) (.cells #[.int .i64 rq, .string rt] 40)
  have X0 := hide HA.1
  have RX0 := hide HA.2.1
  have B0 := hide (((Below.refl w.heap.size w).alloc (Nat.le_refl _) (.cells #[.slice so n1 p, .slice co n2 q] 25)).alloc (by simp) (.cells #[.int .i64 rq, .string rt] 40))
  clear hr hn1 hn2 HA ht
  go_enter Try.func7, Try.ntmps7
  go_wp2_with fail
  refine (HSZ.out _ B0.out).mono ?_
  generalize hW : (w.alloc (.cells #[.slice so n1 p, .slice co n2 q] 25)).alloc (.cells #[.int .i64 rq, .string rt] 40) = W0 at *
  clear hW
  rintro e w1 ⟨r, rfl, hr1, hcase, b1⟩
  have X1 := hide ((b1.block w.heap.size (blk_lt X0.out)).trans X0.out)
  have RX1 := hide ((b1.block (w.heap.size + 1) (blk_lt RX0.out)).trans RX0.out)
  have B1 := hide (B0.out.trans (b1.mono B0.out.size))
  clear b1 X0 RX0 B0 HSZ
  obtain ⟨r0, r1, rf⟩ := cells2 RX1.out
  rcases hcase with hneg | ⟨hr0, hfit⟩
  · go_wp2
    go_ret
    exact ⟨rfl, B1.out⟩
  go_wp2_with fail
  refine (HSR.out _ _ (by omega) (by omega)).mono ?_
  rintro e W2 ⟨rfl, b⟩
  have X_2 := hide ((b.block w.heap.size (blk_lt X1.out)).trans X1.out)
  have R_2 := hide ((b.block (w.heap.size + 1) (blk_lt RX1.out)).trans RX1.out)
  have B_2 := hide (B1.out.trans (b.mono B1.out.size))
  clear b X1 RX1 B1 r0 r1 rf
  generalize szRec rt r = zr
  obtain ⟨x0, x1, xf⟩ := cells2 X_2.out
  obtain ⟨r0, r1, rf⟩ := cells2 R_2.out
  by_cases hzr : zr < 0
  · go_wp2
    go_ret
    exact ⟨rfl, B_2.out⟩
  have HFIT := hfit
  have HTOF := hide (fun (W : World) (hb : Below w.heap.size w W) => HTO.out hfit W hb)
  have HSP := hide (fun (b : Nat) (s c : Value) (W : World) (h : OwnD b s c d W) => specLogAppend_any _ _ _ d a rq rt W HIN.out HFIT ha hq h)
  have HIM := hide (fun (b : Nat) (s c : Value) (W : World) (h : OwnD b s c d W) => implLogAppend_any _ _ _ d a rq rt W HIN.out HFIT hq h)
  have HF2 : dkFits (dkApp d a rq rt).1 := dkApp_fits a rq rt HFIT
  have HEQD := hide (fun (b1 b2 : Nat) (s c s' c' : Value) (W : World) (h : OwnD b1 s c d W) (h' : OwnD b2 s' c' d W) => eqDisk_own b1 b2 s c s' c' d W hfit h h')
  have HMKD := hide (fun (b : Nat) (s c : Value) (W : World) (h : OwnD b s c d W) => markDisk_own b s c d W hfit h)
  generalize (dkApp d a rq rt) = R at *
  obtain ⟨D, K⟩ := R
  simp only at HF2 HSP HIM
  have HEQ := hide (fun (b1 b2 : Nat) (s c s' c' : Value) (W : World) (h : OwnD b1 s c D W) (h' : OwnD b2 s' c' D W) => eqDiskOut_own b1 b2 s c s' c' ⟨#[]⟩ K D W HF2 h h')
  have HMK := hide (fun (b : Nat) (s c : Value) (W : World) (h : OwnD b s c D W) => markDiskOut_own b s c ⟨#[]⟩ K D W HF2 h)
  have HHL := hide (fun (b : Nat) (s c : Value) (W : World) (h : OwnD b s c (mDk D) W) => heldDiskOut_own b s c ⟨#[]⟩ K D W HF2 h)
  obtain ⟨k1, hk1⟩ : ∃ n, n = D.secs.length := ⟨_, rfl⟩
  obtain ⟨k2, hk2⟩ : ∃ n, n = D.cache.length := ⟨_, rfl⟩
  have HK := hide (And.intro hk1 hk2)
  generalize hcd : cntD d = cd at *
  generalize hcD : cntD D = cD at *
  have hcd0 : ¬ (cd : Int) < 0 := by omega
  have hcD0 : ¬ (cD : Int) < 0 := by omega
  clear ha hq hfit HFIT HTO hr0 hr1 hk1 hk2 hcd hcD HF2 HIN
  have zx : w.heap.size < W2.heap.size := blk_lt X_2.out
  have zy : w.heap.size + 1 < W2.heap.size := blk_lt R_2.out
  have ZX := hide zx
  have ZY := hide zy
  go_wp2
  refine wp_cutA (fun a' (x : LgX) => (putA (putA (putA (putA (putA (putA (putA a' 25 (.agg #[.slice so n1 p, .slice co n2 q])) 26 (.agg #[.slice x.so' n1 x.p', .slice x.co' n2 x.q'])) 27 (.int .i64 a)) 28 (.agg #[.int .i64 rq, .string rt])) 29 (.agg #[.int .i64 rq, .string rt])) 30 (.agg #[.slice x.so k1 x.p, .slice x.co k2 x.q, .string ⟨#[]⟩, .int .i64 K])) 8 (.pointer (some ⟨x.g, 0, none⟩)))) (fun x W' => OutAt W2.heap.size x.g (.slice x.so k1 x.p) (.slice x.co k2 x.q) ⟨#[]⟩ K D W' ∧ Below W2.heap.size W2 W') ?_ ?_
  · have nW0 : ¬ w.heap.size = W2.heap.size := Nat.ne_of_lt zx
    have mW0 : ¬ W2.heap.size = w.heap.size := fun e => nW0 e.symm
    have nW1 : ¬ w.heap.size + 1 = W2.heap.size := Nat.ne_of_lt zy
    have mW1 : ¬ W2.heap.size = w.heap.size + 1 := fun e => nW1 e.symm
    go_region_held3 (fun W => (W.cell? ⟨w.heap.size, 0, none⟩ = some (.slice so n1 p) ∧ W.cell? ⟨w.heap.size, 1, none⟩ = some (.slice co n2 q)) ∧ (W.cell? ⟨w.heap.size + 1, 0, none⟩ = some (.int .i64 rq) ∧ W.cell? ⟨w.heap.size + 1, 1, none⟩ = some (.string rt))) (go_keep) (first
        | (go_at_call 10; (first | (refine (HTOF.out _ B_2.out.drew).mono ?_; rintro e wA ⟨s2, c2, rfl, oA, bA⟩; have bA' : Below W2.heap.size W2 wA := (Below.refl _ _).drew.trans bA) | (have bz : Below W2.heap.size W2 (W2.alloc zOut).drew := ((Below.refl _ _).alloc (Nat.le_refl _) _).drew; refine (HTOF.out _ (B_2.out.trans (bz.mono B_2.out.size))).mono ?_; rintro e wA ⟨s2, c2, rfl, oA, bA⟩; have bA' : Below W2.heap.size W2 wA := bz.trans (bA.mono bz.size); have hz : wA.heap[W2.heap.size]? = some zOut := (bA.block W2.heap.size (by show _ < (W2.alloc zOut).heap.size; simp)).trans (heap_alloc_new W2 zOut))); obtain ⟨so2, p2, co2, q2, rfl, rfl⟩ := oA.shape; rw [← HN.out.1, ← HN.out.2] at oA ⊢; obtain ⟨hcwA, hfwA⟩ := bcell bA'; have nwA0 : ¬ w.heap.size = wA.heap.size := Nat.ne_of_lt (Nat.lt_of_lt_of_le zx bA'.size); have mwA0 : ¬ wA.heap.size = w.heap.size := fun e => nwA0 e.symm; have nwA1 : ¬ w.heap.size + 1 = wA.heap.size := Nat.ne_of_lt (Nat.lt_of_lt_of_le zy bA'.size); have mwA1 : ¬ wA.heap.size = w.heap.size + 1 := fun e => nwA1 e.symm)
        | (go_at_call 19; refine (HTR.out _).mono ?_; rintro e wB ⟨rfl, bB⟩; have bB' : Below W2.heap.size W2 wB := (by first | exact bA'.trans (bB.mono bA'.size) | exact (bA'.alloc bA'.size zOut).trans (bB.mono (bA'.alloc bA'.size zOut).size)); (first | have oB := oA.below bB | have oB := oA.below (((Below.refl wA.heap.size wA).alloc (Nat.le_refl _) zOut).trans (bB.mono (by show _ ≤ (wA.alloc zOut).heap.size; simp)))); (first | have hz : wB.heap[W2.heap.size]? = some zOut := (bB.block _ (blk_lt' hz)).trans hz | have hz : wB.heap[wA.heap.size]? = some zOut := (bB.block wA.heap.size (by simp)).trans (heap_alloc_new wA zOut) | have hnz := bB'); obtain ⟨hcwB, hfwB⟩ := bcell bB'; have nwB0 : ¬ w.heap.size = wB.heap.size := Nat.ne_of_lt (Nat.lt_of_lt_of_le zx bB'.size); have mwB0 : ¬ wB.heap.size = w.heap.size := fun e => nwB0 e.symm; have nwB1 : ¬ w.heap.size + 1 = wB.heap.size := Nat.ne_of_lt (Nat.lt_of_lt_of_le zy bB'.size); have mwB1 : ¬ wB.heap.size = w.heap.size + 1 := fun e => nwB1 e.symm)
        | (go_at_call 28; (first | (refine (HSP.out _ _ _ _ oB).mono ?_; rintro e w3 ⟨s3, c3, rfl, o3, bC⟩; have b3' : Below W2.heap.size W2 w3 := bB'.trans (bC.mono bB'.size)) | (have bz : Below wB.heap.size wB (wB.alloc zOut) := (Below.refl _ _).alloc (Nat.le_refl _) _; refine (HSP.out _ _ _ _ (oB.below bz)).mono ?_; rintro e w3 ⟨s3, c3, rfl, o3, bC⟩; have b3' : Below W2.heap.size W2 w3 := bB'.trans ((bz.trans (bC.mono bz.size)).mono bB'.size); have hl : wB.heap.size < (wB.alloc zOut).heap.size := (by simp))); obtain ⟨so3, p3, co3, q3, rfl, rfl⟩ := o3.shape; rw [← HK.out.1, ← HK.out.2] at o3 ⊢; (first | (have hl : W2.heap.size < _ := blk_lt' hz; have hz : w3.heap[W2.heap.size]? = some zOut := (bC.block _ hl).trans hz; have y := cells4 hz; have y0 := y.1; have y1 := y.2.1; have y2 := y.2.2.1; have y3 := y.2.2.2.1; have yf := y.2.2.2.2; clear y) | (have hl : wA.heap.size < _ := blk_lt' hz; have hz : w3.heap[wA.heap.size]? = some zOut := (bC.block _ hl).trans hz; have y := cells4 hz; have y0 := y.1; have y1 := y.2.1; have y2 := y.2.2.1; have y3 := y.2.2.2.1; have yf := y.2.2.2.2; clear y) | (have hz : w3.heap[wB.heap.size]? = some zOut := (bC.block wB.heap.size hl).trans (heap_alloc_new wB zOut); have y := cells4 hz; have y0 := y.1; have y1 := y.2.1; have y2 := y.2.2.1; have y3 := y.2.2.2.1; have yf := y.2.2.2.2; clear y) | have hnz := b3'); obtain ⟨hcw3, hfw3⟩ := bcell b3'; have nw30 : ¬ w.heap.size = w3.heap.size := Nat.ne_of_lt (Nat.lt_of_lt_of_le zx b3'.size); have mw30 : ¬ w3.heap.size = w.heap.size := fun e => nw30 e.symm; have nw31 : ¬ w.heap.size + 1 = w3.heap.size := Nat.ne_of_lt (Nat.lt_of_lt_of_le zy b3'.size); have mw31 : ¬ w3.heap.size = w.heap.size + 1 := fun e => nw31 e.symm))
    · exact ⟨⟨w3.heap.size, so3, p3, co3, q3, so2, p2, co2, q2⟩, by simp only [putA, List.setIfInBounds_toArray, List.set_cons_succ, List.set_cons_zero], outAt_late (o3.base bB'.size) b3'.size, b3'.alloc b3'.size _⟩
    · exact ⟨⟨wB.heap.size, so3, p3, co3, q3, so2, p2, co2, q2⟩, by simp only [putA, List.setIfInBounds_toArray, List.set_cons_succ, List.set_cons_zero], outAt_early hz o3 hl bB'.size, setO_below b3' bB'.size⟩
    · exact ⟨⟨wA.heap.size, so3, p3, co3, q3, so2, p2, co2, q2⟩, by simp only [putA, List.setIfInBounds_toArray, List.set_cons_succ, List.set_cons_zero], outAt_early hz o3 hl bA'.size, setO_below b3' bA'.size⟩
    · exact ⟨⟨W2.heap.size, so3, p3, co3, q3, so2, p2, co2, q2⟩, by simp only [putA, List.setIfInBounds_toArray, List.set_cons_succ, List.set_cons_zero], outAt_early hz o3 hl (Nat.le_refl _), setO_below b3' (Nat.le_refl _)⟩
  rintro ⟨g8, so3, p3, co3, q3, so2, p2, co2, q2⟩ W3 ⟨oa, b⟩
  simp only at oa
  have e8 := b.size
  have X_3 := hide ((b.block _ (blk_lt X_2.out)).trans X_2.out)
  have R_3 := hide ((b.block _ (blk_lt R_2.out)).trans R_2.out)
  have B_3 := hide (B_2.out.trans (b.mono B_2.out.size))
  have OA_3 := hide oa
  have LW := hide oa.lts
  have Z8 := hide (blk_lt oa.box)
  clear X_2 R_2 B_2 b oa x0 x1 xf r0 r1 rf HSP
  have EW : Hid (w.heap.size < W3.heap.size ∧ w.heap.size + 1 < W3.heap.size) := ⟨blk_lt X_3.out, blk_lt R_3.out⟩
  clear e8 zx zy
  obtain ⟨x0, x1, xf⟩ := cells2 X_3.out
  simp only [putA, List.setIfInBounds_toArray, List.set_cons_succ, List.set_cons_zero]
  go_wp2_with fail
  refine (HTOF.out _ B_3.out).mono ?_
  rintro e w4 ⟨s4, c4, rfl, o4, b⟩
  obtain ⟨so4, p4, co4, q4, rfl, rfl⟩ := o4.shape
  rw [← HN.out.1, ← HN.out.2] at o4 ⊢
  have BA := (Below.refl w4.heap.size w4).alloc (Nat.le_refl _) (.cells #[.slice so4 n1 p4, .slice co4 n2 q4] 29)
  have LX : Hid (∀ v ∈ [(.slice so4 n1 p4 : Value), .slice co4 n2 q4], ∀ b, v.ownBlock = some b → W3.heap.size ≤ b ∧ b < w4.heap.size) := o4.two (Nat.le_refl _) (Nat.le_refl _)
  have b' := b
  have bt : Below W3.heap.size W3 (w4.alloc _) := b'.trans (BA.mono b'.size)
  have X_4 := hide ((bt.block _ (blk_lt X_3.out)).trans X_3.out)
  have R_4 := hide ((bt.block _ (blk_lt R_3.out)).trans R_3.out)
  have OA_4 := hide (OA_3.out.below bt)
  have B_4 := hide (B_3.out.trans (bt.mono B_3.out.size))
  have OX_4 := hide ((o4.below BA).base (Nat.zero_le _))
  have BX_4 := hide (heap_alloc_new w4 (.cells #[.slice so4 n1 p4, .slice co4 n2 q4] 29))
  have Z4 : Hid (W3.heap.size ≤ w4.heap.size) := b'.size
  clear X_3 R_3 OA_3 B_3 b b' bt BA o4 x0 x1 xf
  go_wp2
  generalize hW : w4.alloc (.cells #[.slice so4 n1 p4, .slice co4 n2 q4] 29) = W4 at *
  clear hW
  generalize w4.heap.size = g9 at *
  have zb : g9 < W4.heap.size := blk_lt BX_4.out
  have zy : w.heap.size + 1 < W4.heap.size := blk_lt R_4.out
  have Z9 := hide zb
  obtain ⟨y0, y1, yf⟩ := cells2 BX_4.out
  obtain ⟨r0, r1, rf⟩ := cells2 R_4.out
  refine wp_cutA (fun a' (x : LgX) => (putA (putA (putA (putA (putA (putA a' 33 (.agg #[.slice so4 n1 p4, .slice co4 n2 q4])) 34 (.int .i64 a)) 35 (.agg #[.int .i64 rq, .string rt])) 36 (.agg #[.int .i64 rq, .string rt])) 37 (.agg #[.slice x.so k1 x.p, .slice x.co k2 x.q, .string ⟨#[]⟩, .int .i64 K])) 10 (.pointer (some ⟨x.g, 0, none⟩)))) (fun x W' => OutAt W4.heap.size x.g (.slice x.so k1 x.p) (.slice x.co k2 x.q) ⟨#[]⟩ K D W' ∧ Below W4.heap.size W4 W') ?_ ?_
  · have nW0 : ¬ g9 = W4.heap.size := Nat.ne_of_lt zb
    have mW0 : ¬ W4.heap.size = g9 := fun e => nW0 e.symm
    have nW1 : ¬ w.heap.size + 1 = W4.heap.size := Nat.ne_of_lt zy
    have mW1 : ¬ W4.heap.size = w.heap.size + 1 := fun e => nW1 e.symm
    go_region_held3 (fun W => (W.cell? ⟨g9, 0, none⟩ = some (.slice so4 n1 p4) ∧ W.cell? ⟨g9, 1, none⟩ = some (.slice co4 n2 q4)) ∧ (W.cell? ⟨w.heap.size + 1, 0, none⟩ = some (.int .i64 rq) ∧ W.cell? ⟨w.heap.size + 1, 1, none⟩ = some (.string rt))) (go_keep) (first
        | (go_at_call 19; refine (HTR.out _).mono ?_; rintro e wB ⟨rfl, bB⟩; have bB' : Below W4.heap.size W4 wB := (by first | exact (Below.refl _ _).drew.trans bB | exact ((Below.refl _ _).alloc (Nat.le_refl _) zOut).drew.trans (bB.mono (by show _ ≤ (W4.alloc zOut).heap.size; simp))); have oB := OX_4.out.below bB'; (first | have hz : wB.heap[W4.heap.size]? = some zOut := (bB.block W4.heap.size (by show _ < (W4.alloc zOut).heap.size; simp)).trans (heap_alloc_new W4 zOut) | have hnz := bB'); obtain ⟨hcwB, hfwB⟩ := bcell bB'; have nwB0 : ¬ g9 = wB.heap.size := Nat.ne_of_lt (Nat.lt_of_lt_of_le zb bB'.size); have mwB0 : ¬ wB.heap.size = g9 := fun e => nwB0 e.symm; have nwB1 : ¬ w.heap.size + 1 = wB.heap.size := Nat.ne_of_lt (Nat.lt_of_lt_of_le zy bB'.size); have mwB1 : ¬ wB.heap.size = w.heap.size + 1 := fun e => nwB1 e.symm)
        | (go_at_call 29; (first | (refine (HIM.out _ _ _ _ oB).mono ?_; rintro e w3 ⟨s3, c3, rfl, o3, bC⟩; have b3' : Below W4.heap.size W4 w3 := bB'.trans (bC.mono bB'.size)) | (have bz : Below wB.heap.size wB (wB.alloc zOut) := (Below.refl _ _).alloc (Nat.le_refl _) _; refine (HIM.out _ _ _ _ (oB.below bz)).mono ?_; rintro e w3 ⟨s3, c3, rfl, o3, bC⟩; have b3' : Below W4.heap.size W4 w3 := bB'.trans ((bz.trans (bC.mono bz.size)).mono bB'.size); have hl : wB.heap.size < (wB.alloc zOut).heap.size := (by simp))); obtain ⟨so3, p3, co3, q3, rfl, rfl⟩ := o3.shape; rw [← HK.out.1, ← HK.out.2] at o3 ⊢; (first | (have hl : W4.heap.size < _ := blk_lt' hz; have hz : w3.heap[W4.heap.size]? = some zOut := (bC.block _ hl).trans hz; have y := cells4 hz; have y0 := y.1; have y1 := y.2.1; have y2 := y.2.2.1; have y3 := y.2.2.2.1; have yf := y.2.2.2.2; clear y) | (have hz : w3.heap[wB.heap.size]? = some zOut := (bC.block wB.heap.size hl).trans (heap_alloc_new wB zOut); have y := cells4 hz; have y0 := y.1; have y1 := y.2.1; have y2 := y.2.2.1; have y3 := y.2.2.2.1; have yf := y.2.2.2.2; clear y) | have hnz := b3'); obtain ⟨hcw3, hfw3⟩ := bcell b3'; have nw30 : ¬ g9 = w3.heap.size := Nat.ne_of_lt (Nat.lt_of_lt_of_le zb b3'.size); have mw30 : ¬ w3.heap.size = g9 := fun e => nw30 e.symm; have nw31 : ¬ w.heap.size + 1 = w3.heap.size := Nat.ne_of_lt (Nat.lt_of_lt_of_le zy b3'.size); have mw31 : ¬ w3.heap.size = w.heap.size + 1 := fun e => nw31 e.symm))
    · exact ⟨⟨w3.heap.size, so3, p3, co3, q3, none, 0, none, 0⟩, by simp only [putA, List.setIfInBounds_toArray, List.set_cons_succ, List.set_cons_zero], outAt_late (o3.base bB'.size) b3'.size, b3'.alloc b3'.size _⟩
    · exact ⟨⟨wB.heap.size, so3, p3, co3, q3, none, 0, none, 0⟩, by simp only [putA, List.setIfInBounds_toArray, List.set_cons_succ, List.set_cons_zero], outAt_early hz o3 hl bB'.size, setO_below b3' bB'.size⟩
    · exact ⟨⟨W4.heap.size, so3, p3, co3, q3, none, 0, none, 0⟩, by simp only [putA, List.setIfInBounds_toArray, List.set_cons_succ, List.set_cons_zero], outAt_early hz o3 hl (Nat.le_refl _), setO_below b3' (Nat.le_refl _)⟩
  rintro ⟨g10, so5, p5, co5, q5, _, _, _, _⟩ W5 ⟨og, b⟩
  simp only at og
  have X_5 := hide ((b.block _ (blk_lt X_4.out)).trans X_4.out)
  have R_5 := hide ((b.block _ (blk_lt R_4.out)).trans R_4.out)
  have BX_5 := hide ((b.block _ (blk_lt BX_4.out)).trans BX_4.out)
  have OA_5 := hide (OA_4.out.below b)
  have OX_5 := hide (OX_4.out.below b)
  have B_5 := hide (B_4.out.trans (b.mono B_4.out.size))
  have OG_5 := hide og
  have LG := hide og.lts
  have Z10 := hide (And.intro og.low (blk_lt og.box))
  have E5 := hide b.size
  clear X_4 R_4 BX_4 OA_4 OX_4 B_4 b og y0 y1 yf r0 r1 rf zb zy
  have C := hide (HEQ.out _ _ _ _ _ _ _ OG_5.out.own OA_5.out.own)
  obtain ⟨y0, y1, y2, y3, yf⟩ := cells4 OA_5.out.box
  obtain ⟨z0, z1, z2, z3, zf⟩ := cells4 OG_5.out.box
  simp only [putA, List.setIfInBounds_toArray, List.set_cons_succ, List.set_cons_zero]
  go_wp2_with fail
  refine C.out.mono ?_
  clear C
  rintro e w6 ⟨rfl, b⟩
  have X_6 := hide ((b.block _ (blk_lt X_5.out)).trans X_5.out)
  have R_6 := hide ((b.block _ (blk_lt R_5.out)).trans R_5.out)
  have BX_6 := hide ((b.block _ (blk_lt BX_5.out)).trans BX_5.out)
  have OA_6 := hide (OA_5.out.below b)
  have OX_6 := hide (OX_5.out.below b)
  have OG_6 := hide (OG_5.out.below b)
  have B_6 := hide (B_5.out.trans (b.mono B_5.out.size))
  clear X_5 R_5 BX_5 OA_5 OX_5 OG_5 B_5 b y0 y1 y2 y3 yf z0 z1 z2 z3 zf
  obtain ⟨x0, x1, xf⟩ := cells2 X_6.out
  obtain ⟨y0, y1, yf⟩ := cells2 BX_6.out
  have zx' : w.heap.size < w6.heap.size := blk_lt X_6.out
  have zb' : g9 < w6.heap.size := blk_lt BX_6.out
  have HEQR := hide (fun (s' c' : Value) (b2 : Nat) (W : World) (hb : Below w6.heap.size w6 W) (h' : OwnD b2 s' c' d W) => HEQD.out _ _ _ _ s' c' W (OX_6.out.below hb) h')
  clear xf yf
  go_wp2
  go_region_held3 (fun W => (W.cell? ⟨g9, 0, none⟩ = some (.slice so4 n1 p4) ∧ W.cell? ⟨g9, 1, none⟩ = some (.slice co4 n2 q4)) ∧ W.cell? ⟨w.heap.size, 0, none⟩ = some (.slice so n1 p) ∧ W.cell? ⟨w.heap.size, 1, none⟩ = some (.slice co n2 q)) (go_keep) (first | (go_at_call 10; refine (HTOF.out _ B_6.out.drew).mono ?_; rintro e w7 ⟨s7, c7, rfl, o7, hb7⟩; obtain ⟨so7, p7, co7, q7, rfl, rfl⟩ := o7.shape; rw [← HN.out.1, ← HN.out.2] at o7 ⊢; have hb7' : Below w6.heap.size w6 w7 := (Below.refl _ _).drew.trans hb7; obtain ⟨hc7, hf7⟩ := bcell hb7') | (go_at_call 13; refine (HEQR.out _ _ _ _ hb7' o7).mono ?_; rintro e w8 ⟨rfl, hb8⟩; have b : Below w6.heap.size w6 w8 := hb7'.trans (hb8.mono hb7'.size); obtain ⟨hc8, hf8⟩ := bcell b))
  all_goals
    have X_8 := hide ((b.block _ (blk_lt X_6.out)).trans X_6.out)
    have R_8 := hide ((b.block _ (blk_lt R_6.out)).trans R_6.out)
    have BX_8 := hide ((b.block _ (blk_lt BX_6.out)).trans BX_6.out)
    have OA_8 := hide (OA_6.out.below b)
    have OX_8 := hide (OX_6.out.below b)
    have OG_8 := hide (OG_6.out.below b)
    have B_8 := hide (B_6.out.trans (b.mono B_6.out.size))
    clear X_6 R_6 BX_6 OA_6 OX_6 OG_6 B_6 b hb7 hb7' hc7 hf7 hb8 hc8 hf8 x0 x1 y0 y1 o7 HEQR HEQD zx' zb'
    have C := hide (HMKD.out _ _ _ _ OX_8.out)
    obtain ⟨y0, y1, yf⟩ := cells2 BX_8.out
    go_wp2_with fail
    refine C.out.mono ?_
    rintro e w9 ⟨rfl, o, l⟩
    have z8 := Z8.out
    have z4 := Z4.out
    have z9 := Z9.out
    have z10 := Z10.out
    have ew := EW.out
    have X_9 := hide (l.blk X_8.out LX.out (.inl ew.1))
    have R_9 := hide (l.blk R_8.out LX.out (.inl ew.2))
    have OA_9 := hide (OA_8.out.gl l LX.out (fun v hv b hb => .inl (LW.out v hv b hb).2) (.inl z8))
    have OG_9 := hide (OG_8.out.gl l LX.out (fun v hv b hb => .inr (by have := (LG.out v hv b hb).1; omega)) (.inr (by omega)))
    have B_9 := hide (B_8.out.trans (l.bel LX.out (Nat.le_of_lt ew.1) B_8.out.size))
    clear X_8 R_8 BX_8 OA_8 OX_8 OG_8 B_8 o l C y0 y1 yf
    have C := hide (HEQ.out _ _ _ _ _ _ _ OG_9.out.own OA_9.out.own)
    obtain ⟨y0, y1, y2, y3, yf⟩ := cells4 OA_9.out.box
    obtain ⟨z0, z1, z2, z3, zf⟩ := cells4 OG_9.out.box
    go_wp2_with fail
    refine C.out.mono ?_
    rintro e w10 ⟨rfl, b⟩
    clear C
    have X_10 := hide ((b.block _ (blk_lt X_9.out)).trans X_9.out)
    have R_10 := hide ((b.block _ (blk_lt R_9.out)).trans R_9.out)
    have OA_10 := hide (OA_9.out.below b)
    have OG_10 := hide (OG_9.out.below b)
    have B_10 := hide (B_9.out.trans (b.mono B_9.out.size))
    clear X_9 R_9 OA_9 OG_9 B_9 b y0 y1 y2 y3 yf z0 z1 z2 z3 zf
    have C := hide (HMK.out _ _ _ _ OG_10.out.own)
    obtain ⟨z0, z1, z2, z3, zf⟩ := cells4 OG_10.out.box
    go_wp2_with fail
    refine C.out.mono ?_
    rintro e w11 ⟨rfl, o, l⟩
    clear C
    have LG2 : ∀ v ∈ [(.slice so5 k1 p5 : Value), .slice co5 k2 q5], ∀ b, v.ownBlock = some b → W4.heap.size ≤ b ∧ b < W5.heap.size := LG.out
    have X_11 := hide (l.blk X_10.out LG2 (.inl (by omega)))
    have R_11 := hide (l.blk R_10.out LG2 (.inl (by omega)))
    have OA_11 := hide (OA_10.out.gl l LG2 (fun v hv b hb => .inl (by have := (LW.out v hv b hb).2; omega)) (.inl (by omega)))
    have OG_11 := hide (OG_10.out.marked l o)
    have B_11 := hide (B_10.out.trans (l.bel LG2 (by omega) B_10.out.size))
    clear X_10 R_10 OA_10 OG_10 B_10 o l z0 z1 z2 z3 zf
    have C := hide (HHL.out _ _ _ _ OG_11.out.own)
    obtain ⟨z0, z1, z2, z3, zf⟩ := cells4 OG_11.out.box
    go_wp2_with fail
    refine C.out.mono ?_
    rintro e W12 ⟨rfl, b⟩
    clear C
    have X_12 := hide ((b.block _ (blk_lt X_11.out)).trans X_11.out)
    have R_12 := hide ((b.block _ (blk_lt R_11.out)).trans R_11.out)
    have OA_12 := hide (OA_11.out.below b)
    have OG_12 := hide (OG_11.out.below b)
    have B_12 := hide (B_11.out.trans (b.mono B_11.out.size))
    clear X_11 R_11 OA_11 OG_11 B_11 b z0 z1 z2 z3 zf
    obtain ⟨x0, x1, xf⟩ := cells2 X_12.out
    obtain ⟨r0, r1, rf⟩ := cells2 R_12.out
    have zx : w.heap.size < W12.heap.size := blk_lt X_12.out
    have zy : w.heap.size + 1 < W12.heap.size := blk_lt R_12.out
    clear z8 z4 z9 z10 ew LG2
    go_wp2
    refine wp_cutA (fun a' (x : LgX) => (putA (putA (putA (putA (putA (putA (putA a' 69 (.agg #[.slice so n1 p, .slice co n2 q])) 70 (.agg #[.slice x.so' n1 x.p', .slice x.co' n2 x.q'])) 71 (.int .i64 a)) 72 (.agg #[.int .i64 rq, .string rt])) 73 (.agg #[.int .i64 rq, .string rt])) 74 (.agg #[.slice x.so k1 x.p, .slice x.co k2 x.q, .string ⟨#[]⟩, .int .i64 K])) 14 (.pointer (some ⟨x.g, 0, none⟩)))) (fun x W' => OutAt W12.heap.size x.g (.slice x.so k1 x.p) (.slice x.co k2 x.q) ⟨#[]⟩ K D W' ∧ Below W12.heap.size W12 W') ?_ ?_
    · have nW0 : ¬ w.heap.size = W12.heap.size := Nat.ne_of_lt zx
      have mW0 : ¬ W12.heap.size = w.heap.size := fun e => nW0 e.symm
      have nW1 : ¬ w.heap.size + 1 = W12.heap.size := Nat.ne_of_lt zy
      have mW1 : ¬ W12.heap.size = w.heap.size + 1 := fun e => nW1 e.symm
      go_region_held3 (fun W => (W.cell? ⟨w.heap.size, 0, none⟩ = some (.slice so n1 p) ∧ W.cell? ⟨w.heap.size, 1, none⟩ = some (.slice co n2 q)) ∧ (W.cell? ⟨w.heap.size + 1, 0, none⟩ = some (.int .i64 rq) ∧ W.cell? ⟨w.heap.size + 1, 1, none⟩ = some (.string rt))) (go_keep) (first
          | (go_at_call 10; (first | (refine (HTOF.out _ B_12.out.drew).mono ?_; rintro e wA ⟨s2, c2, rfl, oA, bA⟩; have bA' : Below W12.heap.size W12 wA := (Below.refl _ _).drew.trans bA) | (have bz : Below W12.heap.size W12 (W12.alloc zOut).drew := ((Below.refl _ _).alloc (Nat.le_refl _) _).drew; refine (HTOF.out _ (B_12.out.trans (bz.mono B_12.out.size))).mono ?_; rintro e wA ⟨s2, c2, rfl, oA, bA⟩; have bA' : Below W12.heap.size W12 wA := bz.trans (bA.mono bz.size); have hz : wA.heap[W12.heap.size]? = some zOut := (bA.block W12.heap.size (by show _ < (W12.alloc zOut).heap.size; simp)).trans (heap_alloc_new W12 zOut))); obtain ⟨so2, p2, co2, q2, rfl, rfl⟩ := oA.shape; rw [← HN.out.1, ← HN.out.2] at oA ⊢; obtain ⟨hcwA, hfwA⟩ := bcell bA'; have nwA0 : ¬ w.heap.size = wA.heap.size := Nat.ne_of_lt (Nat.lt_of_lt_of_le zx bA'.size); have mwA0 : ¬ wA.heap.size = w.heap.size := fun e => nwA0 e.symm; have nwA1 : ¬ w.heap.size + 1 = wA.heap.size := Nat.ne_of_lt (Nat.lt_of_lt_of_le zy bA'.size); have mwA1 : ¬ wA.heap.size = w.heap.size + 1 := fun e => nwA1 e.symm)
          | (go_at_call 19; refine (HTR.out _).mono ?_; rintro e wB ⟨rfl, bB⟩; have bB' : Below W12.heap.size W12 wB := (by first | exact bA'.trans (bB.mono bA'.size) | exact (bA'.alloc bA'.size zOut).trans (bB.mono (bA'.alloc bA'.size zOut).size)); (first | have oB := oA.below bB | have oB := oA.below (((Below.refl wA.heap.size wA).alloc (Nat.le_refl _) zOut).trans (bB.mono (by show _ ≤ (wA.alloc zOut).heap.size; simp)))); (first | have hz : wB.heap[W12.heap.size]? = some zOut := (bB.block _ (blk_lt' hz)).trans hz | have hz : wB.heap[wA.heap.size]? = some zOut := (bB.block wA.heap.size (by simp)).trans (heap_alloc_new wA zOut) | have hnz := bB'); obtain ⟨hcwB, hfwB⟩ := bcell bB'; have nwB0 : ¬ w.heap.size = wB.heap.size := Nat.ne_of_lt (Nat.lt_of_lt_of_le zx bB'.size); have mwB0 : ¬ wB.heap.size = w.heap.size := fun e => nwB0 e.symm; have nwB1 : ¬ w.heap.size + 1 = wB.heap.size := Nat.ne_of_lt (Nat.lt_of_lt_of_le zy bB'.size); have mwB1 : ¬ wB.heap.size = w.heap.size + 1 := fun e => nwB1 e.symm)
          | (go_at_call 29; (first | (refine (HIM.out _ _ _ _ oB).mono ?_; rintro e w3 ⟨s3, c3, rfl, o3, bC⟩; have b3' : Below W12.heap.size W12 w3 := bB'.trans (bC.mono bB'.size)) | (have bz : Below wB.heap.size wB (wB.alloc zOut) := (Below.refl _ _).alloc (Nat.le_refl _) _; refine (HIM.out _ _ _ _ (oB.below bz)).mono ?_; rintro e w3 ⟨s3, c3, rfl, o3, bC⟩; have b3' : Below W12.heap.size W12 w3 := bB'.trans ((bz.trans (bC.mono bz.size)).mono bB'.size); have hl : wB.heap.size < (wB.alloc zOut).heap.size := (by simp))); obtain ⟨so3, p3, co3, q3, rfl, rfl⟩ := o3.shape; rw [← HK.out.1, ← HK.out.2] at o3 ⊢; (first | (have hl : W12.heap.size < _ := blk_lt' hz; have hz : w3.heap[W12.heap.size]? = some zOut := (bC.block _ hl).trans hz; have y := cells4 hz; have y0 := y.1; have y1 := y.2.1; have y2 := y.2.2.1; have y3 := y.2.2.2.1; have yf := y.2.2.2.2; clear y) | (have hl : wA.heap.size < _ := blk_lt' hz; have hz : w3.heap[wA.heap.size]? = some zOut := (bC.block _ hl).trans hz; have y := cells4 hz; have y0 := y.1; have y1 := y.2.1; have y2 := y.2.2.1; have y3 := y.2.2.2.1; have yf := y.2.2.2.2; clear y) | (have hz : w3.heap[wB.heap.size]? = some zOut := (bC.block wB.heap.size hl).trans (heap_alloc_new wB zOut); have y := cells4 hz; have y0 := y.1; have y1 := y.2.1; have y2 := y.2.2.1; have y3 := y.2.2.2.1; have yf := y.2.2.2.2; clear y) | have hnz := b3'); obtain ⟨hcw3, hfw3⟩ := bcell b3'; have nw30 : ¬ w.heap.size = w3.heap.size := Nat.ne_of_lt (Nat.lt_of_lt_of_le zx b3'.size); have mw30 : ¬ w3.heap.size = w.heap.size := fun e => nw30 e.symm; have nw31 : ¬ w.heap.size + 1 = w3.heap.size := Nat.ne_of_lt (Nat.lt_of_lt_of_le zy b3'.size); have mw31 : ¬ w3.heap.size = w.heap.size + 1 := fun e => nw31 e.symm))
      · exact ⟨⟨w3.heap.size, so3, p3, co3, q3, so2, p2, co2, q2⟩, by simp only [putA, List.setIfInBounds_toArray, List.set_cons_succ, List.set_cons_zero], outAt_late (o3.base bB'.size) b3'.size, b3'.alloc b3'.size _⟩
      · exact ⟨⟨wB.heap.size, so3, p3, co3, q3, so2, p2, co2, q2⟩, by simp only [putA, List.setIfInBounds_toArray, List.set_cons_succ, List.set_cons_zero], outAt_early hz o3 hl bB'.size, setO_below b3' bB'.size⟩
      · exact ⟨⟨wA.heap.size, so3, p3, co3, q3, so2, p2, co2, q2⟩, by simp only [putA, List.setIfInBounds_toArray, List.set_cons_succ, List.set_cons_zero], outAt_early hz o3 hl bA'.size, setO_below b3' bA'.size⟩
      · exact ⟨⟨W12.heap.size, so3, p3, co3, q3, so2, p2, co2, q2⟩, by simp only [putA, List.setIfInBounds_toArray, List.set_cons_succ, List.set_cons_zero], outAt_early hz o3 hl (Nat.le_refl _), setO_below b3' (Nat.le_refl _)⟩
    rintro ⟨g14, so6, p6, co6, q6, so7, p7, co7, q7⟩ W13 ⟨oh, b⟩
    simp only at oh
    have X_13 := hide ((b.block _ (blk_lt X_12.out)).trans X_12.out)
    have OA_13 := hide (OA_12.out.below b)
    have OG_13 := hide (OG_12.out.below b)
    have B_13 := hide (B_12.out.trans (b.mono B_12.out.size))
    have OH_13 := hide oh
    clear X_12 R_12 OA_12 OG_12 B_12 b oh x0 x1 xf r0 r1 rf zx zy
    have C := hide (HEQ.out _ _ _ _ _ _ _ OH_13.out.own OA_13.out.own)
    obtain ⟨y0, y1, y2, y3, yf⟩ := cells4 OA_13.out.box
    obtain ⟨z0, z1, z2, z3, zf⟩ := cells4 OH_13.out.box
    simp only [putA, List.setIfInBounds_toArray, List.set_cons_succ, List.set_cons_zero]
    go_wp2_with fail
    refine C.out.mono ?_
    rintro e w15 ⟨rfl, b⟩
    clear C
    have OG_15 := hide (OG_13.out.below b)
    have B_15 := hide (B_13.out.trans (b.mono B_13.out.size))
    clear X_13 OA_13 OG_13 OH_13 B_13 b y0 y1 y2 y3 yf z0 z1 z2 z3 zf
    have C := hide (HHL.out _ _ _ _ OG_15.out.own)
    obtain ⟨z0, z1, z2, z3, zf⟩ := cells4 OG_15.out.box
    go_wp2_with fail
    refine C.out.mono ?_
    rintro e w16 ⟨rfl, b⟩
    clear C
    have B_16 := hide (B_15.out.trans (b.mono B_15.out.size))
    clear OG_15 B_15 b z0 z1 z2 z3 zf
    go_wp2
    go_ret
    exact ⟨rfl, B_16.out⟩
end Go.Proofs.Ytaapacpiipcogaa
