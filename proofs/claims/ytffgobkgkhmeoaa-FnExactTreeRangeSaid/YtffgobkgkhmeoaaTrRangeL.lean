/-
  The law on TreeRange, out of the contracts.
-/
import Derived.Test.YtffgobkgkhmeoaaTrRead
import Derived.Test.YtffgobkgkhmeoaaTrRangeI
import Derived.Test.YtffgobkgkhmeoaaTrMk2
import Derived.ChangeMaps5
namespace Go.Proofs.Ytffgobkgkhmeoaa
open Go.RowKit
set_option maxRecDepth 100000

theorem rdText {H : Type} {enc : TypeId × Value → H} {W : World} {base : Nat} {v : Value} {d : DataW H} {p : List MemPlace} (hv : Value.okWide Try.prog W .any base 9 v) (h : DataW.Trod enc Try.prog W 0 (fun _ => true) true 9 v d p) : ∃ s : ByteArray, v = .string s := by
  obtain ⟨s, e, _⟩ := Go.ChangeMaps.open_string Try.underlying9 hv h
  exact ⟨s, e⟩
theorem ownS_block {base : Nat} {v : Value} {l : List ByteArray} {w : World} (h : OwnS base v l w) : ∀ b, v.ownBlock = some b → base ≤ b ∧ b < w.heap.size := fun b hb => World.ownsRow.lt h b hb
theorem ownS_mk {base A B : Nat} {v : Value} {l : List ByteArray} {w w' : World} (h : OwnS base v l w) (hm : Mk A B w w') (ho : ∀ b, v.ownBlock = some b → b < A ∨ B ≤ b) : OwnS base v l w' := by
  refine ⟨h.1, ?_⟩
  rcases h.2 with h0 | ⟨g, cap, cur, rfl, hB, hg, hn, hq, hs, ht⟩
  · exact .inl h0
  · exact .inr ⟨g, cap, cur, rfl, hB, (hm.block g (Array.getElem?_eq_some_iff.1 hg).1 (ho g rfl)).trans hg, hn, hq, hs, ht⟩
theorem ownS_grown {base : Nat} {v u : Value} {l : List ByteArray} {w w' : World} (h : OwnS base v l w) (hm : w.grownBy w' u.ownBlock) (ho : ∀ b, v.ownBlock = some b → u.ownBlock ≠ some b) : OwnS base v l w' := by
  refine ⟨h.1, ?_⟩
  rcases h.2 with h0 | ⟨g, cap, cur, rfl, hB, hg, hn, hq, hs, ht⟩
  · exact .inl h0
  · exact .inr ⟨g, cap, cur, rfl, hB, (hm.block g (Array.getElem?_eq_some_iff.1 hg).1 (ho g rfl).symm).trans hg, hn, hq, hs, ht⟩
theorem ownS_shape {base : Nat} {v : Value} {l : List ByteArray} {w : World} (h : OwnS base v l w) : ∃ ao cap, v = .slice ao l.length cap := by
  obtain ⟨ao, cap, e, _⟩ := ownS_row h
  exact ⟨ao, cap, e⟩

set_option maxHeartbeats 8000000 in
theorem lawTreeRange (v0 v1 v2 : Value) (w : World) (h0 : IsTree w v0) (h1 : ∃ s : ByteArray, v1 = .string s) (h2 : ∃ s : ByteArray, v2 = .string s) :
    Calls Try.prog 6 #[v0, v1, v2] w fun e w' => e = .returned (.bool true) ∧ Below w.heap.size w w' := by
  obtain ⟨n, t, ko, kc, vo, vc, xo, xc, rfl, hr⟩ := h0
  obtain ⟨low, rfl⟩ := h1
  obtain ⟨high, rfl⟩ := h2
  have HSZ := hide (fun (W : World) (hb : Below w.heap.size w W) => szTree_cnt n 0 w.heap.size ko kc vo vc xo xc t 1048576 W hb.size (TrRow.kept hb n _ _ _ _ hr) (by omega) (by omega))
  have HTO := hide (fun (hf : trFits n t) (W : World) (hb : Below w.heap.size w W) => toTree_own n 0 w.heap.size ko kc vo vc xo xc t W hb.size hf (TrRow.kept hb n _ _ _ _ hr))
  have HSP := hide (fun (A B : Nat) (ko : Option Addr) (kc : Nat) (vo : Option Addr) (vc : Nat) (xo : Option Addr) (xc : Nat) (W : World) (hB : B ≤ W.heap.size) (hr : TrRow W A B n t ko vo xo) => specTreeRange_any A B n ko kc vo vc xo xc t low high W hB hr)
  have HIM := hide (fun (A B : Nat) (ko : Option Addr) (kc : Nat) (vo : Option Addr) (vc : Nat) (xo : Option Addr) (xc : Nat) (W : World) (hB : B ≤ W.heap.size) (hr : TrRow W A B n t ko vo xo) => implTreeRange_any A B n ko kc vo vc xo xc t low high W hB hr)
  have HEQ := hide (fun (A B A' B' : Nat) (ko : Option Addr) (kc : Nat) (vo : Option Addr) (vc : Nat) (xo : Option Addr) (xc : Nat) (ko' : Option Addr) (kc' : Nat) (vo' : Option Addr) (vc' : Nat) (xo' : Option Addr) (xc' : Nat) (W : World) => eqTree_all n A B A' B' ko kc vo vc xo xc ko' kc' vo' vc' xo' xc' t W)
  have HMK := hide (fun (A B : Nat) (ko : Option Addr) (kc : Nat) (vo : Option Addr) (vc : Nat) (xo : Option Addr) (xc : Nat) (W : World) => markTree_all n A B ko kc vo vc xo xc t 1 W)
  have HCN := hide (range_cnt hr low high)
  generalize rangeOut t low high = l at *
  generalize t.keys.length = n1 at *
  generalize t.vals.length = n2 at *
  generalize t.kids.length = n3 at *
  have X0 := hide (heap_alloc_new w (.cells #[.slice ko n1 kc, .slice vo n2 vc, .slice xo n3 xc] 25))
  have B0 := hide ((Below.refl w.heap.size w).alloc (Nat.le_refl _) (.cells #[.slice ko n1 kc, .slice vo n2 vc, .slice xo n3 xc] 25))
  have HZ : Hid ((w.alloc (.cells #[.slice ko n1 kc, .slice vo n2 vc, .slice xo n3 xc] 25)).heap.size = w.heap.size + 1) := by show _ = _; simp
  clear hr
  by_cases hl : 1048576 < low.size
  · have e1 : 1048576 < (low.size : Int) := by omega
    clear HSZ HTO HSP HIM HEQ X0 HZ HMK HCN
    go_enter Try.func6, Try.ntmps6
    go_wp2
    go_ret
    exact ⟨rfl, B0.out⟩
  have e1 : ¬ 1048576 < (low.size : Int) := by omega
  by_cases hh : 1048576 < high.size
  · have e2 : 1048576 < (high.size : Int) := by omega
    clear HSZ HTO HSP HIM HEQ X0 HZ HMK HCN
    go_enter Try.func6, Try.ntmps6
    go_wp2
    go_ret
    exact ⟨rfl, B0.out⟩
  have e2 : ¬ 1048576 < (high.size : Int) := by omega
  clear hl hh
  go_enter Try.func6, Try.ntmps6
  go_wp2_with fail
  refine (HSZ.out _ B0.out).mono ?_
  generalize w.alloc (.cells #[.slice ko n1 kc, .slice vo n2 vc, .slice xo n3 xc] 25) = W0 at *
  rintro e w1 ⟨r, rfl, hr1, hcase, b1⟩
  have X1 := hide ((b1.block w.heap.size (by rw [HZ.out]; omega)).trans X0.out)
  have B1 := hide (B0.out.trans (b1.mono B0.out.size))
  have z1 : w.heap.size + 1 ≤ w1.heap.size := by have := b1.size; rw [HZ.out] at this; exact this
  clear b1 X0 B0 HZ HSZ
  obtain ⟨x0, x1, x2, xf⟩ := cells3 X1.out
  rcases hcase with hneg | ⟨hr0, hfit, hcnt⟩
  · go_wp2
    go_ret
    exact ⟨rfl, B1.out⟩
  have HF := hide hfit
  have hc1 : 1 + trCnt n t ≤ 5000000 := by omega
  have hln : l.length ≤ 1048576 := by have := HCN.out; omega
  have HC1 := hide hc1
  have HLN := hide hln
  clear hfit hcnt hc1 hln HCN
  go_wp2_with fail
  refine (HTO.out HF.out _ B1.out).mono ?_
  rintro e w2 ⟨k2, p2, v2, q2, y2, s2, rfl, r2, b2⟩
  have R2 := hide (URow.plain n _ _ _ _ r2)
  have X2 := hide ((b2.block w.heap.size (by omega)).trans X1.out)
  have B2 := hide (B1.out.trans (b2.mono B1.out.size))
  have z2 : w1.heap.size ≤ w2.heap.size := b2.size
  clear r2 b2 X1 x0 x1 x2 xf
  go_wp2_with fail
  refine (HSP.out _ _ _ _ _ _ _ _ _ (Nat.le_refl _) R2.out).mono ?_
  rintro e w3 ⟨vs, rfl, os3, b3⟩
  have X3 := hide ((b3.block w.heap.size (by omega)).trans X2.out)
  have B3 := hide (B2.out.trans (b3.mono B2.out.size))
  have OS3 := hide os3
  have z3 : w2.heap.size ≤ w3.heap.size := b3.size
  obtain ⟨so, sc, rfl⟩ := ownS_shape os3
  clear b3 X2 B2 B1 R2 HSP os3
  obtain ⟨x0, x1, x2, xf⟩ := cells3 X3.out
  go_wp2_with fail
  refine (HTO.out HF.out _ B3.out).mono ?_
  rintro e w4 ⟨k4, p4, v4, q4, y4, s4, rfl, r4, b4⟩
  have BA := (Below.refl w4.heap.size w4).alloc (Nat.le_refl _) (.cells #[.slice k4 n1 p4, .slice v4 n2 q4, .slice y4 n3 s4] 30)
  have U4 := hide (URow.kept BA n _ _ _ _ r4)
  have z4 : w3.heap.size ≤ w4.heap.size := b4.size
  have X4 := hide ((BA.block w.heap.size (by omega)).trans ((b4.block w.heap.size (by omega)).trans X3.out))
  have OS4 := hide (owns_below (owns_below OS3.out b4) BA)
  have SB4 : Hid (∀ b, (Value.slice so l.length sc).ownBlock = some b → b < w3.heap.size) := fun b hb => (ownS_block OS3.out b hb).2
  have Y4 := hide (heap_alloc_new w4 (.cells #[.slice k4 n1 p4, .slice v4 n2 q4, .slice y4 n3 s4] 30))
  have B4 := hide ((B3.out.trans (b4.mono B3.out.size)).trans (BA.mono (by omega)))
  have HZ4 : Hid ((w4.alloc (.cells #[.slice k4 n1 p4, .slice v4 n2 q4, .slice y4 n3 s4] 30)).heap.size = w4.heap.size + 1) := by show _ = _; simp
  clear r4 b4 BA X3 B3 OS3 x0 x1 x2 xf
  go_wp2_with fail
  refine (HIM.out _ _ _ _ _ _ _ _ _ (show w4.heap.size ≤ _ by rw [HZ4.out]; omega) (URow.plain n _ _ _ _ U4.out)).mono ?_
  generalize w4.alloc (.cells #[.slice k4 n1 p4, .slice v4 n2 q4, .slice y4 n3 s4] 30) = W4 at *
  generalize w4.heap.size = g at *
  rintro e w5 ⟨vg, rfl, og5, b5⟩
  have z5 : g < w5.heap.size := by have := b5.size; rw [HZ4.out] at this; omega
  have U5 := hide (URow.kept (b5.mono (show g ≤ W4.heap.size by rw [HZ4.out]; omega)) n _ _ _ _ U4.out)
  have Y5 := hide ((b5.block g (by rw [HZ4.out]; omega)).trans Y4.out)
  have X5 := hide ((b5.block w.heap.size (by rw [HZ4.out]; omega)).trans X4.out)
  have OS5 := hide (owns_below OS4.out b5)
  have OG5 := hide og5
  have GB5 : Hid (∀ b, vg.ownBlock = some b → g + 1 ≤ b) := fun b hb => by have := (ownS_block og5 b hb).1; rw [HZ4.out] at this; exact this
  have B5 := hide (B4.out.trans (b5.mono B4.out.size))
  obtain ⟨go', gc, rfl⟩ := ownS_shape og5
  clear b5 X4 Y4 B4 HZ4 U4 OS4 og5
  go_wp2_with fail
  refine (eqStringS_own _ _ _ _ l _ HLN.out OG5.out OS5.out).mono ?_
  rintro e w6 ⟨rfl, b6⟩
  have z6 : w5.heap.size ≤ w6.heap.size := b6.size
  have U6 := hide (URow.kept (b6.mono (Nat.le_of_lt z5)) n _ _ _ _ U5.out)
  have Y6 := hide ((b6.block g z5).trans Y5.out)
  have X6 := hide ((b6.block w.heap.size (by omega)).trans X5.out)
  have OS6 := hide (owns_below OS5.out b6)
  have OG6 := hide (owns_below OG5.out b6)
  have B6 := hide (B5.out.trans (b6.mono B5.out.size))
  have z7 : g < w6.heap.size := by omega
  have z8 : w.heap.size < w6.heap.size := by omega
  obtain ⟨y0, y1, y2', yf⟩ := cells3 Y6.out
  obtain ⟨x0, x1, x2, xf⟩ := cells3 X6.out
  have HPL := hide (URow.plain n _ _ _ _ U6.out)
  clear b6 X5 Y5 B5 U5 OS5 OG5 xf yf
  go_wp2
  go_region_held3 (fun W => (W.cell? ⟨g, 0, none⟩ = some (.slice k4 n1 p4) ∧ W.cell? ⟨g, 1, none⟩ = some (.slice v4 n2 q4) ∧ W.cell? ⟨g, 2, none⟩ = some (.slice y4 n3 s4)) ∧ W.cell? ⟨w.heap.size, 0, none⟩ = some (.slice ko n1 kc) ∧ W.cell? ⟨w.heap.size, 1, none⟩ = some (.slice vo n2 vc) ∧ W.cell? ⟨w.heap.size, 2, none⟩ = some (.slice xo n3 xc)) (go_keep) (first | (go_at_call 9; refine (HTO.out HF.out _ B6.out.drew).mono ?_; rintro e w6' ⟨k6, p6, v6, q6, y6, s6, rfl, hr6, hb6⟩; have hb6' : Below w6.heap.size w6 w6' := (Below.refl _ _).drew.trans hb6; obtain ⟨hc6, hf6⟩ := bcell hb6') | (go_at_call 11; refine (HEQ.out _ _ _ _ _ _ _ _ _ _ _ _ _ _ _ _ _ (by have := hb6'.size; omega : g ≤ _) (Nat.le_refl _) HF.out (TrRow.kept (hb6'.mono (Nat.le_of_lt z7)) n _ _ _ _ HPL.out) (URow.plain n _ _ _ _ hr6)).mono ?_; rintro e w7 ⟨rfl, hb7⟩; have hb7' : Below w6.heap.size w6 w7 := hb6'.trans (hb7.mono hb6'.size); obtain ⟨hc7, hf7⟩ := bcell hb7'))
  all_goals
    have b7 := hide hb7'
    clear hb6 hb6' hc6 hf6 hb7 hb7' hc7 hf7 y0 y1 y2' x0 x1 x2 hr6 HEQ HPL
    have U7 := hide (URow.kept (b7.out.mono (Nat.le_of_lt z7)) n _ _ _ _ U6.out)
    have Y7 := hide ((b7.out.block g z7).trans Y6.out)
    have X7 := hide ((b7.out.block w.heap.size z8).trans X6.out)
    have OS7 := hide (owns_below OS6.out b7.out)
    have OG7 := hide (owns_below OG6.out b7.out)
    have B7 := hide (B6.out.trans (b7.out.mono B6.out.size))
    have z9 : w6.heap.size ≤ w7.heap.size := b7.out.size
    clear U6 Y6 X6 OS6 OG6 B6 b7
    obtain ⟨y0, y1, y2', yf⟩ := cells3 Y7.out
    have MC := hide (HMK.out _ _ _ p4 _ q4 _ s4 w7 (show g ≤ w7.heap.size by omega) (by omega) HF.out HC1.out (URow.sh n _ _ _ _ U7.out))
    go_wp2_with fail
    refine MC.out.mono ?_
    rintro e w8 ⟨rfl, m8⟩
    have z10 : w7.heap.size ≤ w8.heap.size := m8.size
    have X8 := hide ((m8.block w.heap.size (by omega) (.inl (by omega))).trans X7.out)
    have OS8 := hide (ownS_mk OS7.out m8 (fun b hb => .inl (SB4.out b hb)))
    have OG8 := hide (ownS_mk OG7.out m8 (fun b hb => .inr (by have := GB5.out b hb; omega)))
    have B8 := hide (B7.out.trans (m8.below (by omega) (by omega)))
    have hk8 : ¬ ((1 + trCnt n t : Nat) : Int) < 0 := by omega
    clear m8 X7 OS7 OG7 B7 U7 Y7 MC HMK y0 y1 y2' yf
    generalize trCnt n t = tc at *
    go_wp2_with fail
    refine (eqStringS_own _ _ _ _ l _ HLN.out OG8.out OS8.out).mono ?_
    rintro e w9 ⟨rfl, b9⟩
    have z11 : w8.heap.size ≤ w9.heap.size := b9.size
    have X9 := hide ((b9.block w.heap.size (by omega)).trans X8.out)
    have OS9 := hide (owns_below OS8.out b9)
    have OG9 := hide (owns_below OG8.out b9)
    have B9 := hide (B8.out.trans (b9.mono B8.out.size))
    clear b9 X8 OS8 OG8 B8
    have MC := hide (markStringS_own _ _ l w9 HLN.out OG9.out)
    go_wp2_with fail
    refine MC.out.mono ?_
    rintro e w10 ⟨rfl, mk10, g10⟩
    have z12 : w9.heap.size ≤ w10.heap.size := g10.size
    have NE : Hid ((Value.slice go' l.length gc).ownBlock ≠ some w.heap.size) := fun hb => by have := GB5.out _ hb; omega
    have X10 := hide ((g10.block w.heap.size (by omega) (fun e => NE.out e.symm)).trans X9.out)
    have OS10 := hide (ownS_grown OS9.out g10 (fun b hb he => by have h1 := SB4.out b hb; have h2 := GB5.out b he; omega))
    have MK10 := hide mk10
    have B10 := hide (B9.out.grown g10 (by omega) (fun b hb => by have := GB5.out b hb; omega))
    clear mk10 g10 X9 OS9 OG9 B9 MC NE
    have HC := hide (heldStringS_own _ l.length w10 HLN.out MK10.out)
    generalize hm : 1 + l.length = ml at *
    go_wp2_with fail
    refine HC.out.mono ?_
    rintro e w11 ⟨rfl, b11⟩
    have z13 : w10.heap.size ≤ w11.heap.size := b11.size
    have X11 := hide ((b11.block w.heap.size (by omega)).trans X10.out)
    have OS11 := hide (owns_below OS10.out b11)
    have MK11 := hide (MK10.out.kept b11)
    have B11 := hide (B10.out.trans (b11.mono B10.out.size))
    have hm0 : ¬ ((ml : Nat) : Int) < 0 := by omega
    clear b11 X10 OS10 MK10 B10 HC
    obtain ⟨x0, x1, x2, xf⟩ := cells3 X11.out
    go_wp2_with fail
    refine (HTO.out HF.out _ B11.out).mono ?_
    rintro e w12 ⟨k12, p12, v12, q12, y12, s12, rfl, r12, b12⟩
    have R12 := hide (URow.plain n _ _ _ _ r12)
    have OS12 := hide (owns_below OS11.out b12)
    have MK12 := hide (MK11.out.kept b12)
    have B12 := hide (B11.out.trans (b12.mono B11.out.size))
    clear r12 b12 X11 OS11 MK11 B11 x0 x1 x2 xf
    go_wp2_with fail
    refine (HIM.out _ _ _ _ _ _ _ _ _ (Nat.le_refl _) R12.out).mono ?_
    rintro e w13 ⟨vh, rfl, oh13, b13⟩
    have OH13 := hide oh13
    have OS13 := hide (owns_below OS12.out b13)
    have MK13 := hide (MK12.out.kept b13)
    have B13 := hide (B12.out.trans (b13.mono B12.out.size))
    obtain ⟨ho, hc, rfl⟩ := ownS_shape oh13
    clear b13 OS12 MK12 B12 R12 oh13 HIM HTO
    go_wp2_with fail
    refine (eqStringS_own _ _ _ _ l _ HLN.out OH13.out OS13.out).mono ?_
    rintro e w14 ⟨rfl, b14⟩
    have MK14 := hide (MK13.out.kept b14)
    have B14 := hide (B13.out.trans (b14.mono B13.out.size))
    clear b14 OS13 OH13 MK13 B13
    have HC := hide (heldStringS_own _ l.length w14 HLN.out MK14.out)
    rw [hm] at HC
    go_wp2_with fail
    refine HC.out.mono ?_
    rintro e w15 ⟨rfl, b15⟩
    have B15 := hide (B14.out.trans (b15.mono B14.out.size))
    clear b15 MK14 B14 HC
    go_wp2
    go_ret
    exact ⟨rfl, B15.out⟩
end Go.Proofs.Ytffgobkgkhmeoaa
