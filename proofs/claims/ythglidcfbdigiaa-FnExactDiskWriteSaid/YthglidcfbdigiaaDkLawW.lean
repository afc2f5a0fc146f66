/-
  The law on DiskWrite, out of the contracts.
-/
import Derived.Test.YthglidcfbdigiaaDkWrI
import Derived.Test.YthglidcfbdigiaaDkWrS2
import Derived.Test.YthglidcfbdigiaaDkOut
import Derived.Test.YthglidcfbdigiaaDkRead
import Derived.Test.YthglidcfbdigiaaRdInt
import Derived.ChangeMaps5
namespace Go.Proofs.Ythglidcfbdigiaa
open Go.RowKit
set_option maxRecDepth 100000

theorem rdStrA {H : Type} {enc : TypeId × Value → H} {W : World} {base : Nat} {v : Value} {d : DataW H} {p : List MemPlace} (hv : Value.okWide Try.prog W .any base 9 v) (h : DataW.Trod enc Try.prog W 0 (fun _ => true) true 9 v d p) : ∃ s : ByteArray, v = .string s := by
  obtain ⟨s, e, _⟩ := Go.ChangeMaps.open_string Try.underlying9 hv h
  exact ⟨s, e⟩
set_option maxHeartbeats 8000000 in
theorem lawDiskWrite (v0 : Value) (v1 v2 : Value) (w : World) (h0 : IsDisk w v0) (h1 : ∃ n : Int, v1 = .int .i64 n ∧ wI64 n) (h2 : ∃ t : ByteArray, v2 = .string t) :
    Calls Try.prog 5 #[v0, v1, v2] w fun e w' => e = .returned (.bool true) ∧ Below w.heap.size w w' := by
  obtain ⟨so, p, co, q, d, rfl, hr⟩ := h0
  obtain ⟨a, rfl, ha⟩ := h1
  obtain ⟨t, rfl⟩ := h2
  have HIN := hide hr.inn
  have HSZ := hide (fun (W : World) (hb : Below w.heap.size w W) => szDisk_any 0 w.heap.size so p co q d 1048576 W hb.size (hr.kept hb) (by omega) (by omega))
  have HTO := hide (fun (hf : dkFits d) (W : World) (hb : Below w.heap.size w W) => toDisk_own 0 w.heap.size so p co q d W hb.size hf (hr.kept hb))
  obtain ⟨n1, hn1⟩ : ∃ n, n = d.secs.length := ⟨_, rfl⟩
  obtain ⟨n2, hn2⟩ : ∃ n, n = d.cache.length := ⟨_, rfl⟩
  have HN := hide (And.intro hn1 hn2)
  rw [← hn1, ← hn2] at HSZ HTO ⊢
  have X0 := hide (heap_alloc_new w (.cells #[.slice so n1 p, .slice co n2 q] 45))
  have B0 := hide ((Below.refl w.heap.size w).alloc (Nat.le_refl _) (.cells #[.slice so n1 p, .slice co n2 q] 45))
  clear hr hn1 hn2
  by_cases hl : 1048576 < t.size
  · have e1 : 1048576 < (t.size : Int) := by omega
    clear HSZ HTO HIN
    go_enter Try.func5, Try.ntmps5
    go_wp2
    go_ret
    exact ⟨rfl, B0.out⟩
  have e1 : ¬ 1048576 < (t.size : Int) := by omega
  have ht : t.size ≤ 1048576 := by omega
  clear hl
  go_enter Try.func5, Try.ntmps5
  go_wp2_with fail
  refine (HSZ.out _ B0.out).mono ?_
  generalize hW : w.alloc (.cells #[.slice so n1 p, .slice co n2 q] 45) = W0 at *
  clear hW
  rintro e w1 ⟨r, rfl, hr1, hcase, b1⟩
  have X1 := hide ((b1.block w.heap.size (blk_lt X0.out)).trans X0.out)
  have B1 := hide (B0.out.trans (b1.mono B0.out.size))
  clear b1 X0 B0 HSZ
  obtain ⟨x0, x1, xf⟩ := cells2 X1.out
  rcases hcase with hneg | ⟨hr0, hfit⟩
  · go_wp2
    go_ret
    exact ⟨rfl, B1.out⟩
  have HFIT := hfit
  have HTOF := hide (fun (W : World) (hb : Below w.heap.size w W) => HTO.out hfit W hb)
  have HSP := hide (fun (b : Nat) (s c : Value) (W : World) (h : OwnD b s c d W) => specDiskWrite_any _ _ _ d a t W HIN.out HFIT ha h)
  have HIM := hide (fun (b : Nat) (s c : Value) (W : World) (h : OwnD b s c d W) => implDiskWrite_any _ _ _ d a t W HIN.out HFIT ht h)
  have HF2 : dkFits (dkWrite d a t).1 := dkWrite_fits a t HFIT
  have HEQD := hide (fun (b1 b2 : Nat) (s c s' c' : Value) (W : World) (h : OwnD b1 s c d W) (h' : OwnD b2 s' c' d W) => eqDisk_own b1 b2 s c s' c' d W hfit h h')
  have HMKD := hide (fun (b : Nat) (s c : Value) (W : World) (h : OwnD b s c d W) => markDisk_own b s c d W hfit h)
  generalize (dkWrite d a t) = R at *
  obtain ⟨D, K⟩ := R
  simp only at HF2 HSP HIM
  have HEQ := hide (fun (b1 b2 : Nat) (s c s' c' : Value) (W : World) (h : OwnD b1 s c D W) (h' : OwnD b2 s' c' D W) => eqDiskOut_own b1 b2 s c s' c' ⟨#[]⟩ K D W HF2 h h')
  have HMK := hide (fun (b : Nat) (s c : Value) (W : World) (h : OwnD b s c D W) => markDiskOut_own b s c ⟨#[]⟩ K D W HF2 h)
  have HHL := hide (fun (b : Nat) (s c : Value) (W : World) (h : OwnD b s c (mDk D) W) => heldDiskOut_own b s c ⟨#[]⟩ K D W HF2 h)
  obtain ⟨k1, hk1⟩ : ∃ n, n = D.secs.length := ⟨_, rfl⟩
  obtain ⟨k2, hk2⟩ : ∃ n, n = D.cache.length := ⟨_, rfl⟩
  have HK := hide (And.intro hk1 hk2)
  generalize hcd : cntD d = cd at *
  generalize hcD : cntD D = cD at *
  have hcd0 : ¬ (cd : Int) < 0 := by omega
  have hcD0 : ¬ (cD : Int) < 0 := by omega
  clear hfit HFIT HTO hk1 hk2 hcd hcD HF2 HIN
  have X_1 := X1
  have B_1 := B1
  clear X1 B1
  go_wp2_with fail
  refine (HTOF.out _ B_1.out).mono ?_
  rintro e w2 ⟨s2, c2, rfl, oa, b⟩
  obtain ⟨so2, p2, co2, q2, rfl, rfl⟩ := oa.shape
  rw [← HN.out.1, ← HN.out.2] at oa ⊢
  have X_2 := hide ((b.block _ (blk_lt X_1.out)).trans X_1.out)
  have B_2 := hide (B_1.out.trans (b.mono B_1.out.size))
  have A_2 := hide oa
  clear X_1 B_1 oa b x0 x1 xf
  go_wp2_with fail
  refine (HSP.out _ _ _ _ A_2.out).mono ?_
  rintro e w3 ⟨s3, c3, rfl, o3, b⟩
  obtain ⟨so3, p3, co3, q3, rfl, rfl⟩ := o3.shape
  rw [← HK.out.1, ← HK.out.2] at o3 ⊢
  have BA := (Below.refl w3.heap.size w3).alloc (Nat.le_refl _) (.cells #[.slice so3 k1 p3, .slice co3 k2 q3, .string ⟨#[]⟩, .int .i64 K] 30)
  have hLW : ∀ v ∈ [(.slice so3 k1 p3 : Value), .slice co3 k2 q3], ∀ b, v.ownBlock = some b → 0 ≤ b ∧ b < w3.heap.size := o3.two (Nat.zero_le _) (Nat.le_refl _)
  have LW := hide hLW
  clear hLW
  have b' := b
  have bt : Below w2.heap.size w2 (w3.alloc _) := b'.trans (BA.mono b'.size)
  have X_3 := hide ((bt.block _ (blk_lt X_2.out)).trans X_2.out)
  have B_3 := hide (B_2.out.trans (bt.mono B_2.out.size))
  have OW_3 := hide ((o3.below BA).base (Nat.zero_le _))
  have BW_3 := hide (heap_alloc_new w3 (.cells #[.slice so3 k1 p3, .slice co3 k2 q3, .string ⟨#[]⟩, .int .i64 K] 30))
  have ZX : Hid (w.heap.size < w3.heap.size + 1) := by have h1 := blk_lt X_2.out; have h2 := b'.size; show _ < _; omega
  have Z : Hid (w3.heap.size < (w3.alloc (.cells #[.slice so3 k1 p3, .slice co3 k2 q3, .string ⟨#[]⟩, .int .i64 K] 30)).heap.size) := by show _ < _; simp
  clear X_2 A_2 B_2 b b' bt BA o3 HSP
  obtain ⟨x0, x1, xf⟩ := cells2 X_3.out
  go_wp2_with fail
  refine (HTOF.out _ B_3.out).mono ?_
  generalize w3.alloc (.cells #[.slice so3 k1 p3, .slice co3 k2 q3, .string ⟨#[]⟩, .int .i64 K] 30) = W3 at *
  generalize w3.heap.size = g8 at *
  rintro e w4 ⟨s4, c4, rfl, o4, b⟩
  obtain ⟨so4, p4, co4, q4, rfl, rfl⟩ := o4.shape
  rw [← HN.out.1, ← HN.out.2] at o4 ⊢
  have BA := (Below.refl w4.heap.size w4).alloc (Nat.le_refl _) (.cells #[.slice so4 n1 p4, .slice co4 n2 q4] 26)
  have LX := hide (o4.two (show g8 + 1 ≤ _ from Z.out) (Nat.le_refl _))
  have b' := b
  have bt : Below W3.heap.size W3 (w4.alloc _) := b'.trans (BA.mono b'.size)
  have X_4 := hide ((bt.block _ (blk_lt X_3.out)).trans X_3.out)
  have BW_4 := hide ((bt.block _ (blk_lt BW_3.out)).trans BW_3.out)
  have OW_4 := hide (OW_3.out.below bt)
  have B_4 := hide (B_3.out.trans (bt.mono B_3.out.size))
  have OX_4 := hide ((o4.below BA).base (Nat.zero_le _))
  have BX_4 := hide (heap_alloc_new w4 (.cells #[.slice so4 n1 p4, .slice co4 n2 q4] 26))
  have Z4 : Hid (g8 < w4.heap.size) := Nat.lt_of_lt_of_le Z.out b'.size
  have Z5 : Hid (w4.heap.size < (w4.alloc (.cells #[.slice so4 n1 p4, .slice co4 n2 q4] 26)).heap.size) := by show _ < _; simp
  clear X_3 BW_3 OW_3 B_3 b b' bt BA o4 Z x0 x1 xf
  have C := hide (HIM.out _ _ _ _ OX_4.out)
  obtain ⟨y0, y1, yf⟩ := cells2 BX_4.out
  go_wp2_with fail
  refine C.out.mono ?_
  clear C
  generalize w4.alloc (.cells #[.slice so4 n1 p4, .slice co4 n2 q4] 26) = W4 at *
  generalize w4.heap.size = g9 at *
  rintro e w5 ⟨s5, c5, rfl, o5, b⟩
  obtain ⟨so5, p5, co5, q5, rfl, rfl⟩ := o5.shape
  rw [← HK.out.1, ← HK.out.2] at o5 ⊢
  have BA := (Below.refl w5.heap.size w5).alloc (Nat.le_refl _) (.cells #[.slice so5 k1 p5, .slice co5 k2 q5, .string ⟨#[]⟩, .int .i64 K] 30)
  have LG := hide (o5.two (show g9 + 1 ≤ _ from Z5.out) (Nat.le_refl _))
  have b' := b
  have bt : Below W4.heap.size W4 (w5.alloc _) := b'.trans (BA.mono b'.size)
  have X_5 := hide ((bt.block _ (blk_lt X_4.out)).trans X_4.out)
  have BW_5 := hide ((bt.block _ (blk_lt BW_4.out)).trans BW_4.out)
  have BX_5 := hide ((bt.block _ (blk_lt BX_4.out)).trans BX_4.out)
  have OW_5 := hide (OW_4.out.below bt)
  have OX_5 := hide (OX_4.out.below bt)
  have B_5 := hide (B_4.out.trans (bt.mono B_4.out.size))
  have OG_5 := hide ((o5.below BA).base (Nat.zero_le _))
  have BG_5 := hide (heap_alloc_new w5 (.cells #[.slice so5 k1 p5, .slice co5 k2 q5, .string ⟨#[]⟩, .int .i64 K] 30))
  have Z6 : Hid (g9 < w5.heap.size) := Nat.lt_of_lt_of_le Z5.out b'.size
  clear X_4 BW_4 BX_4 OW_4 OX_4 B_4 b b' bt BA o5 Z5 y0 y1 yf
  have C := hide (HEQ.out _ _ _ _ _ _ _ OG_5.out OW_5.out)
  obtain ⟨y0, y1, y2, y3, yf⟩ := cells4 BW_5.out
  go_wp2_with fail
  refine C.out.mono ?_
  clear C
  generalize w5.alloc (.cells #[.slice so5 k1 p5, .slice co5 k2 q5, .string ⟨#[]⟩, .int .i64 K] 30) = W5 at *
  generalize w5.heap.size = g10 at *
  rintro e w6 ⟨rfl, b⟩
  have X_6 := hide ((b.block _ (blk_lt X_5.out)).trans X_5.out)
  have BW_6 := hide ((b.block _ (blk_lt BW_5.out)).trans BW_5.out)
  have BX_6 := hide ((b.block _ (blk_lt BX_5.out)).trans BX_5.out)
  have BG_6 := hide ((b.block _ (blk_lt BG_5.out)).trans BG_5.out)
  have OW_6 := hide (OW_5.out.below b)
  have OX_6 := hide (OX_5.out.below b)
  have OG_6 := hide (OG_5.out.below b)
  have B_6 := hide (B_5.out.trans (b.mono B_5.out.size))
  clear X_5 BW_5 BX_5 BG_5 OW_5 OX_5 OG_5 B_5 b y0 y1 y2 y3 yf
  obtain ⟨x0, x1, xf⟩ := cells2 X_6.out
  obtain ⟨y0, y1, yf⟩ := cells2 BX_6.out
  have zx := hide (blk_lt X_6.out)
  have zb := hide (blk_lt BX_6.out)
  have zx' : w.heap.size < w6.heap.size := zx.out
  have zb' : g9 < w6.heap.size := zb.out
  have HEQR := hide (fun (s' c' : Value) (b2 : Nat) (W : World) (hb : Below w6.heap.size w6 W) (h' : OwnD b2 s' c' d W) => HEQD.out _ _ _ _ s' c' W (OX_6.out.below hb) h')
  clear xf yf
  go_wp2
  go_region_held3 (fun W => (W.cell? ⟨g9, 0, none⟩ = some (.slice so4 n1 p4) ∧ W.cell? ⟨g9, 1, none⟩ = some (.slice co4 n2 q4)) ∧ W.cell? ⟨w.heap.size, 0, none⟩ = some (.slice so n1 p) ∧ W.cell? ⟨w.heap.size, 1, none⟩ = some (.slice co n2 q)) (go_keep) (first | (go_at_call 24; refine (HTOF.out _ B_6.out.drew).mono ?_; rintro e w7 ⟨s7, c7, rfl, o7, hb7⟩; obtain ⟨so7, p7, co7, q7, rfl, rfl⟩ := o7.shape; rw [← HN.out.1, ← HN.out.2] at o7 ⊢; have hb7' : Below w6.heap.size w6 w7 := (Below.refl _ _).drew.trans hb7; obtain ⟨hc7, hf7⟩ := bcell hb7') | (go_at_call 20; refine (HEQR.out _ _ _ _ hb7' o7).mono ?_; rintro e w8 ⟨rfl, hb8⟩; have b : Below w6.heap.size w6 w8 := hb7'.trans (hb8.mono hb7'.size); obtain ⟨hc8, hf8⟩ := bcell b))
  all_goals
    have X_8 := hide ((b.block _ (blk_lt X_6.out)).trans X_6.out)
    have BW_8 := hide ((b.block _ (blk_lt BW_6.out)).trans BW_6.out)
    have BX_8 := hide ((b.block _ (blk_lt BX_6.out)).trans BX_6.out)
    have BG_8 := hide ((b.block _ (blk_lt BG_6.out)).trans BG_6.out)
    have OW_8 := hide (OW_6.out.below b)
    have OX_8 := hide (OX_6.out.below b)
    have OG_8 := hide (OG_6.out.below b)
    have B_8 := hide (B_6.out.trans (b.mono B_6.out.size))
    clear X_6 BW_6 BX_6 BG_6 OW_6 OX_6 OG_6 B_6 b hb7 hb7' hc7 hf7 hb8 hc8 hf8 x0 x1 y0 y1 o7 HEQR HEQD zx zb zx' zb'
    have C := hide (HMKD.out _ _ _ _ OX_8.out)
    obtain ⟨y0, y1, yf⟩ := cells2 BX_8.out
    go_wp2_with fail
    refine C.out.mono ?_
    rintro e w9 ⟨rfl, o, l⟩
    have Z8 := Z4.out
    have Z9 := Z6.out
    have X_9 := hide (l.blk X_8.out LX.out (.inl ZX.out))
    have BW_9 := hide (l.blk BW_8.out LX.out (.inl (Nat.lt_succ_self _)))
    have BG_9 := hide (l.blk BG_8.out LX.out (.inr (by omega)))
    have OW_9 := hide (l.ownD OW_8.out LX.out (fun b hb => .inl (by have := (LW.out _ (by simp) b hb).2; omega)) (fun b hb => .inl (by have := (LW.out _ (by simp) b hb).2; omega)))
    have OG_9 := hide (l.ownD OG_8.out LX.out (fun b hb => .inr (by have := (LG.out _ (by simp) b hb).1; omega)) (fun b hb => .inr (by have := (LG.out _ (by simp) b hb).1; omega)))
    have B_9 := hide (B_8.out.trans (l.bel LX.out (Nat.le_of_lt ZX.out) B_8.out.size))
    clear X_8 BW_8 BX_8 BG_8 OW_8 OX_8 OG_8 B_8 o l C y0 y1 yf
    have C := hide (HEQ.out _ _ _ _ _ _ _ OG_9.out OW_9.out)
    obtain ⟨y0, y1, y2, y3, yf⟩ := cells4 BW_9.out
    obtain ⟨z0, z1, z2, z3, zf⟩ := cells4 BG_9.out
    go_wp2_with fail
    refine C.out.mono ?_
    rintro e w10 ⟨rfl, b⟩
    clear C
    have X_10 := hide ((b.block _ (blk_lt X_9.out)).trans X_9.out)
    have BW_10 := hide ((b.block _ (blk_lt BW_9.out)).trans BW_9.out)
    have BG_10 := hide ((b.block _ (blk_lt BG_9.out)).trans BG_9.out)
    have OW_10 := hide (OW_9.out.below b)
    have OG_10 := hide (OG_9.out.below b)
    have B_10 := hide (B_9.out.trans (b.mono B_9.out.size))
    clear X_9 BW_9 BG_9 OW_9 OG_9 B_9 b y0 y1 y2 y3 yf z0 z1 z2 z3 zf
    have C := hide (HMK.out _ _ _ _ OG_10.out)
    obtain ⟨z0, z1, z2, z3, zf⟩ := cells4 BG_10.out
    go_wp2_with fail
    refine C.out.mono ?_
    rintro e w11 ⟨rfl, o, l⟩
    clear C
    have X_11 := hide (l.blk X_10.out LG.out (.inl (by have := ZX.out; omega)))
    have BW_11 := hide (l.blk BW_10.out LG.out (.inl (by omega)))
    have BG_11 := hide (l.blk BG_10.out LG.out (.inr (Nat.le_refl _)))
    have OW_11 := hide (l.ownD OW_10.out LG.out (fun b hb => .inl (by have := (LW.out _ (by simp) b hb).2; omega)) (fun b hb => .inl (by have := (LW.out _ (by simp) b hb).2; omega)))
    have OG_11 := hide o
    have B_11 := hide (B_10.out.trans (l.bel LG.out (by have := ZX.out; omega) B_10.out.size))
    clear X_10 BW_10 BG_10 OW_10 OG_10 B_10 o l z0 z1 z2 z3 zf
    have C := hide (HHL.out _ _ _ _ OG_11.out)
    obtain ⟨z0, z1, z2, z3, zf⟩ := cells4 BG_11.out
    go_wp2_with fail
    refine C.out.mono ?_
    rintro e w12 ⟨rfl, b⟩
    clear C
    have X_12 := hide ((b.block _ (blk_lt X_11.out)).trans X_11.out)
    have BW_12 := hide ((b.block _ (blk_lt BW_11.out)).trans BW_11.out)
    have BG_12 := hide ((b.block _ (blk_lt BG_11.out)).trans BG_11.out)
    have OW_12 := hide (OW_11.out.below b)
    have OG_12 := hide (OG_11.out.below b)
    have B_12 := hide (B_11.out.trans (b.mono B_11.out.size))
    clear X_11 BW_11 BG_11 OW_11 OG_11 B_11 b z0 z1 z2 z3 zf
    obtain ⟨x0, x1, xf⟩ := cells2 X_12.out
    go_wp2_with fail
    refine (HTOF.out _ B_12.out).mono ?_
    rintro e w13 ⟨s13, c13, rfl, oa, b⟩
    obtain ⟨so13, p13, co13, q13, rfl, rfl⟩ := oa.shape
    rw [← HN.out.1, ← HN.out.2] at oa ⊢
    have X_13 := hide ((b.block _ (blk_lt X_12.out)).trans X_12.out)
    have BW_13 := hide ((b.block _ (blk_lt BW_12.out)).trans BW_12.out)
    have BG_13 := hide ((b.block _ (blk_lt BG_12.out)).trans BG_12.out)
    have OW_13 := hide (OW_12.out.below b)
    have OG_13 := hide (OG_12.out.below b)
    have B_13 := hide (B_12.out.trans (b.mono B_12.out.size))
    have C := hide (HIM.out _ _ _ _ oa)
    clear X_12 BW_12 BG_12 OW_12 OG_12 B_12 oa b x0 x1 xf
    go_wp2_with fail
    refine C.out.mono ?_
    rintro e w14 ⟨s14, c14, rfl, o14, b⟩
    clear C
    obtain ⟨so14, p14, co14, q14, rfl, rfl⟩ := o14.shape
    rw [← HK.out.1, ← HK.out.2] at o14 ⊢
    have BA := (Below.refl w14.heap.size w14).alloc (Nat.le_refl _) (.cells #[.slice so14 k1 p14, .slice co14 k2 q14, .string ⟨#[]⟩, .int .i64 K] 30)
    have b' := b
    have bt : Below w13.heap.size w13 (w14.alloc _) := b'.trans (BA.mono b'.size)
    have X_14 := hide ((bt.block _ (blk_lt X_13.out)).trans X_13.out)
    have BW_14 := hide ((bt.block _ (blk_lt BW_13.out)).trans BW_13.out)
    have BG_14 := hide ((bt.block _ (blk_lt BG_13.out)).trans BG_13.out)
    have OW_14 := hide (OW_13.out.below bt)
    have OG_14 := hide (OG_13.out.below bt)
    have B_14 := hide (B_13.out.trans (bt.mono B_13.out.size))
    have C := hide (HEQ.out _ _ _ _ _ _ _ (o14.below BA) OW_14.out)
    clear X_13 BW_13 BG_13 OW_13 OG_13 B_13 b b' bt BA o14
    obtain ⟨y0, y1, y2, y3, yf⟩ := cells4 BW_14.out
    go_wp2_with fail
    refine C.out.mono ?_
    generalize w14.alloc (.cells #[.slice so14 k1 p14, .slice co14 k2 q14, .string ⟨#[]⟩, .int .i64 K] 30) = W14 at *
    rintro e w15 ⟨rfl, b⟩
    clear C
    have BG_15 := hide ((b.block _ (blk_lt BG_14.out)).trans BG_14.out)
    have OG_15 := hide (OG_14.out.below b)
    have B_15 := hide (B_14.out.trans (b.mono B_14.out.size))
    clear X_14 BW_14 BG_14 OW_14 OG_14 B_14 b y0 y1 y2 y3 yf
    have C := hide (HHL.out _ _ _ _ OG_15.out)
    obtain ⟨z0, z1, z2, z3, zf⟩ := cells4 BG_15.out
    go_wp2_with fail
    refine C.out.mono ?_
    rintro e w16 ⟨rfl, b⟩
    clear C
    have B_16 := hide (B_15.out.trans (b.mono B_15.out.size))
    clear BG_15 OG_15 B_15 b z0 z1 z2 z3 zf
    go_wp2
    go_ret
    exact ⟨rfl, B_16.out⟩
end Go.Proofs.Ythglidcfbdigiaa
