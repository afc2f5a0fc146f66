/-
  Contracts: TreeGet, of the program and of the specification: the whole.
-/
import Derived.Test.YtcjcjchpdgaobaaTrGet3
namespace Go.Proofs.Ytcjcjchpdgaobaa
open Go.RowKit
set_option maxRecDepth 100000

set_option maxHeartbeats 2000000 in
theorem implTreeGet_any (A B n : Nat) (ko : Option Addr) (kc : Nat) (vo : Option Addr) (vc : Nat) (xo : Option Addr) (xc : Nat) (t : Tr) (key : ByteArray) (w : World) (hB : B ≤ w.heap.size) (hr : TrRow w A B n t ko vo xo) :
    Calls Try.prog 17 #[.agg #[.slice ko t.keys.length kc, .slice vo t.vals.length vc, .slice xo t.kids.length xc], .string key] w fun e w' => e = .returned (.agg #[.string (getOut t key).1, .int .i64 (getOut t key).2]) ∧ Below w.heap.size w w' := by
  have HA := hide (two_allocs w (.cells #[.slice ko t.keys.length kc, .slice vo t.vals.length vc, .slice xo t.kids.length xc] 26) (.cells #[.string ⟨#[]⟩, .int .i64 0] 33))
  have B0 := hide (((Below.refl w.heap.size w).alloc (Nat.le_refl _) (.cells #[.slice ko t.keys.length kc, .slice vo t.vals.length vc, .slice xo t.kids.length xc] 26)).alloc (by simp) (.cells #[.string ⟨#[]⟩, .int .i64 0] 33))
  have HT := hide (fun (W : World) (hW : Below w.heap.size w W) => implTreeRight_any A B n ko kc vo vc xo xc t W (Nat.le_trans hB hW.size) (TrRow.kept (hW.mono hB) n _ _ _ _ hr))
  have HAT : Hid (TrAt ((w.alloc (.cells #[.slice ko t.keys.length kc, .slice vo t.vals.length vc, .slice xo t.kids.length xc] 26)).alloc (.cells #[.string ⟨#[]⟩, .int .i64 0] 33)) A (w.heap.size + 1) n t w.heap.size 0) := by
    have h1 := box_tr kc vc xc 26 hB hr
    have h2 : (w.alloc (.cells #[.slice ko t.keys.length kc, .slice vo t.vals.length vc, .slice xo t.kids.length xc] 26)).heap.size = w.heap.size + 1 := by simp
    rw [h2] at h1
    exact h1.kept ((Below.refl _ _).alloc (by rw [h2]; exact Nat.le_refl _) _)
  clear hr
  by_cases hl : 20000 < key.size
  · have HE := hide (getOut_long (t := t) hl)
    have HTL := hide (fun W => tooLong_yes key hl W)
    clear hl HT
    go_enter Try.func17, Try.ntmps17
    go_wp2_with fail
    refine (HTL.out _).mono ?_
    rintro e w1 ⟨rfl, rfl⟩
    go_wp2
    refine bodyPost_ret (v := .agg #[.string ⟨#[]⟩, .int .i64 2]) (resTO Try.results17 _ _ (w.heap.size + 1) _ _ rfl ((two_allocs w _ _).2.1)) rfl ⟨by rw [HE.out], ((Below.refl w.heap.size w).alloc (Nat.le_refl _) _).alloc (by simp) _⟩
  have HTL := hide (fun W => tooLong_no key (by omega) W)
  cases hq : (trLev t).isSome with
  | false =>
    rw [hq] at HT
    have HE := hide (getOut_bad hl hq)
    clear hl hq
    go_enter Try.func17, Try.ntmps17
    go_wp2_with fail
    refine (HTL.out _).mono ?_
    rintro e w1 ⟨rfl, rfl⟩
    go_wp2_with fail
    refine (HT.out _ B0.out).mono ?_
    generalize (w.alloc (.cells #[.slice ko t.keys.length kc, .slice vo t.vals.length vc, .slice xo t.kids.length xc] 26)).alloc (.cells #[.string ⟨#[]⟩, .int .i64 0] 33) = W0 at *
    rintro e w1 ⟨rfl, b1⟩
    obtain ⟨hx, hy, hz⟩ := HA.out
    have Y1 := hide ((b1.block (w.heap.size + 1) (by omega)).trans hy)
    have B1 := hide (B0.out.trans (b1.mono B0.out.size))
    obtain ⟨y0, y1, yf⟩ := cellsO2 Y1.out
    clear b1 B0 HA hx hy hz HT
    go_wp2
    refine bodyPost_ret (v := .agg #[.string ⟨#[]⟩, .int .i64 1]) (resTO Try.results17 _ _ (w.heap.size + 1) _ _ rfl (setO2 Y1.out)) rfl ⟨by rw [HE.out], (B1.out.setCell (by simp) _).setCell (by simp) _⟩
  | true =>
    rw [hq] at HT
    obtain ⟨d, hd11, hdp, hok⟩ := right_ok hq
    have HDP := hide hdp
    have HQ := hide hq
    have HL := hide hl
    have HOK := hide hok
    clear hl hq hdp hok
    go_enter Try.func17, Try.ntmps17
    go_wp2_with fail
    refine (HTL.out _).mono ?_
    rintro e w1 ⟨rfl, rfl⟩
    go_wp2_with fail
    refine (HT.out _ B0.out).mono ?_
    generalize (w.alloc (.cells #[.slice ko t.keys.length kc, .slice vo t.vals.length vc, .slice xo t.kids.length xc] 26)).alloc (.cells #[.string ⟨#[]⟩, .int .i64 0] 33) = W0 at *
    rintro e w1 ⟨rfl, b1⟩
    obtain ⟨hx, hy, hz⟩ := HA.out
    have Y1 := hide ((b1.block (w.heap.size + 1) (by omega)).trans hy)
    have B1 := hide (B0.out.trans (b1.mono B0.out.size))
    have hz1 : w.heap.size + 2 ≤ w1.heap.size := by have := b1.size; omega
    have HFK := hide (findKey_any A (w.heap.size + 1) n d t w.heap.size 0 key w1 (by omega) (HAT.out.kept (b1.mono (by omega))) hd11 HOK.out)
    obtain ⟨y0, y1, yf⟩ := cellsO2 Y1.out
    clear b1 B0 HA hx hy hz HT HAT HOK
    go_wp2_with fail
    refine HFK.out.mono ?_
    rintro e w2 ⟨hfp, rfl⟩
    rcases hfp with ⟨hn, rfl⟩ | ⟨v, hv, g', o', p, b, off, vn, vc', rfl, hpv, hvn, c1, c2⟩
    · have HE := hide (getOut_none HL.out HQ.out (by rw [HDP.out]; exact hn))
      clear hn HFK
      go_wp2
      refine bodyPost_ret (v := .agg #[.string ⟨#[]⟩, .int .i64 8]) (resTO Try.results17 _ _ (w.heap.size + 1) _ _ rfl (setO2 Y1.out)) rfl ⟨by rw [HE.out], (B1.out.setCell (by simp) _).setCell (by simp) _⟩
    · have HE := hide (getOut_some HL.out HQ.out (by rw [HDP.out]; exact hv))
      clear hv HFK
      go_wp2
      refine bodyPost_ret (v := .agg #[.string v, .int .i64 0]) (resTO Try.results17 _ _ (w.heap.size + 1) _ _ rfl (setO2 Y1.out)) rfl ⟨by rw [HE.out], (B1.out.setCell (by simp) _).setCell (by simp) _⟩
set_option maxHeartbeats 2000000 in
theorem specTreeGet_any (A B n : Nat) (ko : Option Addr) (kc : Nat) (vo : Option Addr) (vc : Nat) (xo : Option Addr) (xc : Nat) (t : Tr) (key : ByteArray) (w : World) (hB : B ≤ w.heap.size) (hr : TrRow w A B n t ko vo xo) :
    Calls Try.prog 24 #[.agg #[.slice ko t.keys.length kc, .slice vo t.vals.length vc, .slice xo t.kids.length xc], .string key] w fun e w' => e = .returned (.agg #[.string (getOut t key).1, .int .i64 (getOut t key).2]) ∧ Below w.heap.size w w' := by
  have HA := hide (two_allocs w (.cells #[.slice ko t.keys.length kc, .slice vo t.vals.length vc, .slice xo t.kids.length xc] 26) (.cells #[.string ⟨#[]⟩, .int .i64 0] 33))
  have B0 := hide (((Below.refl w.heap.size w).alloc (Nat.le_refl _) (.cells #[.slice ko t.keys.length kc, .slice vo t.vals.length vc, .slice xo t.kids.length xc] 26)).alloc (by simp) (.cells #[.string ⟨#[]⟩, .int .i64 0] 33))
  have HT := hide (fun (W : World) (hW : Below w.heap.size w W) => specTreeRight_any A B n ko kc vo vc xo xc t W (Nat.le_trans hB hW.size) (TrRow.kept (hW.mono hB) n _ _ _ _ hr))
  have HG := hide (fun (d : Nat) (hd : d ≤ 11) (ho : okS (d + 1) true t none none = true) (W : World) (hW : Below w.heap.size w W) => l04Get_any A B n d ko kc vo vc xo xc t key W (Nat.le_trans hB hW.size) (TrRow.kept (hW.mono hB) n _ _ _ _ hr) hd ho)
  clear hr
  by_cases hl : 20000 < key.size
  · have HE := hide (getOut_long (t := t) hl)
    have e1 : 20000 < (key.size : Int) := by omega
    clear hl HT
    go_enter Try.func24, Try.ntmps24
    go_wp2
    refine bodyPost_ret (v := .agg #[.string ⟨#[]⟩, .int .i64 2]) (resTO Try.results24 _ _ (w.heap.size + 1) _ _ rfl ((two_allocs w _ _).2.1)) rfl ⟨by rw [HE.out], ((Below.refl w.heap.size w).alloc (Nat.le_refl _) _).alloc (by simp) _⟩
  have e1 : ¬ 20000 < (key.size : Int) := by omega
  cases hq : (trLev t).isSome with
  | false =>
    rw [hq] at HT
    have HE := hide (getOut_bad hl hq)
    clear hl hq
    go_enter Try.func24, Try.ntmps24
    go_wp2_with fail
    refine (HT.out _ B0.out).mono ?_
    generalize (w.alloc (.cells #[.slice ko t.keys.length kc, .slice vo t.vals.length vc, .slice xo t.kids.length xc] 26)).alloc (.cells #[.string ⟨#[]⟩, .int .i64 0] 33) = W0 at *
    rintro e w1 ⟨rfl, b1⟩
    obtain ⟨hx, hy, hz⟩ := HA.out
    have Y1 := hide ((b1.block (w.heap.size + 1) (by omega)).trans hy)
    have B1 := hide (B0.out.trans (b1.mono B0.out.size))
    obtain ⟨y0, y1, yf⟩ := cellsO2 Y1.out
    clear b1 B0 HA hx hy hz HT
    go_wp2
    refine bodyPost_ret (v := .agg #[.string ⟨#[]⟩, .int .i64 1]) (resTO Try.results24 _ _ (w.heap.size + 1) _ _ rfl (setO2 Y1.out)) rfl ⟨by rw [HE.out], (B1.out.setCell (by simp) _).setCell (by simp) _⟩
  | true =>
    rw [hq] at HT
    obtain ⟨d, hd11, hdp, hok⟩ := right_ok hq
    have HDP := hide hdp
    have HQ := hide hq
    have HL := hide hl
    have HG2 := hide (HG.out d hd11 hok)
    clear hl hq hdp hok HG
    go_enter Try.func24, Try.ntmps24
    go_wp2_with fail
    refine (HT.out _ B0.out).mono ?_
    generalize (w.alloc (.cells #[.slice ko t.keys.length kc, .slice vo t.vals.length vc, .slice xo t.kids.length xc] 26)).alloc (.cells #[.string ⟨#[]⟩, .int .i64 0] 33) = W0 at *
    rintro e w1 ⟨rfl, b1⟩
    obtain ⟨hx, hy, hz⟩ := HA.out
    obtain ⟨x0, x1, x2, xf⟩ := cells3 ((b1.block w.heap.size (by omega)).trans hx)
    have Y1 := hide ((b1.block (w.heap.size + 1) (by omega)).trans hy)
    have B1 := hide (B0.out.trans (b1.mono B0.out.size))
    have hz1 : w.heap.size + 2 ≤ w1.heap.size := by have := b1.size; omega
    clear b1 B0 HA hx hy hz HT
    go_wp2_with fail
    refine (HG2.out _ B1.out).mono ?_
    rintro e w2 ⟨rfl, b2⟩
    have Y2 := hide ((b2.block (w.heap.size + 1) (by omega)).trans Y1.out)
    have B2 := hide (B1.out.trans (b2.mono B1.out.size))
    obtain ⟨y0, y1, yf⟩ := cellsO2 Y2.out
    clear b2 B1 Y1 HG2 x0 x1 x2 xf
    cases hv : getT (d + 1) t key with
    | none =>
      have HE := hide (getOut_none HL.out HQ.out (by rw [HDP.out]; exact hv))
      simp only [Option.getD_none, Option.isSome_none]
      clear hv
      go_wp2
      refine bodyPost_ret (v := .agg #[.string ⟨#[]⟩, .int .i64 8]) (resTO Try.results24 _ _ (w.heap.size + 1) _ _ rfl (setO2 Y2.out)) rfl ⟨by rw [HE.out], (B2.out.setCell (by simp) _).setCell (by simp) _⟩
    | some v =>
      have HE := hide (getOut_some HL.out HQ.out (by rw [HDP.out]; exact hv))
      simp only [Option.getD_some, Option.isSome_some]
      clear hv
      go_wp2
      refine bodyPost_ret (v := .agg #[.string v, .int .i64 0]) (resTO Try.results24 _ _ (w.heap.size + 1) _ _ rfl (setO2 Y2.out)) rfl ⟨by rw [HE.out], (B2.out.setCell (by simp) _).setCell (by simp) _⟩
end Go.Proofs.Ytcjcjchpdgaobaa
