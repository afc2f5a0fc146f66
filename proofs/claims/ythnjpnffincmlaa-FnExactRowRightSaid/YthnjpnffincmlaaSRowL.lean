/-
  Contracts: RowRight of the program and of the specification.
-/
import Derived.Test.YthnjpnffincmlaaSRowS
namespace Go.Proofs.Ythnjpnffincmlaa
open Go.RowKit
set_option maxRecDepth 100000

theorem rowRight_long {s : Sch} {vs : List Val} (h : 400 < vs.length) : rowRight s vs = false := by
  unfold rowRight
  cases hs : schRight s with
  | false => rfl
  | true =>
    have := schRight_len hs
    unfold rowOk
    simp [show ¬ (vs.length = s.cols.length) by omega]
set_option maxHeartbeats 1000000 in
theorem specRowRight_any (A B B' : Nat) (ao : Option Addr) (c1 : Nat) (ko : Option Addr) (c2 : Nat) (xo : Option Addr) (c3 : Nat) (vo : Option Addr) (c4 : Nat) (s : Sch) (vs : List Val) (w : World) (hB : B ≤ w.heap.size) (hB' : B' ≤ w.heap.size) (hl : vs.length ≤ maxLen) (hr : SchRow w A B ao ko xo c2 s) (hv : ValRow w B' vo vs) :
    Calls Try.prog 24 #[.agg #[.string s.name, .slice ao s.cols.length c1, .slice ko s.key.length c2, .slice xo s.idx.length c3], .slice vo vs.length c4] w fun e w' => e = .returned (.bool (rowRight s vs)) ∧ Below w.heap.size w w' := by
  have h1 := fun (W : World) (hb : Below w.heap.size w W) => specSchemaRight_any A B ao c1 ko c2 xo c3 s W (Nat.le_trans hB hb.size) (hr.kept (hb.mono hB))
  have h2 := fun (W : World) (hb : Below w.heap.size w W) => specRow_any A B B' ao c1 ko c2 xo c3 vo c4 s vs W (Nat.le_trans hB hb.size) (Nat.le_trans hB' hb.size) hl (hr.kept (hb.mono hB)) (hv.kept (hb.mono hB'))
  have HQ : Hid (rowRight s vs = (schRight s && rowOk s.cols vs)) := rfl
  have HL : Hid (400 < vs.length → rowRight s vs = false) := rowRight_long
  generalize rowRight s vs = q at *
  generalize rowOk s.cols vs = qr at *
  generalize schRight s = qs at *
  obtain ⟨nm, cs, ky, xs⟩ := s
  simp only at *
  have H1 := hide h1
  have H2 := hide h2
  clear h1 h2 hr hv
  unfold maxLen at hl
  have B0 : Hid (Below w.heap.size w (w.alloc (.cells #[.string nm, .slice ao cs.length c1, .slice ko ky.length c2, .slice xo xs.length c3] 32))) := (Below.refl _ _).alloc (Nat.le_refl _) _
  by_cases h4 : 400 < vs.length
  · have HF : Hid (q = false) := HL.out h4
    clear HQ HL
    go_enter Try.func24, Try.ntmps24
    go_wp2
    go_ret
    exact ⟨ret_bool HF.out.symm, B0.out⟩
  · cases qs with
    | false =>
      have HF : Hid (q = false) := HQ.out
      clear HQ HL
      go_enter Try.func24, Try.ntmps24
      go_wp2_with (go_at_call 10; refine (H1.out _ B0.out).mono ?_; rintro e w2 ⟨rfl, hb2⟩)
      go_ret
      exact ⟨ret_bool HF.out.symm, B0.out.trans (hb2.mono B0.out.size)⟩
    | true =>
      have HF : Hid (q = qr) := HQ.out
      clear HQ HL
      obtain ⟨y0, y1, y2, y3⟩ := cells4a w (.string nm) (.slice ao cs.length c1) (.slice ko ky.length c2) (.slice xo xs.length c3) 32
      go_enter Try.func24, Try.ntmps24
      go_wp2_with (first | (go_at_call 10; refine (H1.out _ B0.out).mono ?_; rintro e w2 ⟨rfl, hb2⟩; obtain ⟨hc2, hf2⟩ := bcell hb2; have B2 : Hid (Below w.heap.size w w2) := B0.out.trans (hb2.mono B0.out.size)) | (go_at_call 65; refine (H2.out _ B2.out).mono ?_; rintro e w3 ⟨rfl, hb3⟩))
      go_ret
      exact ⟨ret_bool HF.out.symm, B2.out.trans (hb3.mono B2.out.size)⟩
set_option maxHeartbeats 2000000 in
theorem implRowFits_any (A B B' : Nat) (ao : Option Addr) (c1 : Nat) (ko : Option Addr) (c2 : Nat) (xo : Option Addr) (c3 : Nat) (vo : Option Addr) (c4 : Nat) (s : Sch) (vs : List Val) (w : World) (hB : B ≤ w.heap.size) (hB' : B' ≤ w.heap.size) (hl : vs.length ≤ maxLen) (hr : SchRow w A B ao ko xo c2 s) (hv : ValRow w B' vo vs) (hkd0 : ∀ i, i < s.cols.length → 1 ≤ (s.cols.getD i noCol).kind) :
    Calls Try.prog 67 #[.agg #[.string s.name, .slice ao s.cols.length c1, .slice ko s.key.length c2, .slice xo s.idx.length c3], .slice vo vs.length c4] w fun e w' => e = .returned (.bool (rowOk s.cols vs)) ∧ Below w.heap.size w w' := by
  have HQ : Hid (rowOk s.cols vs = (decide (vs.length = s.cols.length) && upto (fitAt s.cols vs) vs.length)) := rfl
  have HKD : Hid (∀ i, i < s.cols.length → 1 ≤ (s.cols.getD i noCol).kind) := hkd0
  have R1 : Hid (ColRow w A B ao s.cols) := hr.2.1
  have hn1 := hr.1.2.1
  have RV : Hid (ValRow w B' vo vs) := hv
  generalize rowOk s.cols vs = q at *
  obtain ⟨nm, cs, ky, xs⟩ := s
  simp only at *
  clear hr hv hkd0
  unfold maxLen at hl hn1
  have B0 : Hid (Below w.heap.size w (w.alloc (.cells #[.string nm, .slice ao cs.length c1, .slice ko ky.length c2, .slice xo xs.length c3] 32))) := (Below.refl _ _).alloc (Nat.le_refl _) _
  obtain ⟨y0, y1, y2, y3⟩ := cells4a w (.string nm) (.slice ao cs.length c1) (.slice ko ky.length c2) (.slice xo xs.length c3) 32
  by_cases hlen : vs.length = cs.length
  · have HV : Hid (q = upto (fitAt cs vs) vs.length) := by show _ = _; rw [HQ.out]; simp [hlen]
    have HL := hide hlen
    have hlen' : (vs.length : Int) = (cs.length : Int) := by omega
    clear hlen HQ
    go_enter Try.func67, Try.ntmps67
    go_wp2
    clear hlen' y0 y1 y2 y3
    go_loopw [16] (fun i wr => ∃ j : Nat, j ≤ cs.length ∧ i = .int .i64 j ∧ Hid (upto (fitAt cs vs) j = true) ∧ Below w.heap.size w wr) (fun i _ => cs.length - (intOf i).toNat)
    case atStart => exact ⟨0, Nat.zero_le _, rfl, rfl, B0.out⟩
    case round =>
      obtain ⟨j, hj, rfl, HU, hb⟩ := hrel
      by_cases hlt : j < cs.length
      · have hlt2 : j < vs.length := by have := HL.out; omega
        obtain ⟨b, off, kk, nn, tt, rfl, hbB, hv, htt, d0, d1, d2⟩ := (RV.out.kept (hb.mono hB')).at j hlt2
        obtain ⟨b1, off1, cn, kd, nu, rfl, hbB1, hv1, _, _, e0, e1, e2⟩ := (R1.out.kept (hb.mono hB)).at j hlt
        have hkd : 1 ≤ kd := by have := HKD.out j hlt; rw [hv1] at this; exact this
        have HK : Hid (fitAt cs vs j = fitV ⟨cn, kd, nu⟩ ⟨kk, nn, tt⟩) := by
          show _ = _
          unfold fitAt
          rw [hv1, List.getD_eq_getElem?_getD, List.getElem?_eq_getElem hlt2, Option.getD_some, hv]
        have hc := fun w => fits_any ⟨cn, kd, nu⟩ ⟨kk, nn, tt⟩ hkd w
        generalize fitV ⟨cn, kd, nu⟩ ⟨kk, nn, tt⟩ = r at *
        simp only at hc
        have HC := hide hc
        have hi0 : (0 : Int) ≤ (j : Int) := by omega
        have hi1 : (j : Int) < (vs.length : Int) := by omega
        have ht := (Int.toNat_natCast j)
        have hq1 : b < wr.heap.size := by have := hb.size; omega
        have hq3 : ¬ (b = wr.heap.size) := by omega
        clear hv hv1 hc htt hkd
        have z0 := (bcell ((Below.refl _ wr).alloc (Nat.le_refl _) (.cells #[.string cn, .int .i64 kd, .bool nu] 62))).1
        have z1 := (z0 b (off + j * 3) hq1).trans d0
        have z2 := (z0 b (off + j * 3 + 1) hq1).trans d1
        have z3 := (z0 b (off + j * 3 + 2) hq1).trans d2
        have g0 : (wr.alloc (.cells #[.string cn, .int .i64 kd, .bool nu] 62)).cell? ⟨wr.heap.size, 0, none⟩ = some (.string cn) := by rw [cell_of_row _ _ _ _ _ _ (heap_alloc_new _ _)]; rfl
        have g1 : (wr.alloc (.cells #[.string cn, .int .i64 kd, .bool nu] 62)).cell? ⟨wr.heap.size, 1, none⟩ = some (.int .i64 kd) := by rw [cell_of_row _ _ _ _ _ _ (heap_alloc_new _ _)]; rfl
        have g2 : (wr.alloc (.cells #[.string cn, .int .i64 kd, .bool nu] 62)).cell? ⟨wr.heap.size, 2, none⟩ = some (.bool nu) := by rw [cell_of_row _ _ _ _ _ _ (heap_alloc_new _ _)]; rfl
        have hbA : Below w.heap.size w (wr.alloc (.cells #[.string cn, .int .i64 kd, .bool nu] 62)) := hb.alloc hb.size _
        have hsA : wr.heap.size < (wr.alloc (.cells #[.string cn, .int .i64 kd, .bool nu] 62)).heap.size := by simp
        have Z := hide (⟨z1, z2, z3, g0, g1, g2, hbA, hsA⟩ : _ ∧ _ ∧ _ ∧ _ ∧ _ ∧ _ ∧ _ ∧ _)
        clear z0 z1 z2 z3 g0 g1 g2 hbA hsA hb
        go_wp2
        clear d0 d1 d2 e0 e1 e2
        obtain ⟨z1, z2, z3, g0, g1, g2, hbA, hsA⟩ := Z.out
        clear Z
        generalize wr.alloc (.cells #[.string cn, .int .i64 kd, .bool nu] 62) = WA at *
        have hq2 : b < WA.heap.size := by omega
        generalize wr.heap.size = g at *
        go_region_held3 (fun W => (W.cell? ⟨g, 0, none⟩ = some (.string cn) ∧ W.cell? ⟨g, 1, none⟩ = some (.int .i64 kd) ∧ W.cell? ⟨g, 2, none⟩ = some (.bool nu)) ∧ W.cell? ⟨b, off + j * 3, none⟩ = some (.int .i64 kk) ∧ W.cell? ⟨b, off + j * 3 + 1, none⟩ = some (.int .i64 nn) ∧ W.cell? ⟨b, off + j * 3 + 2, none⟩ = some (.string tt)) (go_keep) (first | (go_at_call 101; refine (HC.out _).mono ?_; rintro e w1 ⟨rfl, hb1⟩; have hb1' : Below WA.heap.size WA w1 := (Below.refl _ _).drew.trans hb1; obtain ⟨hc1, hf1⟩ := bcell hb1'))
        all_goals
          have hb2 := hbA.trans (hb1'.mono hbA.size)
          clear z1 z2 z3 g0 g1 g2 hbA hb1 hb1' hc1 hf1
          cases r with
          | false =>
            have HF : Hid (q = false) := by show _ = _; rw [HV.out, upto_false hlt2 HK.out]
            clear HV HK HU
            go_wp2
            go_ret
            exact ⟨ret_bool HF.out.symm, hb2⟩
          | true =>
            have HU2 : Hid (upto (fitAt cs vs) (j + 1) = true) := by show _ = _; rw [upto_succ, HU.out, HK.out]; rfl
            clear HK HU
            go_wp2
            go_roundw
            case rel => exact ⟨j + 1, by omega, by go_num, HU2, hb2⟩
            case measure => simp [intOf]; omega
      · obtain rfl : j = cs.length := by omega
        have HF : Hid (q = true) := by show _ = _; rw [HV.out, HL.out]; exact HU.out
        go_wp2
        go_ret
        exact ⟨ret_bool HF.out.symm, hb⟩
  · have HF : Hid (q = false) := by show _ = _; rw [HQ.out]; simp [hlen]
    have hn' : ¬ ((vs.length : Int) = (cs.length : Int)) := by omega
    clear HQ HKD
    go_enter Try.func67, Try.ntmps67
    go_wp2
    go_ret
    exact ⟨ret_bool HF.out.symm, B0.out⟩
set_option maxHeartbeats 2000000 in
theorem implRowRight_any (A B B' : Nat) (ao : Option Addr) (c1 : Nat) (ko : Option Addr) (c2 : Nat) (xo : Option Addr) (c3 : Nat) (vo : Option Addr) (c4 : Nat) (s : Sch) (vs : List Val) (w : World) (hB : B ≤ w.heap.size) (hB' : B' ≤ w.heap.size) (hl : vs.length ≤ maxLen) (hr : SchRow w A B ao ko xo c2 s) (hv : ValRow w B' vo vs) :
    Calls Try.prog 26 #[.agg #[.string s.name, .slice ao s.cols.length c1, .slice ko s.key.length c2, .slice xo s.idx.length c3], .slice vo vs.length c4] w fun e w' => e = .returned (.bool (rowRight s vs)) ∧ Below w.heap.size w w' := by
  have h1 := fun (W : World) (hb : Below w.heap.size w W) => implSchemaRight_any A B ao c1 ko c2 xo c3 s W (Nat.le_trans hB hb.size) (hr.kept (hb.mono hB))
  have h2 := fun (hs : schRight s = true) (W : World) (hb : Below w.heap.size w W) => implRowFits_any A B B' ao c1 ko c2 xo c3 vo c4 s vs W (Nat.le_trans hB hb.size) (Nat.le_trans hB' hb.size) hl (hr.kept (hb.mono hB)) (hv.kept (hb.mono hB')) (schRight_kind hs)
  have HQ : Hid (rowRight s vs = (schRight s && rowOk s.cols vs)) := rfl
  generalize rowRight s vs = q at *
  generalize rowOk s.cols vs = qr at *
  generalize schRight s = qs at *
  obtain ⟨nm, cs, ky, xs⟩ := s
  simp only at *
  have H1 := hide h1
  have H2 := hide h2
  clear h1 h2 hr hv
  unfold maxLen at hl
  have B0 : Hid (Below w.heap.size w (w.alloc (.cells #[.string nm, .slice ao cs.length c1, .slice ko ky.length c2, .slice xo xs.length c3] 32))) := (Below.refl _ _).alloc (Nat.le_refl _) _
  cases qs with
  | false =>
    have HF : Hid (q = false) := HQ.out
    clear HQ H2
    go_enter Try.func26, Try.ntmps26
    go_wp2_with (go_at_call 12; refine (H1.out _ B0.out).mono ?_; rintro e w2 ⟨rfl, hb2⟩)
    go_ret
    exact ⟨ret_bool HF.out.symm, B0.out.trans (hb2.mono B0.out.size)⟩
  | true =>
    have HF : Hid (q = qr) := HQ.out
    have H3 := hide (H2.out (by simp))
    clear HQ H2
    obtain ⟨y0, y1, y2, y3⟩ := cells4a w (.string nm) (.slice ao cs.length c1) (.slice ko ky.length c2) (.slice xo xs.length c3) 32
    go_enter Try.func26, Try.ntmps26
    go_wp2_with (first | (go_at_call 12; refine (H1.out _ B0.out).mono ?_; rintro e w2 ⟨rfl, hb2⟩; obtain ⟨hc2, hf2⟩ := bcell hb2; have B2 : Hid (Below w.heap.size w w2) := B0.out.trans (hb2.mono B0.out.size)) | (go_at_call 67; refine (H3.out _ B2.out).mono ?_; rintro e w3 ⟨rfl, hb3⟩))
    go_ret
    exact ⟨ret_bool HF.out.symm, B2.out.trans (hb3.mono B2.out.size)⟩
end Go.Proofs.Ythnjpnffincmlaa
