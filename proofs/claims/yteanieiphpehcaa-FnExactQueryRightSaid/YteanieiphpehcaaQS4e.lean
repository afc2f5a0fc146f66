/-
  Contract: is a query right? The specification's answer, without a join.
-/
import Derived.Test.YteanieiphpehcaaQS3
namespace Go.Proofs.Yteanieiphpehcaa
open Go.RowKit
set_option maxRecDepth 100000

set_option maxHeartbeats 16000000 in
theorem specQuery_e (A B : Nat) (q : Qry) (a1 : Option Addr) (c1 : Nat) (a2 : Option Addr) (c2 : Nat) (w : World) (hB : B ≤ w.heap.size) (hs : q.small) (h1 : ItmRow w A B a1 q.items) (h2 : TrmRow w A B a2 q.wh) (hjj : q.join.size = 0) :
    Calls Try.prog 13 #[.agg #[.slice a1 q.items.length c1, .string q.table, .string q.join, .string q.left, .string q.right, .slice a2 q.wh.length c2, .string q.group, .string q.order, .bool q.down, .int .i64 q.limit]] w fun e w' => e = .returned (.bool (qOk q)) ∧ Below w.heap.size w w' := by
  rw [← qSp_eq]
  have HQ : Hid (qSp q = (itemsSp q && (nameOk q.table.data.toList && (decide (q.wh.length ≤ 20) && limitOk q.limit)) && (joinOk q && (upto (fun i => termOk (q.wh.getD i noTrm)) q.wh.length &&
    ((colNone q.group && (colNone q.order && (decide (q.order.size ≠ 0) || !q.down))) && (!groupedB q || (decide (q.order.size = 0) || decide (q.order = q.group)))))))) := rfl
  have HJQ : Hid (joinOk q = if q.join.size = 0 then decide (q.left.size = 0) && decide (q.right.size = 0) else decide (q.join ≠ q.table) && (nameOk q.join.data.toList && (colOk q.left && colOk q.right))) := rfl
  have HI := hide (fun (W : World) (hb : Below w.heap.size w W) => specItems_any A B q a1 c1 a2 c2 W (Nat.le_trans hB hb.size) hs (FRow.kept h1 (hb.mono hB)))
  have HG := hide (fun (W : World) (hb : Below w.heap.size w W) => specGrouped_any A B q a1 c1 a2 c2 W (Nat.le_trans hB hb.size) hs.1 (FRow.kept h1 (hb.mono hB)))
  have HN := hide (fun (W : World) => specName_any q.table W)
  have HJ := hide (fun (W : World) => specName_any q.join W)
  have HCL := hide (fun (W : World) => specCol_any q.left W hs.2.2.2.2.1)
  have HCR := hide (fun (W : World) => specCol_any q.right W hs.2.2.2.2.2.1)
  have HCG := hide (fun (W : World) => specCol_any q.group W hs.2.2.2.2.2.2.1)
  have HCO := hide (fun (W : World) => specCol_any q.order W hs.2.2.2.2.2.2.2.1)
  have HR2 : Hid (TrmRow w A B a2 q.wh) := h2
  have HSM := hide hs.2.2.2.2.2.2.2.2.2
  have hl := hs.2.1
  clear hs h1 h2
  generalize qSp q = r at *
  generalize itemsSp q = xi at *
  generalize groupedB q = gr at *
  generalize joinOk q = xj at *
  generalize q.wh = lw at *
  generalize q.table = qt at *
  generalize q.join = qj at *
  generalize q.left = ql at *
  generalize q.right = qr at *
  generalize q.group = qg at *
  generalize q.order = qo at *
  generalize q.down = qd at *
  generalize q.limit = qm at *
  generalize q.items.length = n1 at *
  generalize nameOk qt.data.toList = xn at *
  generalize nameOk qj.data.toList = xj1 at *
  generalize colOk ql = xl at *
  generalize colOk qr = xr at *
  obtain ⟨xg, hxg⟩ : ∃ xg, colOk qg = xg := ⟨_, rfl⟩
  obtain ⟨xo, hxo⟩ : ∃ xo, colOk qo = xo := ⟨_, rfl⟩
  rw [hxg] at HCG
  rw [hxo] at HCO
  have HCGE := hide hxg
  have HCOE := hide hxo
  clear hxg hxo
  have B0 := hide ((Below.refl w.heap.size w).alloc (Nat.le_refl _) (.cells #[.slice a1 n1 c1, .string qt, .string qj, .string ql, .string qr, .slice a2 lw.length c2, .string qg, .string qo, .bool qd, .int .i64 qm] 39))
  have X0 := hide (heap_alloc_new w (.cells #[.slice a1 n1 c1, .string qt, .string qj, .string ql, .string qr, .slice a2 lw.length c2, .string qg, .string qo, .bool qd, .int .i64 qm] 39))
  go_enter Try.func13, Try.ntmps13
  go_upto_region 1 with fail
  generalize w.alloc (.cells #[.slice a1 n1 c1, .string qt, .string qj, .string ql, .string qr, .slice a2 lw.length c2, .string qg, .string qo, .bool qd, .int .i64 qm] 39) = W0 at *
  obtain ⟨y0, y1, y2, y3, y4, y5, y6, y7, y8, y9, yf⟩ := cellsN10 X0.out
  cases xi with
  | false =>
    have HF : Hid (r = false) := by show _ = _; rw [HQ.out]; rfl
    go_wp2_with (go_at_call 22; refine (HI.out _ B0.out).mono ?_; rintro e u0 ⟨rfl, ku0⟩; have B1 := hide (B0.out.trans (ku0.mono B0.out.size)); have X1 := hide ((ku0.block _ (blkG X0.out)).trans X0.out); clear ku0 y0 y1 y2 y3 y4 y5 y6 y7 y8 y9 yf; obtain ⟨y0, y1, y2, y3, y4, y5, y6, y7, y8, y9, yf⟩ := cellsN10 X1.out)
    go_ret
    exact ⟨ret_bool (by rw [HF.out]), B1.out⟩
  | true =>
    cases xn with
    | false =>
      have HF : Hid (r = false) := by show _ = _; rw [HQ.out]; rfl
      go_wp2_with (first | (go_at_call 22; refine (HI.out _ B0.out).mono ?_; rintro e u0 ⟨rfl, ku0⟩; have B1 := hide (B0.out.trans (ku0.mono B0.out.size)); have X1 := hide ((ku0.block _ (blkG X0.out)).trans X0.out); clear ku0 y0 y1 y2 y3 y4 y5 y6 y7 y8 y9 yf; obtain ⟨y0, y1, y2, y3, y4, y5, y6, y7, y8, y9, yf⟩ := cellsN10 X1.out) | (go_at_call 6; refine (HN.out _).mono ?_; rintro e wn ⟨rfl, hwn⟩; rw [hwn]; clear hwn wn))
      go_ret
      exact ⟨ret_bool (by rw [HF.out]), B1.out⟩
    | true =>
      by_cases h20 : 20 < lw.length
      · have HF : Hid (r = false) := by show _ = _; rw [HQ.out, decide_eq_false (show ¬ lw.length ≤ 20 by omega)]; rfl
        go_wp2_with (first | (go_at_call 22; refine (HI.out _ B0.out).mono ?_; rintro e u0 ⟨rfl, ku0⟩; have B1 := hide (B0.out.trans (ku0.mono B0.out.size)); have X1 := hide ((ku0.block _ (blkG X0.out)).trans X0.out); clear ku0 y0 y1 y2 y3 y4 y5 y6 y7 y8 y9 yf; obtain ⟨y0, y1, y2, y3, y4, y5, y6, y7, y8, y9, yf⟩ := cellsN10 X1.out) | (go_at_call 6; refine (HN.out _).mono ?_; rintro e wn ⟨rfl, hwn⟩; rw [hwn]; clear hwn wn))
        go_ret
        exact ⟨ret_bool (by rw [HF.out]), B1.out⟩
      by_cases hm1 : qm < -1
      · have HF : Hid (r = false) := by show _ = _; rw [HQ.out]; unfold limitOk; rw [decide_eq_false (show ¬ -1 ≤ qm by omega)]; simp
        go_wp2_with (first | (go_at_call 22; refine (HI.out _ B0.out).mono ?_; rintro e u0 ⟨rfl, ku0⟩; have B1 := hide (B0.out.trans (ku0.mono B0.out.size)); have X1 := hide ((ku0.block _ (blkG X0.out)).trans X0.out); clear ku0 y0 y1 y2 y3 y4 y5 y6 y7 y8 y9 yf; obtain ⟨y0, y1, y2, y3, y4, y5, y6, y7, y8, y9, yf⟩ := cellsN10 X1.out) | (go_at_call 6; refine (HN.out _).mono ?_; rintro e wn ⟨rfl, hwn⟩; rw [hwn]; clear hwn wn))
        go_ret
        exact ⟨ret_bool (by rw [HF.out]), B1.out⟩
      by_cases hm2 : 1000 < qm
      · have HF : Hid (r = false) := by show _ = _; rw [HQ.out]; unfold limitOk; rw [decide_eq_false (show ¬ qm ≤ 1000 by omega)]; simp
        go_wp2_with (first | (go_at_call 22; refine (HI.out _ B0.out).mono ?_; rintro e u0 ⟨rfl, ku0⟩; have B1 := hide (B0.out.trans (ku0.mono B0.out.size)); have X1 := hide ((ku0.block _ (blkG X0.out)).trans X0.out); clear ku0 y0 y1 y2 y3 y4 y5 y6 y7 y8 y9 yf; obtain ⟨y0, y1, y2, y3, y4, y5, y6, y7, y8, y9, yf⟩ := cellsN10 X1.out) | (go_at_call 6; refine (HN.out _).mono ?_; rintro e wn ⟨rfl, hwn⟩; rw [hwn]; clear hwn wn))
        go_ret
        exact ⟨ret_bool (by rw [HF.out]), B1.out⟩
      have HQ2 : Hid (r = (xj && (upto (fun i => termOk (lw.getD i noTrm)) lw.length && ((colNone qg && (colNone qo && (decide (qo.size ≠ 0) || !qd))) && (!gr || (decide (qo.size = 0) || decide (qo = qg))))))) := by show _ = _; rw [HQ.out]; unfold limitOk; rw [decide_eq_true (show lw.length ≤ 20 by omega), decide_eq_true (show -1 ≤ qm by omega), decide_eq_true (show qm ≤ 1000 by omega)]; rfl
      clear HQ
      go_upto_region 3 with (first | (go_at_call 22; refine (HI.out _ B0.out).mono ?_; rintro e u0 ⟨rfl, ku0⟩; have B1 := hide (B0.out.trans (ku0.mono B0.out.size)); have X1 := hide ((ku0.block _ (blkG X0.out)).trans X0.out); clear ku0 y0 y1 y2 y3 y4 y5 y6 y7 y8 y9 yf; obtain ⟨y0, y1, y2, y3, y4, y5, y6, y7, y8, y9, yf⟩ := cellsN10 X1.out) | (go_at_call 6; refine (HN.out _).mono ?_; rintro e wn ⟨rfl, hwn⟩; rw [hwn]; clear hwn wn))
      clear HI HN
      by_cases hj : qj.size = 0
      · have hje := emp_tlS hj
        have HJ2 : Hid (xj = (decide (ql.size = 0) && decide (qr.size = 0))) := by show _ = _; rw [HJQ.out, if_pos hj]
        clear HJQ HJ HCL HCR
        by_cases hl0 : ql.size = 0
        · have hle := emp_tlS hl0
          by_cases hr0 : qr.size = 0
          · have hre := emp_tlS hr0
            have HQ3 : Hid (r = (upto (fun i => termOk (lw.getD i noTrm)) lw.length && ((colNone qg && (colNone qo && (decide (qo.size ≠ 0) || !qd))) && (!gr || (decide (qo.size = 0) || decide (qo = qg)))))) := by show _ = _; rw [HQ2.out, HJ2.out, decide_eq_true hl0, decide_eq_true hr0]; rfl
            go_upto_region 5 with fail
            clear HJ2 hje hle hre hj hl0 hr0
            have HV3 : Hid (r = (upto (fun i => termOk (lw.getD i noTrm)) lw.length && ((colNone qg && (colNone qo && (decide (qo.size ≠ 0) || !qd))) && (!gr || (decide (qo.size = 0) || decide (qo = qg)))))) := HQ3
            clear HQ2 HQ3
            go_wp2
            go_loopw [3] (fun i wr => ∃ k : Nat, k ≤ lw.length ∧ i = .int .i64 k ∧ Hid (upto (fun i => termOk (lw.getD i noTrm)) k = true) ∧ Below u0.heap.size u0 wr) (fun i _ => lw.length - (intOf i).toNat)
            case atStart => exact ⟨0, Nat.zero_le _, rfl, rfl, Below.refl _ _⟩
            case round =>
              obtain ⟨k, hk, rfl, HU, hb⟩ := hrel
              clear y0 y1 y2 y3 y4 y5 y6 y7 y8 y9 yf
              have X4 := hide ((hb.block _ (blkG X1.out)).trans X1.out)
              have B4 := hide (B1.out.trans (hb.mono B1.out.size))
              have hz := hb.size
              obtain ⟨y0, y1, y2, y3, y4, y5, y6, y7, y8, y9, yf⟩ := cellsN10 X4.out
              by_cases hlt : k < lw.length
              · obtain ⟨b, off, c, o, kd, n, t, rfl, hbB, hv, hfit, d0, d1, d2, d3, d4⟩ := TrmRow.at (FRow.kept HR2.out (B4.out.mono hB)) k hlt
                have hs := HSM.out k hlt
                rw [hv] at hs
                have HTm := hide (fun (W : World) => specTerm_any ⟨c, o, kd, n, t⟩ W hfit hs)
                simp only at HTm
                have HE : Hid (termOk (lw.getD k noTrm) = termOk ⟨c, o, kd, n, t⟩) := by show _ = _; rw [hv]
                have HP := hide (upto_succ (fun i => termOk (lw.getD i noTrm)) k)
                clear hv hfit hs
                generalize termOk ⟨c, o, kd, n, t⟩ = xt at *
                have HNF : Hid (termOk (lw.getD k noTrm) = false → r = false) := fun h => by rw [HV3.out, upto_false hlt h]; rfl
                have HNT : Hid (termOk (lw.getD k noTrm) = true → upto (fun i => termOk (lw.getD i noTrm)) (k + 1) = true) := fun h => by rw [HP.out, HU.out]; exact h
                clear HP HU
                cases xt with
                | false =>
                  have HF := hide (HNF.out HE.out)
                  clear HNF HNT HE HV3
                  go_wp2_with (go_at_call 24; refine (HTm.out _).mono ?_; rintro e w5 ⟨rfl, k5⟩; have B5 := hide (B4.out.trans (k5.mono B4.out.size)); clear k5)
                  go_ret
                  exact ⟨ret_bool HF.out.symm, B5.out⟩
                | true =>
                  have HU2 := hide (HNT.out HE.out)
                  clear HNF HNT HE
                  go_wp2_with (go_at_call 24; refine (HTm.out _).mono ?_; rintro e w5 ⟨rfl, k5⟩; have R5 := hide (hb.trans (k5.mono hz)); clear k5)
                  clear hb hz d0 d1 d2 d3 d4 y0 y1 y2 y3 y4 y5 y6 y7 y8 y9 yf X4 B4 HTm
                  go_roundw
                  case rel => exact ⟨k + 1, by omega, by go_num, HU2, R5.out⟩
                  case measure => simp [intOf]; omega
              · obtain rfl : k = lw.length := by omega
                have HQ4 : Hid (r = ((colNone qg && (colNone qo && (decide (qo.size ≠ 0) || !qd))) && (!gr || (decide (qo.size = 0) || decide (qo = qg))))) := by show _ = _; rw [HV3.out, HU.out]; rfl
                clear HV3 HU hb hz HR2 HSM
                by_cases hg : qg.size = 0
                · have hge := emp_tlS hg
                  by_cases ho : qo.size = 0
                  · have hoe := emp_tlS ho
                    cases qd with
                    | true =>
                      go_wp2
                      go_ret
                      exact ⟨ret_bool (by rw [HQ4.out]; simp [ho]), B4.out⟩
                    | false =>
                      cases gr with
                      | true =>
                        go_wp2_with (go_at_call 25; refine (HG.out _ B4.out).mono ?_; rintro e w9 ⟨rfl, k9⟩; have B9 := hide (B4.out.trans (k9.mono B4.out.size)); have X9 := hide ((k9.block _ (blkG X4.out)).trans X4.out); clear k9 y0 y1 y2 y3 y4 y5 y6 y7 y8 y9 yf; obtain ⟨y0, y1, y2, y3, y4, y5, y6, y7, y8, y9, yf⟩ := cellsN10 X9.out)
                        go_ret
                        exact ⟨ret_bool (by rw [HQ4.out]; simp [colNone, ho, hg]), B9.out⟩
                      | false =>
                        go_wp2_with (go_at_call 25; refine (HG.out _ B4.out).mono ?_; rintro e w9 ⟨rfl, k9⟩; have B9 := hide (B4.out.trans (k9.mono B4.out.size)); have X9 := hide ((k9.block _ (blkG X4.out)).trans X4.out); clear k9 y0 y1 y2 y3 y4 y5 y6 y7 y8 y9 yf; obtain ⟨y0, y1, y2, y3, y4, y5, y6, y7, y8, y9, yf⟩ := cellsN10 X9.out)
                        go_ret
                        exact ⟨ret_bool (by rw [HQ4.out]; simp [colNone, ho, hg]), B9.out⟩
                  · have hoe := emp_neS ho
                    have HXO : Hid (colNone qo = xo) := by show _ = _; rw [← HCOE.out]; unfold colNone; rw [decide_eq_false ho]; rfl
                    cases qd
                    all_goals
                      cases xo with
                      | false =>
                        go_wp2_with (go_at_call 23; refine (HCO.out _).mono ?_; rintro e w8 ⟨rfl, kw8⟩; have B8 := hide (B4.out.trans (kw8.mono B4.out.size)); have X8 := hide ((kw8.block _ (blkG X4.out)).trans X4.out); clear kw8 y0 y1 y2 y3 y4 y5 y6 y7 y8 y9 yf; obtain ⟨y0, y1, y2, y3, y4, y5, y6, y7, y8, y9, yf⟩ := cellsN10 X8.out)
                        go_ret
                        exact ⟨ret_bool (by rw [HQ4.out, HXO.out]; simp), B8.out⟩
                      | true =>
                        cases gr with
                        | false =>
                          go_wp2_with (first | (go_at_call 23; refine (HCO.out _).mono ?_; rintro e w8 ⟨rfl, kw8⟩; have B8 := hide (B4.out.trans (kw8.mono B4.out.size)); have X8 := hide ((kw8.block _ (blkG X4.out)).trans X4.out); clear kw8 y0 y1 y2 y3 y4 y5 y6 y7 y8 y9 yf; obtain ⟨y0, y1, y2, y3, y4, y5, y6, y7, y8, y9, yf⟩ := cellsN10 X8.out) | (go_at_call 25; refine (HG.out _ B8.out).mono ?_; rintro e w9 ⟨rfl, k9⟩; have B9 := hide (B8.out.trans (k9.mono B8.out.size)); have X9 := hide ((k9.block _ (blkG X8.out)).trans X8.out); clear k9 y0 y1 y2 y3 y4 y5 y6 y7 y8 y9 yf; obtain ⟨y0, y1, y2, y3, y4, y5, y6, y7, y8, y9, yf⟩ := cellsN10 X9.out))
                          go_ret
                          exact ⟨ret_bool (by rw [HQ4.out, HXO.out]; simp [colNone, ho, hg]), B9.out⟩
                        | true =>
                          by_cases hgo : qo = qg
                          · exact absurd (by rw [hgo]; exact hg) ho
                          · have hge2 := str_neS hgo
                            go_wp2_with (first | (go_at_call 23; refine (HCO.out _).mono ?_; rintro e w8 ⟨rfl, kw8⟩; have B8 := hide (B4.out.trans (kw8.mono B4.out.size)); have X8 := hide ((kw8.block _ (blkG X4.out)).trans X4.out); clear kw8 y0 y1 y2 y3 y4 y5 y6 y7 y8 y9 yf; obtain ⟨y0, y1, y2, y3, y4, y5, y6, y7, y8, y9, yf⟩ := cellsN10 X8.out) | (go_at_call 25; refine (HG.out _ B8.out).mono ?_; rintro e w9 ⟨rfl, k9⟩; have B9 := hide (B8.out.trans (k9.mono B8.out.size)); have X9 := hide ((k9.block _ (blkG X8.out)).trans X8.out); clear k9 y0 y1 y2 y3 y4 y5 y6 y7 y8 y9 yf; obtain ⟨y0, y1, y2, y3, y4, y5, y6, y7, y8, y9, yf⟩ := cellsN10 X9.out))
                            go_ret
                            exact ⟨ret_bool (by rw [HQ4.out, HXO.out]; simp [colNone, ho, hg, hgo]), B9.out⟩
                · have hge := emp_neS hg
                  have HXG : Hid (colNone qg = xg) := by show _ = _; rw [← HCGE.out]; unfold colNone; rw [decide_eq_false hg]; rfl
                  cases xg with
                  | false =>
                    go_wp2_with (go_at_call 23; refine (HCG.out _).mono ?_; rintro e w7 ⟨rfl, kw7⟩; have B7 := hide (B4.out.trans (kw7.mono B4.out.size)); have X7 := hide ((kw7.block _ (blkG X4.out)).trans X4.out); have hG := HQ4; clear kw7 y0 y1 y2 y3 y4 y5 y6 y7 y8 y9 yf; obtain ⟨y0, y1, y2, y3, y4, y5, y6, y7, y8, y9, yf⟩ := cellsN10 X7.out)
                    go_ret
                    exact ⟨ret_bool (by rw [HQ4.out, HXG.out]; rfl), B7.out⟩
                  | true =>
                    by_cases ho : qo.size = 0
                    · have hoe := emp_tlS ho
                      cases qd with
                      | true =>
                        go_wp2_with (go_at_call 23; refine (HCG.out _).mono ?_; rintro e w7 ⟨rfl, kw7⟩; have B7 := hide (B4.out.trans (kw7.mono B4.out.size)); have X7 := hide ((kw7.block _ (blkG X4.out)).trans X4.out); have hG := HQ4; clear kw7 y0 y1 y2 y3 y4 y5 y6 y7 y8 y9 yf; obtain ⟨y0, y1, y2, y3, y4, y5, y6, y7, y8, y9, yf⟩ := cellsN10 X7.out)
                        go_ret
                        exact ⟨ret_bool (by rw [HQ4.out, HXG.out]; simp [ho]), B7.out⟩
                      | false =>
                        cases gr with
                        | true =>
                          go_wp2_with (first | (go_at_call 23; refine (HCG.out _).mono ?_; rintro e w7 ⟨rfl, kw7⟩; have B7 := hide (B4.out.trans (kw7.mono B4.out.size)); have X7 := hide ((kw7.block _ (blkG X4.out)).trans X4.out); have hG := HQ4; clear kw7 y0 y1 y2 y3 y4 y5 y6 y7 y8 y9 yf; obtain ⟨y0, y1, y2, y3, y4, y5, y6, y7, y8, y9, yf⟩ := cellsN10 X7.out) | (go_at_call 25; refine (HG.out _ B7.out).mono ?_; rintro e w9 ⟨rfl, k9⟩; have B9 := hide (B7.out.trans (k9.mono B7.out.size)); have X9 := hide ((k9.block _ (blkG X7.out)).trans X7.out); clear k9 y0 y1 y2 y3 y4 y5 y6 y7 y8 y9 yf; obtain ⟨y0, y1, y2, y3, y4, y5, y6, y7, y8, y9, yf⟩ := cellsN10 X9.out))
                          go_ret
                          exact ⟨ret_bool (by rw [HQ4.out, HXG.out]; simp [colNone, ho]), B9.out⟩
                        | false =>
                          go_wp2_with (first | (go_at_call 23; refine (HCG.out _).mono ?_; rintro e w7 ⟨rfl, kw7⟩; have B7 := hide (B4.out.trans (kw7.mono B4.out.size)); have X7 := hide ((kw7.block _ (blkG X4.out)).trans X4.out); have hG := HQ4; clear kw7 y0 y1 y2 y3 y4 y5 y6 y7 y8 y9 yf; obtain ⟨y0, y1, y2, y3, y4, y5, y6, y7, y8, y9, yf⟩ := cellsN10 X7.out) | (go_at_call 25; refine (HG.out _ B7.out).mono ?_; rintro e w9 ⟨rfl, k9⟩; have B9 := hide (B7.out.trans (k9.mono B7.out.size)); have X9 := hide ((k9.block _ (blkG X7.out)).trans X7.out); clear k9 y0 y1 y2 y3 y4 y5 y6 y7 y8 y9 yf; obtain ⟨y0, y1, y2, y3, y4, y5, y6, y7, y8, y9, yf⟩ := cellsN10 X9.out))
                          go_ret
                          exact ⟨ret_bool (by rw [HQ4.out, HXG.out]; simp [colNone, ho]), B9.out⟩
                    · have hoe := emp_neS ho
                      have HXO : Hid (colNone qo = xo) := by show _ = _; rw [← HCOE.out]; unfold colNone; rw [decide_eq_false ho]; rfl
                      cases qd
                      all_goals
                        cases xo with
                        | false =>
                          go_wp2_with (first | (have hh := hG; go_at_call 23; refine (HCO.out _).mono ?_; rintro e w8 ⟨rfl, kw8⟩; have B8 := hide (B7.out.trans (kw8.mono B7.out.size)); have X8 := hide ((kw8.block _ (blkG X7.out)).trans X7.out); clear kw8 y0 y1 y2 y3 y4 y5 y6 y7 y8 y9 yf; obtain ⟨y0, y1, y2, y3, y4, y5, y6, y7, y8, y9, yf⟩ := cellsN10 X8.out) | (go_at_call 23; refine (HCG.out _).mono ?_; rintro e w7 ⟨rfl, kw7⟩; have B7 := hide (B4.out.trans (kw7.mono B4.out.size)); have X7 := hide ((kw7.block _ (blkG X4.out)).trans X4.out); have hG := HQ4; clear kw7 y0 y1 y2 y3 y4 y5 y6 y7 y8 y9 yf; obtain ⟨y0, y1, y2, y3, y4, y5, y6, y7, y8, y9, yf⟩ := cellsN10 X7.out))
                          go_ret
                          exact ⟨ret_bool (by rw [HQ4.out, HXO.out, HXG.out]; simp), B8.out⟩
                        | true =>
                          cases gr with
                          | false =>
                            go_wp2_with (first | (have hh := hG; go_at_call 23; refine (HCO.out _).mono ?_; rintro e w8 ⟨rfl, kw8⟩; have B8 := hide (B7.out.trans (kw8.mono B7.out.size)); have X8 := hide ((kw8.block _ (blkG X7.out)).trans X7.out); clear kw8 y0 y1 y2 y3 y4 y5 y6 y7 y8 y9 yf; obtain ⟨y0, y1, y2, y3, y4, y5, y6, y7, y8, y9, yf⟩ := cellsN10 X8.out) | (go_at_call 23; refine (HCG.out _).mono ?_; rintro e w7 ⟨rfl, kw7⟩; have B7 := hide (B4.out.trans (kw7.mono B4.out.size)); have X7 := hide ((kw7.block _ (blkG X4.out)).trans X4.out); have hG := HQ4; clear kw7 y0 y1 y2 y3 y4 y5 y6 y7 y8 y9 yf; obtain ⟨y0, y1, y2, y3, y4, y5, y6, y7, y8, y9, yf⟩ := cellsN10 X7.out) | (go_at_call 25; refine (HG.out _ B8.out).mono ?_; rintro e w9 ⟨rfl, k9⟩; have B9 := hide (B8.out.trans (k9.mono B8.out.size)); have X9 := hide ((k9.block _ (blkG X8.out)).trans X8.out); clear k9 y0 y1 y2 y3 y4 y5 y6 y7 y8 y9 yf; obtain ⟨y0, y1, y2, y3, y4, y5, y6, y7, y8, y9, yf⟩ := cellsN10 X9.out))
                            go_ret
                            exact ⟨ret_bool (by rw [HQ4.out, HXO.out, HXG.out]; simp [ho]), B9.out⟩
                          | true =>
                            by_cases hgo : qo = qg
                            · have HT : Hid (r = true) := by show _ = _; rw [HQ4.out, HXO.out, HXG.out]; simp [hg, hgo]
                              subst hgo
                              go_wp2_with (first | (have hh := hG; go_at_call 23; refine (HCO.out _).mono ?_; rintro e w8 ⟨rfl, kw8⟩; have B8 := hide (B7.out.trans (kw8.mono B7.out.size)); have X8 := hide ((kw8.block _ (blkG X7.out)).trans X7.out); clear kw8 y0 y1 y2 y3 y4 y5 y6 y7 y8 y9 yf; obtain ⟨y0, y1, y2, y3, y4, y5, y6, y7, y8, y9, yf⟩ := cellsN10 X8.out) | (go_at_call 23; refine (HCG.out _).mono ?_; rintro e w7 ⟨rfl, kw7⟩; have B7 := hide (B4.out.trans (kw7.mono B4.out.size)); have X7 := hide ((kw7.block _ (blkG X4.out)).trans X4.out); have hG := HQ4; clear kw7 y0 y1 y2 y3 y4 y5 y6 y7 y8 y9 yf; obtain ⟨y0, y1, y2, y3, y4, y5, y6, y7, y8, y9, yf⟩ := cellsN10 X7.out) | (go_at_call 25; refine (HG.out _ B8.out).mono ?_; rintro e w9 ⟨rfl, k9⟩; have B9 := hide (B8.out.trans (k9.mono B8.out.size)); have X9 := hide ((k9.block _ (blkG X8.out)).trans X8.out); clear k9 y0 y1 y2 y3 y4 y5 y6 y7 y8 y9 yf; obtain ⟨y0, y1, y2, y3, y4, y5, y6, y7, y8, y9, yf⟩ := cellsN10 X9.out))
                              go_ret
                              exact ⟨ret_bool (by rw [HT.out]), B9.out⟩
                            · have hge2 := str_neS hgo
                              go_wp2_with (first | (have hh := hG; go_at_call 23; refine (HCO.out _).mono ?_; rintro e w8 ⟨rfl, kw8⟩; have B8 := hide (B7.out.trans (kw8.mono B7.out.size)); have X8 := hide ((kw8.block _ (blkG X7.out)).trans X7.out); clear kw8 y0 y1 y2 y3 y4 y5 y6 y7 y8 y9 yf; obtain ⟨y0, y1, y2, y3, y4, y5, y6, y7, y8, y9, yf⟩ := cellsN10 X8.out) | (go_at_call 23; refine (HCG.out _).mono ?_; rintro e w7 ⟨rfl, kw7⟩; have B7 := hide (B4.out.trans (kw7.mono B4.out.size)); have X7 := hide ((kw7.block _ (blkG X4.out)).trans X4.out); have hG := HQ4; clear kw7 y0 y1 y2 y3 y4 y5 y6 y7 y8 y9 yf; obtain ⟨y0, y1, y2, y3, y4, y5, y6, y7, y8, y9, yf⟩ := cellsN10 X7.out) | (go_at_call 25; refine (HG.out _ B8.out).mono ?_; rintro e w9 ⟨rfl, k9⟩; have B9 := hide (B8.out.trans (k9.mono B8.out.size)); have X9 := hide ((k9.block _ (blkG X8.out)).trans X8.out); clear k9 y0 y1 y2 y3 y4 y5 y6 y7 y8 y9 yf; obtain ⟨y0, y1, y2, y3, y4, y5, y6, y7, y8, y9, yf⟩ := cellsN10 X9.out))
                              go_ret
                              exact ⟨ret_bool (by rw [HQ4.out, HXO.out, HXG.out]; simp [ho, hgo]), B9.out⟩
          · have hre := emp_neS hr0
            go_wp2
            go_ret
            exact ⟨ret_bool (by rw [HQ2.out, HJ2.out, decide_eq_false hr0]; simp), B1.out⟩
        · have hle := emp_neS hl0
          go_wp2
          go_ret
          exact ⟨ret_bool (by rw [HQ2.out, HJ2.out, decide_eq_false hl0]; rfl), B1.out⟩
      · have hje := emp_neS hj
        exact absurd hjj hj
end Go.Proofs.Yteanieiphpehcaa
