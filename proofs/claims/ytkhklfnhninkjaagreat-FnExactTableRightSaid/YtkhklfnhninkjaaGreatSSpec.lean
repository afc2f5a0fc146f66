/-
  Contracts: is a schema right? The specification's answer.
-/
import Derived.Test.YtkhklfnhninkjaaGreatSRight
namespace Go.Proofs.YtkhklfnhninkjaaGreat
open Go.RowKit
set_option maxRecDepth 100000

theorem and7f : ∀ a b c d e f g : Bool, (a = false ∨ b = false ∨ c = false ∨ d = false ∨ e = false ∨ f = false ∨ g = false) → (a && b && c && d && e && f && g) = false := by
  intro a b c d e f g h
  rcases h with rfl | rfl | rfl | rfl | rfl | rfl | rfl <;> simp
theorem str_ne {a b : ByteArray} (h : a ≠ b) : (a.toList == b.toList) = false := by
  rw [Bool.eq_false_iff]
  intro e
  rw [beq_iff_eq, ByteArray.toList_eq, ByteArray.toList_eq] at e
  exact h (ba_extS e)
set_option maxHeartbeats 4000000 in
theorem specSchemaRight_any (A B : Nat) (ao : Option Addr) (c1 : Nat) (ko : Option Addr) (c2 : Nat) (xo : Option Addr) (c3 : Nat) (s : Sch) (w : World) (hB : B ≤ w.heap.size) (hr : SchRow w A B ao ko xo c2 s) :
    Calls Tryz.prog 11 #[.agg #[.string s.name, .slice ao s.cols.length c1, .slice ko s.key.length c2, .slice xo s.idx.length c3]] w fun e w' => e = .returned (.bool (schRight s)) ∧ Below w.heap.size w w' := by
  have hkr := fun (W : World) (hb : Below w.heap.size w W) => specColumns_any A B ko c2 s.key s.cols.length W (Nat.le_trans hB hb.size) (Nat.le_trans hr.1.2.2.1.1 hr.1.2.2.1.2) (hr.2.2.1.kept (hb.mono hB))
  have hnr := fun (W : World) => specName_any s.name W
  obtain ⟨⟨hn0, hn1, hn2, hn3⟩, hr1, hr2, hr3⟩ := hr
  have HS : Hid (schRight s = (nameOk s.name.data.toList && manyOk s.cols.length && isCols s.cols.length s.key && decide (s.idx.length ≤ 4) && upto (colOk s.cols) s.cols.length && upto (keyAt s) s.key.length && upto (idxAt s) s.idx.length)) := rfl
  have HI : Hid (isCols s.cols.length s.key = isCols s.cols.length s.key) := rfl
  generalize nameOk s.name.data.toList = qn at *
  generalize hqk : isCols s.cols.length s.key = qk at *
  generalize hq : schRight s = q at *
  obtain ⟨nm, cs, ky, xs⟩ := s
  simp only at *
  have HN : Hid (∀ (W : World), Calls Tryz.prog 25 #[.string nm] W fun e w' => e = .returned (.bool qn) ∧ w' = W) := hnr
  have HC : Hid (∀ (W : World), Below w.heap.size w W → Calls Tryz.prog 26 #[.slice ko ky.length c2, .int .i64 cs.length] W fun e w' => e = .returned (.bool qk) ∧ Below W.heap.size W w') := hkr
  have HQ : Hid (isCols cs.length ky = qk) := hqk
  have R1 : Hid (ColRow w A B ao cs) := hr1
  have R2 : Hid (IntRow w A B ko ky) := hr2
  have R3 : Hid (IdxRow w A B xo xs) := hr3
  have B0 : Hid (Below w.heap.size w (w.alloc (.cells #[.string nm, .slice ao cs.length c1, .slice ko ky.length c2, .slice xo xs.length c3] 35))) := (Below.refl _ _).alloc (Nat.le_refl _) _
  clear hr1 hr2 hr3 hkr hnr hqk hq HI
  obtain ⟨hk1, hk2⟩ := hn2
  unfold maxLen at hn0 hn1 hk2 hn3
  cases qn with
  | false =>
    have HF : Hid (q = false) := by show _ = _; rw [HS.out]; exact and7f _ _ _ _ _ _ _ (.inl rfl)
    clear HS
    go_enter Tryz.func11, Tryz.ntmps11
    go_wp2_with (go_at_call 25; refine (HN.out _).mono ?_; rintro e w2 ⟨rfl, rfl⟩)
    go_ret
    exact ⟨ret_bool HF.out.symm, B0.out⟩
  | true =>
    by_cases h1 : cs.length < 1
    · have HF : Hid (q = false) := by show _ = _; rw [HS.out]; exact and7f _ _ _ _ _ _ _ (.inr (.inl (by unfold manyOk; simp [show ¬ (1 ≤ cs.length) by omega])))
      clear HS
      go_enter Tryz.func11, Tryz.ntmps11
      go_wp2_with (go_at_call 25; refine (HN.out _).mono ?_; rintro e w2 ⟨rfl, rfl⟩)
      go_ret
      exact ⟨ret_bool HF.out.symm, B0.out⟩
    · by_cases h2 : 10 < cs.length
      · have HF : Hid (q = false) := by show _ = _; rw [HS.out]; exact and7f _ _ _ _ _ _ _ (.inr (.inl (by unfold manyOk; simp [show ¬ (cs.length ≤ 10) by omega])))
        clear HS
        go_enter Tryz.func11, Tryz.ntmps11
        go_wp2_with (go_at_call 25; refine (HN.out _).mono ?_; rintro e w2 ⟨rfl, rfl⟩)
        go_ret
        exact ⟨ret_bool HF.out.symm, B0.out⟩
      · cases qk with
        | false =>
          have HF : Hid (q = false) := by show _ = _; rw [HS.out]; exact and7f _ _ _ _ _ _ _ (.inr (.inr (.inl rfl)))
          clear HS
          go_enter Tryz.func11, Tryz.ntmps11
          go_wp2_with (first | (go_at_call 25; refine (HN.out _).mono ?_; rintro e w2 ⟨rfl, rfl⟩) | (go_at_call 26; refine (HC.out _ B0.out).mono ?_; rintro e w3 ⟨rfl, hb3⟩))
          go_ret
          exact ⟨ret_bool HF.out.symm, B0.out.trans (hb3.mono B0.out.size)⟩
        | true =>
          by_cases h4 : 4 < xs.length
          · have HF : Hid (q = false) := by show _ = _; rw [HS.out]; exact and7f _ _ _ _ _ _ _ (.inr (.inr (.inr (.inl (by simp [show ¬ (xs.length ≤ 4) by omega])))))
            clear HS
            go_enter Tryz.func11, Tryz.ntmps11
            go_wp2_with (first | (go_at_call 25; refine (HN.out _).mono ?_; rintro e w2 ⟨rfl, rfl⟩) | (go_at_call 26; refine (HC.out _ B0.out).mono ?_; rintro e w3 ⟨rfl, hb3⟩; obtain ⟨hc3, hf3⟩ := bcell hb3))
            go_ret
            exact ⟨ret_bool HF.out.symm, B0.out.trans (hb3.mono B0.out.size)⟩
          · have HV : Hid (q = (upto (colOk cs) cs.length && upto (keyAt ⟨nm, cs, ky, xs⟩) ky.length && upto (idxAt ⟨nm, cs, ky, xs⟩) xs.length)) := by
              show _ = _
              rw [HS.out]
              unfold manyOk
              simp [show 1 ≤ cs.length by omega, show cs.length ≤ 10 by omega, show xs.length ≤ 4 by omega]
            clear HS
            go_enter Tryz.func11, Tryz.ntmps11
            go_wp2_with (first | (go_at_call 25; refine (HN.out _).mono ?_; rintro e w2 ⟨rfl, rfl⟩) | (go_at_call 26; refine (HC.out _ B0.out).mono ?_; rintro e w3 ⟨rfl, hb3⟩; obtain ⟨hc3, hf3⟩ := bcell hb3))
            have X3 : Hid (w3.heap[w.heap.size]? = some (.cells #[.string nm, .slice ao cs.length c1, .slice ko ky.length c2, .slice xo xs.length c3] 35 (0, 0))) := (hb3.block _ (by simp)).trans (heap_alloc_new _ _)
            have B3 : Hid (Below w.heap.size w w3) := B0.out.trans (hb3.mono B0.out.size)
            have hs3 : w.heap.size < w3.heap.size := by have := hb3.size; simp at this; omega
            clear hc3 hf3 hb3 B0 HN HC
            go_loopw [4] (fun i wr => ∃ j : Nat, j ≤ cs.length ∧ i = .int .i64 j ∧ Hid (upto (colOk cs) j = true) ∧ Below w3.heap.size w3 wr) (fun i _ => cs.length - (intOf i).toNat)
            case atStart => exact ⟨0, Nat.zero_le _, rfl, rfl, Below.refl _ _⟩
            case round =>
              obtain ⟨j, hj, rfl, HU, hb⟩ := hrel
              obtain ⟨x0, x1, x2, x3, xf⟩ := cells4 ((hb.block _ hs3).trans X3.out)
              have hz : w.heap.size < wr.heap.size := by have := hb.size; omega
              by_cases hlt : j < cs.length
              · obtain ⟨b, off, cn, kd, nu, rfl, hbB, hv, htt, hki, d0, d1, d2⟩ := (R1.out.kept ((B3.out.trans (hb.mono B3.out.size)).mono hB)).at j hlt
                have HX : Hid (cs.getD j noCol = ⟨cn, kd, nu⟩) := hv
                have hc0 := fun w => specName_any cn w
                clear hv hki htt x0 x2 x3 xf
                cases hnm : nameOk cn.data.toList with
                | false =>
                  rw [hnm] at hc0
                  have HCn : Hid (∀ w, Calls Tryz.prog 25 #[.string cn] w fun e w' => e = .returned (.bool false) ∧ w' = w) := hc0
                  have HF : Hid (q = false) := by show _ = _; rw [HV.out, upto_false hlt (colOk_name HX.out hnm)]; rfl
                  have BF : Hid (Below w.heap.size w (wr.alloc (.cells #[.string cn, .int .i64 kd, .bool nu] 67))) := (B3.out.trans (hb.mono B3.out.size)).alloc (by omega) _
                  clear hc0 hnm HV HX HU
                  go_wp2_with (go_at_call 25; refine (HCn.out _).mono ?_; rintro e w4 ⟨rfl, rfl⟩)
                  go_ret
                  exact ⟨ret_bool HF.out.symm, BF.out⟩
                | true =>
                  rw [hnm] at hc0
                  have HCn : Hid (∀ w, Calls Tryz.prog 25 #[.string cn] w fun e w' => e = .returned (.bool true) ∧ w' = w) := hc0
                  clear hc0
                  by_cases hkd : kd ≤ 0 ∨ 3 < kd
                  · have HF : Hid (q = false) := by show _ = _; rw [HV.out, upto_false hlt (colOk_kind HX.out hkd)]; rfl
                    have BF : Hid (Below w.heap.size w (wr.alloc (.cells #[.string cn, .int .i64 kd, .bool nu] 67))) := (B3.out.trans (hb.mono B3.out.size)).alloc (by omega) _
                    clear hnm HV HX HU
                    rcases hkd with hkd | hkd
                    all_goals
                      go_wp2_with (go_at_call 25; refine (HCn.out _).mono ?_; rintro e w4 ⟨rfl, rfl⟩)
                      go_ret
                      exact ⟨ret_bool HF.out.symm, BF.out⟩
                  · have hk1' : 1 ≤ kd := by omega
                    have hk2' : kd ≤ 3 := by omega
                    have B2 : Below w3.heap.size w3 (wr.alloc (.cells #[.string cn, .int .i64 kd, .bool nu] 67)) := hb.alloc hb.size _
                    have hcc : (wr.alloc (.cells #[.string cn, .int .i64 kd, .bool nu] 67)).cell? ⟨wr.heap.size, 0, none⟩ = some (.string cn) := by rw [cell_of_row _ _ _ _ _ _ (heap_alloc_new _ _)]; rfl
                    have hss : wr.heap.size < (wr.alloc (.cells #[.string cn, .int .i64 kd, .bool nu] 67)).heap.size := by simp
                    have HB2 : Hid (Below w3.heap.size w3 (wr.alloc (.cells #[.string cn, .int .i64 kd, .bool nu] 67))) := B2
                    have HCC : Hid ((wr.alloc (.cells #[.string cn, .int .i64 kd, .bool nu] 67)).cell? ⟨wr.heap.size, 0, none⟩ = some (.string cn)) := hcc
                    have HSS : Hid (wr.heap.size < (wr.alloc (.cells #[.string cn, .int .i64 kd, .bool nu] 67)).heap.size) := hss
                    clear B2 hcc hss hkd
                    go_wp2_with (go_at_call 25; refine (HCn.out _).mono ?_; rintro e w4 ⟨rfl, rfl⟩)
                    clear hb HCn d0 d1 d2 x1 hz
                    generalize wr.alloc (.cells #[.string cn, .int .i64 kd, .bool nu] 67) = W2 at *
                    generalize wr.heap.size = g at *
                    go_loopw [6] (fun i wi => ∃ k : Nat, k ≤ j ∧ i = .int .i64 k ∧ Hid ((cs.take k).any (fun c => decide (c.name = cn)) = false) ∧ Below W2.heap.size W2 wi) (fun i _ => j - (intOf i).toNat)
                    case atStart => exact ⟨0, Nat.zero_le _, rfl, rfl, Below.refl _ _⟩
                    case round =>
                      obtain ⟨k, hk, rfl, HA, hbi⟩ := hrel
                      have hbj := HB2.out.trans (hbi.mono HB2.out.size)
                      by_cases hki : k < j
                      · obtain ⟨x0, x1, x2, x3, xf⟩ := cells4 ((hbj.block _ hs3).trans X3.out)
                        have hcn := (hbi.cell (p := ⟨g, 0, none⟩) HSS.out).trans HCC.out
                        obtain ⟨b1, off1, nk, kk, uk, he1, _, hv1, _, _, e0, e1, e2⟩ := (R1.out.kept ((B3.out.trans (hbj.mono B3.out.size)).mono hB)).at k (by omega)
                        simp only [Option.some.injEq, Addr.mk.injEq, and_true] at he1
                        obtain ⟨rfl, rfl⟩ := he1
                        have HY : Hid ((cs.getD k noCol).name = nk) := by show _ = _; rw [hv1]
                        have hi0 : (0 : Int) ≤ (k : Int) := by omega
                        have hi1 : (k : Int) < (cs.length : Int) := by omega
                        have ht := (Int.toNat_natCast k)
                        clear hv1 e1 e2 x0 x2 x3 xf
                        by_cases hxy : nk = cn
                        · subst hxy
                          have HF : Hid (q = false) := by
                            show _ = _
                            rw [HV.out, upto_false hlt (colOk_seen HX.out ?_)]
                            · rfl
                            · have h1 : (cs.take (k + 1)).any (fun c => decide (c.name = nk)) = true := by rw [seen_succ cs nk k (by omega), HY.out]; simp
                              rw [List.any_eq_true] at h1 ⊢
                              obtain ⟨c, hc, hd⟩ := h1
                              exact ⟨c, (List.take_subset_take_left cs (by omega : k + 1 ≤ j)) hc, hd⟩
                          clear HV HX HU HA HY hnm
                          go_wp2
                          go_region_held3 (fun W => W.cell? ⟨w.heap.size, 1, none⟩ = some (.slice (some ⟨b, off, none⟩) cs.length c1) ∧ W.cell? ⟨b, off + k * 3, none⟩ = some (.string nk) ∧ W.cell? ⟨g, 0, none⟩ = some (.string nk)) (go_keep) (fail)
                          all_goals
                            have hb2 : Below w.heap.size w _ := (B3.out.trans (hbj.mono B3.out.size)).drew
                            go_wp2
                            go_ret
                            exact ⟨ret_bool HF.out.symm, hb2⟩
                        · have HA2 : Hid ((cs.take (k + 1)).any (fun c => decide (c.name = cn)) = false) := by show _ = _; rw [seen_succ cs cn k (by omega), HA.out, HY.out]; simp [hxy]
                          have hne := str_ne hxy
                          clear HA HY hxy
                          go_wp2
                          go_region_held3 (fun W => W.cell? ⟨w.heap.size, 1, none⟩ = some (.slice (some ⟨b, off, none⟩) cs.length c1) ∧ W.cell? ⟨b, off + k * 3, none⟩ = some (.string nk) ∧ W.cell? ⟨g, 0, none⟩ = some (.string cn)) (go_keep) (fail)
                          all_goals
                            have hb2 : Below W2.heap.size W2 _ := hbi.drew
                            clear hbi hbj e0 x1 hcn hne
                            go_wp2
                            go_roundw
                            case rel => exact ⟨k + 1, by omega, by go_num, HA2, hb2⟩
                            case measure => simp [intOf]; omega
                      · obtain rfl : k = j := by omega
                        have HU2 : Hid (upto (colOk cs) (k + 1) = true) := by show _ = _; rw [upto_succ, HU.out, colOk_true HX.out hnm hk1' hk2' HA.out]; rfl
                        clear HX HA HU hnm
                        go_wp2
                        go_roundw
                        case rel => exact ⟨k + 1, by omega, by go_num, HU2, hbj⟩
                        case measure => simp [intOf]; omega
              · obtain rfl : j = cs.length := by omega
                have HV2 : Hid (q = (upto (keyAt ⟨nm, cs, ky, xs⟩) ky.length && upto (idxAt ⟨nm, cs, ky, xs⟩) xs.length)) := by show _ = _; rw [HV.out, HU.out]; rfl
                clear HV HU
                go_wp2
                clear x0 x1 x2 x3 xf
                go_loopw [7] (fun i wr2 => ∃ j : Nat, j ≤ ky.length ∧ i = .int .i64 j ∧ Hid (upto (keyAt ⟨nm, cs, ky, xs⟩) j = true) ∧ Below w3.heap.size w3 wr2) (fun i _ => ky.length - (intOf i).toNat)
                case atStart => exact ⟨0, Nat.zero_le _, rfl, rfl, hb⟩
                case round =>
                  clear hb hz
                  obtain ⟨j, hj, rfl, HU, hb⟩ := hrel
                  obtain ⟨x0, x1, x2, x3, xf⟩ := cells4 ((hb.block _ hs3).trans X3.out)
                  by_cases hlt : j < ky.length
                  · obtain ⟨b, off, x, rfl, hbB, hv, hx, d0⟩ := (R2.out.kept ((B3.out.trans (hb.mono B3.out.size)).mono hB)).at j hlt
                    have hxr := isCols_at HQ.out j hlt
                    rw [hv] at hxr
                    obtain ⟨m, rfl⟩ : ∃ m : Nat, x = (m : Int) := ⟨x.toNat, by omega⟩
                    have hm : m < cs.length := by omega
                    obtain ⟨b1, off1, n1, kd, nu, rfl, hbB1, hv1, htt, hki, e0, e1, e2⟩ := (R1.out.kept ((B3.out.trans (hb.mono B3.out.size)).mono hB)).at m hm
                    have HK : Hid (keyAt ⟨nm, cs, ky, xs⟩ j = !nu) := by
                      show _ = _
                      unfold keyAt; simp only; rw [hv, Int.toNat_natCast, hv1]
                    have hi0 : (0 : Int) ≤ (j : Int) := by omega
                    have hi1 : (j : Int) < (ky.length : Int) := by omega
                    have hi2 : (0 : Int) ≤ (m : Int) := by omega
                    have hi3 : (m : Int) < (cs.length : Int) := by omega
                    have ht := (Int.toNat_natCast j)
                    have ht2 := (Int.toNat_natCast m)
                    clear hv hx hxr hv1 hki htt e0 e1 xf x0 x3
                    cases nu with
                    | true =>
                      have HF : Hid (q = false) := by show _ = _; rw [HV2.out, upto_false hlt HK.out]; rfl
                      clear HV2 HK HU
                      go_wp2
                      go_region_held3 (fun W => W.cell? ⟨w.heap.size, 1, none⟩ = some (.slice (some ⟨b1, off1, none⟩) cs.length c1) ∧ W.cell? ⟨w.heap.size, 2, none⟩ = some (.slice (some ⟨b, off, none⟩) ky.length c2) ∧ W.cell? ⟨b, off + j, none⟩ = some (.int .i64 m) ∧ W.cell? ⟨b1, off1 + m * 3 + 2, none⟩ = some (.bool true)) (go_keep) (fail)
                      all_goals
                        have hb2 : Below w.heap.size w _ := (B3.out.trans (hb.mono B3.out.size)).drew
                        go_wp2
                        go_ret
                        exact ⟨ret_bool HF.out.symm, hb2⟩
                    | false =>
                      have HU2 : Hid (upto (keyAt ⟨nm, cs, ky, xs⟩) (j + 1) = true) := by show _ = _; rw [upto_succ, HU.out, HK.out]; rfl
                      clear HK HU
                      go_wp2
                      go_region_held3 (fun W => W.cell? ⟨w.heap.size, 1, none⟩ = some (.slice (some ⟨b1, off1, none⟩) cs.length c1) ∧ W.cell? ⟨w.heap.size, 2, none⟩ = some (.slice (some ⟨b, off, none⟩) ky.length c2) ∧ W.cell? ⟨b, off + j, none⟩ = some (.int .i64 m) ∧ W.cell? ⟨b1, off1 + m * 3 + 2, none⟩ = some (.bool false)) (go_keep) (fail)
                      all_goals
                        have hb2 : Below w3.heap.size w3 _ := hb.drew
                        clear hb d0 e2 x1 x2
                        go_wp2
                        go_roundw
                        case rel => exact ⟨j + 1, by omega, by go_num, HU2, hb2⟩
                        case measure => simp [intOf]; omega
                  · obtain rfl : j = ky.length := by omega
                    have HV3 : Hid (q = upto (idxAt ⟨nm, cs, ky, xs⟩) xs.length) := by show _ = _; rw [HV2.out, HU.out]; rfl
                    clear HV2 HU
                    go_wp2
                    clear x0 x1 x2 x3 xf
                    go_loopw [8] (fun i wr3 => ∃ j : Nat, j ≤ xs.length ∧ i = .int .i64 j ∧ Hid (upto (idxAt ⟨nm, cs, ky, xs⟩) j = true) ∧ Below w3.heap.size w3 wr3) (fun i _ => xs.length - (intOf i).toNat)
                    case atStart => exact ⟨0, Nat.zero_le _, rfl, rfl, hb⟩
                    case round =>
                      clear hb
                      obtain ⟨j, hj, rfl, HU, hb⟩ := hrel
                      obtain ⟨x0, x1, x2, x3, xf⟩ := cells4 ((hb.block _ hs3).trans X3.out)
                      have hbw := B3.out.trans (hb.mono B3.out.size)
                      by_cases hlt : j < xs.length
                      · obtain ⟨b, off, io, cp, l, u, rfl, hbB, hv, hcp, hir, d0, d1⟩ := (R3.out.kept (hbw.mono hB)).at j hlt
                        have HK : Hid (idxAt ⟨nm, cs, ky, xs⟩ j = isCols cs.length l) := by show _ = _; unfold idxAt; simp only; rw [hv]
                        have hca := specColumns_any A B io cp l cs.length _ (Nat.le_trans hB hbw.size) (Nat.le_trans hcp.1 hcp.2) hir
                        generalize isCols cs.length l = qi at *
                        have HC : Hid (Calls Tryz.prog 26 #[.slice io l.length cp, .int .i64 cs.length] _ fun e w' => e = .returned (.bool qi) ∧ Below _ _ w') := hca
                        clear hv hir hcp hca
                        go_wp2_with fail
                        refine HC.out.mono ?_
                        rintro e w5 ⟨rfl, hb5⟩
                        have hb6 : Below w3.heap.size w3 w5 := hb.trans (hb5.mono hb.size)
                        clear HC hb5 hb hbw x0 x1 x2 x3 xf d0 d1
                        cases qi with
                        | false =>
                          have HF : Hid (q = false) := by show _ = _; rw [HV3.out, upto_false hlt HK.out]
                          clear HV3 HK HU
                          go_wp2
                          go_ret
                          exact ⟨ret_bool HF.out.symm, B3.out.trans (hb6.mono B3.out.size)⟩
                        | true =>
                          have HU2 : Hid (upto (idxAt ⟨nm, cs, ky, xs⟩) (j + 1) = true) := by show _ = _; rw [upto_succ, HU.out, HK.out]; rfl
                          clear HK HU
                          go_wp2
                          go_roundw
                          case rel => exact ⟨j + 1, by omega, by go_num, HU2, hb6⟩
                          case measure => simp [intOf]; omega
                      · obtain rfl : j = xs.length := by omega
                        have HF : Hid (q = true) := by show _ = _; rw [HV3.out, HU.out]
                        clear HV3 HU
                        go_wp2
                        go_ret
                        exact ⟨ret_bool HF.out.symm, hbw⟩
end Go.Proofs.YtkhklfnhninkjaaGreat
