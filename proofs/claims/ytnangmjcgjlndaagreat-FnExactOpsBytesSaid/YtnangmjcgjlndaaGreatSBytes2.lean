/-
  Contracts: a schema's bytes, of the program.
-/
import Derived.Test.YtnangmjcgjlndaaGreatSBytes
import Derived.Test.YtnangmjcgjlndaaGreatSRight
import Derived.Test.YtnangmjcgjlndaaGreatSchLen
namespace Go.Proofs.YtnangmjcgjlndaaGreat
open Go.RowKit
set_option maxRecDepth 100000

theorem schSmall {s : Sch} (h : schRight s = true) : s.cols.length ≤ 10 ∧ s.key.length ≤ 10 ∧ s.idx.length ≤ 4 ∧ ∀ i, i < s.idx.length → (s.idx.getD i noIdx).cols.length ≤ 10 := by
  have h1 := schRight_len h
  rw [schRight_eq] at h
  simp only [Bool.and_eq_true] at h
  have hk := h.1.2
  have hx := h.2
  unfold keyOk at hk
  unfold idxOk at hx
  simp only [Bool.and_eq_true, decide_eq_true_eq, upto_iff] at hk hx
  refine ⟨h1.2, by have := (isCols_len hk.1).2; omega, hx.1, fun i hi => ?_⟩
  have := hx.2 i hi
  unfold idxAt at this
  have := (isCols_len this).2
  omega
theorem colL_len (c : Col) : (colL c).length ≤ 20030 := by
  unfold colL
  simp only [List.length_append]
  have h1 := textL_len c.name
  have h2 := numL_len c.kind
  have h3 := numL_len (flagN c.nul)
  omega
theorem colsL_len (s : Sch) (k : Nat) (h : s.cols.length ≤ 10) : (colsL s k).length ≤ 300000 := by
  unfold colsL
  simp only [List.length_append]
  have h1 := textL_len s.name
  have h2 := numL_len s.cols.length
  have h3 := flat_len colL 20030 colL_len (s.cols.take k)
  have h4 : (s.cols.take k).length ≤ s.cols.length := List.length_take_le' ..
  have := Nat.mul_le_mul_right 20030 (Nat.le_trans h4 h)
  omega
theorem colsL_succ (s : Sch) (k : Nat) (h : k < s.cols.length) : colsL s (k + 1) = colsL s k ++ colL (s.cols.getD k noCol) := by
  unfold colsL; rw [flat_succ colL s.cols noCol k h]; simp only [List.append_assoc]
theorem idxsL_succ (s : Sch) (k : Nat) (h : k < s.idx.length) : idxsL s (k + 1) = idxsL s k ++ idxL (s.idx.getD k noIdx) := by
  unfold idxsL; rw [flat_succ idxL s.idx noIdx k h]; simp only [List.append_assoc]
theorem idxL_len (x : Idx) (h : x.cols.length ≤ 1000) : (idxL x).length ≤ 10020 := by
  unfold idxL
  rw [List.length_append]
  have h1 := placesL_len x.cols x.cols.length h
  have h2 := numL_len (flagN x.uniq)
  omega
theorem idxsL_len (s : Sch) (h : s.cols.length ≤ 10) (hk : s.key.length ≤ 10) (hx : s.idx.length ≤ 4) (hc : ∀ i, i < s.idx.length → (s.idx.getD i noIdx).cols.length ≤ 10) : ∀ k, k ≤ s.idx.length → (idxsL s k).length ≤ 400000 + k * 10020
  | 0, _ => by
    unfold idxsL
    simp only [List.length_append, List.take_zero, List.flatMap_nil, List.length_nil]
    have h1 := colsL_len s s.cols.length h
    have h2 := placesL_len s.key s.key.length (by omega)
    have h3 := numL_len s.idx.length
    omega
  | k + 1, hk' => by
    rw [idxsL_succ s k hk', List.length_append]
    have h1 := idxsL_len s h hk hx hc k (by omega)
    have h2 := idxL_len (s.idx.getD k noIdx) (by have := hc k hk'; omega)
    omega
theorem join3 (t s u : ByteArray) (pb cap : Nat) (w : World) (hb : t.size + s.size + u.size ≤ 1000000000) (h0 : w.cell? ⟨pb, 0, none⟩ = some (.string t)) (h1 : w.cell? ⟨pb, 1, none⟩ = some (.string s)) (h2 : w.cell? ⟨pb, 2, none⟩ = some (.string u)) :
    Calls Tryz.prog 19 #[.slice (some ⟨pb, 0, none⟩) 3 cap] w fun e w' => e = .returned (.string (mkS (t.data.toList ++ (s.data.toList ++ u.data.toList)))) ∧ Below w.heap.size w w' := by
  have h := join_any [t, s, u] pb 0 cap w (by simp only [catL, List.map_cons, List.map_nil, List.flatten_cons, List.flatten_nil, List.append_nil, List.length_append, len_data]; omega) (by simp) (fun j hj => by
    match j, hj with
    | 0, _ => simpa using h0
    | 1, _ => simpa using h1
    | 2, _ => simpa using h2)
  simpa [catL] using h
set_option maxHeartbeats 4000000 in
theorem implSchemaBytes_any (A B : Nat) (ao : Option Addr) (c1 : Nat) (ko : Option Addr) (c2 : Nat) (xo : Option Addr) (c3 : Nat) (s : Sch) (w : World) (hB : B ≤ w.heap.size) (hr : SchRow w A B ao ko xo c2 s) :
    Calls Tryz.prog 35 #[.agg #[.string s.name, .slice ao s.cols.length c1, .slice ko s.key.length c2, .slice xo s.idx.length c3]] w fun e w' => e = .returned (.string (schB s)) ∧ Below w.heap.size w w' := by
  have B0 : Hid (Below w.heap.size w (w.alloc (.cells #[.string s.name, .slice ao s.cols.length c1, .slice ko s.key.length c2, .slice xo s.idx.length c3] 43))) := (Below.refl _ _).alloc (Nat.le_refl _) _
  have h1 := implSchemaRight_any A B ao c1 ko c2 xo c3 s _ (Nat.le_trans hB B0.out.size) (hr.kept (B0.out.mono hB))
  cases hq : schRight s with
  | false =>
    rw [hq] at h1
    have HF : Hid (schB s = ByteArray.empty) := by show _ = _; unfold schB; rw [hq]; rfl
    clear hq
    obtain ⟨nm, cs, ky, xs⟩ := s
    simp only at *
    have H1 := hide h1
    clear h1 hr
    go_enter Tryz.func35, Tryz.ntmps35
    go_wp2_with fail
    refine H1.out.mono ?_
    rintro e w1 ⟨rfl, hb1⟩
    go_wp2
    go_ret
    exact ⟨ret_str (by rw [HF.out]; rfl), B0.out.trans (hb1.mono B0.out.size)⟩
  | true =>
    rw [hq] at h1
    have HF : Hid (schB s = mkS (schL s)) := by show _ = _; unfold schB; rw [if_pos hq]
    obtain ⟨hs1, hs2, hs3, hs4⟩ := schSmall hq
    have HS4 := hide hs4
    have HCL := hide (fun k => colsL_len s k hs1)
    have HCS := hide (colsL_succ s)
    have HXL := hide (idxsL_len s hs1 hs2 hs3 hs4)
    have HXS := hide (idxsL_succ s)
    have HC0 : Hid (colsL s 0 = [] ++ (putT s.name).data.toList ++ (numS s.cols.length).data.toList) := by show _ = _; unfold colsL textL numL; simp
    have HX0 : Hid (idxsL s 0 = colsL s s.cols.length ++ (mkS (placesL s.key s.key.length)).data.toList ++ (numS s.idx.length).data.toList) := by show _ = _; unfold idxsL numL; rw [mkS_list]; simp
    have HSL : Hid (schL s = idxsL s s.idx.length) := rfl
    have HTN := hide (textL_len s.name)
    have R1 := hide hr.2.1
    have R2 := hide hr.2.2.1
    have R3 := hide hr.2.2.2
    have hn0 := hr.1.2.1
    clear hq hr hs4
    generalize schB s = sb at *
    generalize schL s = sl at *
    generalize hFC : colsL s = fC at *
    generalize hFX : idxsL s = fX at *
    obtain ⟨nm, cs, ky, xs⟩ := s
    simp only at *
    clear hFC hFX
    have H1 := hide h1
    clear h1
    go_enter Tryz.func35, Tryz.ntmps35
    go_wp2_with fail
    refine H1.out.mono ?_
    rintro e w1 ⟨rfl, hb1⟩
    have X1 : Hid (w1.heap[w.heap.size]? = some (.cells #[.string nm, .slice ao cs.length c1, .slice ko ky.length c2, .slice xo xs.length c3] 43 (0, 0))) := (hb1.block _ (by simp)).trans (heap_alloc_new _ _)
    have hz1 : w.heap.size < w1.heap.size := by have := hb1.size; simp at this; omega
    have B1 := hide (B0.out.trans (hb1.mono B0.out.size))
    have BN := hide (bhas_new w1)
    have BA : Hid (Below w1.heap.size w1 (w1.alloc (.cells #[.pointer none, .slice none 0 0] 54))) := (Below.refl _ _).alloc (Nat.le_refl _) _
    clear hb1 B0 H1
    obtain ⟨x0, x1, x2, x3, xf⟩ := cells4 X1.out
    go_wp2_with fail
    refine (implPutText_any nm _).mono ?_
    rintro e w2 ⟨rfl, hb2⟩
    have k2 := hide (BA.out.trans (hb2.mono BA.out.size))
    have K2 := hide (BN.out.kept hb2)
    clear hb2 BN BA x0 x1 x2 x3 xf
    go_wp2_with fail
    refine (write_any w1.heap.size [] _ _ K2.out (by have h1 : (putT nm).size ≤ 20010 := HTN.out; simp; omega) k2.out.size).mono ?_
    rintro e w3 ⟨rfl, hk3, hb3⟩
    have K3 := hide hk3
    have k3 := hide (k2.out.trans hb3)
    clear hk3 hb3 k2 K2
    obtain ⟨x0, x1, x2, x3, xf⟩ := cells4 ((k3.out.block _ hz1).trans X1.out)
    go_wp2_with fail
    refine (implNum_any cs.length (nat_in _ hn0) _).mono ?_
    rintro e w4 ⟨rfl, hb4⟩
    have k4 := hide (k3.out.trans (hb4.mono k3.out.size))
    have K4 := hide (K3.out.kept hb4)
    clear hb4 k3 K3 x0 x1 x2 x3 xf
    go_wp2_with fail
    refine (write_any w1.heap.size _ _ _ K4.out (by have h1 : (putT nm).data.toList.length ≤ 20010 := HTN.out; have h2 : (numS (cs.length : Int)).size ≤ 10 := num_size _; simp only [List.nil_append]; omega) k4.out.size).mono ?_
    rintro e w5 ⟨rfl, hk5, hb5⟩
    have K5 : Hid (BHas w1.heap.size (fC 0) w5) := by rw [HC0.out]; exact hk5
    have k5 := hide (k4.out.trans hb5)
    clear hk5 hb5 k4 K4 HC0 HTN
    obtain ⟨x0, x1, x2, x3, xf⟩ := cells4 ((k5.out.block _ hz1).trans X1.out)
    go_wp2
    clear x0 x1 x2 x3 xf
    go_loopw [23] (fun i wr => ∃ k : Nat, k ≤ cs.length ∧ i = .int .i64 k ∧ Hid (BHas w1.heap.size (fC k) wr) ∧ Below w1.heap.size w1 wr) (fun i _ => cs.length - (intOf i).toNat)
    case atStart => exact ⟨0, Nat.zero_le _, rfl, K5, k5.out⟩
    case round =>
      clear K5 k5
      obtain ⟨k, hk, rfl, HK, hb⟩ := hrel
      have hz := hb.size
      by_cases hlt : k < cs.length
      · obtain ⟨b, off, cn, kd, nu, rfl, hbB, hv, htt, hki, d0, d1, d2⟩ := (R1.out.kept ((B1.out.trans (hb.mono B1.out.size)).mono hB)).at k hlt
        have HS : Hid (fC (k + 1) = fC k ++ (putT cn).data.toList ++ ((numS kd).data.toList ++ (numS (flagN nu)).data.toList)) := by
          show _ = _
          rw [HCS.out k hlt, hv]
          unfold colL textL numL
          simp
        have hcl := HCL.out k
        have hp1 : (putT cn).size ≤ 20010 := textL_len cn
        have hp2 : (numS kd).size ≤ 10 := num_size _
        have hp3 : (numS (flagN nu)).size ≤ 10 := num_size _
        have HA1 := hide (HK.out.kept ((Below.refl _ wr).alloc (Nat.le_refl _) (.cells #[.string cn, .int .i64 kd, .bool nu] 70)))
        have HA2 : Hid (Below w1.heap.size w1 (wr.alloc (.cells #[.string cn, .int .i64 kd, .bool nu] 70))) := hb.alloc hz _
        have HA3 : Hid (wr.heap.size < (wr.alloc (.cells #[.string cn, .int .i64 kd, .bool nu] 70)).heap.size) := by show _ < _; simp
        have g0 : (wr.alloc (.cells #[.string cn, .int .i64 kd, .bool nu] 70)).cell? ⟨wr.heap.size, 0, none⟩ = some (.string cn) := by rw [cell_of_row _ _ _ _ _ _ (heap_alloc_new _ _)]; rfl
        have g1 : (wr.alloc (.cells #[.string cn, .int .i64 kd, .bool nu] 70)).cell? ⟨wr.heap.size, 1, none⟩ = some (.int .i64 kd) := by rw [cell_of_row _ _ _ _ _ _ (heap_alloc_new _ _)]; rfl
        have g2 : (wr.alloc (.cells #[.string cn, .int .i64 kd, .bool nu] 70)).cell? ⟨wr.heap.size, 2, none⟩ = some (.bool nu) := by rw [cell_of_row _ _ _ _ _ _ (heap_alloc_new _ _)]; rfl
        have Z := hide (⟨g0, g1, g2⟩ : _ ∧ _ ∧ _)
        clear g0 g1 g2 hv htt HK hb
        go_wp2
        clear d0 d1 d2
        obtain ⟨g0, g1, g2⟩ := Z.out
        clear Z
        generalize wr.alloc (.cells #[.string cn, .int .i64 kd, .bool nu] 70) = WA at *
        have hgA := HA3.out
        generalize wr.heap.size = g at *
        have HPT := hide (fun W => implPutText_any cn W)
        have HPN := hide (fun W => implNum_any kd hki W)
        have HPF := hide (fun W => putFlag_any nu W)
        clear hki HA3
        generalize putT cn = t1 at *
        generalize numS kd = t2 at *
        generalize numS (flagN nu) = t3 at *
        have hcat : (mkS (t1.data.toList ++ (t2.data.toList ++ t3.data.toList))).size ≤ 20030 := by
          rw [mkS_size]; simp only [List.length_append, len_data]; omega
        have HS2 : Hid (fC (k + 1) = fC k ++ (mkS (t1.data.toList ++ (t2.data.toList ++ t3.data.toList))).data.toList) := by show _ = _; rw [HS.out, mkS_list, List.append_assoc]
        clear HS
        first | go_region_with (first
          | (go_at_call 34; refine (HPT.out _).mono ?_; rintro e y1 ⟨rfl, r1⟩; have r1' : Below WA.heap.size WA y1 := (Below.refl _ _).drew.trans r1; obtain ⟨hc1, hf1⟩ := bcell r1')
          | (go_at_call 18; refine (HPN.out _).mono ?_; rintro e y2 ⟨rfl, r2⟩; have r2' : Below WA.heap.size WA y2 := r1'.trans (r2.mono r1'.size); obtain ⟨hc2, hf2⟩ := bcell r2')
          | (go_at_call 57; refine (HPF.out _).mono ?_; rintro e y3 ⟨rfl, r3⟩; have r3' : Below WA.heap.size WA y3 := r2'.trans (r3.mono r2'.size); obtain ⟨hc3, hf3⟩ := bcell r3')
          | (go_at_call 19; refine (join3 t1 t2 t3 _ _ _ (by omega) (by simp) (by simp) (by simp)).mono ?_; rintro e y4 ⟨rfl, r4⟩; have r4' : Below WA.heap.size WA y4 := (r3'.alloc r3'.size _).trans (r4.mono (by have := r3'.size; simp; omega)))
          | (go_at_call 17; refine (write_any w1.heap.size (fC k) _ _ (HA1.out.kept r4') (by omega) (Nat.le_trans HA2.out.size r4'.size)).mono ?_; rintro e y5 ⟨rfl, q5, r5⟩)) | fail
        all_goals
          have K6 : Hid (BHas w1.heap.size (fC (k + 1)) y5) := by rw [HS2.out]; exact q5
          have k6 := hide ((HA2.out.trans (r4'.mono HA2.out.size)).trans r5)
          clear q5 r5 r4' r4 r3' r3 r2' r2 r1' r1 hc1 hf1 hc2 hf2 hc3 hf3 g0 g1 g2 HA1 HA2 HPT HPN HPF HS2
          go_wp2
          go_roundw
          case rel => exact ⟨k + 1, by omega, by go_num, K6, k6.out⟩
          case measure => simp [intOf]; omega
      · obtain rfl : k = cs.length := by omega
        have KB := hide hb
        clear hb
        obtain ⟨x0, x1, x2, x3, xf⟩ := cells4 ((KB.out.block _ hz1).trans X1.out)
        have BW := hide (B1.out.trans (KB.out.mono B1.out.size))
        go_wp2_with fail
        refine (putPlaces_any A B ko c2 ky _ (Nat.le_trans hB BW.out.size) (by omega) (R2.out.kept (BW.out.mono hB))).mono ?_
        rintro e w6 ⟨rfl, hb6⟩
        have K6 := hide (HK.out.kept hb6)
        have k6 := hide (KB.out.trans (hb6.mono KB.out.size))
        have hpl : (mkS (placesL ky ky.length)).size ≤ 10010 := by rw [mkS_size]; exact placesL_len ky ky.length (by omega)
        have hcl := HCL.out cs.length
        clear hb6 HK KB BW x0 x1 x2 x3 xf
        generalize mkS (placesL ky ky.length) = tk at *
        go_wp2_with fail
        refine (write_any w1.heap.size _ tk _ K6.out (by omega) k6.out.size).mono ?_
        rintro e w7 ⟨rfl, hk7, hb7⟩
        have K7 := hide hk7
        have k7 := hide (k6.out.trans hb7)
        clear hk7 hb7 k6 K6
        obtain ⟨x0, x1, x2, x3, xf⟩ := cells4 ((k7.out.block _ hz1).trans X1.out)
        go_wp2_with fail
        refine (implNum_any xs.length (nat_in _ (by unfold maxLen; omega)) _).mono ?_
        rintro e w8 ⟨rfl, hb8⟩
        have K8 := hide (K7.out.kept hb8)
        have k8 := hide (k7.out.trans (hb8.mono k7.out.size))
        have hnx : (numS (xs.length : Int)).size ≤ 10 := num_size _
        clear hb8 k7 K7 x0 x1 x2 x3 xf
        generalize numS (xs.length : Int) = tn at *
        go_wp2_with fail
        refine (write_any w1.heap.size _ tn _ K8.out (by rw [List.length_append, len_data]; omega) k8.out.size).mono ?_
        rintro e w9 ⟨rfl, hk9, hb9⟩
        have K9 : Hid (BHas w1.heap.size (fX 0) w9) := by rw [HX0.out]; exact hk9
        have k9 := hide (k8.out.trans hb9)
        clear hk9 hb9 k8 K8 HX0
        obtain ⟨x0, x1, x2, x3, xf⟩ := cells4 ((k9.out.block _ hz1).trans X1.out)
        go_wp2
        clear x0 x1 x2 x3 xf hz
        go_loopw [52] (fun i wr => ∃ k : Nat, k ≤ xs.length ∧ i = .int .i64 k ∧ Hid (BHas w1.heap.size (fX k) wr) ∧ Below w1.heap.size w1 wr) (fun i _ => xs.length - (intOf i).toNat)
        case atStart => exact ⟨0, Nat.zero_le _, rfl, K9, k9.out⟩
        case round =>
          clear K9 k9
          obtain ⟨k, hk, rfl, HK, hb⟩ := hrel
          have hz := hb.size
          by_cases hlt : k < xs.length
          · have BW := hide (B1.out.trans (hb.mono B1.out.size))
            obtain ⟨b, off, io, cp, l, u, rfl, hbB, hv, hcp, hir, d0, d1⟩ := (R3.out.kept (BW.out.mono hB)).at k hlt
            have hll : l.length ≤ 10 := by have := HS4.out k hlt; rw [hv] at this; exact this
            have HS : Hid (fX (k + 1) = fX k ++ (mkS (placesL l l.length)).data.toList ++ (numS (flagN u)).data.toList) := by
              show _ = _
              rw [HXS.out k hlt, hv]
              unfold idxL numL
              rw [mkS_list]; simp
            have hxl := HXL.out k (by omega)
            have hp1 : (mkS (placesL l l.length)).size ≤ 10010 := by rw [mkS_size]; exact placesL_len l l.length (by omega)
            have hp3 : (numS (flagN u)).size ≤ 10 := num_size _
            have HIR := hide hir
            have HA1 := hide (HK.out.kept ((Below.refl _ wr).alloc (Nat.le_refl _) (.cells #[.slice io l.length cp, .bool u] 74)))
            have HA2 : Hid (Below w1.heap.size w1 (wr.alloc (.cells #[.slice io l.length cp, .bool u] 74))) := hb.alloc hz _
            have HA3 : Hid (wr.heap.size < (wr.alloc (.cells #[.slice io l.length cp, .bool u] 74)).heap.size) := by show _ < _; simp
            have HPP := hide (fun (W : World) (hbW : Below (wr.alloc (.cells #[.slice io l.length cp, .bool u] 74)).heap.size (wr.alloc (.cells #[.slice io l.length cp, .bool u] 74)) W) => putPlaces_any A B io cp l W (by have := hbW.size; have := BW.out.size; simp at *; omega) (by omega) ((HIR.out.kept ((Below.refl _ wr).alloc (by have := BW.out.size; omega) (.cells #[.slice io l.length cp, .bool u] 74))).kept (hbW.mono (by have := BW.out.size; simp; omega))))
            have g0 : (wr.alloc (.cells #[.slice io l.length cp, .bool u] 74)).cell? ⟨wr.heap.size, 0, none⟩ = some (.slice io l.length cp) := by rw [cell_of_row _ _ _ _ _ _ (heap_alloc_new _ _)]; rfl
            have g1 : (wr.alloc (.cells #[.slice io l.length cp, .bool u] 74)).cell? ⟨wr.heap.size, 1, none⟩ = some (.bool u) := by rw [cell_of_row _ _ _ _ _ _ (heap_alloc_new _ _)]; rfl
            have Z := hide (⟨g0, g1⟩ : _ ∧ _)
            clear g0 g1 hv hcp hir HK hb HIR
            go_wp2
            clear d0 d1
            obtain ⟨g0, g1⟩ := Z.out
            clear Z
            generalize wr.alloc (.cells #[.slice io l.length cp, .bool u] 74) = WA at *
            have hgA := HA3.out
            generalize wr.heap.size = g at *
            have HPF := hide (fun W => putFlag_any u W)
            clear HA3
            generalize mkS (placesL l l.length) = t1 at *
            generalize numS (flagN u) = t3 at *
            have hcat : (mkS (t1.data.toList ++ t3.data.toList)).size ≤ 10020 := by
              rw [mkS_size]; simp only [List.length_append, len_data]; omega
            have HS2 : Hid (fX (k + 1) = fX k ++ (mkS (t1.data.toList ++ t3.data.toList)).data.toList) := by show _ = _; rw [HS.out, mkS_list, List.append_assoc]
            clear HS
            first | go_region_with (first
              | (go_at_call 58; refine (HPP.out _ (Below.refl _ _).drew).mono ?_; rintro e y1 ⟨rfl, r1⟩; have r1' : Below WA.heap.size WA y1 := (Below.refl _ _).drew.trans r1; obtain ⟨hc1, hf1⟩ := bcell r1')
              | (go_at_call 57; refine (HPF.out _).mono ?_; rintro e y3 ⟨rfl, r3⟩; have r3' : Below WA.heap.size WA y3 := r1'.trans (r3.mono r1'.size); obtain ⟨hc3, hf3⟩ := bcell r3')
              | (go_at_call 19; refine (join2 t1 t3 _ _ _ (by omega) (by simp) (by simp)).mono ?_; rintro e y4 ⟨rfl, r4⟩; have r4' : Below WA.heap.size WA y4 := (r3'.alloc r3'.size _).trans (r4.mono (by have := r3'.size; simp; omega)))
              | (go_at_call 17; refine (write_any w1.heap.size (fX k) _ _ (HA1.out.kept r4') (by omega) (Nat.le_trans HA2.out.size r4'.size)).mono ?_; rintro e y5 ⟨rfl, q5, r5⟩)) | fail
            all_goals
              have K6 : Hid (BHas w1.heap.size (fX (k + 1)) y5) := by rw [HS2.out]; exact q5
              have k6 := hide ((HA2.out.trans (r4'.mono HA2.out.size)).trans r5)
              clear q5 r5 r4' r4 r3' r3 r1' r1 hc1 hf1 hc3 hf3 g0 g1 HA1 HA2 HPP HPF HS2
              go_wp2
              go_roundw
              case rel => exact ⟨k + 1, by omega, by go_num, K6, k6.out⟩
              case measure => simp [intOf]; omega
          · obtain rfl : k = xs.length := by omega
            go_wp2_with fail
            refine (string_any w1.heap.size _ _ HK.out hz).mono ?_
            rintro e wE ⟨rfl, hbE⟩
            have kE := hide (B1.out.trans ((hb.trans hbE).mono B1.out.size))
            clear hbE hb HK
            go_wp2
            go_ret
            exact ⟨ret_str (by rw [HF.out, HSL.out]), kE.out⟩
end Go.Proofs.YtnangmjcgjlndaaGreat
