/-
  Contracts: a schema's bytes, of the specification.
-/
import Derived.Test.YtnangmjcgjlndaaGreatSBytes2
import Derived.Test.YtnangmjcgjlndaaGreatSSpec
import Derived.Laws.Concat
namespace Go.Proofs.YtnangmjcgjlndaaGreat
open Go.RowKit
set_option maxRecDepth 100000

set_option maxHeartbeats 4000000 in
theorem specSchemaBytes_any (A B : Nat) (ao : Option Addr) (c1 : Nat) (ko : Option Addr) (c2 : Nat) (xo : Option Addr) (c3 : Nat) (s : Sch) (w : World) (hB : B ≤ w.heap.size) (hr : SchRow w A B ao ko xo c2 s) :
    Calls Tryz.prog 13 #[.agg #[.string s.name, .slice ao s.cols.length c1, .slice ko s.key.length c2, .slice xo s.idx.length c3]] w fun e w' => e = .returned (.string (schB s)) ∧ Below w.heap.size w w' := by
  have B0 : Hid (Below w.heap.size w (w.alloc (.cells #[.string s.name, .slice ao s.cols.length c1, .slice ko s.key.length c2, .slice xo s.idx.length c3] 43))) := (Below.refl _ _).alloc (Nat.le_refl _) _
  have h1 := specSchemaRight_any A B ao c1 ko c2 xo c3 s _ (Nat.le_trans hB B0.out.size) (hr.kept (B0.out.mono hB))
  cases hq : schRight s with
  | false =>
    rw [hq] at h1
    have HF : Hid (schB s = ByteArray.empty) := by show _ = _; unfold schB; rw [hq]; rfl
    clear hq
    obtain ⟨nm, cs, ky, xs⟩ := s
    simp only at *
    have H1 := hide h1
    clear h1 hr
    go_enter Tryz.func13, Tryz.ntmps13
    go_wp2_with fail
    refine H1.out.mono ?_
    rintro e w1 ⟨rfl, hb1⟩
    go_wp2
    go_ret
    exact ⟨ret_str (by rw [HF.out]; rfl), B0.out.trans (hb1.mono B0.out.size)⟩
  | true =>
    rw [hq] at h1
    have HF : Hid (schB s = mkS (schL s)) := by show _ = _; unfold schB; rw [if_pos hq]
    obtain ⟨hs1, hs2, hs3, hs4⟩ := schSmall hq
    have HS4 := hide hs4
    have HCL : Hid (∀ k, (mkS (colsL s k)).size ≤ 300000) := fun k => by rw [mkS_size]; exact colsL_len s k hs1
    have HCS := hide (colsL_succ s)
    have HXL : Hid (∀ k, k ≤ s.idx.length → (mkS (idxsL s k)).size ≤ 500000) := fun k hk => by rw [mkS_size]; have := idxsL_len s hs1 hs2 hs3 hs4 k hk; omega
    have HXS := hide (idxsL_succ s)
    have HC0 : Hid (mkS (colsL s 0) = putT s.name ++ numS s.cols.length) := by
      show _ = _
      have : colsL s 0 = textL s.name ++ (numS s.cols.length).data.toList := by unfold colsL numL; simp
      rw [this, mkS_cat, textS_mk]
    have HX0 : Hid (mkS (idxsL s 0) = mkS (colsL s s.cols.length) ++ mkS (placesL s.key s.key.length) ++ numS s.idx.length) := by
      show _ = _
      have : idxsL s 0 = colsL s s.cols.length ++ (mkS (placesL s.key s.key.length)).data.toList ++ (numS s.idx.length).data.toList := by unfold idxsL numL; rw [mkS_list]; simp
      rw [this, mkS_cat, mkS_cat]
    have HSL : Hid (schL s = idxsL s s.idx.length) := rfl
    have hp0 : (putT s.name).size ≤ 20010 := textL_len s.name
    have R1 := hide hr.2.1
    have R2 := hide hr.2.2.1
    have R3 := hide hr.2.2.2
    have hn0 := hr.1.2.1
    clear hq hr hs4
    generalize schB s = sb at *
    generalize schL s = sl at *
    generalize hFC : colsL s = fC at *
    generalize hFX : idxsL s = fX at *
    obtain ⟨nm, cs, ky, xs⟩ := s
    simp only at *
    clear hFC hFX
    have H1 := hide h1
    clear h1
    go_enter Tryz.func13, Tryz.ntmps13
    go_wp2_with fail
    refine H1.out.mono ?_
    rintro e w1 ⟨rfl, hb1⟩
    have X1 : Hid (w1.heap[w.heap.size]? = some (.cells #[.string nm, .slice ao cs.length c1, .slice ko ky.length c2, .slice xo xs.length c3] 43 (0, 0))) := (hb1.block _ (by simp)).trans (heap_alloc_new _ _)
    have hz1 : w.heap.size < w1.heap.size := by have := hb1.size; simp at this; omega
    have B1 := hide (B0.out.trans (hb1.mono B0.out.size))
    clear hb1 B0 H1
    obtain ⟨x0, x1, x2, x3, xf⟩ := cells4 X1.out
    have HPT := hide (fun W => specPutText_any nm W)
    have HPN := hide (fun W => specNum_any cs.length (nat_in _ hn0) W)
    have hp1 : (numS (cs.length : Int)).size ≤ 10 := num_size _
    generalize putT nm = t1 at *
    generalize numS (cs.length : Int) = t2 at *
    have ad1 := fun W => run_string_add_sum (P := Tryz.prog) (w := W) t1 t2 (by omega)
    clear xf
    go_wp2
    go_region_held3 (fun W => W.cell? ⟨w.heap.size, 0, none⟩ = some (.string nm) ∧ W.cell? ⟨w.heap.size, 1, none⟩ = some (.slice ao cs.length c1)) (go_keep) (first
      | (go_at_call 12; refine (HPT.out _).mono ?_; rintro e y1 ⟨rfl, r1⟩; have r1' : Below w1.heap.size w1 y1 := (Below.refl _ _).drew.trans r1; obtain ⟨hc1, hf1⟩ := bcell r1')
      | (go_at_call 11; refine (HPN.out _).mono ?_; rintro e y2 ⟨rfl, r2⟩; have r2' : Below w1.heap.size w1 y2 := r1'.trans (r2.mono r1'.size); obtain ⟨hc2, hf2⟩ := bcell r2'))
    all_goals
      have k2 := hide r2'
      clear r2' r2 r1' r1 hc1 hf1 hc2 hf2 x0 x1 x2 x3 HPT HPN ad1
      go_wp2
      go_loopw [3, 4] (fun t i wr => ∃ k : Nat, k ≤ cs.length ∧ i = .int .i64 k ∧ t = .string (mkS (fC k)) ∧ Below w1.heap.size w1 wr) (fun _ i _ => cs.length - (intOf i).toNat)
      case atStart => exact ⟨0, Nat.zero_le _, rfl, by rw [HC0.out], k2.out⟩
      case round =>
        clear k2
        obtain ⟨k, hk, rfl, rfl, hb⟩ := hrel
        have hz := hb.size
        have hz2 : w.heap.size < wr.heap.size := by omega
        obtain ⟨x0, x1, x2, x3, xf⟩ := cells4 ((hb.block _ hz1).trans X1.out)
        by_cases hlt : k < cs.length
        · have BW := B1.out.trans (hb.mono B1.out.size)
          obtain ⟨b, off, cn, kd, nu, rfl, hbB, hv, htt, hki, d0, d1, d2⟩ := (R1.out.kept (BW.mono hB)).at k hlt
          have HS : Hid (mkS (fC (k + 1)) = mkS (fC k) ++ putT cn ++ numS kd ++ numS (flagN nu)) := by
            show _ = _
            have : fC (k + 1) = fC k ++ (putT cn).data.toList ++ (numS kd).data.toList ++ (numS (flagN nu)).data.toList := by
              rw [HCS.out k hlt, hv]
              unfold colL textL numL
              simp
            rw [this, mkS_cat, mkS_cat, mkS_cat]
          have hcl := HCL.out k
          have hp2 : (putT cn).size ≤ 20010 := textL_len cn
          have hp3 : (numS kd).size ≤ 10 := num_size _
          have hp4 : (numS (flagN nu)).size ≤ 10 := num_size _
          have HPT := hide (fun W => specPutText_any cn W)
          have HPN := hide (fun W => specNum_any kd hki W)
          have HPF := hide (fun W => specFlag_any nu W)
          have hi0 : (0 : Int) ≤ (k : Int) := by omega
          have hi1 : (k : Int) < (cs.length : Int) := by omega
          have ht := (Int.toNat_natCast k)
          have hq1 : b < wr.heap.size := by have := BW.size; omega
          clear hv htt hki x0 x2 x3 xf BW
          generalize mkS (fC k) = T at *
          generalize putT cn = u1 at *
          generalize numS kd = u2 at *
          generalize numS (flagN nu) = u3 at *
          have ad1 := fun W => run_string_add_sum (P := Tryz.prog) (w := W) T u1 (by omega)
          have ad2 := fun W => run_string_add_sum (P := Tryz.prog) (w := W) (T ++ u1) u2 (by rw [ByteArray.size_append]; omega)
          have ad3 := fun W => run_string_add_sum (P := Tryz.prog) (w := W) (T ++ u1 ++ u2) u3 (by rw [ByteArray.size_append, ByteArray.size_append]; omega)
          go_wp2
          go_region_held3 (fun W => W.cell? ⟨w.heap.size, 1, none⟩ = some (.slice (some ⟨b, off, none⟩) cs.length c1) ∧ W.cell? ⟨b, off + k * 3, none⟩ = some (.string cn) ∧ W.cell? ⟨b, off + k * 3 + 1, none⟩ = some (.int .i64 kd) ∧ W.cell? ⟨b, off + k * 3 + 2, none⟩ = some (.bool nu)) (go_keep) (first
            | (go_at_call 12; refine (HPT.out _).mono ?_; rintro e y1 ⟨rfl, r1⟩; have r1' : Below wr.heap.size wr y1 := (Below.refl _ _).drew.trans r1; obtain ⟨hc1, hf1⟩ := bcell r1')
            | (go_at_call 11; refine (HPN.out _).mono ?_; rintro e y2 ⟨rfl, r2⟩; have r2' : Below wr.heap.size wr y2 := r1'.trans (r2.mono r1'.size); obtain ⟨hc2, hf2⟩ := bcell r2')
            | (go_at_call 28; refine (HPF.out _).mono ?_; rintro e y3 ⟨rfl, r3⟩; have r3' : Below wr.heap.size wr y3 := r2'.trans (r3.mono r2'.size); obtain ⟨hc3, hf3⟩ := bcell r3'))
          all_goals
            have k3 := hide (hb.trans (r3'.mono hb.size))
            clear r3' r3 r2' r2 r1' r1 hc1 hf1 hc2 hf2 hc3 hf3 d0 d1 d2 x1 HPT HPN HPF hb ad1 ad2 ad3
            go_wp2
            go_roundw
            case rel => exact ⟨k + 1, by omega, by go_num, by rw [HS.out], k3.out⟩
            case measure => simp [intOf]; omega
        · obtain rfl : k = cs.length := by omega
          have BW := hide (B1.out.trans (hb.mono B1.out.size))
          have HPP := hide (fun (W : World) (hbW : Below wr.heap.size wr W) => specNums_any A B ko c2 ky W (by have := hbW.size; have := BW.out.size; omega) (by omega) ((R2.out.kept (BW.out.mono hB)).kept (hbW.mono (by have := BW.out.size; omega))))
          have HPN := hide (fun W => specNum_any xs.length (nat_in _ (by unfold maxLen; omega)) W)
          have hcl := HCL.out cs.length
          have hp2 : (mkS (placesL ky ky.length)).size ≤ 10010 := by rw [mkS_size]; exact placesL_len ky ky.length (by omega)
          have hp3 : (numS (xs.length : Int)).size ≤ 10 := num_size _
          generalize mkS (fC cs.length) = T at *
          generalize mkS (placesL ky ky.length) = u1 at *
          generalize numS (xs.length : Int) = u2 at *
          have ad1 := fun W => run_string_add_sum (P := Tryz.prog) (w := W) T u1 (by omega)
          have ad2 := fun W => run_string_add_sum (P := Tryz.prog) (w := W) (T ++ u1) u2 (by rw [ByteArray.size_append]; omega)
          clear x0 xf BW
          go_wp2
          go_region_held3 (fun W => W.cell? ⟨w.heap.size, 2, none⟩ = some (.slice ko ky.length c2) ∧ W.cell? ⟨w.heap.size, 3, none⟩ = some (.slice xo xs.length c3)) (go_keep) (first
            | (go_at_call 29; refine (HPP.out _ (Below.refl _ _).drew).mono ?_; rintro e y1 ⟨rfl, r1⟩; have r1' : Below wr.heap.size wr y1 := (Below.refl _ _).drew.trans r1; obtain ⟨hc1, hf1⟩ := bcell r1')
            | (go_at_call 11; refine (HPN.out _).mono ?_; rintro e y2 ⟨rfl, r2⟩; have r2' : Below wr.heap.size wr y2 := r1'.trans (r2.mono r1'.size); obtain ⟨hc2, hf2⟩ := bcell r2'))
          all_goals
            have k3 := hide (hb.trans (r2'.mono hb.size))
            clear r2' r2 r1' r1 hc1 hf1 hc2 hf2 x1 x2 x3 HPP HPN hb hz hz2 ad1 ad2
            go_wp2
            go_loopw [3, 5] (fun t i wr => ∃ k : Nat, k ≤ xs.length ∧ i = .int .i64 k ∧ t = .string (mkS (fX k)) ∧ Below w1.heap.size w1 wr) (fun _ i _ => xs.length - (intOf i).toNat)
            case atStart => exact ⟨0, Nat.zero_le _, rfl, by rw [HX0.out], k3.out⟩
            case round =>
              clear k3
              obtain ⟨k, hk, rfl, rfl, hb⟩ := hrel
              have hz := hb.size
              have hz2 : w.heap.size < wr.heap.size := by omega
              obtain ⟨x0, x1, x2, x3, xf⟩ := cells4 ((hb.block _ hz1).trans X1.out)
              by_cases hlt : k < xs.length
              · have BW := hide (B1.out.trans (hb.mono B1.out.size))
                obtain ⟨b, off, io, cp, l, u, rfl, hbB, hv, hcp, hir, d0, d1⟩ := (R3.out.kept (BW.out.mono hB)).at k hlt
                have hll : l.length ≤ 10 := by have := HS4.out k hlt; rw [hv] at this; exact this
                have HS : Hid (mkS (fX (k + 1)) = mkS (fX k) ++ mkS (placesL l l.length) ++ numS (flagN u)) := by
                  show _ = _
                  have : fX (k + 1) = fX k ++ (mkS (placesL l l.length)).data.toList ++ (numS (flagN u)).data.toList := by
                    rw [HXS.out k hlt, hv]
                    unfold idxL numL
                    rw [mkS_list]; simp
                  rw [this, mkS_cat, mkS_cat]
                have hxl := HXL.out k (by omega)
                have hp4 : (mkS (placesL l l.length)).size ≤ 10010 := by rw [mkS_size]; exact placesL_len l l.length (by omega)
                have hp5 : (numS (flagN u)).size ≤ 10 := num_size _
                have HPP := hide (fun (W : World) (hbW : Below wr.heap.size wr W) => specNums_any A B io cp l W (by have := hbW.size; have := BW.out.size; omega) (by omega) (hir.kept (hbW.mono (by have := BW.out.size; omega))))
                have HPF := hide (fun W => specFlag_any u W)
                have hi0 : (0 : Int) ≤ (k : Int) := by omega
                have hi1 : (k : Int) < (xs.length : Int) := by omega
                have ht := (Int.toNat_natCast k)
                have hq1 : b < wr.heap.size := by have := BW.out.size; omega
                clear hv hcp hir x0 x1 x2 xf BW
                generalize mkS (fX k) = T2 at *
                generalize mkS (placesL l l.length) = u4 at *
                generalize numS (flagN u) = u5 at *
                have ad1 := fun W => run_string_add_sum (P := Tryz.prog) (w := W) T2 u4 (by omega)
                have ad2 := fun W => run_string_add_sum (P := Tryz.prog) (w := W) (T2 ++ u4) u5 (by rw [ByteArray.size_append]; omega)
                go_wp2
                go_region_held3 (fun W => W.cell? ⟨w.heap.size, 3, none⟩ = some (.slice (some ⟨b, off, none⟩) xs.length c3) ∧ W.cell? ⟨b, off + k * 2, none⟩ = some (.slice io l.length cp) ∧ W.cell? ⟨b, off + k * 2 + 1, none⟩ = some (.bool u)) (go_keep) (first
                  | (go_at_call 29; refine (HPP.out _ (Below.refl _ _).drew).mono ?_; rintro e y1 ⟨rfl, r1⟩; have r1' : Below wr.heap.size wr y1 := (Below.refl _ _).drew.trans r1; obtain ⟨hc1, hf1⟩ := bcell r1')
                  | (go_at_call 28; refine (HPF.out _).mono ?_; rintro e y3 ⟨rfl, r3⟩; have r3' : Below wr.heap.size wr y3 := r1'.trans (r3.mono r1'.size); obtain ⟨hc3, hf3⟩ := bcell r3'))
                all_goals
                  have k4 := hide (hb.trans (r3'.mono hb.size))
                  clear r3' r3 r1' r1 hc1 hf1 hc3 hf3 d0 d1 x3 HPP HPF hb ad1 ad2
                  go_wp2
                  go_roundw
                  case rel => exact ⟨k + 1, by omega, by go_num, by rw [HS.out], k4.out⟩
                  case measure => simp [intOf]; omega
              · obtain rfl : k = xs.length := by omega
                go_wp2
                go_ret
                exact ⟨ret_str (by rw [HF.out, HSL.out]), B1.out.trans (hb.mono B1.out.size)⟩
end Go.Proofs.YtnangmjcgjlndaaGreat
