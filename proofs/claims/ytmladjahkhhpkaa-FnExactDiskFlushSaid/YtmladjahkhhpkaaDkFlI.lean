/-
  Contract: DiskFlush of the program.
-/
import Derived.Test.YtmladjahkhhpkaaDkEI
import Derived.Test.YtmladjahkhhpkaaDkNeq
import Derived.Test.YtmladjahkhhpkaaDkFlP
import Derived.Test.YtmladjahkhhpkaaDkTxt
import Derived.Test.YtmladjahkhhpkaaDkCl
import Derived.Test.YtmladjahkhhpkaaDkRightI
namespace Go.Proofs.Ytmladjahkhhpkaa
open Go.RowKit
set_option maxRecDepth 100000

theorem exec_load_row {P : Program} {W : World} {ev : Operand → Value} {o : Oper} (ty : TypeId) (x : Operand) (ho : o.op = .load ty x) (g : Nat) (hx : ev x = .pointer (some ⟨g, 0, none⟩)) (t : TypeId) (cs : Array Value) (fr : Nat × Nat) (d : TypeDesc)
    (hg : W.heap[g]? = some (.cells cs t fr)) (hu : P.underlying ty = some d) (hd : (match d with | .struct _ | .array _ _ => true | _ => false) = true) (hi : (P.info? ty).map (·.size) = some cs.size) : (execOp ev o).run P W = .ok (.value (.agg cs)) W := by
  unfold execOp
  simp only [ho, hx, Instr.loadAt, Instr.sureAddr, Sem.run_bind, Sem.run_pure, Result.andThen_ok, run_loadVar_row W g t ty cs fr d hg hu hd hi]
theorem exec_neq_sec {W : World} {ev : Operand → Value} {o : Oper} {r : Bool} (x y : Operand) (ho : o.op = .binOp .neq 56 x y 56) (a b : List UInt8) (hx : ev x = .agg (secV a)) (hy : ev y = .agg (secV b)) (hn : (binOp .neq 56 (.agg (secV a)) (.agg (secV b))).run Try.prog W = .ok (.bool r) W) :
    (execOp ev o).run Try.prog W = .ok (.value (.bool r)) W := by
  have hm : Try.prog.eqGuardType Try.prog.depth 56 = false := by kernel_rfl
  unfold execOp
  simp only [ho, hx, hy, Sem.run_bind, run_eqGuard_agg W _ _ _ _ _ _ hm, Result.andThen_ok, hn, Sem.run_pure]
set_option maxHeartbeats 8000000 in
theorem implDiskFlush_any (b : Nat) (s c : Value) (d : Dk) (w : World) (hi : dkIn d) (hf : dkFits d) (h : OwnD b s c d w) :
    Calls Try.prog 26 #[.agg #[s, c]] w fun e w' => ∃ s' c', e = .returned (.agg #[s', c']) ∧ OwnD w.heap.size s' c' (dkFlush d) w' ∧ Below w.heap.size w w' := by
  obtain ⟨so, p, co, q, rfl, rfl, hr⟩ := h.row hi
  have HA := two_allocs w (.cells #[.slice so d.secs.length p, .slice co d.cache.length q] 25) (.cells #[.slice none 0 0, .slice none 0 0] 25)
  have B0 := hide (((Below.refl w.heap.size w).alloc (Nat.le_refl _) (.cells #[.slice so d.secs.length p, .slice co d.cache.length q] 25)).alloc (by simp) (.cells #[.slice none 0 0, .slice none 0 0] 25))
  have X0 := hide HA.1
  have Y0 := hide HA.2.1
  have HSP := hide (fun (W : World) (hb : Below w.heap.size w W) => implDiskRight_any _ _ so p co q d W hb.size (hr.kept hb))
  have HCP := hide (fun (W : World) (hb : Below w.heap.size w W) => copyDisk_own _ _ _ d W hf (h.below hb))
  obtain ⟨x0, x1, xf⟩ := cells2 X0.out
  clear HA
  cases hdr : dkRight d with
  | false =>
    rw [dkFlush_n hdr]
    rw [hdr] at HSP
    obtain ⟨ss, cs⟩ := d
    simp only at *
    clear hi hf h hr hdr
    go_enter Try.func26, Try.ntmps26
    go_wp2_with (first | (go_at_call 49; refine (HCP.out _ B0.out).mono ?_; rintro e w1 ⟨s3, c3, rfl, o1, b1⟩; obtain ⟨so3, p3, co3, q3, rfl, rfl⟩ := o1.shape; have O1 := hide (o1.base (show w.heap.size + 2 ≤ _ from blk_lt' Y0.out)); have F2 := hide (FI.start2 (c := .slice co3 cs.length q3) (B0.out.trans (b1.mono B0.out.size)) ((b1.block _ (blk_lt' X0.out)).trans X0.out) ((b1.block _ (blk_lt' Y0.out)).trans Y0.out) O1.out.secs); have O2 := hide (O1.out.below ((Below.refl w1.heap.size w1).alloc (Nat.le_refl _) (.cells #[.slice so3 ss.length p3, .slice co3 cs.length q3] 25))); clear x0 x1 xf o1 b1 O1; obtain ⟨x0, x1, xf⟩ := cells2 F2.out.par) | (go_at_call 17; refine (HSP.out _ F2.out.below).mono ?_; rintro e w3 ⟨rfl, b3⟩; have F3 := hide (F2.out.keep b3); have O3 := hide (O2.out.below b3); clear x0 x1 xf b3 O2; obtain ⟨x0, x1, xf⟩ := cells2 F3.out.par; obtain ⟨g0, g1, gf⟩ := cells2 F3.out.var; obtain ⟨r0, r1, rf⟩ := cells2 F3.out.res))
    refine bodyPost_ret (v := .agg #[.slice so3 ss.length p3, .slice co3 cs.length q3]) (resDisk Try.results26 _ _ (w.heap.size + 1) _ _ rfl (set2 F3.out.res)) rfl ⟨_, _, rfl, ?_, ?_⟩
    · exact ((O3.out.set (by omega)).set (by omega)).base (by omega)
    · exact (F3.out.below.setCell (by simp) _).setCell (by simp) _
  | true =>
    rw [dkFlush_y hdr]
    rw [hdr] at HSP
    have hbd := dkRight_bounds hdr
    have HD := hide (fun (W : World) (hb : Below w.heap.size w W) => driveOf_any _ _ so p co q d W hb.size (by omega) (hr.kept hb))
    have HH := hide (fun (bm n k : Nat) (W : World) (hk : k < d.secs.length) (hb : Below w.heap.size w W) (hM : W.ownsMap Try.prog 2 secR bm n (cacheD d.cache)) => has_any _ _ so p bm n d k W hb.size hk hdr hbd.1 (hr.2.1.kept hb) hM)
    have HLI := hide (fun (bm k : Nat) (W : World) (hk : k < d.secs.length) (hb : Below w.heap.size w W) => lies_any _ _ so p bm d.secs k W hb.size hk (hr.2.1.kept hb))
    have hlenF : (flushL d.secs d.cache).length = d.secs.length := flushL_len _ _
    have H64 : Hid (∀ i, i < d.secs.length → ((flushL d.secs d.cache).getD i ByteArray.empty).size = 64) := by rw [← hlenF]; exact flush64 hdr
    have HS64 := hide (dkRight_secs hdr)
    have HNX := hide (fun k (hk : k < d.secs.length) => mixL_next hlenF hk)
    have HSM := hide (fun k (hk : k < d.secs.length) he => mixL_same hlenF hk he)
    have HML := hide (fun k (hk : k ≤ d.secs.length) => mixL_len hlenF hk)
    have HM0 : Hid (mixL (flushL d.secs d.cache) d.secs 0 = d.secs) := by show _ = _; simp [mixL]
    have HMN : Hid (mixL (flushL d.secs d.cache) d.secs d.secs.length = flushL d.secs d.cache) := by show _ = _; simp [mixL, ← hlenF]
    have hz := zero_of_info Try.infoSec
    have hzz := hz.1
    have HI64 := hide hz.2
    obtain ⟨ss, cs⟩ := d
    simp only at *
    generalize flushL ss cs = fl at *
    generalize cacheD cs = CD at *
    generalize mixL fl ss = MX at *
    have HLF := hide hlenF
    clear hi hf h hr hdr hlenF hz
    obtain ⟨hb1, hb2⟩ := hbd
    go_enter Try.func26, Try.ntmps26
    go_wp2_with (first | (go_at_call 49; refine (HCP.out _ B0.out).mono ?_; rintro e w1 ⟨s3, c3, rfl, o1, b1⟩; obtain ⟨so3, p3, co3, q3, rfl, rfl⟩ := o1.shape; have O1 := hide (o1.base (show w.heap.size + 2 ≤ _ from blk_lt' Y0.out)); have F2 := hide (FI.start2 (c := .slice co3 cs.length q3) (B0.out.trans (b1.mono B0.out.size)) ((b1.block _ (blk_lt' X0.out)).trans X0.out) ((b1.block _ (blk_lt' Y0.out)).trans Y0.out) O1.out.secs); have O2 := hide (O1.out.below ((Below.refl w1.heap.size w1).alloc (Nat.le_refl _) (.cells #[.slice so3 ss.length p3, .slice co3 cs.length q3] 25))); clear x0 x1 xf o1 b1 O1; obtain ⟨x0, x1, xf⟩ := cells2 F2.out.par) | (go_at_call 17; refine (HSP.out _ F2.out.below).mono ?_; rintro e w3 ⟨rfl, b3⟩; have F3 := hide (F2.out.keep b3); have O3 := hide (O2.out.below b3); clear x0 x1 xf b3 O2; obtain ⟨x0, x1, xf⟩ := cells2 F3.out.par; obtain ⟨g0, g1, gf⟩ := cells2 F3.out.var; obtain ⟨r0, r1, rf⟩ := cells2 F3.out.res) | (go_at_call 52; refine (HD.out _ F3.out.below).mono ?_; rintro e w4 ⟨bm, rfl, M4, hbm, b4⟩; have F4 := hide (F3.out.keep b4); have M4' := hide M4; have HBM := hide hbm; have FA := hide (F4.out.keep ((Below.refl w4.heap.size w4).alloc (Nat.le_refl _) (.cells #[.slice so ss.length p, .map (some bm)] 75))); clear x0 x1 xf g0 g1 gf M4 hbm; obtain ⟨g0, g1, gf⟩ := cells2 FA.out.var; have HB4 := hide b4; clear b4))
    have E5 : Hid (EI w #[.slice so ss.length p, .slice co cs.length q] (.slice so3 ss.length p3) (.slice co3 cs.length q3) w1.heap.size (.slice so ss.length p) bm w4.heap.size cs.length CD (MX 0) (w4.alloc (.cells #[.slice so ss.length p, .map (some bm)] 75))) := by
      rw [HM0.out]
      refine ⟨FA.out, heap_alloc_new _ _, ownsMap_below M4'.out ((Below.refl _ _).alloc (Nat.le_refl _) _), fun b hb => ?_⟩
      have h1 := (World.ownsRow.lt F3.out.secs b hb).2
      have h2 := HBM.out
      have h3 := HB4.out.size
      omega
    clear FA M4' HBM F4 F3 F2 B0 X0 Y0 HB4 HM0 O3 g0 g1 gf
    generalize w4.heap.size = gd at *
    generalize w1.heap.size = g at *
    go_loopw [18] (fun i wr => ∃ k : Nat, k ≤ ss.length ∧ i = .int .i64 k ∧ Hid (EI w #[.slice so ss.length p, .slice co cs.length q] (.slice so3 ss.length p3) (.slice co3 cs.length q3) g (.slice so ss.length p) bm gd cs.length CD (MX k) wr)) (fun i _ => ss.length - (intOf i).toNat)
    case atStart => exact ⟨0, Nat.zero_le _, rfl, E5⟩
    case round =>
      obtain ⟨k, hk, rfl, G⟩ := hrel
      clear E5
      by_cases hlt : k < ss.length
      · obtain ⟨v0, v1, vf⟩ := cells2 G.out.drv
        have HC := hide (HH.out bm _ k wr hlt G.out.fi.below G.out.map)
        have HLL := hide (fun (W : World) (hb : Below w.heap.size w W) => HLI.out bm k W hlt hb)
        have hF : (fl.getD k ByteArray.empty).data.toList.length = 64 := H64.out k hlt
        have hY : (ss.getD k ByteArray.empty).data.toList.length = 64 := HS64.out k hlt
        rw [pad_full hY] at HLL
        have hnq := sec_neq _ _ hF hY
        have HNK := HNX.out k hlt
        have HSK := hide (HSM.out k hlt)
        have HLK := HML.out k (by omega)
        have HNKH := hide HNK
        have HLKH := hide HLK
        have hmkF : mkS (fl.getD k ByteArray.empty).data.toList = fl.getD k ByteArray.empty := mkS_data _
        have HST := hide (fun W => sectorText_any _ hF W)
        rw [hmkF] at HST
        have HF64 : Hid ((secV (fl.getD k ByteArray.empty).data.toList).size = 64) := by show _ = _; rw [secV_size]; exact hF
        have HZ64 : Hid ((secV zSec).size = 64) := by show _ = _; rw [secV_size, zSec_len]
        have hinj : (fl.getD k ByteArray.empty).data.toList = (ss.getD k ByteArray.empty).data.toList → fl.getD k ByteArray.empty = ss.getD k ByteArray.empty := fun e => by rw [← mkS_data (fl.getD k ByteArray.empty), e, mkS_data]
        have HINJ := hide hinj
        clear hinj hmkF hF hY HNK HLK
        generalize fl.getD k ByteArray.empty = F at *
        generalize ss.getD k ByteArray.empty = Y at *
        go_wp2_with (first | (go_at_call 53; refine HC.out.mono ?_; rintro e w6 ⟨rfl, b6⟩; have G6 := hide (G.out.keep b6); have N7 := hide (heap_alloc_new w6 (.cells (secV zSec) 56)); clear b6) | (refine wpList_store_row rfl 56 _ _ rfl w6.heap.size _ rfl rfl 56 _ N7.out (by rw [HF64.out]; exact HI64.out) (by rw [HF64.out, HZ64.out]) (secV_one _) ?_))
        have T8 := hide (setRow_heap _ _ _ (secV F.data.toList) _ _ N7.out)
        have G8 := hide (G6.out.keep (below_setRow ((Below.refl w6.heap.size w6).alloc (Nat.le_refl _) (.cells (secV zSec) 56)) (Nat.le_refl _) (secV F.data.toList))).drew
        have HGT := hide (blk_lt' G6.out.drv)
        clear N7 G6 HC v0 v1 vf G
        generalize (w6.alloc (.cells (secV zSec) 56)).setRow w6.heap.size (secV F.data.toList) = w8 at *
        generalize w6.heap.size = t6 at *
        refine wp_region_noPanic ?_
        have T8d : w8.drew.heap[t6]? = some (.cells (secV F.data.toList) 56 (0, 0)) := T8.out
        have T9 := hide T8d
        clear T8 T8d
        refine wp_region_held_drew (S := fun W => W.heap[t6]? = some (.cells (secV F.data.toList) 56 (0, 0)) ∧ W.heap[gd]? = some (.cells #[.slice so ss.length p, .map (some bm)] 75 (0, 0))) (by kernel_rfl) ⟨T9.out, G8.out.drv⟩ (fun hS1 => ?_)
        generalize w8.drew = w9 at *
        refine takeD 0 24 (v := .agg (secV F.data.toList)) rfl rfl (by kernel_rfl) (by kernel_rfl) (by kernel_rfl) (fun _ _ _ h => h) (by kernel_rfl) ?hy1 (by assumption) ?r1
        case hy1 => (intro W hSw; exact exec_load_row 56 (.tmp 6) (by rfl) t6 (by rfl) 56 _ (0, 0) _ (hSw.1) Try.underlying56 rfl (by rw [HF64.out]; exact HI64.out))
        simp only [Act.put, List.setIfInBounds_toArray, List.set_cons_zero, List.set_cons_succ]
        refine takeD 1 25 (v := ?v2) rfl rfl (by kernel_rfl) (by kernel_rfl) (by kernel_rfl) (fun _ _ _ h => h) (by kernel_rfl) ?hy2 (by assumption) ?r2
        case hy2 => (intro W hSw; obtain ⟨a0, a1, af⟩ := cells2 hSw.2; go_simp; try with_reducible rfl)
        simp only [Act.put, List.setIfInBounds_toArray, List.set_cons_zero, List.set_cons_succ]
        refine takeD 2 26 (v := ?v3) rfl rfl (by kernel_rfl) (by kernel_rfl) (by kernel_rfl) (fun _ _ _ h => h) (by kernel_rfl) ?hy3 (by assumption) ?r3
        case hy3 => (intro W hSw; go_simp; try with_reducible rfl)
        simp only [Act.put, List.setIfInBounds_toArray, List.set_cons_zero, List.set_cons_succ]
        refine wpAnyH_ready (rs := [3]) (by kernel_rfl) (by simp) ?_
        refine AllReadyH.cons (o := _) rfl (fun K hK => ?_) AllReadyH.nil
        go_simp
        go_at_call 56
        refine (HLL.out _ G8.out.fi.below).mono ?_
        rintro e w10 ⟨rfl, b10⟩
        have G10 := hide (G8.out.keep b10)
        have T10 := hide ((b10.block _ (blk_lt' T9.out)).trans T9.out)
        clear b10 G8 T9
        go_wp2_with fail
        refine hK.out _ _ ⟨T10.out, G10.out.drv⟩ (fun hS2 => ?_)
        clear hK K hS1
        try simp only [Act.put, List.setIfInBounds_toArray, List.set_cons_zero, List.set_cons_succ]
        by_cases heq : F.data.toList = Y.data.toList
        · have hn2 : ∀ W : World, (binOp .neq 56 (.agg (secV F.data.toList)) (.agg (secV Y.data.toList))).run Try.prog W = .ok (.bool false) W := fun W => by have := hnq W; simpa [heq] using this
          clear hnq
          refine takeD 4 28 (v := .bool false) rfl rfl (by kernel_rfl) (by kernel_rfl) (by kernel_rfl) (fun _ _ _ h => h) (by kernel_rfl) ?hy4 (by assumption) ?r4
          case hy4 => (intro W hSw; exact exec_neq_sec (.tmp 24) (.tmp 27) (by rfl) _ _ (by rfl) (by rfl) (hn2 W))
          simp only [Act.put, List.setIfInBounds_toArray, List.set_cons_zero, List.set_cons_succ]
          refine wpAnyH_done (by kernel_rfl) ?_ _
          refine NoPanic.normal ?_
          clear hS2 hn2
          have GN : Hid (EI w #[.slice so ss.length p, .slice co cs.length q] (.slice so3 ss.length p3) (.slice co3 cs.length q3) g (.slice so ss.length p) bm gd cs.length CD (MX (k + 1)) w10) := by rw [HSK.out (HINJ.out heq)]; exact G10.out
          clear G10 T10 heq
          go_wp2
          go_roundw
          case rel => exact ⟨k + 1, by omega, by go_num, GN⟩
          case measure => simp [intOf]; omega
        · have hn2 : ∀ W : World, (binOp .neq 56 (.agg (secV F.data.toList)) (.agg (secV Y.data.toList))).run Try.prog W = .ok (.bool true) W := fun W => by have := hnq W; simpa [heq] using this
          clear hnq
          refine takeD 4 28 (v := .bool true) rfl rfl (by kernel_rfl) (by kernel_rfl) (by kernel_rfl) (fun _ _ _ h => h) (by kernel_rfl) ?hy5 (by assumption) ?r5
          case hy5 => (intro W hSw; exact exec_neq_sec (.tmp 24) (.tmp 27) (by rfl) _ _ (by rfl) (by rfl) (hn2 W))
          simp only [Act.put, List.setIfInBounds_toArray, List.set_cons_zero, List.set_cons_succ]
          refine wpAnyH_done (by kernel_rfl) ?_ _
          refine NoPanic.normal ?_
          clear hS2 hn2
          obtain ⟨e, rfl, he, heg, hef, hec⟩ := G10.out.fi.cell (by rw [HLKH.out]; omega)
          have hft : e < t6 := Nat.lt_trans (G10.out.far e rfl).2 HGT.out
          clear hec hef heq
          go_wp2
          refine wp_region_noPanic ?_
          have G11 := hide G10.out.drew
          have T11 : Hid (w10.drew.heap[t6]? = some (.cells (secV F.data.toList) 56 (0, 0))) := T10.out
          clear G10 T10
          refine wp_region_held_drew (S := fun W => W.heap[t6]? = some (.cells (secV F.data.toList) 56 (0, 0)) ∧ W.heap[g]? = some (.cells #[.slice (some ⟨e, 0, none⟩) ss.length p3, .slice co3 cs.length q3] 25 (0, 0))) (by kernel_rfl) ⟨T11.out, G11.out.fi.var⟩ (fun hS3 => ?_)
          generalize w10.drew = w11 at *
          refine takeD 0 29 (v := ?v6) rfl rfl (by kernel_rfl) (by kernel_rfl) (by kernel_rfl) (fun _ _ _ h => h) (by kernel_rfl) ?hy6 (by assumption) ?r6
          case hy6 => (intro W hSw; go_simp; try with_reducible rfl)
          simp only [Act.put, List.setIfInBounds_toArray, List.set_cons_zero, List.set_cons_succ]
          refine takeD 1 30 (v := ?v7) rfl rfl (by kernel_rfl) (by kernel_rfl) (by kernel_rfl) (fun _ _ _ h => h) (by kernel_rfl) ?hy7 (by assumption) ?r7
          case hy7 => (intro W hSw; obtain ⟨a0, a1, af⟩ := cells2 hSw.2; go_simp; try with_reducible rfl)
          simp only [Act.put, List.setIfInBounds_toArray, List.set_cons_zero, List.set_cons_succ]
          refine takeD 2 31 (v := ?v8) rfl rfl (by kernel_rfl) (by kernel_rfl) (by kernel_rfl) (fun _ _ _ h => h) (by kernel_rfl) ?hy8 (by assumption) ?r8
          case hy8 => (intro W hSw; go_simp; try with_reducible rfl)
          simp only [Act.put, List.setIfInBounds_toArray, List.set_cons_zero, List.set_cons_succ]
          refine takeD 3 32 (v := .agg (secV F.data.toList)) rfl rfl (by kernel_rfl) (by kernel_rfl) (by kernel_rfl) (fun _ _ _ h => h) (by kernel_rfl) ?hy9 (by assumption) ?r9
          case hy9 => (intro W hSw; exact exec_load_row 56 (.tmp 6) (by rfl) t6 (by rfl) 56 _ (0, 0) _ (hSw.1) Try.underlying56 rfl (by rw [HF64.out]; exact HI64.out))
          simp only [Act.put, List.setIfInBounds_toArray, List.set_cons_zero, List.set_cons_succ]
          refine wpAnyH_ready (rs := [4]) (by kernel_rfl) (by simp) ?_
          refine AllReadyH.cons (o := _) rfl (fun K hK => ?_) AllReadyH.nil
          go_simp
          go_at_call 33
          refine (HST.out _).mono ?_
          rintro e' w12 ⟨rfl, b12⟩
          have G12 := hide (G11.out.keep b12)
          have T12 := hide ((b12.block _ (blk_lt' T11.out)).trans T11.out)
          clear b12 G11 T11
          go_wp2_with fail
          refine hK.out _ _ ⟨T12.out, G12.out.fi.var⟩ (fun hS4 => ?_)
          clear hK K hS3
          try simp only [Act.put, List.setIfInBounds_toArray, List.set_cons_zero, List.set_cons_succ]
          refine takeD 5 34 (v := ?v10) rfl rfl (by kernel_rfl) (by kernel_rfl) (by kernel_rfl) (fun _ _ _ h => h) (by kernel_rfl) ?hy10 (by assumption) ?r10
          case hy10 => (intro W hSw; go_simp; try with_reducible rfl)
          simp only [Act.put, List.setIfInBounds_toArray, List.set_cons_zero, List.set_cons_succ]
          refine wpAnyH_ready (rs := [6]) (by kernel_rfl) (by simp) ?_
          refine AllReadyH.cons (o := _) rfl (fun K hK => ?_) AllReadyH.nil
          have GN : Hid (EI w #[.slice so ss.length p, .slice co cs.length q] (.slice (some ⟨e, 0, none⟩) ss.length p3) (.slice co3 cs.length q3) g (.slice so ss.length p) bm gd cs.length CD (MX (k + 1)) (w12.setCell ⟨e, k, none⟩ (.string F))) := by rw [HNKH.out]; exact G12.out.put HLKH.out.symm k F he
          have TN : Hid ((w12.setCell ⟨e, k, none⟩ (.string F)).heap[t6]? = some (.cells (secV F.data.toList) 56 (0, 0))) := (heap_far _ _ _ _ _ (by omega)).trans T12.out
          obtain ⟨e2, he2, _, _, hef, hec⟩ := G12.out.fi.cell (by rw [HLKH.out]; omega)
          have he3 : e2 = e := by injection he2 with h; injection h with h; exact h.symm
          subst he3
          have hcm := hec k (by rw [HLKH.out]; exact hlt)
          have hfm := hef k
          clear hec hef he2 hS4
          go_simp
          refine hK.out _ _ ⟨TN.out, GN.out.fi.var⟩ (fun hS5 => ?_)
          clear hK K hcm hfm hS5 TN T12 G12
          refine wpAnyH_done (by kernel_rfl) ?_ _
          refine NoPanic.normal ?_
          generalize w12.setCell ⟨_, k, none⟩ (.string F) = w13 at *
          go_wp2
          go_roundw
          case rel => exact ⟨k + 1, by omega, by go_num, GN⟩
          case measure => simp [intOf]; omega
      · obtain rfl : k = ss.length := by omega
        rw [HMN.out] at G
        obtain ⟨g0, g1, gf⟩ := cells2 G.out.fi.var
        have hgap := G.out.fi.gap.1
        have GE : (wr.setCell ⟨g, 1, none⟩ (.slice none 0 0)).heap[g]? = some (.cells #[.slice so3 ss.length p3, .slice none 0 0] 25 (0, 0)) := heap_setCell_same wr g 1 _ _ _ G.out.fi.var
        have RE : (wr.setCell ⟨g, 1, none⟩ (.slice none 0 0)).heap[w.heap.size + 1]? = some (.cells #[.slice none 0 0, .slice none 0 0] 25 (0, 0)) := by rw [heap_far _ _ _ _ _ (by omega)]; exact G.out.fi.res
        have OE : OwnS (w.heap.size + 2) (.slice so3 ss.length p3) fl (wr.setCell ⟨g, 1, none⟩ (.slice none 0 0)) := ownsRow_setCell_other G.out.fi.secs (a := ⟨g, 1, none⟩) G.out.fi.gap.2 _
        have BE : Below w.heap.size w (wr.setCell ⟨g, 1, none⟩ (.slice none 0 0)) := G.out.fi.below.setCell (by simp; omega) _
        have GEH := hide GE
        have REH := hide RE
        have OEH := hide OE
        have BEH := hide BE
        obtain ⟨h0, h1, hf'⟩ := cells2 GEH.out
        obtain ⟨r0, r1, rf⟩ := cells2 REH.out
        clear GE RE OE BE hgap G HMN
        go_wp2
        exact bodyPost_ret (v := .agg #[.slice so3 ss.length p3, .slice none 0 0]) (resDisk Try.results26 _ _ (w.heap.size + 1) _ _ rfl (set2 REH.out)) rfl ⟨_, _, rfl, ⟨owns_base (own_set (own_set OEH.out (by omega)) (by omega)) (by omega), ownW_nil _ _, (by cases so3 with | none => exact .inl rfl | some x => exact .inr (by simp [Value.ownBlock]))⟩, (BEH.out.setCell (by simp) _).setCell (by simp) _⟩
end Go.Proofs.Ytmladjahkhhpkaa
