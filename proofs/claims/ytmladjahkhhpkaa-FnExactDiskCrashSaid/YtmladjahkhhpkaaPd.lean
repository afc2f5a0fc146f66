/-
  Contracts and plain laws, part 4 of 5: DkRightI, DkFlI, DkCrI, StrRead, DkBl, DkBm, ConvOne, MarkT, TrMk, StrMk, DkMark, DkTo
-/
import Derived.Test.YtmladjahkhhpkaaRows
import Derived.WalkKit
import Derived.ProofKit
import Derived.Deep.Slices
import Derived.Deep.Strs
import Derived.OpenShut
import Derived.ChangeSame
import Derived.Deep.RegionHeld3
import Derived.Laws.ResultCell
import Derived.Test.YtmladjahkhhpkaaPc

/-
  Contract: is a disk right? The program's answer.
-/
namespace Go.Proofs.Ytmladjahkhhpkaa
open Go.RowKit
set_option maxRecDepth 100000

theorem writeRight_any (n : Int) (t : ByteArray) (m : Int) (w : World) :
    Calls Try.prog 44 #[.agg #[.int .i64 n, .string t], .int .i64 m] w fun e w' => e = .returned (.bool (decide (0 ≤ n) && decide (n < m) && decide (t.size = 64))) ∧ Below w.heap.size w w' := by
  have B0 := hide ((Below.refl w.heap.size w).alloc (Nat.le_refl _) (.cells #[.int .i64 n, .string t] 64))
  by_cases h0 : 0 ≤ n
  · by_cases h1 : n < m
    · by_cases h2 : t.size = 64
      · have h2' : (t.size : Int) = 64 := by omega
        go_enter Try.func44, Try.ntmps44
        go_wp2
        go_ret
        exact ⟨ret_bool (by simp [h0, h1, h2]), B0.out⟩
      · have h2' : ¬ (t.size : Int) = 64 := by omega
        go_enter Try.func44, Try.ntmps44
        go_wp2
        go_ret
        exact ⟨ret_bool (by simp [h0, h1, h2, h2']), B0.out⟩
    · go_enter Try.func44, Try.ntmps44
      go_wp2
      go_ret
      exact ⟨ret_bool (by simp; intros; omega), B0.out⟩
  · go_enter Try.func44, Try.ntmps44
    go_wp2
    go_ret
    exact ⟨ret_bool (by simp; intros; omega), B0.out⟩
set_option maxHeartbeats 4000000 in
theorem implDiskRight_any (A B : Nat) (so : Option Addr) (p : Nat) (co : Option Addr) (q : Nat) (d : Dk) (w : World) (hB : B ≤ w.heap.size) (hr : DkRow w A B so co d) :
    Calls Try.prog 17 #[.agg #[.slice so d.secs.length p, .slice co d.cache.length q]] w fun e w' => e = .returned (.bool (dkRight d)) ∧ Below w.heap.size w w' := by
  have HL := hide (fun h => dkRight_long (d := d) h)
  have HSN := hide (fun k (x : ByteArray) (hk : k < d.secs.length) (hv : d.secs.getD k ByteArray.empty = x) (hx : ¬ x.size = 64) => dkRight_sec hk (by rw [secOk_of hv]; simpa using hx))
  have HSY := hide (fun k (x : ByteArray) (h : upto (secOk d) k = true) (hv : d.secs.getD k ByteArray.empty = x) (hx : x.size = 64) => upto_next h (by rw [secOk_of hv]; simpa using hx))
  have HWN := hide (fun k (n : Int) (t : ByteArray) (hk : k < d.cache.length) (hv : d.cache.getD k noWr = ⟨n, t⟩) (hx : n < 0 ∨ (d.secs.length : Int) ≤ n ∨ ¬ t.size = 64) => dkRight_wr hk (by rw [wrOk_of hv]; rcases hx with h | h | h <;> simp <;> omega))
  have HWY := hide (fun k (n : Int) (t : ByteArray) (h : upto (wrOk d) k = true) (hv : d.cache.getD k noWr = ⟨n, t⟩) (h0 : 0 ≤ n) (h1 : n < (d.secs.length : Int)) (hx : t.size = 64) => upto_next h (by rw [wrOk_of hv]; simp [h0, h1, hx]))
  have HYES := hide (fun h1 h2 h3 h4 => dkRight_yes (d := d) h1 h2 h3 h4)
  have HU1 : Hid (upto (secOk d) 0 = true) := rfl
  have HU2 : Hid (upto (wrOk d) 0 = true) := rfl
  generalize dkRight d = R at *
  generalize secOk d = SO at *
  generalize wrOk d = WO at *
  obtain ⟨ss, cs⟩ := d
  obtain ⟨⟨hl1, hl2⟩, hs, hc⟩ := hr
  simp only at *
  have HS := hide hs
  have HC := hide hc
  clear hs hc
  unfold maxLen at hl1 hl2
  have B0 := hide ((Below.refl w.heap.size w).alloc (Nat.le_refl _) (.cells #[.slice so ss.length p, .slice co cs.length q] 25))
  have X0 := hide (heap_alloc_new w (.cells #[.slice so ss.length p, .slice co cs.length q] 25))
  by_cases hlong : 700 < ss.length ∨ 400 < cs.length
  · have HF := hide (HL.out hlong)
    clear HSN HSY HWN HWY HYES HL HU1 HU2 X0
    rcases hlong with h | h
    · go_enter Try.func17, Try.ntmps17
      go_wp2
      go_ret
      exact ⟨ret_bool HF.out.symm, B0.out⟩
    · by_cases h1 : 700 < ss.length
      · go_enter Try.func17, Try.ntmps17
        go_wp2
        go_ret
        exact ⟨ret_bool HF.out.symm, B0.out⟩
      · go_enter Try.func17, Try.ntmps17
        go_wp2
        go_ret
        exact ⟨ret_bool HF.out.symm, B0.out⟩
  · have h1 : ¬ 700 < ss.length := by omega
    have h2 : ¬ 400 < cs.length := by omega
    clear hlong HL
    go_enter Try.func17, Try.ntmps17
    go_wp2
    have Z0 : Hid ((w.alloc (.cells #[.slice so ss.length p, .slice co cs.length q] 25)).heap.size = w.heap.size + 1) := by show _ = _; simp
    generalize w.alloc (.cells #[.slice so ss.length p, .slice co cs.length q] 25) = W0 at *
    obtain ⟨x0, x1, xf⟩ := cells2 X0.out
    go_loop [20] (fun i => ∃ k : Nat, k ≤ ss.length ∧ i = .int .i64 k ∧ Hid (upto SO k = true)) (fun i => ss.length - (intOf i).toNat)
    case atStart => exact ⟨0, Nat.zero_le _, rfl, HU1⟩
    case round =>
      obtain ⟨k, hk, rfl, HU⟩ := hrel
      by_cases hlt : k < ss.length
      · obtain ⟨b, off, x, rfl, hbB, hv, hx, d0⟩ := (HS.out.kept (B0.out.mono hB)).at k hlt
        unfold maxLen at hx
        by_cases h64 : x.size = 64
        · have HU2' := hide (HSY.out k x HU.out hv h64)
          have h64' : (x.size : Int) = 64 := by omega
          clear hv HSN HSY HWN HWY HYES HU HU1 HU2 h64
          go_wp2
          go_round
          case rel => exact ⟨k + 1, by omega, by go_num, HU2'⟩
          case measure => simp [intOf]; omega
        · have HF := hide (HSN.out k x hlt hv h64)
          have h64' : ¬ (x.size : Int) = 64 := by omega
          clear hv HSN HSY HWN HWY HYES HU HU1 HU2 h64
          go_wp2
          go_ret
          exact ⟨ret_bool HF.out.symm, B0.out⟩
      · obtain rfl : k = ss.length := by omega
        have HUS := HU
        clear HU HSN HSY HU1 HS
        go_wp2
        go_loopw [31] (fun i wr => ∃ k : Nat, k ≤ cs.length ∧ i = .int .i64 k ∧ Hid (upto WO k = true) ∧ Below W0.heap.size W0 wr) (fun i _ => cs.length - (intOf i).toNat)
        case atStart => exact ⟨0, Nat.zero_le _, rfl, HU2, Below.refl _ _⟩
        case round =>
          obtain ⟨k, hk, rfl, HU, hb⟩ := hrel
          have X1 := hide ((hb.block w.heap.size (by rw [Z0.out]; omega)).trans X0.out)
          have B1 := hide (B0.out.trans (hb.mono B0.out.size))
          obtain ⟨x0, x1, xf⟩ := cells2 X1.out
          by_cases hlt : k < cs.length
          · obtain ⟨b, off, nn, tt, rfl, hbB, hv, htt, hki, d0, d1⟩ := (HC.out.kept (B1.out.mono hB)).at k hlt
            have hq1 : b < wr.heap.size := by have := B1.out.size; omega
            have hz1 : w.heap.size < wr.heap.size := by have := hb.size; have := Z0.out; omega
            unfold maxLen at htt
            unfold wI64 at hki
            have B2 := hide ((hb.alloc hb.size (.cells #[.int .i64 nn, .string tt] 64)))
            have B3 := hide (B0.out.trans (B2.out.mono B0.out.size))
            have hql : ((ss.length : Nat) : Int) ≤ maxLen := by unfold maxLen; omega
            have HC2 := hide (fun W => writeRight_any nn tt ss.length W)
            by_cases hbad : nn < 0 ∨ (ss.length : Int) ≤ nn ∨ ¬ tt.size = 64
            · have HF := hide (HWN.out k nn tt hlt hv hbad)
              have HCB : Hid ((decide (0 ≤ nn) && decide (nn < (ss.length : Int)) && decide (tt.size = 64)) = false) := by show _ = _; rcases hbad with h | h | h <;> simp <;> intros <;> omega
              rw [HCB.out] at HC2
              clear hv HWN HWY HYES HU HU2 B1 hb HUS hbad HCB
              go_wp2_with (go_at_call 44; refine (HC2.out _).mono ?_; rintro e w2 ⟨rfl, hb2⟩; have B4 := hide (B3.out.trans (hb2.mono B3.out.size)))
              go_ret
              exact ⟨ret_bool HF.out.symm, B4.out⟩
            · have HU3 := hide (HWY.out k nn tt HU.out hv (by omega) (by omega) (by omega))
              have HCB : Hid ((decide (0 ≤ nn) && decide (nn < (ss.length : Int)) && decide (tt.size = 64)) = true) := by show _ = _; simp; omega
              rw [HCB.out] at HC2
              clear hv HWN HWY HYES HU HU2 B1 hb HUS hbad HCB
              go_wp2_with (go_at_call 44; refine (HC2.out _).mono ?_; rintro e w2 ⟨rfl, hb2⟩; have B4 := hide (B2.out.trans (hb2.mono B2.out.size)))
              go_roundw
              case rel => exact ⟨k + 1, by omega, by go_num, HU3, B4.out⟩
              case measure => simp [intOf]; omega
          · obtain rfl : k = cs.length := by omega
            have HF := hide (HYES.out (by omega) (by omega) HUS.out HU.out)
            clear HWN HWY HYES HU HU2 hb HUS
            go_wp2
            go_ret
            exact ⟨ret_bool HF.out.symm, B1.out⟩
end Go.Proofs.Ytmladjahkhhpkaa

/-
  Contract: DiskFlush of the program.
-/
namespace Go.Proofs.Ytmladjahkhhpkaa
open Go.RowKit
set_option maxRecDepth 100000

theorem exec_load_row {P : Program} {W : World} {ev : Operand → Value} {o : Oper} (ty : TypeId) (x : Operand) (ho : o.op = .load ty x) (g : Nat) (hx : ev x = .pointer (some ⟨g, 0, none⟩)) (t : TypeId) (cs : Array Value) (fr : Nat × Nat) (d : TypeDesc)
    (hg : W.heap[g]? = some (.cells cs t fr)) (hu : P.underlying ty = some d) (hd : (match d with | .struct _ | .array _ _ => true | _ => false) = true) (hi : (P.info? ty).map (·.size) = some cs.size) : (execOp ev o).run P W = .ok (.value (.agg cs)) W := by
  unfold execOp
  simp only [ho, hx, Instr.loadAt, Instr.sureAddr, Sem.run_bind, Sem.run_pure, Result.andThen_ok, run_loadVar_row W g t ty cs fr d hg hu hd hi]
theorem exec_neq_sec {W : World} {ev : Operand → Value} {o : Oper} {r : Bool} (x y : Operand) (ho : o.op = .binOp .neq 56 x y 56) (a b : List UInt8) (hx : ev x = .agg (secV a)) (hy : ev y = .agg (secV b)) (hn : (binOp .neq 56 (.agg (secV a)) (.agg (secV b))).run Try.prog W = .ok (.bool r) W) :
    (execOp ev o).run Try.prog W = .ok (.value (.bool r)) W := by
  have hm : Try.prog.eqGuardType Try.prog.depth 56 = false := by kernel_rfl
  unfold execOp
  simp only [ho, hx, hy, Sem.run_bind, run_eqGuard_agg W _ _ _ _ _ _ hm, Result.andThen_ok, hn, Sem.run_pure]
set_option maxHeartbeats 8000000 in
theorem implDiskFlush_any (b : Nat) (s c : Value) (d : Dk) (w : World) (hi : dkIn d) (hf : dkFits d) (h : OwnD b s c d w) :
    Calls Try.prog 26 #[.agg #[s, c]] w fun e w' => ∃ s' c', e = .returned (.agg #[s', c']) ∧ OwnD w.heap.size s' c' (dkFlush d) w' ∧ Below w.heap.size w w' := by
  obtain ⟨so, p, co, q, rfl, rfl, hr⟩ := h.row hi
  have HA := two_allocs w (.cells #[.slice so d.secs.length p, .slice co d.cache.length q] 25) (.cells #[.slice none 0 0, .slice none 0 0] 25)
  have B0 := hide (((Below.refl w.heap.size w).alloc (Nat.le_refl _) (.cells #[.slice so d.secs.length p, .slice co d.cache.length q] 25)).alloc (by simp) (.cells #[.slice none 0 0, .slice none 0 0] 25))
  have X0 := hide HA.1
  have Y0 := hide HA.2.1
  have HSP := hide (fun (W : World) (hb : Below w.heap.size w W) => implDiskRight_any _ _ so p co q d W hb.size (hr.kept hb))
  have HCP := hide (fun (W : World) (hb : Below w.heap.size w W) => copyDisk_own _ _ _ d W hf (h.below hb))
  obtain ⟨x0, x1, xf⟩ := cells2 X0.out
  clear HA
  cases hdr : dkRight d with
  | false =>
    rw [dkFlush_n hdr]
    rw [hdr] at HSP
    obtain ⟨ss, cs⟩ := d
    simp only at *
    clear hi hf h hr hdr
    go_enter Try.func26, Try.ntmps26
    go_wp2_with (first | (go_at_call 49; refine (HCP.out _ B0.out).mono ?_; rintro e w1 ⟨s3, c3, rfl, o1, b1⟩; obtain ⟨so3, p3, co3, q3, rfl, rfl⟩ := o1.shape; have O1 := hide (o1.base (show w.heap.size + 2 ≤ _ from blk_lt' Y0.out)); have F2 := hide (FI.start2 (c := .slice co3 cs.length q3) (B0.out.trans (b1.mono B0.out.size)) ((b1.block _ (blk_lt' X0.out)).trans X0.out) ((b1.block _ (blk_lt' Y0.out)).trans Y0.out) O1.out.secs); have O2 := hide (O1.out.below ((Below.refl w1.heap.size w1).alloc (Nat.le_refl _) (.cells #[.slice so3 ss.length p3, .slice co3 cs.length q3] 25))); clear x0 x1 xf o1 b1 O1; obtain ⟨x0, x1, xf⟩ := cells2 F2.out.par) | (go_at_call 17; refine (HSP.out _ F2.out.below).mono ?_; rintro e w3 ⟨rfl, b3⟩; have F3 := hide (F2.out.keep b3); have O3 := hide (O2.out.below b3); clear x0 x1 xf b3 O2; obtain ⟨x0, x1, xf⟩ := cells2 F3.out.par; obtain ⟨g0, g1, gf⟩ := cells2 F3.out.var; obtain ⟨r0, r1, rf⟩ := cells2 F3.out.res))
    refine bodyPost_ret (v := .agg #[.slice so3 ss.length p3, .slice co3 cs.length q3]) (resDisk Try.results26 _ _ (w.heap.size + 1) _ _ rfl (set2 F3.out.res)) rfl ⟨_, _, rfl, ?_, ?_⟩
    · exact ((O3.out.set (by omega)).set (by omega)).base (by omega)
    · exact (F3.out.below.setCell (by simp) _).setCell (by simp) _
  | true =>
    rw [dkFlush_y hdr]
    rw [hdr] at HSP
    have hbd := dkRight_bounds hdr
    have HD := hide (fun (W : World) (hb : Below w.heap.size w W) => driveOf_any _ _ so p co q d W hb.size (by omega) (hr.kept hb))
    have HH := hide (fun (bm n k : Nat) (W : World) (hk : k < d.secs.length) (hb : Below w.heap.size w W) (hM : W.ownsMap Try.prog 2 secR bm n (cacheD d.cache)) => has_any _ _ so p bm n d k W hb.size hk hdr hbd.1 (hr.2.1.kept hb) hM)
    have HLI := hide (fun (bm k : Nat) (W : World) (hk : k < d.secs.length) (hb : Below w.heap.size w W) => lies_any _ _ so p bm d.secs k W hb.size hk (hr.2.1.kept hb))
    have hlenF : (flushL d.secs d.cache).length = d.secs.length := flushL_len _ _
    have H64 : Hid (∀ i, i < d.secs.length → ((flushL d.secs d.cache).getD i ByteArray.empty).size = 64) := by rw [← hlenF]; exact flush64 hdr
    have HS64 := hide (dkRight_secs hdr)
    have HNX := hide (fun k (hk : k < d.secs.length) => mixL_next hlenF hk)
    have HSM := hide (fun k (hk : k < d.secs.length) he => mixL_same hlenF hk he)
    have HML := hide (fun k (hk : k ≤ d.secs.length) => mixL_len hlenF hk)
    have HM0 : Hid (mixL (flushL d.secs d.cache) d.secs 0 = d.secs) := by show _ = _; simp [mixL]
    have HMN : Hid (mixL (flushL d.secs d.cache) d.secs d.secs.length = flushL d.secs d.cache) := by show _ = _; simp [mixL, ← hlenF]
    have hz := zero_of_info Try.infoSec
    have hzz := hz.1
    have HI64 := hide hz.2
    obtain ⟨ss, cs⟩ := d
    simp only at *
    generalize flushL ss cs = fl at *
    generalize cacheD cs = CD at *
    generalize mixL fl ss = MX at *
    have HLF := hide hlenF
    clear hi hf h hr hdr hlenF hz
    obtain ⟨hb1, hb2⟩ := hbd
    go_enter Try.func26, Try.ntmps26
    go_wp2_with (first | (go_at_call 49; refine (HCP.out _ B0.out).mono ?_; rintro e w1 ⟨s3, c3, rfl, o1, b1⟩; obtain ⟨so3, p3, co3, q3, rfl, rfl⟩ := o1.shape; have O1 := hide (o1.base (show w.heap.size + 2 ≤ _ from blk_lt' Y0.out)); have F2 := hide (FI.start2 (c := .slice co3 cs.length q3) (B0.out.trans (b1.mono B0.out.size)) ((b1.block _ (blk_lt' X0.out)).trans X0.out) ((b1.block _ (blk_lt' Y0.out)).trans Y0.out) O1.out.secs); have O2 := hide (O1.out.below ((Below.refl w1.heap.size w1).alloc (Nat.le_refl _) (.cells #[.slice so3 ss.length p3, .slice co3 cs.length q3] 25))); clear x0 x1 xf o1 b1 O1; obtain ⟨x0, x1, xf⟩ := cells2 F2.out.par) | (go_at_call 17; refine (HSP.out _ F2.out.below).mono ?_; rintro e w3 ⟨rfl, b3⟩; have F3 := hide (F2.out.keep b3); have O3 := hide (O2.out.below b3); clear x0 x1 xf b3 O2; obtain ⟨x0, x1, xf⟩ := cells2 F3.out.par; obtain ⟨g0, g1, gf⟩ := cells2 F3.out.var; obtain ⟨r0, r1, rf⟩ := cells2 F3.out.res) | (go_at_call 52; refine (HD.out _ F3.out.below).mono ?_; rintro e w4 ⟨bm, rfl, M4, hbm, b4⟩; have F4 := hide (F3.out.keep b4); have M4' := hide M4; have HBM := hide hbm; have FA := hide (F4.out.keep ((Below.refl w4.heap.size w4).alloc (Nat.le_refl _) (.cells #[.slice so ss.length p, .map (some bm)] 75))); clear x0 x1 xf g0 g1 gf M4 hbm; obtain ⟨g0, g1, gf⟩ := cells2 FA.out.var; have HB4 := hide b4; clear b4))
    have E5 : Hid (EI w #[.slice so ss.length p, .slice co cs.length q] (.slice so3 ss.length p3) (.slice co3 cs.length q3) w1.heap.size (.slice so ss.length p) bm w4.heap.size cs.length CD (MX 0) (w4.alloc (.cells #[.slice so ss.length p, .map (some bm)] 75))) := by
      rw [HM0.out]
      refine ⟨FA.out, heap_alloc_new _ _, ownsMap_below M4'.out ((Below.refl _ _).alloc (Nat.le_refl _) _), fun b hb => ?_⟩
      have h1 := (World.ownsRow.lt F3.out.secs b hb).2
      have h2 := HBM.out
      have h3 := HB4.out.size
      omega
    clear FA M4' HBM F4 F3 F2 B0 X0 Y0 HB4 HM0 O3 g0 g1 gf
    generalize w4.heap.size = gd at *
    generalize w1.heap.size = g at *
    go_loopw [18] (fun i wr => ∃ k : Nat, k ≤ ss.length ∧ i = .int .i64 k ∧ Hid (EI w #[.slice so ss.length p, .slice co cs.length q] (.slice so3 ss.length p3) (.slice co3 cs.length q3) g (.slice so ss.length p) bm gd cs.length CD (MX k) wr)) (fun i _ => ss.length - (intOf i).toNat)
    case atStart => exact ⟨0, Nat.zero_le _, rfl, E5⟩
    case round =>
      obtain ⟨k, hk, rfl, G⟩ := hrel
      clear E5
      by_cases hlt : k < ss.length
      · obtain ⟨v0, v1, vf⟩ := cells2 G.out.drv
        have HC := hide (HH.out bm _ k wr hlt G.out.fi.below G.out.map)
        have HLL := hide (fun (W : World) (hb : Below w.heap.size w W) => HLI.out bm k W hlt hb)
        have hF : (fl.getD k ByteArray.empty).data.toList.length = 64 := H64.out k hlt
        have hY : (ss.getD k ByteArray.empty).data.toList.length = 64 := HS64.out k hlt
        rw [pad_full hY] at HLL
        have hnq := sec_neq _ _ hF hY
        have HNK := HNX.out k hlt
        have HSK := hide (HSM.out k hlt)
        have HLK := HML.out k (by omega)
        have HNKH := hide HNK
        have HLKH := hide HLK
        have hmkF : mkS (fl.getD k ByteArray.empty).data.toList = fl.getD k ByteArray.empty := mkS_data _
        have HST := hide (fun W => sectorText_any _ hF W)
        rw [hmkF] at HST
        have HF64 : Hid ((secV (fl.getD k ByteArray.empty).data.toList).size = 64) := by show _ = _; rw [secV_size]; exact hF
        have HZ64 : Hid ((secV zSec).size = 64) := by show _ = _; rw [secV_size, zSec_len]
        have hinj : (fl.getD k ByteArray.empty).data.toList = (ss.getD k ByteArray.empty).data.toList → fl.getD k ByteArray.empty = ss.getD k ByteArray.empty := fun e => by rw [← mkS_data (fl.getD k ByteArray.empty), e, mkS_data]
        have HINJ := hide hinj
        clear hinj hmkF hF hY HNK HLK
        generalize fl.getD k ByteArray.empty = F at *
        generalize ss.getD k ByteArray.empty = Y at *
        go_wp2_with (first | (go_at_call 53; refine HC.out.mono ?_; rintro e w6 ⟨rfl, b6⟩; have G6 := hide (G.out.keep b6); have N7 := hide (heap_alloc_new w6 (.cells (secV zSec) 56)); clear b6) | (refine wpList_store_row rfl 56 _ _ rfl w6.heap.size _ rfl rfl 56 _ N7.out (by rw [HF64.out]; exact HI64.out) (by rw [HF64.out, HZ64.out]) (secV_one _) ?_))
        have T8 := hide (setRow_heap _ _ _ (secV F.data.toList) _ _ N7.out)
        have G8 := hide (G6.out.keep (below_setRow ((Below.refl w6.heap.size w6).alloc (Nat.le_refl _) (.cells (secV zSec) 56)) (Nat.le_refl _) (secV F.data.toList))).drew
        have HGT := hide (blk_lt' G6.out.drv)
        clear N7 G6 HC v0 v1 vf G
        generalize (w6.alloc (.cells (secV zSec) 56)).setRow w6.heap.size (secV F.data.toList) = w8 at *
        generalize w6.heap.size = t6 at *
        refine wp_region_noPanic ?_
        have T8d : w8.drew.heap[t6]? = some (.cells (secV F.data.toList) 56 (0, 0)) := T8.out
        have T9 := hide T8d
        clear T8 T8d
        refine wp_region_held_drew (S := fun W => W.heap[t6]? = some (.cells (secV F.data.toList) 56 (0, 0)) ∧ W.heap[gd]? = some (.cells #[.slice so ss.length p, .map (some bm)] 75 (0, 0))) (by kernel_rfl) ⟨T9.out, G8.out.drv⟩ (fun hS1 => ?_)
        generalize w8.drew = w9 at *
        refine takeD 0 24 (v := .agg (secV F.data.toList)) rfl rfl (by kernel_rfl) (by kernel_rfl) (by kernel_rfl) (fun _ _ _ h => h) (by kernel_rfl) ?hy1 (by assumption) ?r1
        case hy1 => (intro W hSw; exact exec_load_row 56 (.tmp 6) (by rfl) t6 (by rfl) 56 _ (0, 0) _ (hSw.1) Try.underlying56 rfl (by rw [HF64.out]; exact HI64.out))
        simp only [Act.put, List.setIfInBounds_toArray, List.set_cons_zero, List.set_cons_succ]
        refine takeD 1 25 (v := ?v2) rfl rfl (by kernel_rfl) (by kernel_rfl) (by kernel_rfl) (fun _ _ _ h => h) (by kernel_rfl) ?hy2 (by assumption) ?r2
        case hy2 => (intro W hSw; obtain ⟨a0, a1, af⟩ := cells2 hSw.2; go_simp; try with_reducible rfl)
        simp only [Act.put, List.setIfInBounds_toArray, List.set_cons_zero, List.set_cons_succ]
        refine takeD 2 26 (v := ?v3) rfl rfl (by kernel_rfl) (by kernel_rfl) (by kernel_rfl) (fun _ _ _ h => h) (by kernel_rfl) ?hy3 (by assumption) ?r3
        case hy3 => (intro W hSw; go_simp; try with_reducible rfl)
        simp only [Act.put, List.setIfInBounds_toArray, List.set_cons_zero, List.set_cons_succ]
        refine wpAnyH_ready (rs := [3]) (by kernel_rfl) (by simp) ?_
        refine AllReadyH.cons (o := _) rfl (fun K hK => ?_) AllReadyH.nil
        go_simp
        go_at_call 56
        refine (HLL.out _ G8.out.fi.below).mono ?_
        rintro e w10 ⟨rfl, b10⟩
        have G10 := hide (G8.out.keep b10)
        have T10 := hide ((b10.block _ (blk_lt' T9.out)).trans T9.out)
        clear b10 G8 T9
        go_wp2_with fail
        refine hK.out _ _ ⟨T10.out, G10.out.drv⟩ (fun hS2 => ?_)
        clear hK K hS1
        try simp only [Act.put, List.setIfInBounds_toArray, List.set_cons_zero, List.set_cons_succ]
        by_cases heq : F.data.toList = Y.data.toList
        · have hn2 : ∀ W : World, (binOp .neq 56 (.agg (secV F.data.toList)) (.agg (secV Y.data.toList))).run Try.prog W = .ok (.bool false) W := fun W => by have := hnq W; simpa [heq] using this
          clear hnq
          refine takeD 4 28 (v := .bool false) rfl rfl (by kernel_rfl) (by kernel_rfl) (by kernel_rfl) (fun _ _ _ h => h) (by kernel_rfl) ?hy4 (by assumption) ?r4
          case hy4 => (intro W hSw; exact exec_neq_sec (.tmp 24) (.tmp 27) (by rfl) _ _ (by rfl) (by rfl) (hn2 W))
          simp only [Act.put, List.setIfInBounds_toArray, List.set_cons_zero, List.set_cons_succ]
          refine wpAnyH_done (by kernel_rfl) ?_ _
          refine NoPanic.normal ?_
          clear hS2 hn2
          have GN : Hid (EI w #[.slice so ss.length p, .slice co cs.length q] (.slice so3 ss.length p3) (.slice co3 cs.length q3) g (.slice so ss.length p) bm gd cs.length CD (MX (k + 1)) w10) := by rw [HSK.out (HINJ.out heq)]; exact G10.out
          clear G10 T10 heq
          go_wp2
          go_roundw
          case rel => exact ⟨k + 1, by omega, by go_num, GN⟩
          case measure => simp [intOf]; omega
        · have hn2 : ∀ W : World, (binOp .neq 56 (.agg (secV F.data.toList)) (.agg (secV Y.data.toList))).run Try.prog W = .ok (.bool true) W := fun W => by have := hnq W; simpa [heq] using this
          clear hnq
          refine takeD 4 28 (v := .bool true) rfl rfl (by kernel_rfl) (by kernel_rfl) (by kernel_rfl) (fun _ _ _ h => h) (by kernel_rfl) ?hy5 (by assumption) ?r5
          case hy5 => (intro W hSw; exact exec_neq_sec (.tmp 24) (.tmp 27) (by rfl) _ _ (by rfl) (by rfl) (hn2 W))
          simp only [Act.put, List.setIfInBounds_toArray, List.set_cons_zero, List.set_cons_succ]
          refine wpAnyH_done (by kernel_rfl) ?_ _
          refine NoPanic.normal ?_
          clear hS2 hn2
          obtain ⟨e, rfl, he, heg, hef, hec⟩ := G10.out.fi.cell (by rw [HLKH.out]; omega)
          have hft : e < t6 := Nat.lt_trans (G10.out.far e rfl).2 HGT.out
          clear hec hef heq
          go_wp2
          refine wp_region_noPanic ?_
          have G11 := hide G10.out.drew
          have T11 : Hid (w10.drew.heap[t6]? = some (.cells (secV F.data.toList) 56 (0, 0))) := T10.out
          clear G10 T10
          refine wp_region_held_drew (S := fun W => W.heap[t6]? = some (.cells (secV F.data.toList) 56 (0, 0)) ∧ W.heap[g]? = some (.cells #[.slice (some ⟨e, 0, none⟩) ss.length p3, .slice co3 cs.length q3] 25 (0, 0))) (by kernel_rfl) ⟨T11.out, G11.out.fi.var⟩ (fun hS3 => ?_)
          generalize w10.drew = w11 at *
          refine takeD 0 29 (v := ?v6) rfl rfl (by kernel_rfl) (by kernel_rfl) (by kernel_rfl) (fun _ _ _ h => h) (by kernel_rfl) ?hy6 (by assumption) ?r6
          case hy6 => (intro W hSw; go_simp; try with_reducible rfl)
          simp only [Act.put, List.setIfInBounds_toArray, List.set_cons_zero, List.set_cons_succ]
          refine takeD 1 30 (v := ?v7) rfl rfl (by kernel_rfl) (by kernel_rfl) (by kernel_rfl) (fun _ _ _ h => h) (by kernel_rfl) ?hy7 (by assumption) ?r7
          case hy7 => (intro W hSw; obtain ⟨a0, a1, af⟩ := cells2 hSw.2; go_simp; try with_reducible rfl)
          simp only [Act.put, List.setIfInBounds_toArray, List.set_cons_zero, List.set_cons_succ]
          refine takeD 2 31 (v := ?v8) rfl rfl (by kernel_rfl) (by kernel_rfl) (by kernel_rfl) (fun _ _ _ h => h) (by kernel_rfl) ?hy8 (by assumption) ?r8
          case hy8 => (intro W hSw; go_simp; try with_reducible rfl)
          simp only [Act.put, List.setIfInBounds_toArray, List.set_cons_zero, List.set_cons_succ]
          refine takeD 3 32 (v := .agg (secV F.data.toList)) rfl rfl (by kernel_rfl) (by kernel_rfl) (by kernel_rfl) (fun _ _ _ h => h) (by kernel_rfl) ?hy9 (by assumption) ?r9
          case hy9 => (intro W hSw; exact exec_load_row 56 (.tmp 6) (by rfl) t6 (by rfl) 56 _ (0, 0) _ (hSw.1) Try.underlying56 rfl (by rw [HF64.out]; exact HI64.out))
          simp only [Act.put, List.setIfInBounds_toArray, List.set_cons_zero, List.set_cons_succ]
          refine wpAnyH_ready (rs := [4]) (by kernel_rfl) (by simp) ?_
          refine AllReadyH.cons (o := _) rfl (fun K hK => ?_) AllReadyH.nil
          go_simp
          go_at_call 33
          refine (HST.out _).mono ?_
          rintro e' w12 ⟨rfl, b12⟩
          have G12 := hide (G11.out.keep b12)
          have T12 := hide ((b12.block _ (blk_lt' T11.out)).trans T11.out)
          clear b12 G11 T11
          go_wp2_with fail
          refine hK.out _ _ ⟨T12.out, G12.out.fi.var⟩ (fun hS4 => ?_)
          clear hK K hS3
          try simp only [Act.put, List.setIfInBounds_toArray, List.set_cons_zero, List.set_cons_succ]
          refine takeD 5 34 (v := ?v10) rfl rfl (by kernel_rfl) (by kernel_rfl) (by kernel_rfl) (fun _ _ _ h => h) (by kernel_rfl) ?hy10 (by assumption) ?r10
          case hy10 => (intro W hSw; go_simp; try with_reducible rfl)
          simp only [Act.put, List.setIfInBounds_toArray, List.set_cons_zero, List.set_cons_succ]
          refine wpAnyH_ready (rs := [6]) (by kernel_rfl) (by simp) ?_
          refine AllReadyH.cons (o := _) rfl (fun K hK => ?_) AllReadyH.nil
          have GN : Hid (EI w #[.slice so ss.length p, .slice co cs.length q] (.slice (some ⟨e, 0, none⟩) ss.length p3) (.slice co3 cs.length q3) g (.slice so ss.length p) bm gd cs.length CD (MX (k + 1)) (w12.setCell ⟨e, k, none⟩ (.string F))) := by rw [HNKH.out]; exact G12.out.put HLKH.out.symm k F he
          have TN : Hid ((w12.setCell ⟨e, k, none⟩ (.string F)).heap[t6]? = some (.cells (secV F.data.toList) 56 (0, 0))) := (heap_far _ _ _ _ _ (by omega)).trans T12.out
          obtain ⟨e2, he2, _, _, hef, hec⟩ := G12.out.fi.cell (by rw [HLKH.out]; omega)
          have he3 : e2 = e := by injection he2 with h; injection h with h; exact h.symm
          subst he3
          have hcm := hec k (by rw [HLKH.out]; exact hlt)
          have hfm := hef k
          clear hec hef he2 hS4
          go_simp
          refine hK.out _ _ ⟨TN.out, GN.out.fi.var⟩ (fun hS5 => ?_)
          clear hK K hcm hfm hS5 TN T12 G12
          refine wpAnyH_done (by kernel_rfl) ?_ _
          refine NoPanic.normal ?_
          generalize w12.setCell ⟨_, k, none⟩ (.string F) = w13 at *
          go_wp2
          go_roundw
          case rel => exact ⟨k + 1, by omega, by go_num, GN⟩
          case measure => simp [intOf]; omega
      · obtain rfl : k = ss.length := by omega
        rw [HMN.out] at G
        obtain ⟨g0, g1, gf⟩ := cells2 G.out.fi.var
        have hgap := G.out.fi.gap.1
        have GE : (wr.setCell ⟨g, 1, none⟩ (.slice none 0 0)).heap[g]? = some (.cells #[.slice so3 ss.length p3, .slice none 0 0] 25 (0, 0)) := heap_setCell_same wr g 1 _ _ _ G.out.fi.var
        have RE : (wr.setCell ⟨g, 1, none⟩ (.slice none 0 0)).heap[w.heap.size + 1]? = some (.cells #[.slice none 0 0, .slice none 0 0] 25 (0, 0)) := by rw [heap_far _ _ _ _ _ (by omega)]; exact G.out.fi.res
        have OE : OwnS (w.heap.size + 2) (.slice so3 ss.length p3) fl (wr.setCell ⟨g, 1, none⟩ (.slice none 0 0)) := ownsRow_setCell_other G.out.fi.secs (a := ⟨g, 1, none⟩) G.out.fi.gap.2 _
        have BE : Below w.heap.size w (wr.setCell ⟨g, 1, none⟩ (.slice none 0 0)) := G.out.fi.below.setCell (by simp; omega) _
        have GEH := hide GE
        have REH := hide RE
        have OEH := hide OE
        have BEH := hide BE
        obtain ⟨h0, h1, hf'⟩ := cells2 GEH.out
        obtain ⟨r0, r1, rf⟩ := cells2 REH.out
        clear GE RE OE BE hgap G HMN
        go_wp2
        exact bodyPost_ret (v := .agg #[.slice so3 ss.length p3, .slice none 0 0]) (resDisk Try.results26 _ _ (w.heap.size + 1) _ _ rfl (set2 REH.out)) rfl ⟨_, _, rfl, ⟨owns_base (own_set (own_set OEH.out (by omega)) (by omega)) (by omega), ownW_nil _ _, (by cases so3 with | none => exact .inl rfl | some x => exact .inr (by simp [Value.ownBlock]))⟩, (BEH.out.setCell (by simp) _).setCell (by simp) _⟩
end Go.Proofs.Ytmladjahkhhpkaa

/-
  Contract: DiskCrash of the program.
-/
namespace Go.Proofs.Ytmladjahkhhpkaa
open Go.RowKit
set_option maxRecDepth 100000

theorem keptN_mem {cs : List Wr} {kl : List Bool} : ∀ k, k ≤ cs.length → ∀ x ∈ keptN cs kl k, x ∈ cs
  | 0, _, x, hx => by simp [keptN] at hx
  | k + 1, hk, x, hx => by
    unfold keptN at hx
    split at hx
    · rcases List.mem_append.1 hx with h | h
      · exact keptN_mem k (by omega) x h
      · rw [List.mem_singleton.1 h]; exact getD_mem cs noWr k (by omega)
    · exact keptN_mem k (by omega) x hx
theorem kept_right {d : Dk} (kl : List Bool) (h : dkRight d = true) : dkRight ⟨d.secs, keptN d.cache kl d.cache.length⟩ = true := by
  have hb := dkRight_bounds h
  have hl := keptN_len d.cache kl d.cache.length
  refine dkRight_yes hb.1 (by show (keptN d.cache kl d.cache.length).length ≤ 400; omega) ?_ ?_
  · unfold dkRight at h
    simp only [Bool.and_eq_true] at h
    exact h.1.2
  · refine (upto_iff _ _).2 (fun i hi => ?_)
    have hm := keptN_mem (kl := kl) d.cache.length (Nat.le_refl _) _ (List.getElem_mem hi)
    have hc := dkRight_cache h _ hm
    unfold wrOk
    simp only
    rw [List.getD_eq_getElem?_getD, List.getElem?_eq_getElem hi]
    simp [hc]
set_option maxHeartbeats 8000000 in
theorem implDiskCrash_any (b b2 : Nat) (s c kv : Value) (d : Dk) (kl : List Bool) (w : World) (hi : dkIn d) (hf : dkFits d) (hkm : kl.length ≤ 1048576) (h : OwnD b s c d w) (hkv : OwnL b2 kv kl w) :
    Calls Try.prog 29 #[.agg #[s, c], kv] w fun e w' => ∃ s' c', e = .returned (.agg #[s', c']) ∧ OwnD w.heap.size s' c' (dkCrash d kl) w' ∧ Below w.heap.size w w' := by
  obtain ⟨so, p, co, q, rfl, rfl, hr⟩ := h.row hi
  obtain ⟨ko, kr, rfl, _⟩ := ownL_shape hkv
  obtain ⟨n1, hn1⟩ : ∃ n, n = d.secs.length := ⟨_, rfl⟩
  obtain ⟨n2, hn2⟩ : ∃ n, n = d.cache.length := ⟨_, rfl⟩
  have HA := two_allocs w (.cells #[.slice so n1 p, .slice co n2 q] 25) (.cells #[.slice none 0 0, .slice none 0 0] 25)
  have B0 := hide (((Below.refl w.heap.size w).alloc (Nat.le_refl _) (.cells #[.slice so n1 p, .slice co n2 q] 25)).alloc (by simp) (.cells #[.slice none 0 0, .slice none 0 0] 25))
  have X0 := hide HA.1
  have Y0 := hide HA.2.1
  have HSP := hide (fun (W : World) (hb : Below w.heap.size w W) => implDiskRight_any _ _ so p co q d W hb.size (hr.kept hb))
  rw [← hn1, ← hn2] at h HSP ⊢
  obtain ⟨x0, x1, xf⟩ := cells2 X0.out
  clear HA
  by_cases hl : 400 < kl.length
  · rw [dkCrash_l hl]
    obtain ⟨y0, y1, yf⟩ := cells2 Y0.out
    clear hi hf h hr hn1 hn2 HSP hkv x0 x1 xf
    go_enter Try.func29, Try.ntmps29
    go_wp2
    refine bodyPost_ret (v := .agg #[.slice none 0 0, .slice none 0 0]) (resDisk Try.results29 _ _ (w.heap.size + 1) _ _ rfl Y0.out) rfl ⟨_, _, rfl, ownD_emp _ _, B0.out⟩
  · cases hdr : dkRight d with
    | false =>
      rw [dkCrash_n hl hdr]
      rw [hdr] at HSP
      have HC := hide (fun (W : World) (hb : Below w.heap.size w W) => copyDisk_own _ _ _ d W hf (h.below hb))
      clear hi hf h hr hdr hn1 hn2 hkv
      go_enter Try.func29, Try.ntmps29
      go_wp2_with (first | (go_at_call 17; refine (HSP.out _ B0.out).mono ?_; rintro e w1 ⟨rfl, b1⟩; have Y1 := hide ((b1.block (w.heap.size + 1) (by simp)).trans Y0.out); have X1 := hide ((b1.block w.heap.size (by simp; omega)).trans X0.out); have B1 := hide (B0.out.trans (b1.mono B0.out.size)); clear x0 x1 xf; obtain ⟨x0, x1, xf⟩ := cells2 X1.out; clear b1) | (go_at_call 49; refine (HC.out _ B1.out).mono ?_; rintro e w2 ⟨s2, c2, rfl, o2, b2⟩; have Y2 := hide ((b2.block (w.heap.size + 1) (blk_lt' Y1.out)).trans Y1.out); have B2 := hide (B1.out.trans (b2.mono B1.out.size)); have O2 := hide (o2.base (show w.heap.size + 2 ≤ _ from blk_lt' Y1.out)); obtain ⟨so2, p2, co2, q2, rfl, rfl⟩ := o2.shape; obtain ⟨y0, y1, yf⟩ := cells2 Y2.out; clear b2 o2))
      refine bodyPost_ret (v := .agg #[.slice so2 d.secs.length p2, .slice co2 d.cache.length q2]) (resDisk Try.results29 _ _ (w.heap.size + 1) _ _ rfl (set2 Y2.out)) rfl ⟨_, _, rfl, ?_, ?_⟩
      · exact ((O2.out.set (by omega)).set (by omega)).base (by omega)
      · exact (B2.out.setCell (by simp) _).setCell (by simp) _
    | true =>
      rw [dkCrash_y hl hdr]
      rw [hdr] at HSP
      have hkr := kept_right kl hdr
      have hkl := keptN_len d.cache kl d.cache.length
      have hkin : dkIn ⟨d.secs, keptN d.cache kl d.cache.length⟩ := ⟨hi.1, fun x hx => hi.2 x (keptN_mem d.cache.length (Nat.le_refl _) x hx)⟩
      have hkf : dkFits ⟨d.secs, keptN d.cache kl d.cache.length⟩ := ⟨hf.1, Nat.le_trans hkl hf.2⟩
      have HK := hide (fun (W : World) (hb : Below w.heap.size w W) => keptOf_own _ _ _ _ d.cache kl W hf.2 hi.2 (owns_below h.cache hb) (owns_below hkv hb))
      have HFL := hide (fun (s c : Value) (W : World) (h : OwnD 0 s c ⟨d.secs, keptN d.cache kl d.cache.length⟩ W) => implDiskFlush_any 0 s c _ W hkin hkf h)
      have hfe : dkFlush ⟨d.secs, keptN d.cache kl d.cache.length⟩ = ⟨flushL d.secs (keptN d.cache kl d.cache.length), []⟩ := dkFlush_y hkr
      rw [hfe] at HFL
      have HSS := hide h.secs
      have HSL : Hid (∀ b, (Value.slice so n1 p).ownBlock = some b → b < w.heap.size) := fun b hb => (World.ownsRow.lt h.secs b hb).2
      generalize flushL d.secs (keptN d.cache kl d.cache.length) = fl at *
      generalize keptN d.cache kl d.cache.length = KP at *
      clear hi hf h hr hdr hkv hkr hkl hkin hkf hfe hn1 hn2
      go_enter Try.func29, Try.ntmps29
      go_wp2_with (go_at_call 17; refine (HSP.out _ B0.out).mono ?_; rintro e w1 ⟨rfl, b1⟩; have Y1 := hide ((b1.block (w.heap.size + 1) (by simp)).trans Y0.out); have X1 := hide ((b1.block w.heap.size (by simp; omega)).trans X0.out); have B1 := hide (B0.out.trans (b1.mono B0.out.size)); clear x0 x1 xf; obtain ⟨x0, x1, xf⟩ := cells2 X1.out; clear b1)
      have X2 := hide (show w1.drew.heap[w.heap.size]? = some (.cells #[.slice so n1 p, .slice co n2 q] 25 (0, 0)) from X1.out)
      have Y2 := hide (show w1.drew.heap[w.heap.size + 1]? = some (.cells #[.slice none 0 0, .slice none 0 0] 25 (0, 0)) from Y1.out)
      have B2 := hide B1.out.drew
      clear X0 Y0 B0 X1 Y1 B1 x0 x1 xf HSP
      refine wp_region_noPanic ?_
      refine wp_region_held_drew (S := fun W => W.heap[w.heap.size]? = some (.cells #[.slice so n1 p, .slice co n2 q] 25 (0, 0))) (by kernel_rfl) X2.out (fun hS1 => ?_)
      generalize w1.drew = w2 at *
      refine takeD 0 14 (v := ?v1) rfl rfl (by kernel_rfl) (by kernel_rfl) (by kernel_rfl) (fun _ _ _ h => h) (by kernel_rfl) ?hy1 (by assumption) ?r1
      case hy1 => (intro W hSw; go_simp; try with_reducible rfl)
      simp only [Act.put, List.setIfInBounds_toArray, List.set_cons_zero, List.set_cons_succ]
      refine takeD 1 15 (v := ?v2) rfl rfl (by kernel_rfl) (by kernel_rfl) (by kernel_rfl) (fun _ _ _ h => h) (by kernel_rfl) ?hy2 (by assumption) ?r2
      case hy2 => (intro W hSw; obtain ⟨a0, a1, af⟩ := cells2 hSw; go_simp; try with_reducible rfl)
      simp only [Act.put, List.setIfInBounds_toArray, List.set_cons_zero, List.set_cons_succ]
      refine takeD 2 16 (v := ?v3) rfl rfl (by kernel_rfl) (by kernel_rfl) (by kernel_rfl) (fun _ _ _ h => h) (by kernel_rfl) ?hy3 (by assumption) ?r3
      case hy3 => (intro W hSw; go_simp; try with_reducible rfl)
      simp only [Act.put, List.setIfInBounds_toArray, List.set_cons_zero, List.set_cons_succ]
      refine takeD 3 17 (v := ?v4) rfl rfl (by kernel_rfl) (by kernel_rfl) (by kernel_rfl) (fun _ _ _ h => h) (by kernel_rfl) ?hy4 (by assumption) ?r4
      case hy4 => (intro W hSw; obtain ⟨a0, a1, af⟩ := cells2 hSw; go_simp; try with_reducible rfl)
      simp only [Act.put, List.setIfInBounds_toArray, List.set_cons_zero, List.set_cons_succ]
      refine takeD 4 18 (v := ?v5) rfl rfl (by kernel_rfl) (by kernel_rfl) (by kernel_rfl) (fun _ _ _ h => h) (by kernel_rfl) ?hy5 (by assumption) ?r5
      case hy5 => (intro W hSw; go_simp; try with_reducible rfl)
      simp only [Act.put, List.setIfInBounds_toArray, List.set_cons_zero, List.set_cons_succ]
      refine wpAnyH_ready (rs := [5]) (by kernel_rfl) (by simp) ?_
      refine AllReadyH.cons (o := _) rfl (fun K hK => ?_) AllReadyH.nil
      go_simp
      go_at_call 57
      refine (HK.out _ B2.out).mono ?_
      rintro e w3 ⟨v3, rfl, o3, b3⟩
      obtain ⟨ao3, cp3, rfl⟩ := ownW_shape o3
      have X3 := hide ((b3.block _ (blk_lt' X2.out)).trans X2.out)
      have Y3 := hide ((b3.block _ (blk_lt' Y2.out)).trans Y2.out)
      have B3 := hide (B2.out.trans (b3.mono B2.out.size))
      have D3 : Hid (OwnD 0 (.slice so n1 p) (.slice ao3 KP.length cp3) ⟨d.secs, KP⟩ w3) := by
        refine ⟨owns_base (owns_below HSS.out B3.out) (Nat.zero_le _), owns_base o3 (Nat.zero_le _), ?_⟩
        cases hso : (Value.slice so n1 p).ownBlock with
        | none => exact .inl rfl
        | some x => exact .inr (fun e => by have h1 := HSL.out x hso; have h2 := (World.ownsRow.lt o3 x e.symm).1; have h3 := B2.out.size; omega)
      clear o3 b3 X2 Y2 B2
      go_wp2_with fail
      refine hK.out _ _ X3.out (fun hS2 => ?_)
      clear hK K hS1
      try simp only [Act.put, List.setIfInBounds_toArray, List.set_cons_zero, List.set_cons_succ]
      refine takeD 6 20 (v := ?v6) rfl rfl (by kernel_rfl) (by kernel_rfl) (by kernel_rfl) (fun _ _ _ h => h) (by kernel_rfl) ?hy6 (by assumption) ?r6
      case hy6 => (intro W hSw; go_simp; try with_reducible rfl)
      simp only [Act.put, List.setIfInBounds_toArray, List.set_cons_zero, List.set_cons_succ]
      refine wpAnyH_ready (rs := [7]) (by kernel_rfl) (by simp) ?_
      refine AllReadyH.cons (o := _) rfl (fun K hK => ?_) AllReadyH.nil
      go_simp
      go_at_call 26
      refine (HFL.out _ _ _ D3.out).mono ?_
      rintro e w4 ⟨s4, c4, rfl, o4, b4⟩
      obtain ⟨so4, p4, co4, q4, rfl, rfl⟩ := o4.shape
      have X4 := hide ((b4.block _ (blk_lt' X3.out)).trans X3.out)
      have Y4 := hide ((b4.block _ (blk_lt' Y3.out)).trans Y3.out)
      have B4 := hide (B3.out.trans (b4.mono B3.out.size))
      have O4 := hide (o4.base (show w.heap.size + 2 ≤ _ from blk_lt' Y3.out))
      clear o4 b4 X3 Y3 B3 D3
      go_wp2_with fail
      refine hK.out _ _ X4.out (fun hS3 => ?_)
      clear hK K hS2
      try simp only [Act.put, List.setIfInBounds_toArray, List.set_cons_zero, List.set_cons_succ]
      refine wpAnyH_ready (rs := [8]) (by kernel_rfl) (by simp) ?_
      refine AllReadyH.cons (o := _) rfl (fun K hK => ?_) AllReadyH.nil
      obtain ⟨y0, y1, yf⟩ := cells2 Y4.out
      go_simp
      refine hK.out _ _ ?_ (fun hS4 => ?_)
      · exact ((heap_far _ _ _ _ _ (by omega)).trans (heap_far _ _ _ _ _ (by omega))).trans X4.out
      clear hK K hS3 hS4
      refine wpAnyH_done (by kernel_rfl) ?_ _
      refine NoPanic.normal ?_
      go_wp2
      refine bodyPost_ret (v := .agg #[.slice so4 fl.length p4, .slice co4 0 q4]) (resDisk Try.results29 _ _ (w.heap.size + 1) _ _ rfl (set2 Y4.out)) rfl ⟨_, _, rfl, ?_, ?_⟩
      · exact ((O4.out.set (by omega)).set (by omega)).base (by omega)
      · exact (B4.out.setCell (by simp) _).setCell (by simp) _
end Go.Proofs.Ytmladjahkhhpkaa

/-
  What came in as an argument: a slice; texts.
-/
namespace Go.Proofs.Ytmladjahkhhpkaa
open Go.RowKit Go.ChangeShapes Go.WideShapes
set_option maxRecDepth 100000

section
variable {H : Type} {enc : TypeId × Value → H} {W : World}

theorem addOffT (b off : Nat) (k : Nat) : (⟨b, off, none⟩ : Addr).add k = ⟨b, off + k, none⟩ := by unfold Addr.add; split <;> simp_all
theorem listOfT {α : Type} {n : Nat} {p : Nat → α → Prop} (h : ∀ i, i < n → ∃ x, p i x) : ∃ l : List α, l.length = n ∧ ∀ i (hi : i < l.length), p i l[i] := by
  induction n with
  | zero => exact ⟨[], rfl, fun i hi => by simp at hi⟩
  | succ n ih =>
    obtain ⟨l, hl, hp⟩ := ih (fun i hi => h i (by omega))
    obtain ⟨x, hx⟩ := h n (by omega)
    refine ⟨l ++ [x], by simp [hl], fun i hi => ?_⟩
    by_cases hi' : i < l.length
    · rw [List.getElem_append_left hi']; exact hp i hi'
    · have e : i = n := by simp at hi; omega
      subst e
      rw [List.getElem_append_right (by omega)]
      simpa [hl] using hx
/-- A slice whose elements can each be read as a thing, each by less fuel. -/
theorem readSliceF {α : Type} {t e : TypeId} {n : Nat} (hn : 1 ≤ n) (ht : Try.prog.underlying t = some (.slice e)) (hC : Try.prog.cellsOf e = n) (p : List Value → α → Prop) {base : Nat} {spare : Nat → Bool} {held : Bool}
    {fuel : Nat} {cs : List Value} {y : DataW H × List MemPlace} (he : ∀ m, m < fuel → ∀ cs y, DataW.trod enc Try.prog W base spare held m e cs = some y → ∃ x, p cs x) (h : DataW.trod enc Try.prog W base spare held fuel t cs = some y) :
    ∃ ao cap l, cs = [.slice ao (List.length l) cap] ∧ (l.length ≤ cap ∧ cap ≤ maxLen) ∧ (l.length = 0 ∨ ∃ b off, ao = some ⟨b, off, none⟩ ∧ b < W.heap.size) ∧
      ∀ b off, ao = some ⟨b, off, none⟩ → ∀ i (hi : i < l.length), ∃ cs', p cs' l[i] ∧ cs'.length = n ∧ ∀ j (hj : j < cs'.length), W.cell? ⟨b, off + i * n + j, none⟩ = some cs'[j] := by
  rcases DataW.trod_slice ht h with ⟨hcs, _⟩ | ⟨a, len', cap', elems, rest, m, hfu, hcs, _, _, hl, hm, hel, hx, _, _⟩
  · exact ⟨none, 0, [], by simpa using hcs, ⟨Nat.le_refl _, Nat.zero_le _⟩, .inl rfl, fun b off e => by cases e⟩
  · rw [hC] at hx
    obtain ⟨l, hvl, hvp⟩ := listOfT (n := len') (p := fun i (x : α) => ∃ cs', p cs' x ∧ cs'.length = n ∧ ∀ j (hj : j < cs'.length), W.cell? ((a.add (i * n)).add j) = some cs'[j]) (fun i hi => by
      have key := hx i hi
      rw [List.getElem?_eq_getElem (by omega)] at key
      obtain ⟨cs', h1, h2⟩ := Option.bind_eq_some_iff.1 key
      obtain ⟨x, hp⟩ := he m (by omega) _ _ h2
      obtain ⟨_, hlen, hc⟩ := World.cells?_some h1
      exact ⟨x, cs', hp, hlen, fun j hj => (hc j (by omega)).trans (List.getElem?_eq_getElem hj)⟩)
    subst hvl
    obtain ⟨b, off, spot⟩ := a
    refine ⟨_, cap', l, hcs, ⟨hl, hm⟩, ?_, ?_⟩
    · by_cases h0 : l.length = 0
      · exact .inl h0
      · obtain ⟨cs', _, hlen, hc⟩ := hvp 0 (by omega)
        have h1 := hc 0 (by omega)
        have hspot : spot = none := by simpa [Addr.add] using World.cell?_spot h1
        subst hspot
        simp only [addOffT] at h1
        exact .inr ⟨b, off, rfl, by simpa using block_lt_of_cell h1⟩
    · intro b' off' e i hi
      cases e
      obtain ⟨cs', hp, hlen, hc⟩ := hvp i hi
      exact ⟨cs', hp, hlen, fun j hj => by have := hc j hj; simpa only [addOffT] using this⟩
theorem getD_ofT {α : Type} (l : List α) (d : α) (i : Nat) (h : i < l.length) : l.getD i d = l[i] := by
  rw [List.getD_eq_getElem?_getD, List.getElem?_eq_getElem h]; rfl
theorem readStrs {base : Nat} {spare : Nat → Bool} {held : Bool} {fuel : Nat} {cs : List Value} {y : DataW H × List MemPlace} (h : DataW.trod enc Try.prog W base spare held fuel 22 cs = some y) :
    ∃ ao cap l, cs = [.slice ao (List.length l) cap] ∧ (l.length ≤ cap ∧ cap ≤ maxLen) ∧ StrRow W 0 W.heap.size ao l := by
  obtain ⟨ao, cap, l, rfl, hc, hb, hx⟩ := readSliceF (n := 1) (Nat.le_refl _) Try.underlying22 (by kernel_rfl) (fun cs (x : ByteArray) => cs = [.string x] ∧ x.size ≤ maxLen) (fun m _ cs y h => by
    obtain ⟨a, ea, _, wa⟩ := DataW.trod_string Try.underlying9 h
    exact ⟨a, ea, wa⟩) h
  refine ⟨ao, cap, l, rfl, hc, fun x hx' => ?_, ?_⟩
  · obtain ⟨i, hi, rfl⟩ := List.getElem_of_mem hx'
    rcases hb with h0 | ⟨b, off, e, _⟩
    · omega
    · obtain ⟨_, hp, _⟩ := hx b off e i hi
      exact hp.2
  · rcases hb with h0 | ⟨b, off, e, hlt⟩
    · exact .inl h0
    · refine .inr ⟨b, off, e, Nat.zero_le _, hlt, fun i hi => ?_⟩
      obtain ⟨cs', ⟨rfl, _⟩, _, hcell⟩ := hx b off e i hi
      have := hcell 0 (by simp)
      rw [getD_ofT l _ i hi]; simpa using this
end
end Go.Proofs.Ytmladjahkhhpkaa

/-
  Contracts: bools that came in as an argument: taken over, held against each other.
-/
namespace Go.Proofs.Ytmladjahkhhpkaa
open Go.RowKit Go.ChangeShapes Go.WideShapes
set_option maxRecDepth 100000

/-- Bools that lie one behind the other, in a block below B. -/
def BlRow (w : World) (B : Nat) (ao : Option Addr) (l : List Bool) : Prop :=
  l.length = 0 ∨ ∃ b off, ao = some ⟨b, off, none⟩ ∧ b < B ∧ ∀ i, i < l.length → w.cell? ⟨b, off + i, none⟩ = some (.bool (l.getD i false))
theorem BlRow.kept {w w' : World} {B : Nat} {ao : Option Addr} {l : List Bool} (h : BlRow w B ao l) (hb : Below B w w') : BlRow w' B ao l := by
  rcases h with h0 | ⟨b, off, e, hB, hc⟩
  · exact .inl h0
  · exact .inr ⟨b, off, e, hB, fun i hi => (hb.cell (p := ⟨b, _, none⟩) hB).trans (hc i hi)⟩
theorem BlRow.at {w : World} {B : Nat} {ao : Option Addr} {l : List Bool} (h : BlRow w B ao l) (k : Nat) (hk : k < l.length) :
    ∃ b off x, ao = some ⟨b, off, none⟩ ∧ b < B ∧ l.getD k false = x ∧ w.cell? ⟨b, off + k, none⟩ = some (.bool x) := by
  rcases h with h0 | ⟨b, off, e, hB, hc⟩
  · omega
  · exact ⟨b, off, _, e, hB, rfl, hc k hk⟩
theorem bools_step (cur : List Value) (l : List Bool) (k : Nat) (hk : k < l.length) (hl : cur.length = l.length) (hc : cur.take k = boolsV (l.take k)) (x : Bool) (hx : l.getD k false = x) :
    (cur.set k (.bool x)).take (k + 1) = boolsV (l.take (k + 1)) ∧ (cur.set k (.bool x)).length = l.length := by
  refine ⟨?_, by simpa using hl⟩
  rw [take_set1 _ _ _ (by omega), hc, List.take_succ_eq_append_getElem hk]
  rw [List.getD_eq_getElem?_getD, List.getElem?_eq_getElem hk] at hx
  simp only [Option.getD_some] at hx
  unfold boolsV
  rw [List.map_append, hx]; rfl
theorem Try.infoBl : (Try.prog.info? 4).map (fun i => (i.zero, i.size, i.bytes)) = some (some (.bool false), 1, 1) := by kernel_rfl
set_option maxHeartbeats 1000000 in
theorem toBoolS_own (B : Nat) (ao : Option Addr) (cap : Nat) (l : List Bool) (w : World) (hB : B ≤ w.heap.size) (hl : l.length ≤ 1048576) (hr : BlRow w B ao l) :
    Calls Try.prog 28 #[.slice ao l.length cap] w fun e w' => ∃ v, e = .returned v ∧ OwnL w.heap.size v l w' ∧ Below w.heap.size w w' := by
  obtain ⟨i0, hi, hz0, hz1, hz2⟩ := info_parts Try.infoBl
  have HR := hide hr
  clear hr
  go_enter Try.func28, Try.ntmps28
  go_wp2_with (at_make; refine wpList_make_full _ rfl _ _ 46 rfl w.heap.size 4 i0 (.bool false) 1 Try.underlying46 hi hz0 hz1 .i64 .i64 _ _ l.length rfl rfl rfl rfl (by rw [hz2]; omega) (by unfold maxLen; omega) (Nat.le_refl _) ?_; intro w1 hown1 hgrow1)
  obtain ⟨cur0, hg0, hl0⟩ : ∃ cur : List Value, w1.heap[w.heap.size]? = some (.cells cur.toArray 4 (0, 0)) ∧ cur.length = l.length := by
    rcases hown1.2 with ⟨h, _⟩ | ⟨g, cap', cur, hv, _, hg, _, _, hs, _⟩
    · simp at h
    · simp at hv
      obtain ⟨rfl, rfl⟩ := hv
      exact ⟨cur.toList, by simpa using hg, by simpa using hs⟩
  have hb1 : Below w.heap.size w w1 := (Below.refl _ _).grown hgrow1 (Nat.le_refl _) (fun j hj => by simp at hj)
  clear hown1 hgrow1
  go_loopw [4] (fun i wr => ∃ (k : Nat) (cur : List Value), k ≤ l.length ∧ i = .int .i64 k ∧ cur.length = l.length ∧ wr.heap[w.heap.size]? = some (.cells cur.toArray 4 (0, 0)) ∧ Hid (cur.take k = boolsV (l.take k)) ∧ Below w.heap.size w wr) (fun i _ => l.length - (intOf i).toNat)
  case atStart => exact ⟨0, cur0, Nat.zero_le _, rfl, hl0, hg0, by show _ = _; simp [boolsV], hb1⟩
  case round =>
    obtain ⟨k, cur, hk, rfl, hlen, hg, HC, hb⟩ := hrel
    clear hb1 hg0 hl0
    have hlt0 : w.heap.size < wr.heap.size := (Array.getElem?_eq_some_iff.1 hg).1
    by_cases hlt : k < l.length
    · obtain ⟨b, off, x, rfl, hbB, hv, d0⟩ := (HR.out.kept (hb.mono hB)).at k hlt
      obtain ⟨HC2, hlen2⟩ := bools_step cur l k hlt hlen HC.out x hv
      have HC3 : Hid ((cur.set k (.bool x)).take (k + 1) = boolsV (l.take (k + 1))) := HC2
      clear hv HC HC2
      obtain ⟨x0, hx0⟩ : ∃ v, cur[k]? = some v := ⟨_, List.getElem?_eq_getElem (by omega)⟩
      have e0 : wr.cell? ⟨w.heap.size, k, none⟩ = some x0 := by rw [cell_of_row _ _ _ _ _ _ hg, List.getElem?_toArray, hx0]
      have ef : ∀ j, wr.frozen? ⟨w.heap.size, j, none⟩ = false := fun j => frozen_of_row _ _ _ _ _ hg
      have HG : Hid (wr.heap[w.heap.size]? = some (.cells cur.toArray 4 (0, 0))) := hg
      clear hx0 hg
      go_wp2
      go_roundw
      case rel => exact ⟨k + 1, _, by omega, by go_num, hlen2, (by rw [heap_setCell_same _ _ _ _ _ _ HG.out]; simp), HC3, hb.setCell (Nat.le_refl _) _⟩
      case measure => simp [intOf]; omega
    · obtain rfl : k = l.length := by omega
      have HF : Hid (OwnL w.heap.size (.slice (some ⟨w.heap.size, 0, none⟩) l.length l.length) l wr) := ⟨by simp [boolsV], .inr ⟨w.heap.size, l.length, cur.toArray, rfl, Nat.le_refl _, hg, Nat.le_refl _, (by unfold maxLen; omega), (by simpa using hlen), (by have := HC.out; rw [List.take_length] at this; simpa using this)⟩⟩
      go_wp2
      go_ret
      exact ⟨_, rfl, HF.out, hb⟩
set_option maxHeartbeats 2000000 in
theorem eqBoolS_own (base base' : Nat) (v v' : Value) (l : List Bool) (w : World) (hl : l.length ≤ 1048576) (ha : OwnL base v l w) (hb : OwnL base' v' l w) :
    Calls Try.prog 30 #[v, v'] w fun e w' => e = .returned (.bool true) ∧ Below w.heap.size w w' := by
  obtain ⟨ao, cap, rfl, hka⟩ := ownL_shape ha
  obtain ⟨bo, cp, rfl, hkb⟩ := ownL_shape hb
  have HA := hide hka
  have HB := hide hkb
  clear ha hb hka hkb
  go_enter Try.func30, Try.ntmps30
  go_wp2
  go_loopw [5] (fun i wr => ∃ k : Nat, k ≤ l.length ∧ i = .int .i64 k ∧ Below w.heap.size w wr) (fun i _ => l.length - (intOf i).toNat)
  case atStart => exact ⟨0, Nat.zero_le _, rfl, Below.refl _ _⟩
  case round =>
    obtain ⟨k, hk, rfl, hbw⟩ := hrel
    by_cases hlt : k < l.length
    · obtain ⟨b, rfl, hbB, d00⟩ := HA.out k hlt
      obtain ⟨b', rfl, hbB', e00⟩ := HB.out k hlt
      generalize l.getD k false = x at *
      have d0 := (hbw.cell (p := ⟨b, k, none⟩) hbB).trans d00
      have e0 := (hbw.cell (p := ⟨b', k, none⟩) hbB').trans e00
      have hi0 : (0 : Int) ≤ (k : Int) := by omega
      have hi1 : (k : Int) < (l.length : Int) := by omega
      have ht := (Int.toNat_natCast k)
      clear d00 e00
      go_wp2
      go_region_held3 (fun W => W.cell? ⟨b, k, none⟩ = some (.bool x) ∧ W.cell? ⟨b', k, none⟩ = some (.bool x)) (go_keep) (fail)
      all_goals
        have hb2 : Below w.heap.size w _ := hbw.drew
        clear d0 e0 hbw
        go_wp2
        go_roundw
        case rel => exact ⟨k + 1, by omega, by go_num, hb2⟩
        case measure => simp [intOf]; omega
    · go_wp2
      go_ret
      exact ⟨rfl, hbw⟩
section
variable {H : Type} {enc : TypeId × Value → H} {W : World}
theorem readBools {base : Nat} {spare : Nat → Bool} {held : Bool} {fuel : Nat} {cs : List Value} {y : DataW H × List MemPlace} (h : DataW.trod enc Try.prog W base spare held fuel 46 cs = some y) :
    ∃ ao cap l, cs = [.slice ao (List.length l) cap] ∧ (l.length ≤ cap ∧ cap ≤ maxLen) ∧ BlRow W W.heap.size ao l := by
  obtain ⟨ao, cap, l, rfl, hc, hb, hx⟩ := readSliceF (n := 1) (Nat.le_refl _) Try.underlying46 (by kernel_rfl) (fun cs (x : Bool) => cs = [.bool x]) (fun m _ cs y h => by
    obtain ⟨a, ea, _⟩ := DataW.trod_bool Try.underlying4 h
    exact ⟨a, ea⟩) h
  refine ⟨ao, cap, l, rfl, hc, ?_⟩
  rcases hb with h0 | ⟨b, off, e, hlt⟩
  · exact .inl h0
  · refine .inr ⟨b, off, e, hlt, fun i hi => ?_⟩
    obtain ⟨cs', rfl, _, hcell⟩ := hx b off e i hi
    rw [getD_ofT l false i hi]
    simpa using hcell 0 (by simp)
theorem rdBools {base : Nat} {v : Value} {d : DataW H} {p : List MemPlace} (hv : Value.okWide Try.prog W .any base 46 v) (h : DataW.Trod enc Try.prog W 0 (fun _ => true) true 46 v d p) : ∃ ko kr kl, v = .slice ko (List.length kl) kr ∧ BlRow W W.heap.size ko kl := by
  obtain ⟨ao, len, cap, rfl⟩ := okWide_slice Try.underlying46 hv
  obtain ⟨fuel, hf⟩ := h
  obtain ⟨ao', cap', l, hcs, hc, hr⟩ := readBools hf
  simp [Value.cells] at hcs
  obtain ⟨rfl, rfl, rfl⟩ := hcs
  exact ⟨ao, cap, l, rfl, hr⟩
end
end Go.Proofs.Ytmladjahkhhpkaa

/-
  Contract: bools are marked.
-/
namespace Go.Proofs.Ytmladjahkhhpkaa
open Go.RowKit
set_option maxRecDepth 100000

theorem OwnL.below {base : Nat} {v : Value} {l : List Bool} {w w' : World} (h : OwnL base v l w) (hb : Below w.heap.size w w') : OwnL base v l w' := owns_below h hb
set_option maxHeartbeats 2000000 in
theorem markBoolS_own (base : Nat) (v : Value) (l : List Bool) (k0 : Nat) (w : World) (hk : k0 + l.length ≤ 5000000) (h : OwnL base v l w) :
    Calls Try.prog 31 #[v, .int .i64 (k0 : Int)] w fun e w' => ∃ z : Int, 0 ≤ z ∧ e = .returned (.int .i64 z) ∧ w.grownBy w' v.ownBlock := by
  rcases h.2 with ⟨rfl, h0⟩ | ⟨g, cap, cur, rfl, hB, hq, hn', hm, hs, ht⟩
  · go_enter Try.func31, Try.ntmps31
    go_wp2
    go_loop [1, 5] (fun q i => i = .int .i64 0 ∧ q = .int .i64 k0) (fun _ _ => 0)
    case atStart => exact ⟨rfl, rfl⟩
    case round =>
      obtain ⟨rfl, rfl⟩ := hrel
      go_wp2
      go_ret
      exact ⟨(k0 : Int), by omega, rfl, grown_refl _ _⟩
  · have HG0 : Hid (w.heap[g]? = some (.cells cur.toList.toArray 4 (0, 0)) ∧ cur.toList.length = cap) := ⟨by simpa using hq, by simpa using hs⟩
    clear h hq hs ht hB hm
    generalize cur.toList = cl at *
    go_enter Try.func31, Try.ntmps31
    go_wp2
    go_loopw [1, 5] (fun q i wr => ∃ k : Nat, k ≤ l.length ∧ i = .int .i64 k ∧ q = .int .i64 ((k0 + k : Nat) : Int) ∧ Hid (∃ cur : List Value, wr.heap[g]? = some (.cells cur.toArray 4 (0, 0)) ∧ cur.length = cap) ∧ w.grownBy wr (some g)) (fun _ i _ => l.length - (intOf i).toNat)
    case atStart => exact ⟨0, Nat.zero_le _, rfl, rfl, ⟨cl, HG0.out⟩, grown_refl _ _⟩
    case round =>
      obtain ⟨k, hk', rfl, rfl, HM, hb⟩ := hrel
      by_cases hlt : k < l.length
      · obtain ⟨cur, hg, hl⟩ := HM.out
        obtain ⟨x0, hx0⟩ : ∃ v, cur[k]? = some v := ⟨_, List.getElem?_eq_getElem (by omega)⟩
        have e0 : wr.cell? ⟨g, k, none⟩ = some x0 := by rw [cell_of_row _ _ _ _ _ _ hg, List.getElem?_toArray, hx0]
        have ef : ∀ j, wr.frozen? ⟨g, j, none⟩ = false := fun j => frozen_of_row _ _ _ _ _ hg
        have HST := hide (fun (x : Value) => show ∃ cur' : List Value, (wr.setCell ⟨g, k, none⟩ x).heap[g]? = some (.cells cur'.toArray 4 (0, 0)) ∧ cur'.length = cap from ⟨cur.set k x, by rw [heap_setCell_same _ _ _ _ _ _ hg]; simp, by simpa using hl⟩)
        clear HM hg hl hx0 HG0
        go_wp2
        go_roundw
        case rel => exact ⟨k + 1, by omega, by go_num, by go_num, HST.out _, grown_setG hb⟩
        case measure => simp [intOf]; omega
      · obtain rfl : k = l.length := by omega
        go_wp2
        go_ret
        exact ⟨((k0 + l.length : Nat) : Int), by omega, rfl, hb⟩
end Go.Proofs.Ytmladjahkhhpkaa

/-
  One byte, as a text.
-/
namespace Go.Proofs.Ytmladjahkhhpkaa
open Go.RowKit

theorem conv_one (W : World) (c : UInt8) (x : Int) (hx : x = (c.toNat : Int)) : (convert 52 9 (.slice (some ⟨W.heap.size, 0, none⟩) 1 1)).run Try.prog (W.alloc (.cells #[.int .u8 x] 5)) = .ok (.string (mkS [c])) (W.alloc (.cells #[.int .u8 x] 5)) := by
  subst hx
  exact OwnB.conv (base := W.heap.size) (l := [c]) ⟨rfl, .inr ⟨W.heap.size, 1, _, rfl, Nat.le_refl _, heap_alloc_new _ _, Nat.le_refl _, by decide, rfl, rfl⟩⟩
end Go.Proofs.Ytmladjahkhhpkaa

/-
  Contracts: marks.
-/
namespace Go.Proofs.Ytmladjahkhhpkaa
open Go.RowKit

/-- A number's figures, ahead of what stands there. -/
def figs (j : Nat) (o : ByteArray) : ByteArray := if _h : j = 0 then o else figs (j / 10) (mkS [UInt8.ofNat (48 + j % 10)] ++ o)
termination_by j
decreasing_by omega
theorem figs_zero (o : ByteArray) : figs 0 o = o := by rw [figs]; rfl
theorem figs_pos (j : Nat) (o : ByteArray) (h : 0 < j) : figs j o = figs (j / 10) (mkS [UInt8.ofNat (48 + j % 10)] ++ o) := by rw [figs, dif_neg (by omega)]
/-- A mark. -/
def markS (k : Nat) : ByteArray := "m".toUTF8 ++ figs k ⟨#[]⟩
theorem m_size (k : Nat) : markS k = ⟨#[109]⟩ ++ figs k ⟨#[]⟩ := rfl
set_option maxRecDepth 100000 in
set_option maxHeartbeats 4000000 in
theorem markText_pos (k : Nat) (h : 0 < k) (hk : k ≤ 10000000) (w : World) :
    Calls Try.prog 60 #[.int .i64 k] w fun e w' => e = .returned (.string (markS k)) ∧ Below w.heap.size w w' := by
  go_enter Try.func60, Try.ntmps60
  go_wp2
  go_loopw [0, 3] (fun i o wr => ∃ (j : Nat) (x : ByteArray), x.size + j ≤ 10000000 ∧ i = .int .i64 j ∧ o = .string x ∧ Hid (figs k ⟨#[]⟩ = figs j x) ∧ Below w.heap.size w wr) (fun i _ _ => (intOf i).toNat)
  case atStart => exact ⟨k, ⟨#[]⟩, by simpa [ByteArray.size] using hk, rfl, rfl, rfl, Below.refl _ _⟩
  case round =>
    obtain ⟨j, x, hj, rfl, rfl, HF, hb⟩ := hrel
    have hz := hb.size
    by_cases hj0 : j = 0
    · subst hj0
      have HM : Hid (markS k = ⟨#[109]⟩ ++ x) := by show _ = _; rw [m_size, HF.out, figs_zero]
      clear HF
      go_wp2
      go_ret
      exact ⟨ret_str HM.out.symm, hb⟩
    · have HF2 : Hid (figs k ⟨#[]⟩ = figs (j / 10) (mkS [UInt8.ofNat (48 + j % 10)] ++ x)) := by show _ = _; rw [HF.out, figs_pos j x (by omega)]
      have hr10 : j % 10 < 10 := Nat.mod_lt _ (by omega)
      have hcv := conv_one wr (UInt8.ofNat (48 + j % 10)) (48 + (j : Int) % 10) (by rw [UInt8.toNat_ofNat']; omega)
      have hms : (mkS [UInt8.ofNat (48 + j % 10)]).size = 1 := mkS_size _
      have hb2 := hb.alloc hz (.cells #[.int .u8 (48 + (j : Int) % 10)] 5)
      clear HF
      generalize mkS [UInt8.ofNat (48 + j % 10)] = c at *
      go_wp2
      go_roundw
      case rel => exact ⟨j / 10, c ++ x, by rw [ByteArray.size_append]; omega, by go_num, rfl, HF2, hb2⟩
      case measure => simp [intOf]; omega
end Go.Proofs.Ytmladjahkhhpkaa

/-
  Contracts: marks are written into texts that lie in a block of their own, and read again.
-/
namespace Go.Proofs.Ytmladjahkhhpkaa
open Go.RowKit
set_option maxRecDepth 100000

/-- A block that has room for n texts; its first k are marks, from k0 on. -/
def MkAt (g n k0 k : Nat) (w : World) : Prop := ∃ cur : List Value, w.heap[g]? = some (.cells cur.toArray 9 (0, 0)) ∧ n ≤ cur.length ∧ ∀ i, i < k → cur[i]? = some (.string (markS (k0 + i)))
theorem MkAt.lt {g n k0 k : Nat} {w : World} (h : MkAt g n k0 k w) : g < w.heap.size := by
  obtain ⟨cur, hg, _⟩ := h
  exact (Array.getElem?_eq_some_iff.1 hg).1
theorem MkAt.kept {g n k0 k B : Nat} {w w' : World} (h : MkAt g n k0 k w) (hb : Below B w w') (hg : g < B) : MkAt g n k0 k w' := by
  obtain ⟨cur, h1, h2⟩ := h
  exact ⟨cur, (hb.block g hg).trans h1, h2⟩
theorem MkAt.step {g n k0 k : Nat} {w : World} (h : MkAt g n k0 k w) (hk : k < n) : MkAt g n k0 (k + 1) (w.setCell ⟨g, k, none⟩ (.string (markS (k0 + k)))) := by
  obtain ⟨cur, h1, h2, h3⟩ := h
  refine ⟨_, setL_heap h1, by simpa using h2, fun i hi => ?_⟩
  by_cases e : i = k
  · subst e
    rw [List.getElem?_set_self (by omega)]
  · rw [List.getElem?_set_ne (by omega)]
    exact h3 i (by omega)
theorem MkAt.cell {g n k0 k : Nat} {w : World} (h : MkAt g n k0 n w) (hk : k < n) : w.cell? ⟨g, k, none⟩ = some (.string (markS (k0 + k))) := by
  obtain ⟨cur, h1, h2, h3⟩ := h
  rw [cell_of_row _ _ _ _ _ _ h1, List.getElem?_toArray, h3 k hk]
set_option maxHeartbeats 2000000 in
theorem markStringS_at (g n cap k0 : Nat) (w : World) (hn : n ≤ 1048576) (h0 : 0 < k0) (hk : k0 ≤ 5000000) (hw : MkAt g n k0 0 w) :
    Calls Try.prog 36 #[.slice (some ⟨g, 0, none⟩) n cap, .int .i64 k0] w fun e w' => e = .returned (.int .i64 ((k0 + n : Nat) : Int)) ∧ MkAt g n k0 n w' ∧ w.grownBy w' (some g) := by
  have HW := hide hw
  clear hw
  go_enter Try.func36, Try.ntmps36
  go_wp2
  go_loopw [1, 5] (fun q i wr => ∃ k : Nat, k ≤ n ∧ i = .int .i64 k ∧ q = .int .i64 ((k0 + k : Nat) : Int) ∧ Hid (MkAt g n k0 k wr) ∧ w.grownBy wr (some g)) (fun _ i _ => n - (intOf i).toNat)
  case atStart => exact ⟨0, Nat.zero_le _, rfl, rfl, HW, grown_refl _ _⟩
  case round =>
    obtain ⟨k, hk', rfl, rfl, HM, hb⟩ := hrel
    by_cases hlt : k < n
    · have hmt := hide (markText_pos (k0 + k) (by omega) (by omega) wr)
      go_wp2_with fail
      refine hmt.out.mono ?_
      rintro e w1 ⟨rfl, b1⟩
      have HM1 := hide (HM.out.kept b1 HM.out.lt)
      have hb1 := grown_below hb b1
      have HM2 := hide (HM1.out.step hlt)
      obtain ⟨cur, hg, hl, _⟩ := HM1.out
      obtain ⟨x0, hx0⟩ : ∃ v, cur[k]? = some v := ⟨_, List.getElem?_eq_getElem (by omega)⟩
      have e0 : w1.cell? ⟨g, k, none⟩ = some x0 := by rw [cell_of_row _ _ _ _ _ _ hg, List.getElem?_toArray, hx0]
      have ef : ∀ j, w1.frozen? ⟨g, j, none⟩ = false := fun j => frozen_of_row _ _ _ _ _ hg
      clear HM HM1 hg hl hx0 b1 hmt hb
      generalize markS (k0 + k) = T at *
      go_wp2
      go_roundw
      case rel => exact ⟨k + 1, by omega, by go_num, by go_num, HM2, grown_setG hb1⟩
      case measure => simp [intOf]; omega
    · obtain rfl : k = n := by omega
      go_wp2
      go_ret
      exact ⟨rfl, HM.out, hb⟩
set_option maxHeartbeats 2000000 in
theorem heldStringS_at (g n cap k0 : Nat) (w : World) (hn : n ≤ 1048576) (h0 : 0 < k0) (hk0 : k0 ≤ 5000000) (hw : MkAt g n k0 n w) :
    Calls Try.prog 38 #[.slice (some ⟨g, 0, none⟩) n cap, .int .i64 k0] w fun e w' => e = .returned (.int .i64 ((k0 + n : Nat) : Int)) ∧ Below w.heap.size w w' := by
  have hgs := hw.lt
  have HW : Hid (∀ W, Below w.heap.size w W → MkAt g n k0 n W) := fun W hb => hw.kept hb hgs
  clear hw
  go_enter Try.func38, Try.ntmps38
  go_wp2
  go_loopw [1, 5] (fun q i wr => ∃ k : Nat, k ≤ n ∧ i = .int .i64 k ∧ q = .int .i64 ((k0 + k : Nat) : Int) ∧ Below w.heap.size w wr) (fun _ i _ => n - (intOf i).toNat)
  case atStart => exact ⟨0, Nat.zero_le _, rfl, rfl, Below.refl _ _⟩
  case round =>
    obtain ⟨k, hk, rfl, rfl, hb⟩ := hrel
    have hz := hb.size
    by_cases hlt : k < n
    · have d0 := (HW.out _ hb).cell hlt
      have hi0 : (0 : Int) ≤ (k : Int) := by omega
      have hi1 : (k : Int) < (n : Int) := by omega
      have ht := (Int.toNat_natCast k)
      have hmt := fun W => markText_pos (k0 + k) (by omega) (by omega) W
      generalize markS (k0 + k) = T at *
      have hgr : g < wr.heap.size := by omega
      go_wp2
      go_region_held3 (fun W => W.cell? ⟨g, k, none⟩ = some (.string T)) (go_keep) (first | (go_at_call 60; refine (hmt _).mono ?_; rintro e w1 ⟨rfl, hb1⟩; have hb1' : Below wr.heap.size wr w1 := (Below.refl _ _).drew.trans hb1; obtain ⟨hc1, hf1⟩ := bcell hb1'))
      all_goals
        have hb2 := hb.trans (hb1'.mono hz)
        clear d0 hb1 hb1' hb hc1 hf1
        go_wp2
        go_roundw
        case rel => exact ⟨k + 1, by omega, by go_num, by go_num, hb2⟩
        case measure => simp [intOf]; omega
    · obtain rfl : k = n := by omega
      go_wp2
      go_ret
      exact ⟨rfl, hb⟩
end Go.Proofs.Ytmladjahkhhpkaa

/-
  Contracts: texts in a row of their own are marked, and looked at again.
-/
namespace Go.Proofs.Ytmladjahkhhpkaa
open Go.RowKit
set_option maxRecDepth 100000

/-- A slice of n texts that is marked. -/
def MarkedS (v : Value) (n : Nat) (w : World) : Prop := (v = .slice none 0 0 ∧ n = 0) ∨ ∃ g cap, v = .slice (some ⟨g, 0, none⟩) n cap ∧ MkAt g n 1 n w
theorem MarkedS.kept {v : Value} {n : Nat} {w w' : World} (h : MarkedS v n w) (hb : Below w.heap.size w w') : MarkedS v n w' := by
  rcases h with h | ⟨g, cap, rfl, h⟩
  · exact .inl h
  · exact .inr ⟨g, cap, rfl, h.kept hb h.lt⟩
theorem markStringS_nil (w : World) : Calls Try.prog 36 #[.slice none 0 0, .int .i64 1] w fun e w' => e = .returned (.int .i64 1) ∧ w' = w := by
  go_enter Try.func36, Try.ntmps36
  go_wp2
  go_loop [1, 5] (fun q i => i = .int .i64 0 ∧ q = .int .i64 1) (fun _ _ => 0)
  case atStart => exact ⟨rfl, rfl⟩
  case round =>
    obtain ⟨rfl, rfl⟩ := hrel
    go_wp2
    go_ret
    exact ⟨rfl, rfl⟩
theorem heldStringS_nil (w : World) : Calls Try.prog 38 #[.slice none 0 0, .int .i64 1] w fun e w' => e = .returned (.int .i64 1) ∧ w' = w := by
  go_enter Try.func38, Try.ntmps38
  go_wp2
  go_loop [1, 5] (fun q i => i = .int .i64 0 ∧ q = .int .i64 1) (fun _ _ => 0)
  case atStart => exact ⟨rfl, rfl⟩
  case round =>
    obtain ⟨rfl, rfl⟩ := hrel
    go_wp2
    go_ret
    exact ⟨rfl, rfl⟩
theorem markStringS_own (base : Nat) (v : Value) (l : List ByteArray) (w : World) (hn : l.length ≤ 1048576) (h : OwnS base v l w) :
    Calls Try.prog 36 #[v, .int .i64 1] w fun e w' => e = .returned (.int .i64 ((1 + l.length : Nat) : Int)) ∧ MarkedS v l.length w' ∧ w.grownBy w' v.ownBlock := by
  rcases h.2 with ⟨rfl, h0⟩ | ⟨g, cap, cur, rfl, hB, hq, hn', hm, hs, ht⟩
  · refine (markStringS_nil w).mono ?_
    rintro e w' ⟨rfl, rfl⟩
    rw [h0]
    exact ⟨rfl, .inl ⟨rfl, rfl⟩, grown_refl _ _⟩
  · refine (markStringS_at g l.length cap 1 w hn (by omega) (by omega) ⟨cur.toList, by simpa using hq, by simp; omega, fun i hi => by omega⟩).mono ?_
    rintro e w' ⟨rfl, hm', hb⟩
    exact ⟨rfl, .inr ⟨g, cap, rfl, hm'⟩, hb⟩
theorem heldStringS_own (v : Value) (n : Nat) (w : World) (hn : n ≤ 1048576) (h : MarkedS v n w) :
    Calls Try.prog 38 #[v, .int .i64 1] w fun e w' => e = .returned (.int .i64 ((1 + n : Nat) : Int)) ∧ Below w.heap.size w w' := by
  rcases h with ⟨rfl, rfl⟩ | ⟨g, cap, rfl, hm⟩
  · refine (heldStringS_nil w).mono ?_
    rintro e w' ⟨rfl, rfl⟩
    exact ⟨rfl, Below.refl _ _⟩
  · exact heldStringS_at g n cap 1 w hn (by omega) (by omega) hm
end Go.Proofs.Ytmladjahkhhpkaa

/-
  Contracts: marks are written into a disk's lists, and read again.
-/
namespace Go.Proofs.Ytmladjahkhhpkaa
open Go.RowKit
set_option maxRecDepth 100000

def mStrs (k0 n : Nat) : List ByteArray := (List.range n).map fun i => markS (k0 + i)
def mWr (k : Nat) : Wr := ⟨(k : Int), markS (k + 1)⟩
def mWrs (k0 n : Nat) : List Wr := (List.range n).map fun i => mWr (k0 + 2 * i)
theorem mStrs_succ (k0 k : Nat) : mStrs k0 (k + 1) = mStrs k0 k ++ [markS (k0 + k)] := by simp [mStrs, List.range_succ]
theorem mWrs_succ (k0 k : Nat) : mWrs k0 (k + 1) = mWrs k0 k ++ [mWr (k0 + 2 * k)] := by simp [mWrs, List.range_succ]
theorem mStrs_len (k0 n : Nat) : (mStrs k0 n).length = n := by simp [mStrs]
theorem mWrs_len (k0 n : Nat) : (mWrs k0 n).length = n := by simp [mWrs]
theorem mStrs_get (k0 n i : Nat) (h : i < n) : (mStrs k0 n).getD i ByteArray.empty = markS (k0 + i) := by simp [mStrs, List.getD_eq_getElem?_getD, h]
theorem mWrs_get (k0 n i : Nat) (h : i < n) : (mWrs k0 n).getD i noWr = mWr (k0 + 2 * i) := by simp [mWrs, List.getD_eq_getElem?_getD, h]
def SM (g m k0 k : Nat) (w : World) : Prop := ∃ cur : List Value, w.heap[g]? = some (.cells cur.toArray 9 (0, 0)) ∧ cur.length = m ∧ cur.take k = strsV (mStrs k0 k)
def WM (g m k0 k : Nat) (w : World) : Prop := ∃ cur : List Value, w.heap[g]? = some (.cells cur.toArray 64 (0, 0)) ∧ cur.length = m ∧ cur.take (k * 2) = flatW (mWrs k0 k)
set_option maxHeartbeats 2000000 in
theorem markStringS_cur (g n cap k0 m : Nat) (w : World) (hk0 : 0 < k0) (hk1 : k0 + n ≤ 5000000) (hl0 : n ≤ m) (hw : SM g m k0 0 w) :
    Calls Try.prog 36 #[.slice (some ⟨g, 0, none⟩) n cap, .int .i64 k0] w fun e w' => e = .returned (.int .i64 ((k0 + n : Nat) : Int)) ∧ SM g m k0 n w' ∧ w.grownBy w' (some g) := by
  have HW := hide hw
  clear hw
  go_enter Try.func36, Try.ntmps36
  go_wp2
  go_loopw [1, 5] (fun q i wr => ∃ k : Nat, k ≤ n ∧ i = .int .i64 k ∧ q = .int .i64 ((k0 + k : Nat) : Int) ∧ Hid (SM g m k0 k wr) ∧ w.grownBy wr (some g)) (fun _ i _ => n - (intOf i).toNat)
  case atStart => exact ⟨0, Nat.zero_le _, rfl, rfl, HW, grown_refl _ _⟩
  case round =>
    obtain ⟨k, hk', rfl, rfl, HM, hb⟩ := hrel
    by_cases hlt : k < n
    · have hmt := hide (markText_pos (k0 + k) (by omega) (by omega) wr)
      obtain ⟨cur, hg, hl, htk⟩ := HM.out
      have hgs : g < wr.heap.size := (Array.getElem?_eq_some_iff.1 hg).1
      have HG := hide hg
      have HL := hide htk
      have HS := hide (mStrs_succ k0 k)
      generalize markS (k0 + k) = T at *
      clear HM hg htk
      go_wp2_with fail
      refine hmt.out.mono ?_
      rintro e w1 ⟨rfl, b1⟩
      have hg1 := (b1.block g hgs).trans HG.out
      obtain ⟨x0, hx0⟩ : ∃ v, cur[k]? = some v := ⟨_, List.getElem?_eq_getElem (by omega)⟩
      have e0 : w1.cell? ⟨g, k, none⟩ = some x0 := by rw [cell_of_row _ _ _ _ _ _ hg1, List.getElem?_toArray, hx0]
      have ef : ∀ j, w1.frozen? ⟨g, j, none⟩ = false := fun j => frozen_of_row _ _ _ _ _ hg1
      have HM2 : Hid (SM g m k0 (k + 1) (w1.setCell ⟨g, k, none⟩ (.string T)) ∧ w.grownBy (w1.setCell ⟨g, k, none⟩ (.string T)) (some g)) := by
        refine ⟨⟨_, setL_heap hg1, by simpa using hl, ?_⟩, grown_setG (grown_below hb b1)⟩
        rw [take_set1 _ _ _ (by omega), HL.out, HS.out]
        simp [strsV]
      clear HG HL HS hg1 hx0 b1 hmt hb hgs hl
      go_wp2
      go_roundw
      case rel => exact ⟨k + 1, by omega, by go_num, by go_num, HM2.out.1, HM2.out.2⟩
      case measure => simp [intOf]; omega
    · obtain rfl : k = n := by omega
      go_wp2
      go_ret
      exact ⟨rfl, HM.out, hb⟩
theorem markStringS_nilK (k0 : Nat) (w : World) : Calls Try.prog 36 #[.slice none 0 0, .int .i64 k0] w fun e w' => e = .returned (.int .i64 k0) ∧ w' = w := by
  go_enter Try.func36, Try.ntmps36
  go_wp2
  go_loop [1, 5] (fun q i => i = .int .i64 0 ∧ q = .int .i64 k0) (fun _ _ => 0)
  case atStart => exact ⟨rfl, rfl⟩
  case round =>
    obtain ⟨rfl, rfl⟩ := hrel
    go_wp2
    go_ret
    exact ⟨rfl, rfl⟩
theorem markStringS_mk (base : Nat) (v : Value) (l : List ByteArray) (k0 : Nat) (w : World) (hk0 : 0 < k0) (hk1 : k0 + l.length ≤ 5000000) (h : OwnS base v l w) :
    Calls Try.prog 36 #[v, .int .i64 k0] w fun e w' => e = .returned (.int .i64 ((k0 + l.length : Nat) : Int)) ∧ OwnS base v (mStrs k0 l.length) w' ∧ w.grownBy w' v.ownBlock := by
  rcases h.2 with ⟨rfl, h0⟩ | ⟨g, cap, cur, rfl, hB, hq, hn', hm, hs, ht⟩
  · refine (markStringS_nilK k0 w).mono ?_
    rintro e w' ⟨rfl, rfl⟩
    rw [h0]
    exact ⟨rfl, ownS_nil _ _, grown_refl _ _⟩
  · refine (markStringS_cur g l.length cap k0 (cap * 1) w hk0 hk1 (by omega) ⟨cur.toList, by simpa using hq, by simpa using hs, by simp [mStrs, strsV]⟩).mono ?_
    rintro e w' ⟨rfl, ⟨cur', hg', hl', ht'⟩, hb⟩
    refine ⟨rfl, ⟨by simp [strsV], .inr ⟨g, cap, cur'.toArray, by rw [mStrs_len], hB, hg', by rw [mStrs_len]; exact hn', hm, by simpa using hl', ?_⟩⟩, hb⟩
    rw [mStrs_len]; simpa using ht'
set_option maxHeartbeats 4000000 in
theorem markWriteS_at (g n cap k0 m : Nat) (w : World) (hk0 : 0 < k0) (hk1 : k0 + 2 * n ≤ 5000000) (hl0 : n * 2 ≤ m) (hw : WM g m k0 0 w) :
    Calls Try.prog 37 #[.slice (some ⟨g, 0, none⟩) n cap, .int .i64 k0] w fun e w' => e = .returned (.int .i64 ((k0 + 2 * n : Nat) : Int)) ∧ WM g m k0 n w' ∧ w.grownBy w' (some g) := by
  have HW := hide hw
  clear hw
  go_enter Try.func37, Try.ntmps37
  go_wp2
  go_loopw [1, 5] (fun s i wr => ∃ k q : Nat, k ≤ n ∧ i = .int .i64 k ∧ s = .int .i64 q ∧ Hid (q = k0 + 2 * k) ∧ (0 < q ∧ q ≤ 5000000) ∧ Hid (WM g m k0 k wr) ∧ w.grownBy wr (some g)) (fun _ i _ => n - (intOf i).toNat)
  case atStart => exact ⟨0, k0, Nat.zero_le _, rfl, rfl, (by show _ = _; omega), ⟨hk0, by omega⟩, HW, grown_refl _ _⟩
  case round =>
    obtain ⟨k, q, hk, rfl, rfl, HQ, ⟨hq0, hq1⟩, HM, hb⟩ := hrel
    by_cases hlt : k < n
    · obtain ⟨cur, hg, hl, htk⟩ := HM.out
      have hgs : g < wr.heap.size := (Array.getElem?_eq_some_iff.1 hg).1
      have hmt := hide (fun W => markText_pos (q + 1) (by omega) (by omega) W)
      have hq3 : ((q + 1 : Nat) : Int) = (q : Int) + 1 := by omega
      rw [hq3] at hmt
      have HG := hide hg
      have HL := hide htk
      have hq2 : q + 2 ≤ 5000000 := by have := HQ.out; omega
      have HC : Hid (mWr (k0 + 2 * k) = ⟨(q : Int), markS (q + 1)⟩) := by show _ = _; rw [← HQ.out]; rfl
      generalize markS (q + 1) = T at *
      obtain ⟨x0, hx0⟩ : ∃ v, cur[k * 2]? = some v := ⟨_, List.getElem?_eq_getElem (by omega)⟩
      obtain ⟨x1, hx1⟩ : ∃ v, cur[k * 2 + 1]? = some v := ⟨_, List.getElem?_eq_getElem (by omega)⟩
      have d0 : wr.cell? ⟨g, k * 2, none⟩ = some x0 := by rw [cell_of_row _ _ _ _ _ _ hg, List.getElem?_toArray, hx0]
      have df : ∀ j, wr.frozen? ⟨g, j, none⟩ = false := fun j => frozen_of_row _ _ _ _ _ hg
      clear HM hg htk hq3
      go_wp2_with fail
      refine (hmt.out _).mono ?_
      rintro e w1 ⟨rfl, hb1⟩
      have hg1 := (hb1.block g (by simpa using hgs)).trans (setL_heap (m := k * 2) (x := .int .i64 (q : Int)) HG.out)
      have d1 : w1.cell? ⟨g, k * 2 + 1, none⟩ = some x1 := by rw [cell_of_row _ _ _ _ _ _ hg1, List.getElem?_toArray, List.getElem?_set_ne (by omega), hx1]
      have df1 : ∀ j, w1.frozen? ⟨g, j, none⟩ = false := fun j => frozen_of_row _ _ _ _ _ hg1
      have HM2 : Hid (WM g m k0 (k + 1) (w1.setCell ⟨g, k * 2 + 1, none⟩ (.string T)) ∧ w.grownBy (w1.setCell ⟨g, k * 2 + 1, none⟩ (.string T)) (some g)) := by
        refine ⟨⟨_, setL_heap hg1, by simpa using hl, ?_⟩, grown_setG (grown_below (grown_setG hb) hb1)⟩
        rw [show (k + 1) * 2 = k * 2 + 2 by omega, take_set2w _ _ _ _ (by omega), HL.out, mWrs_succ, flatW_append, HC.out]; rfl
      clear hmt HG HL HC hg1 hx0 hx1 hb1 hb d0 df
      go_wp2
      go_roundw
      case rel => exact ⟨k + 1, q + 2, by omega, by go_num, by go_num, (by show _ = _; have := HQ.out; omega), ⟨by omega, hq2⟩, HM2.out.1, HM2.out.2⟩
      case measure => simp [intOf]; omega
    · obtain rfl : k = n := by omega
      have HZ : Hid ((q : Int) = ((k0 + 2 * k : Nat) : Int)) := by show _ = _; rw [HQ.out]
      go_wp2
      go_ret
      exact ⟨by rw [HZ.out]; rfl, HM.out, hb⟩
theorem markWriteS_nil (k0 : Nat) (w : World) : Calls Try.prog 37 #[.slice none 0 0, .int .i64 k0] w fun e w' => e = .returned (.int .i64 k0) ∧ w' = w := by
  go_enter Try.func37, Try.ntmps37
  go_wp2
  go_loop [1, 5] (fun q i => i = .int .i64 0 ∧ q = .int .i64 k0) (fun _ _ => 0)
  case atStart => exact ⟨rfl, rfl⟩
  case round =>
    obtain ⟨rfl, rfl⟩ := hrel
    go_wp2
    go_ret
    exact ⟨rfl, rfl⟩
theorem markWriteS_mk (base : Nat) (v : Value) (l : List Wr) (k0 : Nat) (w : World) (hk0 : 0 < k0) (hk1 : k0 + 2 * l.length ≤ 5000000) (h : OwnW base v l w) :
    Calls Try.prog 37 #[v, .int .i64 k0] w fun e w' => e = .returned (.int .i64 ((k0 + 2 * l.length : Nat) : Int)) ∧ OwnW base v (mWrs k0 l.length) w' ∧ w.grownBy w' v.ownBlock := by
  rcases h.2 with ⟨rfl, h0⟩ | ⟨g, cap, cur, rfl, hB, hq, hn', hm, hs, ht⟩
  · refine (markWriteS_nil k0 w).mono ?_
    rintro e w' ⟨rfl, rfl⟩
    rw [h0]
    exact ⟨rfl, ownW_nil _ _, grown_refl _ _⟩
  · refine (markWriteS_at g l.length cap k0 (cap * 2) w hk0 hk1 (Nat.mul_le_mul_right 2 hn') ⟨cur.toList, by simpa using hq, by simpa using hs, by simp [mWrs, flatW]⟩).mono ?_
    rintro e w' ⟨rfl, ⟨cur', hg', hl', ht'⟩, hb⟩
    refine ⟨rfl, ⟨by rw [flatW_len], .inr ⟨g, cap, cur'.toArray, by rw [mWrs_len], hB, hg', by rw [mWrs_len]; exact hn', hm, by simpa using hl', ?_⟩⟩, hb⟩
    rw [mWrs_len]; simpa using ht'
end Go.Proofs.Ytmladjahkhhpkaa

/-
  Contracts: disks copied into rows of their own.
-/
namespace Go.Proofs.Ytmladjahkhhpkaa
open Go.RowKit
set_option maxRecDepth 100000

set_option maxHeartbeats 1000000 in
theorem toStringS_ownS (A B : Nat) (ao : Option Addr) (cap : Nat) (l : List ByteArray) (w : World) (hB : B ≤ w.heap.size) (hl : l.length ≤ 1048576) (hr : StrRow w A B ao l) :
    Calls Try.prog 42 #[.slice ao l.length cap] w fun e w' => ∃ v, e = .returned v ∧ OwnS w.heap.size v l w' ∧ Below w.heap.size w w' := by
  obtain ⟨i0, hi, hz0, hz1, hz2⟩ := info_parts Try.infoStr'
  have HR := hide hr
  clear hr
  go_enter Try.func42, Try.ntmps42
  go_wp2_with (at_make; refine wpList_make_full _ rfl _ _ 22 rfl w.heap.size 9 i0 (.string ⟨#[]⟩) 1 Try.underlying22 hi hz0 hz1 .i64 .i64 _ _ l.length rfl rfl rfl rfl (by rw [hz2]; omega) (by unfold maxLen; omega) (Nat.le_refl _) ?_; intro w1 hown1 hgrow1)
  obtain ⟨cur0, hg0, hl0⟩ : ∃ cur : List Value, w1.heap[w.heap.size]? = some (.cells cur.toArray 9 (0, 0)) ∧ cur.length = l.length := by
    rcases hown1.2 with ⟨h, _⟩ | ⟨g, cap', cur, hv, _, hg, _, _, hs, _⟩
    · simp at h
    · simp at hv
      obtain ⟨rfl, rfl⟩ := hv
      exact ⟨cur.toList, by simpa using hg, by simpa using hs⟩
  have hb1 : Below w.heap.size w w1 := (Below.refl _ _).grown hgrow1 (Nat.le_refl _) (fun j hj => by simp at hj)
  clear hown1 hgrow1
  go_loopw [4] (fun i wr => ∃ (k : Nat) (cur : List Value), k ≤ l.length ∧ i = .int .i64 k ∧ cur.length = l.length ∧ wr.heap[w.heap.size]? = some (.cells cur.toArray 9 (0, 0)) ∧ Hid (cur.take k = strsV (l.take k)) ∧ Below w.heap.size w wr) (fun i _ => l.length - (intOf i).toNat)
  case atStart => exact ⟨0, cur0, Nat.zero_le _, rfl, hl0, hg0, by show _ = _; simp [strsV], hb1⟩
  case round =>
    obtain ⟨k, cur, hk, rfl, hlen, hg, HC, hb⟩ := hrel
    clear hb1 hg0 hl0
    have hlt0 : w.heap.size < wr.heap.size := (Array.getElem?_eq_some_iff.1 hg).1
    by_cases hlt : k < l.length
    · obtain ⟨b, off, x, rfl, hbB, hv, hx, d0⟩ := (HR.out.kept (hb.mono hB)).at k hlt
      obtain ⟨HC2, hlen2⟩ := strs_step cur l k hlt hlen HC.out x hv
      have HC3 : Hid ((cur.set k (.string x)).take (k + 1) = strsV (l.take (k + 1))) := HC2
      clear hv HC HC2
      obtain ⟨x0, hx0⟩ : ∃ v, cur[k]? = some v := ⟨_, List.getElem?_eq_getElem (by omega)⟩
      have e0 : wr.cell? ⟨w.heap.size, k, none⟩ = some x0 := by rw [cell_of_row _ _ _ _ _ _ hg, List.getElem?_toArray, hx0]
      have ef : ∀ j, wr.frozen? ⟨w.heap.size, j, none⟩ = false := fun j => frozen_of_row _ _ _ _ _ hg
      have HG : Hid (wr.heap[w.heap.size]? = some (.cells cur.toArray 9 (0, 0))) := hg
      clear hx0 hg
      go_wp2
      go_roundw
      case rel => exact ⟨k + 1, _, by omega, by go_num, hlen2, (by rw [heap_setCell_same _ _ _ _ _ _ HG.out]; simp), HC3, hb.setCell (Nat.le_refl _) _⟩
      case measure => simp [intOf]; omega
    · obtain rfl : k = l.length := by omega
      have HF : Hid (OwnS w.heap.size (.slice (some ⟨w.heap.size, 0, none⟩) l.length l.length) l wr) := ⟨by simp [strsV], .inr ⟨w.heap.size, l.length, cur.toArray, rfl, Nat.le_refl _, hg, Nat.le_refl _, (by unfold maxLen; omega), (by simpa using hlen), (by have := HC.out; rw [List.take_length] at this; simpa using this)⟩⟩
      go_wp2
      go_ret
      exact ⟨_, rfl, HF.out, hb⟩
theorem toWrite_any (n : Int) (t : ByteArray) (w : World) :
    Calls Try.prog 62 #[.agg #[.int .i64 n, .string t]] w fun e w' => e = .returned (.agg #[.int .i64 n, .string t]) ∧ Below w.heap.size w w' := by
  go_enter Try.func62, Try.ntmps62
  go_wp2
  refine bodyPost_ret (v := .agg #[.int .i64 n, .string t]) (by simp [results, Try.results62, go_sem]) rfl ⟨rfl, ?_⟩
  exact (((Below.refl _ _).alloc (Nat.le_refl _) _).alloc (by simp) _).alloc (by simp; omega) _
theorem set2w_heap {W : World} {g m : Nat} {cur : List Value} {t : TypeId} {x y : Value} (h : W.heap[g]? = some (.cells cur.toArray t (0, 0))) :
    ((W.setCell ⟨g, m, none⟩ x).setCell ⟨g, m + 1, none⟩ y).heap[g]? = some (.cells ((cur.set m x).set (m + 1) y).toArray t (0, 0)) := setL_heap (setL_heap h)
set_option maxHeartbeats 1000000 in
theorem toWriteS_own (A B : Nat) (ao : Option Addr) (cap : Nat) (l : List Wr) (w : World) (hB : B ≤ w.heap.size) (hl : l.length ≤ 1048576) (hr : WrRow w A B ao l) :
    Calls Try.prog 43 #[.slice ao l.length cap] w fun e w' => ∃ v, e = .returned v ∧ OwnW w.heap.size v l w' ∧ Below w.heap.size w w' := by
  obtain ⟨i0, hi, hz0, hz1, hz2⟩ := info_parts Try.infoWr
  have HR := hide hr
  clear hr
  go_enter Try.func43, Try.ntmps43
  go_wp2_with (at_make; refine wpList_make_full _ rfl _ _ 23 rfl w.heap.size 64 i0 (.agg #[.int .i64 0, .string ⟨#[]⟩]) 2 Try.underlying23 hi hz0 hz1 .i64 .i64 _ _ l.length rfl rfl rfl rfl (by rw [hz2]; omega) (by unfold maxLen; omega) (Nat.le_refl _) ?_; intro w1 hown1 hgrow1)
  obtain ⟨cur0, hg0, hl0⟩ : ∃ cur : List Value, w1.heap[w.heap.size]? = some (.cells cur.toArray 64 (0, 0)) ∧ cur.length = l.length * 2 := by
    rcases hown1.2 with ⟨h, _⟩ | ⟨g, cap', cur, hv, _, hg, _, _, hs, _⟩
    · simp at h
    · simp at hv
      obtain ⟨rfl, rfl⟩ := hv
      exact ⟨cur.toList, by simpa using hg, by simpa using hs⟩
  have hb1 : Below w.heap.size w w1 := (Below.refl _ _).grown hgrow1 (Nat.le_refl _) (fun j hj => by simp at hj)
  clear hown1 hgrow1
  go_loopw [4] (fun i wr => ∃ (k : Nat) (cur : List Value), k ≤ l.length ∧ i = .int .i64 k ∧ cur.length = l.length * 2 ∧ wr.heap[w.heap.size]? = some (.cells cur.toArray 64 (0, 0)) ∧ Hid (cur.take (k * 2) = flatW (l.take k)) ∧ Below w.heap.size w wr) (fun i _ => l.length - (intOf i).toNat)
  case atStart => exact ⟨0, cur0, Nat.zero_le _, rfl, hl0, hg0, by show _ = _; simp [flatW], hb1⟩
  case round =>
    obtain ⟨k, cur, hk, rfl, hlen, hg, HC, hb⟩ := hrel
    clear hb1 hg0 hl0
    have hlt0 : w.heap.size < wr.heap.size := (Array.getElem?_eq_some_iff.1 hg).1
    by_cases hlt : k < l.length
    · obtain ⟨b, off, nn, tt, rfl, hbB, hv, htt, hki, d0, d1⟩ := (HR.out.kept (hb.mono hB)).at k hlt
      obtain ⟨HC2, hlen2⟩ := flatW_step cur l k hlt hlen HC.out nn tt hv
      have HC3 : Hid (((cur.set (k * 2) (.int .i64 nn)).set (k * 2 + 1) (.string tt)).take ((k + 1) * 2) = flatW (l.take (k + 1))) := HC2
      clear hv HC HC2 hki
      go_wp2_with fail
      refine (toWrite_any nn tt _).mono ?_
      rintro e w2 ⟨rfl, hb2⟩
      have hg2 : w2.heap[w.heap.size]? = some (.cells cur.toArray 64 (0, 0)) := (hb2.block _ hlt0).trans hg
      have hb3 := hb.trans (hb2.mono hb.size)
      obtain ⟨x0, hx0⟩ : ∃ v, cur[k * 2]? = some v := ⟨_, List.getElem?_eq_getElem (by omega)⟩
      obtain ⟨x1, hx1⟩ : ∃ v, cur[k * 2 + 1]? = some v := ⟨_, List.getElem?_eq_getElem (by omega)⟩
      have e0 : w2.cell? ⟨w.heap.size, k * 2, none⟩ = some x0 := by rw [cell_of_row _ _ _ _ _ _ hg2, List.getElem?_toArray, hx0]
      have e1 : w2.cell? ⟨w.heap.size, k * 2 + 1, none⟩ = some x1 := by rw [cell_of_row _ _ _ _ _ _ hg2, List.getElem?_toArray, hx1]
      have ef : ∀ j, w2.frozen? ⟨w.heap.size, j, none⟩ = false := fun j => frozen_of_row _ _ _ _ _ hg2
      have HG : Hid (w2.heap[w.heap.size]? = some (.cells cur.toArray 64 (0, 0))) := hg2
      clear hx0 hx1 hg2 hg d0 d1 hb hb2
      go_wp2
      go_roundw
      case rel => exact ⟨k + 1, _, by omega, by go_num, hlen2, set2w_heap HG.out, HC3, (hb3.setCell (Nat.le_refl _) _).setCell (Nat.le_refl _) _⟩
      case measure => simp [intOf]; omega
    · obtain rfl : k = l.length := by omega
      have HF : Hid (OwnW w.heap.size (.slice (some ⟨w.heap.size, 0, none⟩) l.length l.length) l wr) := ⟨(by rw [flatW_len]), .inr ⟨w.heap.size, l.length, cur.toArray, rfl, Nat.le_refl _, hg, Nat.le_refl _, (by unfold maxLen; omega), (by simpa using hlen), (by have := HC.out; rw [List.take_length] at this; simpa using this)⟩⟩
      go_wp2
      go_ret
      exact ⟨_, rfl, HF.out, hb⟩
end Go.Proofs.Ytmladjahkhhpkaa
