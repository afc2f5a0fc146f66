/-
  Contract: DiskRead of the program.
-/
import Derived.Test.YtmladjahkhhpkaaDkRdP
import Derived.Test.YtmladjahkhhpkaaDkWrI
import Derived.Laws.MakeOwn
namespace Go.Proofs.Ytmladjahkhhpkaa
open Go.RowKit
set_option maxRecDepth 100000

set_option maxHeartbeats 8000000 in
theorem implDiskRead_any (b : Nat) (s c : Value) (d : Dk) (a m : Int) (w : World) (hi : dkIn d) (hf : dkFits d) (ha : wI64 a) (hm : wI64 m) (h : OwnD b s c d w) :
    Calls Try.prog 24 #[.agg #[s, c], .int .i64 a, .int .i64 m] w fun e w' => ∃ s' c', e = .returned (.agg #[s', c', .string (dkRead d a m).2, .int .i64 (dkRead d a m).1.2]) ∧ OwnD w.heap.size s' c' (dkRead d a m).1.1 w' ∧ Below w.heap.size w w' := by
  obtain ⟨so, p, co, q, rfl, rfl, hr⟩ := h.row hi
  obtain ⟨n1, hn1⟩ : ∃ n, n = d.secs.length := ⟨_, rfl⟩
  obtain ⟨n2, hn2⟩ : ∃ n, n = d.cache.length := ⟨_, rfl⟩
  have hn1' : n1 ≤ 1048576 := by rw [hn1]; exact hf.1
  obtain ⟨ha0, ha1⟩ := ha
  obtain ⟨hm0, hm1⟩ := hm
  have HA := two_allocs w (.cells #[.slice so n1 p, .slice co n2 q] 25) (.cells #[.slice none 0 0, .slice none 0 0, .string ⟨#[]⟩, .int .i64 0] 38)
  have B0 := hide (((Below.refl w.heap.size w).alloc (Nat.le_refl _) (.cells #[.slice so n1 p, .slice co n2 q] 25)).alloc (by simp) (.cells #[.slice none 0 0, .slice none 0 0, .string ⟨#[]⟩, .int .i64 0] 38))
  have X0 := hide HA.1
  have Y0 := hide HA.2.1
  have HSP := hide (fun (W : World) (hb : Below w.heap.size w W) => implDiskRight_any _ _ so p co q d W hb.size (hr.kept hb))
  rw [← hn1, ← hn2] at h HSP ⊢
  obtain ⟨x0, x1, xf⟩ := cells2 X0.out
  clear HA
  cases hdr : dkRight d with
  | false =>
    rw [dkRead_1 hdr]
    rw [hdr] at HSP
    clear hi hf h hr hdr hn1 hn2 ha0 ha1 hm0 hm1
    go_enter Try.func24, Try.ntmps24
    go_wp2_with (go_at_call 17; refine (HSP.out _ B0.out).mono ?_; rintro e w1 ⟨rfl, b1⟩; have Y1 := hide ((b1.block (w.heap.size + 1) (by simp)).trans Y0.out); have B1 := hide (B0.out.trans (b1.mono B0.out.size)); obtain ⟨y0, y1, y2, y3, yf⟩ := cells4 Y1.out; clear b1)
    refine bodyPost_ret (v := .agg #[.slice none 0 0, .slice none 0 0, .string ⟨#[]⟩, .int .i64 1]) (resOut Try.results24 _ _ (w.heap.size + 1) _ _ _ _ rfl (set4w Y1.out)) rfl ⟨_, _, rfl, ownD_emp _ _, ?_⟩
    exact (((B1.out.setCell (by simp) _).setCell (by simp) _).setCell (by simp) _).setCell (by simp) _
  | true =>
    rw [hdr] at HSP
    have hbd := (dkRight_bounds hdr).1
    rw [← hn1] at hbd
    by_cases h9 : rdFar d a m
    · rw [dkRead_9 hdr h9]
      unfold rdFar at h9
      rw [← hn1] at h9
      clear hi hf h hr hdr hn1 hn2
      by_cases c1 : m < 0
      · skip
        go_enter Try.func24, Try.ntmps24
        go_wp2_with (first | (go_at_call 17; refine (HSP.out _ B0.out).mono ?_; rintro e w1 ⟨rfl, b1⟩; have Y1 := hide ((b1.block (w.heap.size + 1) (by simp)).trans Y0.out); have X1 := hide ((b1.block w.heap.size (by simp; omega)).trans X0.out); have B1 := hide (B0.out.trans (b1.mono B0.out.size)); clear x0 x1 xf; obtain ⟨x0, x1, xf⟩ := cells2 X1.out; obtain ⟨y0, y1, y2, y3, yf⟩ := cells4 Y1.out; clear b1))
        refine bodyPost_ret (v := .agg #[.slice none 0 0, .slice none 0 0, .string ⟨#[]⟩, .int .i64 9]) (resOut Try.results24 _ _ (w.heap.size + 1) _ _ _ _ rfl (set4w Y1.out)) rfl ⟨_, _, rfl, ownD_emp _ _, ?_⟩
        exact (((B1.out.setCell (by simp) _).setCell (by simp) _).setCell (by simp) _).setCell (by simp) _
      · by_cases c2 : 300 < m
        · skip
          go_enter Try.func24, Try.ntmps24
          go_wp2_with (first | (go_at_call 17; refine (HSP.out _ B0.out).mono ?_; rintro e w1 ⟨rfl, b1⟩; have Y1 := hide ((b1.block (w.heap.size + 1) (by simp)).trans Y0.out); have X1 := hide ((b1.block w.heap.size (by simp; omega)).trans X0.out); have B1 := hide (B0.out.trans (b1.mono B0.out.size)); clear x0 x1 xf; obtain ⟨x0, x1, xf⟩ := cells2 X1.out; obtain ⟨y0, y1, y2, y3, yf⟩ := cells4 Y1.out; clear b1))
          refine bodyPost_ret (v := .agg #[.slice none 0 0, .slice none 0 0, .string ⟨#[]⟩, .int .i64 9]) (resOut Try.results24 _ _ (w.heap.size + 1) _ _ _ _ rfl (set4w Y1.out)) rfl ⟨_, _, rfl, ownD_emp _ _, ?_⟩
          exact (((B1.out.setCell (by simp) _).setCell (by simp) _).setCell (by simp) _).setCell (by simp) _
        · have HAT := hide (fun W => areThere_any so p n1 co q n2 a m hbd (by omega) (by omega) W)
          have hab : (decide (0 ≤ a) && decide (a ≤ (n1 : Int) - m)) = false := by rcases h9 with h | h | h | h <;> simp <;> intros <;> omega
          rw [hab] at HAT
          clear h9 hab
          go_enter Try.func24, Try.ntmps24
          go_wp2_with (first | (go_at_call 17; refine (HSP.out _ B0.out).mono ?_; rintro e w1 ⟨rfl, b1⟩; have Y1 := hide ((b1.block (w.heap.size + 1) (by simp)).trans Y0.out); have X1 := hide ((b1.block w.heap.size (by simp; omega)).trans X0.out); have B1 := hide (B0.out.trans (b1.mono B0.out.size)); clear x0 x1 xf; obtain ⟨x0, x1, xf⟩ := cells2 X1.out; clear b1) | (go_at_call 48; refine (HAT.out _).mono ?_; rintro e w2 ⟨rfl, b2⟩; have Y2 := hide ((b2.block (w.heap.size + 1) (Array.getElem?_eq_some_iff.1 Y1.out).1).trans Y1.out); have X2 := hide ((b2.block w.heap.size (blk_lt' X1.out)).trans X1.out); have B2 := hide (B1.out.trans (b2.mono B1.out.size)); clear x0 x1 xf; obtain ⟨x0, x1, xf⟩ := cells2 X2.out; obtain ⟨y0, y1, y2, y3, yf⟩ := cells4 Y2.out; clear b2))
          refine bodyPost_ret (v := .agg #[.slice none 0 0, .slice none 0 0, .string ⟨#[]⟩, .int .i64 9]) (resOut Try.results24 _ _ (w.heap.size + 1) _ _ _ _ rfl (set4w Y2.out)) rfl ⟨_, _, rfl, ownD_emp _ _, ?_⟩
          exact (((B2.out.setCell (by simp) _).setCell (by simp) _).setCell (by simp) _).setCell (by simp) _
    · rw [dkRead_0 hdr h9]
      unfold rdFar at h9
      rw [← hn1] at h9
      obtain ⟨i0, hj, hz0, hz1, hz2⟩ := info_parts Try.infoU8
      obtain ⟨a, rfl⟩ : ∃ a' : Nat, a = (a' : Int) := ⟨a.toNat, by omega⟩
      obtain ⟨m, rfl⟩ : ∃ m' : Nat, m = (m' : Int) := ⟨m.toNat, by omega⟩
      rw [show ((a : Int)).toNat = a from by omega, show ((m : Int)).toNat = m from by omega]
      have hbd2 := (dkRight_bounds hdr).2
      have hml : m ≤ 300 := by omega
      have HAT := hide (fun W => areThere_any so p n1 co q n2 a m hbd (by omega) (by omega) W)
      have hab : (decide (0 ≤ (a : Int)) && decide ((a : Int) ≤ (n1 : Int) - m)) = true := by simp; omega
      rw [hab] at HAT
      have hal : a + m ≤ n1 := by omega
      have HD := hide (fun (W : World) (hb : Below w.heap.size w W) => driveOf_any _ _ so p co q d W hb.size (by omega) (hr.kept hb))
      have HH := hide (fun (bm n k : Nat) (W : World) (hk : k < n1) (hb : Below w.heap.size w W) (hM : W.ownsMap Try.prog 2 secR bm n (cacheD d.cache)) => has_any _ _ so p bm n d k W hb.size (by rw [← hn1]; exact hk) hdr (by rw [← hn1]; exact hbd) (hr.2.1.kept hb) hM)
      have hlenF : (flushL d.secs d.cache).length = n1 := by rw [flushL_len, hn1]
      have H64 : Hid (∀ i, i < n1 → ((flushL d.secs d.cache).getD i ByteArray.empty).data.toList.length = 64) := by rw [← hlenF]; exact flush64 hdr
      have HTL := hide (fun k (hk : a + k ≤ n1) => secsT_len (flush64 hdr) a k (by rw [hlenF]; exact hk))
      have HN := hide (fun k => show secsT (flushL d.secs d.cache) a (k + 1) = secsT (flushL d.secs d.cache) a k ++ ((flushL d.secs d.cache).getD (a + k) ByteArray.empty).data.toList from rfl)
      have H0 : Hid (secsT (flushL d.secs d.cache) a 0 = []) := rfl
      rw [← hn1, ← hn2] at HD
      rw [← hn1] at HH
      have hmul : IntKind.i64.wrap ((m : Int) * 64) = (m : Int) * 64 := by rw [IntKind.wrap_i64]; omega
      have hmk : ∀ W : World, (Instr.makeSlice 52 (.int .i64 0) (.int .i64 ((m : Int) * 64))).run Try.prog W = .ok (.slice (some ⟨W.heap.size, 0, none⟩) 0 (m * 64)) (W.alloc (.cells (madeCells #[.int .u8 0] (m * 64)) 5)) := fun W => by
        have h := run_makeSlice (P := Try.prog) (w := W) 52 5 i0 (.int .u8 0) Try.underlying52 hj hz0 .i64 .i64 0 ((m * 64 : Nat) : Int) (by omega) (by omega) (by rw [hz1]; simp; omega) (by rw [hz2]; omega) (by omega)
        rw [hz1, Int.toNat_natCast, Nat.mul_one] at h
        rw [show (m : Int) * 64 = ((m * 64 : Nat) : Int) from by omega]
        exact h
      have c1 : ¬ (m : Int) < 0 := by omega
      have c2 : ¬ 300 < (m : Int) := by omega
      generalize cacheD d.cache = CD at *
      generalize secsT (flushL d.secs d.cache) a = ST at *
      generalize flushL d.secs d.cache = fl at *
      clear hi hf h hr hdr hn1 hn2 h9 hab hlenF hbd2
      go_enter Try.func24, Try.ntmps24
      go_wp2_with (first | (go_at_call 17; refine (HSP.out _ B0.out).mono ?_; rintro e w1 ⟨rfl, b1⟩; have Y1 := hide ((b1.block (w.heap.size + 1) (by simp)).trans Y0.out); have X1 := hide ((b1.block w.heap.size (by simp; omega)).trans X0.out); have B1 := hide (B0.out.trans (b1.mono B0.out.size)); clear x0 x1 xf; obtain ⟨x0, x1, xf⟩ := cells2 X1.out; clear b1) | (go_at_call 48; refine (HAT.out _).mono ?_; rintro e w2 ⟨rfl, b2⟩; have Y2 := hide ((b2.block (w.heap.size + 1) (Array.getElem?_eq_some_iff.1 Y1.out).1).trans Y1.out); have X2 := hide ((b2.block w.heap.size (blk_lt' X1.out)).trans X1.out); have B2 := hide (B1.out.trans (b2.mono B1.out.size)); clear x0 x1 xf; obtain ⟨x0, x1, xf⟩ := cells2 X2.out; clear b2) | (go_at_call 52; refine (HD.out _ B2.out).mono ?_; rintro e w3 ⟨bm, rfl, M3, hbm, b3⟩; have Y3 := hide ((b3.block (w.heap.size + 1) (blk_lt' Y2.out)).trans Y2.out); have B3 := hide (B2.out.trans (b3.mono B2.out.size)); have M3' := hide M3; clear M3 b3 hbm x0 x1 xf))
      have BA := (Below.refl w3.heap.size w3).alloc (Nat.le_refl _) (.cells #[.slice so n1 p, .map (some bm)] 75)
      have V4 := hide (heap_alloc_new w3 (.cells #[.slice so n1 p, .map (some bm)] 75))
      have Y4 := hide ((BA.block _ (blk_lt' Y3.out)).trans Y3.out)
      have M4 := hide (ownsMap_below M3'.out BA)
      have B4 := hide (B3.out.trans (BA.mono B3.out.size))
      have Z4 : Hid ((w3.alloc (.cells #[.slice so n1 p, .map (some bm)] 75)).heap.size = w3.heap.size + 1) := by show _ = _; simp
      clear BA Y3 M3' B3 X0 Y0 B0 X1 Y1 B1 X2 Y2 B2
      generalize w3.alloc (.cells #[.slice so n1 p, .map (some bm)] 75) = w4 at *
      have E5 : w3.heap.size + 1 = w4.heap.size := Z4.out.symm
      have O5 : Hid (OwnB w4.heap.size (.slice (some ⟨w3.heap.size + 1, 0, none⟩) 0 (m * 64)) (ST 0) (w4.alloc (.cells (madeCells #[.int .u8 0] (m * 64)) 5))) := by
        rw [H0.out, E5]
        exact World.ownsRow_made w4 _ (m * 64) (Nat.le_refl _) (by unfold maxLen; omega) (by simpa using size_madeCells #[.int .u8 0] (m * 64))
      have B5 := hide ((Below.refl w4.heap.size w4).alloc (Nat.le_refl _) (.cells (madeCells #[.int .u8 0] (m * 64)) 5))
      clear E5 Z4 H0
      go_loopw [8, 34] (fun l i wr => ∃ (k : Nat) (v : Value), k ≤ m ∧ i = .int .i64 (k : Int) ∧ l = v ∧ Hid (OwnB w4.heap.size v (ST k) wr) ∧ Hid (Below w4.heap.size w4 wr)) (fun _ i _ => m - (intOf i).toNat)
      case atStart => exact ⟨0, _, Nat.zero_le _, rfl, rfl, O5, B5⟩
      case round =>
        obtain ⟨k, v, hk, rfl, rfl, HO, HB⟩ := hrel
        clear O5 B5
        obtain ⟨ao', cap', hv⟩ := ownB_shape HO.out
        rw [HTL.out k (by omega)] at hv
        subst hv
        by_cases hlt : k < m
        · obtain ⟨v0, v1, vf⟩ := cells2 ((HB.out.block _ (blk_lt' V4.out)).trans V4.out)
          have hc := HH.out bm _ (a + k) wr (by omega) (B4.out.trans (HB.out.mono B4.out.size)) (ownsMap_below M4.out HB.out)
          rw [Int.natCast_add] at hc
          have HC := hide hc
          clear hc
          have HX := H64.out (a + k) (by omega)
          have HT := hide (HN.out k)
          generalize (fl.getD (a + k) ByteArray.empty).data.toList = L at *
          have HST := hide (fun W => sectorText_any L HX W)
          have hsz : (mkS L).size = 64 := HX
          have HTK := HTL.out k (by omega)
          have HS63 : Hid ((ST k).length + (mkS L).size ≤ maxLen ∧ (ST k).length + (mkS L).size ≤ 140737488355328) := by rw [HTK, hsz]; show _ ∧ _; unfold maxLen; omega
          have hwr : IntKind.i64.wrap ((a : Int) + (k : Int)) = (a : Int) + (k : Int) := by rw [IntKind.wrap_i64]; omega
          clear HX hsz HTK
          go_wp2_with (first | (go_at_call 53; refine HC.out.mono ?_; rintro e w5 ⟨rfl, b5⟩; have O6 := hide (HO.out.below b5); have B6 := hide (HB.out.trans (b5.mono HB.out.size)); clear b5) | (go_at_call 33; refine (HST.out _).mono ?_; rintro e w6 ⟨rfl, b6⟩; have O7 := hide (O6.out.below b6); have B7 := hide (B6.out.trans (b6.mono B6.out.size)); have HW : Hid (w6.ownsRow w4.heap.size 5 1 (.slice ao' (k * 64) cap') (ST k).length ((numsU (ST k)).map (Value.int .u8))) := O7; clear b6) | (at_builtin; refine Lib.wpList_append_own_string _ rfl _ _ 52 9 rfl w4.heap.size 5 i0 Try.underlying52 Try.underlying9 hj hz0 hz1 hz2 (.slice ao' (k * 64) cap') (ST k).length _ rfl HW.out (mkS L) rfl HS63.out.1 HS63.out.2 B7.out.size ?_; intro v5 w7 o5 g5 l5; have O8 := hide (ownB_str (mkS L) o5); have B8 := hide (B7.out.grown g5 B7.out.size (fun b hb => (World.ownsRow.lt HW.out b hb).1)); clear o5 g5 l5))
          have O9 : Hid (OwnB w4.heap.size v5 (ST (k + 1)) w7) := by rw [HT.out]; exact O8.out
          go_roundw
          case rel => exact ⟨k + 1, _, by omega, by go_num, rfl, O9, B8⟩
          case measure => simp [intOf]; omega
        · obtain rfl : k = m := by omega
          have hconv := OwnB.conv HO.out
          obtain ⟨y0, y1, y2, y3, yf⟩ := cells4 ((HB.out.block _ (blk_lt' Y4.out)).trans Y4.out)
          go_wp2
          refine bodyPost_ret (v := .agg #[.slice none 0 0, .slice none 0 0, .string (mkS (ST k)), .int .i64 0]) (resOut Try.results24 _ _ (w.heap.size + 1) _ _ _ _ rfl (set4w ((HB.out.block _ (blk_lt' Y4.out)).trans Y4.out))) rfl ⟨_, _, rfl, ownD_emp _ _, ?_⟩
          exact ((((B4.out.trans (HB.out.mono B4.out.size)).setCell (by simp) _).setCell (by simp) _).setCell (by simp) _).setCell (by simp) _
end Go.Proofs.Ytmladjahkhhpkaa
