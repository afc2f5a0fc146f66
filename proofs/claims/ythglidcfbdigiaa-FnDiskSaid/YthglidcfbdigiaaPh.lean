/-
  Contracts and plain laws, part 8 of 9: DkRd, DkRdI, DkRdS, StrRead, DkBl, DkLwAt
-/
import Derived.Laws.MakeOwn
import Derived.Test.YthglidcfbdigiaaRows
import Derived.WalkKit
import Derived.ProofKit
import Derived.Deep.Slices
import Derived.Deep.Strs
import Derived.OpenShut
import Derived.ChangeSame
import Derived.Test.YthglidcfbdigiaaPg

/-
  Contract: what so many sectors of a drive have.
-/
namespace Go.Proofs.Ythglidcfbdigiaa
open Go.RowKit
set_option maxRecDepth 100000

set_option maxHeartbeats 4000000 in
theorem drvRead_any (A B : Nat) (so : Option Addr) (p bm n : Nat) (d : Dk) (a m : Nat) (w : World) (hB : B ≤ w.heap.size) (hdr : dkRight d = true) (hbd : d.secs.length ≤ 700) (ham : a + m ≤ d.secs.length) (hS : StrRow w A B so d.secs) (hM : w.ownsMap Try.prog 2 secR bm n (cacheD d.cache)) :
    Calls Try.prog 47 #[.agg #[.slice so d.secs.length p, .map (some bm)], .int .i64 (a : Int), .int .i64 (m : Int)] w fun e w' => e = .returned (.string (mkS (secsT (flushL d.secs d.cache) a m))) ∧ Below w.heap.size w w' := by
  obtain ⟨i0, hj, hz0, hz1, hz2⟩ := info_parts Try.infoU8
  obtain ⟨n1, hn1⟩ : ∃ n, n = d.secs.length := ⟨_, rfl⟩
  have HH := hide (fun (k : Nat) (W : World) (hk : k < n1) (hb : Below w.heap.size w W) => has_any A B so p bm n d k W (Nat.le_trans hB hb.size) (by rw [← hn1]; exact hk) hdr hbd (hS.kept (hb.mono hB)) (ownsMap_below hM hb))
  have hlenF : (flushL d.secs d.cache).length = n1 := by rw [flushL_len, hn1]
  have H64 : Hid (∀ i, i < n1 → ((flushL d.secs d.cache).getD i ByteArray.empty).data.toList.length = 64) := by rw [← hlenF]; exact flush64 hdr
  have HTL := hide (fun k (hk : a + k ≤ n1) => secsT_len (flush64 hdr) a k (by rw [hlenF]; exact hk))
  have HN := hide (fun k => show secsT (flushL d.secs d.cache) a (k + 1) = secsT (flushL d.secs d.cache) a k ++ ((flushL d.secs d.cache).getD (a + k) ByteArray.empty).data.toList from rfl)
  have H0 : Hid (secsT (flushL d.secs d.cache) a 0 = []) := rfl
  rw [← hn1] at HH ham hbd ⊢
  have hml : m ≤ 700 := by omega
  have hmul : IntKind.i64.wrap ((m : Int) * 64) = (m : Int) * 64 := by rw [IntKind.wrap_i64]; omega
  have hmk : ∀ W : World, (Instr.makeSlice 22 (.int .i64 0) (.int .i64 ((m : Int) * 64))).run Try.prog W = .ok (.slice (some ⟨W.heap.size, 0, none⟩) 0 (m * 64)) (W.alloc (.cells (madeCells #[.int .u8 0] (m * 64)) 5)) := fun W => by
    have h := run_makeSlice (P := Try.prog) (w := W) 22 5 i0 (.int .u8 0) Try.underlying22 hj hz0 .i64 .i64 0 ((m * 64 : Nat) : Int) (by omega) (by omega) (by rw [hz1]; simp; omega) (by rw [hz2]; omega) (by omega)
    rw [hz1, Int.toNat_natCast, Nat.mul_one] at h
    rw [show (m : Int) * 64 = ((m * 64 : Nat) : Int) from by omega]
    exact h
  generalize secsT (flushL d.secs d.cache) a = ST at *
  generalize flushL d.secs d.cache = fl at *
  have B4 := hide ((Below.refl w.heap.size w).alloc (Nat.le_refl _) (.cells #[.slice so n1 p, .map (some bm)] 69))
  have V4 := hide (heap_alloc_new w (.cells #[.slice so n1 p, .map (some bm)] 69))
  have Z4 : Hid ((w.alloc (.cells #[.slice so n1 p, .map (some bm)] 69)).heap.size = w.heap.size + 1) := by show _ = _; simp
  clear hn1 hS hM hdr hlenF hB
  go_enter Try.func47, Try.ntmps47
  go_wp2
  generalize w.alloc (.cells #[.slice so n1 p, .map (some bm)] 69) = w4 at *
  have E5 : w.heap.size + 1 = w4.heap.size := Z4.out.symm
  have O5 : Hid (OwnB w4.heap.size (.slice (some ⟨w.heap.size + 1, 0, none⟩) 0 (m * 64)) (ST 0) (w4.alloc (.cells (madeCells #[.int .u8 0] (m * 64)) 5))) := by
    rw [H0.out, E5]
    exact World.ownsRow_made w4 _ (m * 64) (Nat.le_refl _) (by unfold maxLen; omega) (by simpa using size_madeCells #[.int .u8 0] (m * 64))
  have B5 := hide ((Below.refl w4.heap.size w4).alloc (Nat.le_refl _) (.cells (madeCells #[.int .u8 0] (m * 64)) 5))
  clear E5 Z4 H0
  go_loopw [7, 13] (fun l i wr => ∃ (k : Nat) (v : Value), k ≤ m ∧ i = .int .i64 (k : Int) ∧ l = v ∧ Hid (OwnB w4.heap.size v (ST k) wr) ∧ Hid (Below w4.heap.size w4 wr)) (fun _ i _ => m - (intOf i).toNat)
  case atStart => exact ⟨0, _, Nat.zero_le _, rfl, rfl, O5, B5⟩
  case round =>
    obtain ⟨k, v, hk, rfl, rfl, HO, HB⟩ := hrel
    clear O5 B5
    obtain ⟨ao', cap', hv⟩ := ownB_shape HO.out
    rw [HTL.out k (by omega)] at hv
    subst hv
    by_cases hlt : k < m
    · obtain ⟨v0, v1, vf⟩ := cells2 ((HB.out.block _ (blk_lt' V4.out)).trans V4.out)
      have hc := HH.out (a + k) wr (by omega) (B4.out.trans (HB.out.mono B4.out.size))
      rw [Int.natCast_add] at hc
      have HC := hide hc
      clear hc
      have HX := H64.out (a + k) (by omega)
      have HT := hide (HN.out k)
      generalize (fl.getD (a + k) ByteArray.empty).data.toList = L at *
      have HST := hide (fun W => sectorText_any L HX W)
      have hsz : (mkS L).size = 64 := HX
      have HTK := HTL.out k (by omega)
      have HS63 : Hid ((ST k).length + (mkS L).size ≤ maxLen ∧ (ST k).length + (mkS L).size ≤ 140737488355328) := by rw [HTK, hsz]; show _ ∧ _; unfold maxLen; omega
      have hwr : IntKind.i64.wrap ((a : Int) + (k : Int)) = (a : Int) + (k : Int) := by rw [IntKind.wrap_i64]; omega
      clear HX hsz HTK
      go_wp2_with (first | (go_at_call 48; refine HC.out.mono ?_; rintro e w5 ⟨rfl, b5⟩; have O6 := hide (HO.out.below b5); have B6 := hide (HB.out.trans (b5.mono HB.out.size)); clear b5) | (go_at_call 50; refine (HST.out _).mono ?_; rintro e w6 ⟨rfl, b6⟩; have O7 := hide (O6.out.below b6); have B7 := hide (B6.out.trans (b6.mono B6.out.size)); have HW : Hid (w6.ownsRow w4.heap.size 5 1 (.slice ao' (k * 64) cap') (ST k).length ((numsU (ST k)).map (Value.int .u8))) := O7; clear b6) | (at_builtin; refine Lib.wpList_append_own_string _ rfl _ _ 22 9 rfl w4.heap.size 5 i0 Try.underlying22 Try.underlying9 hj hz0 hz1 hz2 (.slice ao' (k * 64) cap') (ST k).length _ rfl HW.out (mkS L) rfl HS63.out.1 HS63.out.2 B7.out.size ?_; intro v5 w7 o5 g5 l5; have O8 := hide (ownB_str (mkS L) o5); have B8 := hide (B7.out.grown g5 B7.out.size (fun b hb => (World.ownsRow.lt HW.out b hb).1)); clear o5 g5 l5))
      have O9 : Hid (OwnB w4.heap.size v5 (ST (k + 1)) w7) := by rw [HT.out]; exact O8.out
      go_roundw
      case rel => exact ⟨k + 1, _, by omega, by go_num, rfl, O9, B8⟩
      case measure => simp [intOf]; omega
    · obtain rfl : k = m := by omega
      have HCV := hide (OwnB.conv HO.out)
      have hconv := HCV.out
      go_wp2
      go_ret
      exact ⟨rfl, B4.out.trans (HB.out.mono B4.out.size)⟩
end Go.Proofs.Ythglidcfbdigiaa

/-
  Contract: DiskRead of the program.
-/
namespace Go.Proofs.Ythglidcfbdigiaa
open Go.RowKit
set_option maxRecDepth 100000

set_option maxHeartbeats 8000000 in
theorem implDiskRead_any (b : Nat) (s c : Value) (d : Dk) (a m : Int) (w : World) (hi : dkIn d) (hf : dkFits d) (ha : wI64 a) (hm : wI64 m) (h : OwnD b s c d w) :
    Calls Try.prog 12 #[.agg #[s, c], .int .i64 a, .int .i64 m] w fun e w' => ∃ s' c', e = .returned (.agg #[s', c', .string (dkRead d a m).2, .int .i64 (dkRead d a m).1.2]) ∧ OwnD w.heap.size s' c' (dkRead d a m).1.1 w' ∧ Below w.heap.size w w' := by
  obtain ⟨so, p, co, q, rfl, rfl, hr⟩ := h.row hi
  obtain ⟨n1, hn1⟩ : ∃ n, n = d.secs.length := ⟨_, rfl⟩
  obtain ⟨n2, hn2⟩ : ∃ n, n = d.cache.length := ⟨_, rfl⟩
  have hn1' : n1 ≤ 1048576 := by rw [hn1]; exact hf.1
  obtain ⟨ha0, ha1⟩ := ha
  obtain ⟨hm0, hm1⟩ := hm
  have HA := two_allocs w (.cells #[.slice so n1 p, .slice co n2 q] 26) (.cells #[.slice none 0 0, .slice none 0 0, .string ⟨#[]⟩, .int .i64 0] 30)
  have B0 := hide (((Below.refl w.heap.size w).alloc (Nat.le_refl _) (.cells #[.slice so n1 p, .slice co n2 q] 26)).alloc (by simp) (.cells #[.slice none 0 0, .slice none 0 0, .string ⟨#[]⟩, .int .i64 0] 30))
  have X0 := hide HA.1
  have Y0 := hide HA.2.1
  have HSP := hide (fun (W : World) (hb : Below w.heap.size w W) => implDiskRight_any _ _ so p co q d W hb.size (hr.kept hb))
  rw [← hn1, ← hn2] at h HSP ⊢
  obtain ⟨x0, x1, xf⟩ := cells2 X0.out
  clear HA
  cases hdr : dkRight d with
  | false =>
    rw [dkRead_1 hdr]
    rw [hdr] at HSP
    clear hi hf h hr hdr hn1 hn2 ha0 ha1 hm0 hm1
    go_enter Try.func12, Try.ntmps12
    go_wp2_with (go_at_call 14; refine (HSP.out _ B0.out).mono ?_; rintro e w1 ⟨rfl, b1⟩; have Y1 := hide ((b1.block (w.heap.size + 1) (by simp)).trans Y0.out); have B1 := hide (B0.out.trans (b1.mono B0.out.size)); obtain ⟨y0, y1, y2, y3, yf⟩ := cells4 Y1.out; clear b1)
    refine bodyPost_ret (v := .agg #[.slice none 0 0, .slice none 0 0, .string ⟨#[]⟩, .int .i64 1]) (resOut Try.results12 _ _ (w.heap.size + 1) _ _ _ _ rfl (set4w Y1.out)) rfl ⟨_, _, rfl, ownD_emp _ _, ?_⟩
    exact (((B1.out.setCell (by simp) _).setCell (by simp) _).setCell (by simp) _).setCell (by simp) _
  | true =>
    rw [hdr] at HSP
    have hbd := (dkRight_bounds hdr).1
    rw [← hn1] at hbd
    by_cases h9 : rdFar d a m
    · rw [dkRead_9 hdr h9]
      unfold rdFar at h9
      rw [← hn1] at h9
      clear hi hf h hr hdr hn1 hn2
      by_cases c1 : m < 0
      · skip
        go_enter Try.func12, Try.ntmps12
        go_wp2_with (first | (go_at_call 14; refine (HSP.out _ B0.out).mono ?_; rintro e w1 ⟨rfl, b1⟩; have Y1 := hide ((b1.block (w.heap.size + 1) (by simp)).trans Y0.out); have X1 := hide ((b1.block w.heap.size (by simp; omega)).trans X0.out); have B1 := hide (B0.out.trans (b1.mono B0.out.size)); clear x0 x1 xf; obtain ⟨x0, x1, xf⟩ := cells2 X1.out; obtain ⟨y0, y1, y2, y3, yf⟩ := cells4 Y1.out; clear b1))
        refine bodyPost_ret (v := .agg #[.slice none 0 0, .slice none 0 0, .string ⟨#[]⟩, .int .i64 9]) (resOut Try.results12 _ _ (w.heap.size + 1) _ _ _ _ rfl (set4w Y1.out)) rfl ⟨_, _, rfl, ownD_emp _ _, ?_⟩
        exact (((B1.out.setCell (by simp) _).setCell (by simp) _).setCell (by simp) _).setCell (by simp) _
      · by_cases c2 : 300 < m
        · skip
          go_enter Try.func12, Try.ntmps12
          go_wp2_with (first | (go_at_call 14; refine (HSP.out _ B0.out).mono ?_; rintro e w1 ⟨rfl, b1⟩; have Y1 := hide ((b1.block (w.heap.size + 1) (by simp)).trans Y0.out); have X1 := hide ((b1.block w.heap.size (by simp; omega)).trans X0.out); have B1 := hide (B0.out.trans (b1.mono B0.out.size)); clear x0 x1 xf; obtain ⟨x0, x1, xf⟩ := cells2 X1.out; obtain ⟨y0, y1, y2, y3, yf⟩ := cells4 Y1.out; clear b1))
          refine bodyPost_ret (v := .agg #[.slice none 0 0, .slice none 0 0, .string ⟨#[]⟩, .int .i64 9]) (resOut Try.results12 _ _ (w.heap.size + 1) _ _ _ _ rfl (set4w Y1.out)) rfl ⟨_, _, rfl, ownD_emp _ _, ?_⟩
          exact (((B1.out.setCell (by simp) _).setCell (by simp) _).setCell (by simp) _).setCell (by simp) _
        · have HAT := hide (fun W => areThere_any so p n1 co q n2 a m hbd (by omega) (by omega) W)
          have hab : (decide (0 ≤ a) && decide (a ≤ (n1 : Int) - m)) = false := by rcases h9 with h | h | h | h <;> simp <;> intros <;> omega
          rw [hab] at HAT
          clear h9 hab
          go_enter Try.func12, Try.ntmps12
          go_wp2_with (first | (go_at_call 14; refine (HSP.out _ B0.out).mono ?_; rintro e w1 ⟨rfl, b1⟩; have Y1 := hide ((b1.block (w.heap.size + 1) (by simp)).trans Y0.out); have X1 := hide ((b1.block w.heap.size (by simp; omega)).trans X0.out); have B1 := hide (B0.out.trans (b1.mono B0.out.size)); clear x0 x1 xf; obtain ⟨x0, x1, xf⟩ := cells2 X1.out; clear b1) | (go_at_call 41; refine (HAT.out _).mono ?_; rintro e w2 ⟨rfl, b2⟩; have Y2 := hide ((b2.block (w.heap.size + 1) (Array.getElem?_eq_some_iff.1 Y1.out).1).trans Y1.out); have X2 := hide ((b2.block w.heap.size (blk_lt' X1.out)).trans X1.out); have B2 := hide (B1.out.trans (b2.mono B1.out.size)); clear x0 x1 xf; obtain ⟨x0, x1, xf⟩ := cells2 X2.out; obtain ⟨y0, y1, y2, y3, yf⟩ := cells4 Y2.out; clear b2))
          refine bodyPost_ret (v := .agg #[.slice none 0 0, .slice none 0 0, .string ⟨#[]⟩, .int .i64 9]) (resOut Try.results12 _ _ (w.heap.size + 1) _ _ _ _ rfl (set4w Y2.out)) rfl ⟨_, _, rfl, ownD_emp _ _, ?_⟩
          exact (((B2.out.setCell (by simp) _).setCell (by simp) _).setCell (by simp) _).setCell (by simp) _
    · rw [dkRead_0 hdr h9]
      unfold rdFar at h9
      rw [← hn1] at h9
      obtain ⟨a, rfl⟩ : ∃ a' : Nat, a = (a' : Int) := ⟨a.toNat, by omega⟩
      obtain ⟨m, rfl⟩ : ∃ m' : Nat, m = (m' : Int) := ⟨m.toNat, by omega⟩
      rw [show ((a : Int)).toNat = a from by omega, show ((m : Int)).toNat = m from by omega]
      have hbd2 := (dkRight_bounds hdr).2
      have hml : m ≤ 300 := by omega
      have HAT := hide (fun W => areThere_any so p n1 co q n2 a m hbd (by omega) (by omega) W)
      have hab : (decide (0 ≤ (a : Int)) && decide ((a : Int) ≤ (n1 : Int) - m)) = true := by simp; omega
      rw [hab] at HAT
      have hal : a + m ≤ n1 := by omega
      have HD := hide (fun (W : World) (hb : Below w.heap.size w W) => driveOf_any _ _ so p co q d W hb.size (by omega) (hr.kept hb))
      have HH := hide (fun (bm n : Nat) (W : World) (hb : Below w.heap.size w W) (hM : W.ownsMap Try.prog 2 secR bm n (cacheD d.cache)) => drvRead_any _ _ so p bm n d a m W hb.size hdr (by rw [← hn1]; exact hbd) (by rw [← hn1]; omega) (hr.2.1.kept hb) hM)
      rw [← hn1, ← hn2] at HD
      rw [← hn1] at HH
      have c1 : ¬ (m : Int) < 0 := by omega
      have c2 : ¬ 300 < (m : Int) := by omega
      generalize cacheD d.cache = CD at *
      generalize mkS (secsT (flushL d.secs d.cache) a m) = T at *
      clear hi hf h hr hdr hn1 hn2 h9 hab hbd2
      go_enter Try.func12, Try.ntmps12
      go_wp2_with (first | (go_at_call 14; refine (HSP.out _ B0.out).mono ?_; rintro e w1 ⟨rfl, b1⟩; have Y1 := hide ((b1.block (w.heap.size + 1) (by simp)).trans Y0.out); have X1 := hide ((b1.block w.heap.size (by simp; omega)).trans X0.out); have B1 := hide (B0.out.trans (b1.mono B0.out.size)); clear x0 x1 xf; obtain ⟨x0, x1, xf⟩ := cells2 X1.out; clear b1) | (go_at_call 41; refine (HAT.out _).mono ?_; rintro e w2 ⟨rfl, b2⟩; have Y2 := hide ((b2.block (w.heap.size + 1) (Array.getElem?_eq_some_iff.1 Y1.out).1).trans Y1.out); have X2 := hide ((b2.block w.heap.size (blk_lt' X1.out)).trans X1.out); have B2 := hide (B1.out.trans (b2.mono B1.out.size)); clear x0 x1 xf; obtain ⟨x0, x1, xf⟩ := cells2 X2.out; clear b2) | (go_at_call 46; refine (HD.out _ B2.out).mono ?_; rintro e w3 ⟨bm, rfl, M3, hbm, b3⟩; have Y3 := hide ((b3.block (w.heap.size + 1) (blk_lt' Y2.out)).trans Y2.out); have B3 := hide (B2.out.trans (b3.mono B2.out.size)); have M3' := hide M3; clear M3 b3 hbm x0 x1 xf) | (go_at_call 47; refine (HH.out _ _ _ B3.out M3'.out).mono ?_; rintro e w4 ⟨rfl, b4⟩; have Y4 := hide ((b4.block (w.heap.size + 1) (blk_lt' Y3.out)).trans Y3.out); have B4 := hide (B3.out.trans (b4.mono B3.out.size)); obtain ⟨y0, y1, y2, y3, yf⟩ := cells4 Y4.out; clear b4))
      refine bodyPost_ret (v := .agg #[.slice none 0 0, .slice none 0 0, .string T, .int .i64 0]) (resOut Try.results12 _ _ (w.heap.size + 1) _ _ _ _ rfl (set4w Y4.out)) rfl ⟨_, _, rfl, ownD_emp _ _, ?_⟩
      exact (((B4.out.setCell (by simp) _).setCell (by simp) _).setCell (by simp) _).setCell (by simp) _
end Go.Proofs.Ythglidcfbdigiaa

/-
  Contract: DiskRead of the specification.
-/
namespace Go.Proofs.Ythglidcfbdigiaa
open Go.RowKit
set_option maxRecDepth 100000

set_option maxHeartbeats 8000000 in
theorem specDiskRead_any (b : Nat) (s c : Value) (d : Dk) (a m : Int) (w : World) (hi : dkIn d) (hf : dkFits d) (ha : wI64 a) (hm : wI64 m) (h : OwnD b s c d w) :
    Calls Try.prog 17 #[.agg #[s, c], .int .i64 a, .int .i64 m] w fun e w' => ∃ s' c', e = .returned (.agg #[s', c', .string (dkRead d a m).2, .int .i64 (dkRead d a m).1.2]) ∧ OwnD w.heap.size s' c' (dkRead d a m).1.1 w' ∧ Below w.heap.size w w' := by
  obtain ⟨so, p, co, q, rfl, rfl, hr⟩ := h.row hi
  obtain ⟨n1, hn1⟩ : ∃ n, n = d.secs.length := ⟨_, rfl⟩
  obtain ⟨n2, hn2⟩ : ∃ n, n = d.cache.length := ⟨_, rfl⟩
  have hn1' : n1 ≤ 1048576 := by rw [hn1]; exact hf.1
  obtain ⟨ha0, ha1⟩ := ha
  obtain ⟨hm0, hm1⟩ := hm
  have HA := two_allocs w (.cells #[.slice so n1 p, .slice co n2 q] 26) (.cells #[.slice none 0 0, .slice none 0 0, .string ⟨#[]⟩, .int .i64 0] 30)
  have B0 := hide (((Below.refl w.heap.size w).alloc (Nat.le_refl _) (.cells #[.slice so n1 p, .slice co n2 q] 26)).alloc (by simp) (.cells #[.slice none 0 0, .slice none 0 0, .string ⟨#[]⟩, .int .i64 0] 30))
  have X0 := hide HA.1
  have Y0 := hide HA.2.1
  have HSP := hide (fun (W : World) (hb : Below w.heap.size w W) => specDiskRight_any _ _ so p co q d W hb.size (hr.kept hb))
  rw [← hn1, ← hn2] at h HSP ⊢
  obtain ⟨x0, x1, xf⟩ := cells2 X0.out
  clear HA
  cases hdr : dkRight d with
  | false =>
    rw [dkRead_1 hdr]
    rw [hdr] at HSP
    clear hi hf h hr hdr hn1 hn2 ha0 ha1 hm0 hm1
    go_enter Try.func17, Try.ntmps17
    go_wp2_with (go_at_call 44; refine (HSP.out _ B0.out).mono ?_; rintro e w1 ⟨rfl, b1⟩; have Y1 := hide ((b1.block (w.heap.size + 1) (by simp)).trans Y0.out); have B1 := hide (B0.out.trans (b1.mono B0.out.size)); obtain ⟨y0, y1, y2, y3, yf⟩ := cells4 Y1.out; clear b1)
    refine bodyPost_ret (v := .agg #[.slice none 0 0, .slice none 0 0, .string ⟨#[]⟩, .int .i64 1]) (resOut Try.results17 _ _ (w.heap.size + 1) _ _ _ _ rfl (set4w Y1.out)) rfl ⟨_, _, rfl, ownD_emp _ _, ?_⟩
    exact (((B1.out.setCell (by simp) _).setCell (by simp) _).setCell (by simp) _).setCell (by simp) _
  | true =>
    rw [hdr] at HSP
    by_cases h9 : rdFar d a m
    · rw [dkRead_9 hdr h9]
      unfold rdFar at h9
      rw [← hn1] at h9
      clear hi hf h hr hdr hn1 hn2
      by_cases c1 : m < 0
      · go_enter Try.func17, Try.ntmps17
        go_wp2_with (first | (go_at_call 44; refine (HSP.out _ B0.out).mono ?_; rintro e w1 ⟨rfl, b1⟩; have Y1 := hide ((b1.block (w.heap.size + 1) (by simp)).trans Y0.out); have X1 := hide ((b1.block w.heap.size (by simp; omega)).trans X0.out); have B1 := hide (B0.out.trans (b1.mono B0.out.size)); clear x0 x1 xf; obtain ⟨x0, x1, xf⟩ := cells2 X1.out; obtain ⟨y0, y1, y2, y3, yf⟩ := cells4 Y1.out; clear b1))
        refine bodyPost_ret (v := .agg #[.slice none 0 0, .slice none 0 0, .string ⟨#[]⟩, .int .i64 9]) (resOut Try.results17 _ _ (w.heap.size + 1) _ _ _ _ rfl (set4w Y1.out)) rfl ⟨_, _, rfl, ownD_emp _ _, ?_⟩
        exact (((B1.out.setCell (by simp) _).setCell (by simp) _).setCell (by simp) _).setCell (by simp) _
      · by_cases c2 : 300 < m
        · go_enter Try.func17, Try.ntmps17
          go_wp2_with (first | (go_at_call 44; refine (HSP.out _ B0.out).mono ?_; rintro e w1 ⟨rfl, b1⟩; have Y1 := hide ((b1.block (w.heap.size + 1) (by simp)).trans Y0.out); have X1 := hide ((b1.block w.heap.size (by simp; omega)).trans X0.out); have B1 := hide (B0.out.trans (b1.mono B0.out.size)); clear x0 x1 xf; obtain ⟨x0, x1, xf⟩ := cells2 X1.out; obtain ⟨y0, y1, y2, y3, yf⟩ := cells4 Y1.out; clear b1))
          refine bodyPost_ret (v := .agg #[.slice none 0 0, .slice none 0 0, .string ⟨#[]⟩, .int .i64 9]) (resOut Try.results17 _ _ (w.heap.size + 1) _ _ _ _ rfl (set4w Y1.out)) rfl ⟨_, _, rfl, ownD_emp _ _, ?_⟩
          exact (((B1.out.setCell (by simp) _).setCell (by simp) _).setCell (by simp) _).setCell (by simp) _
        · by_cases c3 : a < 0
          · go_enter Try.func17, Try.ntmps17
            go_wp2_with (first | (go_at_call 44; refine (HSP.out _ B0.out).mono ?_; rintro e w1 ⟨rfl, b1⟩; have Y1 := hide ((b1.block (w.heap.size + 1) (by simp)).trans Y0.out); have X1 := hide ((b1.block w.heap.size (by simp; omega)).trans X0.out); have B1 := hide (B0.out.trans (b1.mono B0.out.size)); clear x0 x1 xf; obtain ⟨x0, x1, xf⟩ := cells2 X1.out; obtain ⟨y0, y1, y2, y3, yf⟩ := cells4 Y1.out; clear b1))
            refine bodyPost_ret (v := .agg #[.slice none 0 0, .slice none 0 0, .string ⟨#[]⟩, .int .i64 9]) (resOut Try.results17 _ _ (w.heap.size + 1) _ _ _ _ rfl (set4w Y1.out)) rfl ⟨_, _, rfl, ownD_emp _ _, ?_⟩
            exact (((B1.out.setCell (by simp) _).setCell (by simp) _).setCell (by simp) _).setCell (by simp) _
          · have c4 : (n1 : Int) - m < a := by omega
            clear h9
            go_enter Try.func17, Try.ntmps17
            go_wp2_with (first | (go_at_call 44; refine (HSP.out _ B0.out).mono ?_; rintro e w1 ⟨rfl, b1⟩; have Y1 := hide ((b1.block (w.heap.size + 1) (by simp)).trans Y0.out); have X1 := hide ((b1.block w.heap.size (by simp; omega)).trans X0.out); have B1 := hide (B0.out.trans (b1.mono B0.out.size)); clear x0 x1 xf; obtain ⟨x0, x1, xf⟩ := cells2 X1.out; obtain ⟨y0, y1, y2, y3, yf⟩ := cells4 Y1.out; clear b1))
            refine bodyPost_ret (v := .agg #[.slice none 0 0, .slice none 0 0, .string ⟨#[]⟩, .int .i64 9]) (resOut Try.results17 _ _ (w.heap.size + 1) _ _ _ _ rfl (set4w Y1.out)) rfl ⟨_, _, rfl, ownD_emp _ _, ?_⟩
            exact (((B1.out.setCell (by simp) _).setCell (by simp) _).setCell (by simp) _).setCell (by simp) _
    · rw [dkRead_0 hdr h9]
      unfold rdFar at h9
      rw [← hn1] at h9
      obtain ⟨a', rfl⟩ : ∃ a' : Nat, a = (a' : Int) := ⟨a.toNat, by omega⟩
      obtain ⟨m', rfl⟩ : ∃ m' : Nat, m = (m' : Int) := ⟨m.toNat, by omega⟩
      have hbd := (dkRight_bounds hdr).1
      have HT := hide (fun (W : World) (hb : Below w.heap.size w W) => l07Text_any _ _ _ d a' m' W hdr hf hi (by omega) (by omega) hbd (h.below hb))
      rw [show ((a' : Int)).toNat = a' from by omega, show ((m' : Int)).toNat = m' from by omega]
      generalize mkS (secsT (flushL d.secs d.cache) a' m') = T at *
      have c1 : ¬ (m' : Int) < 0 := by omega
      have c2 : ¬ 300 < (m' : Int) := by omega
      have c3 : ¬ (a' : Int) < 0 := by omega
      have c4 : ¬ (n1 : Int) - m' < a' := by omega
      clear hi hf h hr hdr hn1 hn2 h9 hbd
      go_enter Try.func17, Try.ntmps17
      go_wp2_with (first | (go_at_call 44; refine (HSP.out _ B0.out).mono ?_; rintro e w1 ⟨rfl, b1⟩; have Y1 := hide ((b1.block (w.heap.size + 1) (by simp)).trans Y0.out); have X1 := hide ((b1.block w.heap.size (by simp; omega)).trans X0.out); have B1 := hide (B0.out.trans (b1.mono B0.out.size)); clear x0 x1 xf; obtain ⟨x0, x1, xf⟩ := cells2 X1.out; clear b1) | (go_at_call 53; refine (HT.out _ B1.out).mono ?_; rintro e w2 ⟨rfl, b2⟩; have Y2 := hide ((b2.block (w.heap.size + 1) (Array.getElem?_eq_some_iff.1 Y1.out).1).trans Y1.out); have B2 := hide (B1.out.trans (b2.mono B1.out.size)); obtain ⟨y0, y1, y2, y3, yf⟩ := cells4 Y2.out; clear b2))
      refine bodyPost_ret (v := .agg #[.slice none 0 0, .slice none 0 0, .string T, .int .i64 0]) (resOut Try.results17 _ _ (w.heap.size + 1) _ _ _ _ rfl (set4w Y2.out)) rfl ⟨_, _, rfl, ownD_emp _ _, ?_⟩
      exact (((B2.out.setCell (by simp) _).setCell (by simp) _).setCell (by simp) _).setCell (by simp) _
end Go.Proofs.Ythglidcfbdigiaa

/-
  What came in as an argument: a slice; texts.
-/
namespace Go.Proofs.Ythglidcfbdigiaa
open Go.RowKit Go.ChangeShapes Go.WideShapes
set_option maxRecDepth 100000

section
variable {H : Type} {enc : TypeId × Value → H} {W : World}

theorem addOffT (b off : Nat) (k : Nat) : (⟨b, off, none⟩ : Addr).add k = ⟨b, off + k, none⟩ := by unfold Addr.add; split <;> simp_all
theorem listOfT {α : Type} {n : Nat} {p : Nat → α → Prop} (h : ∀ i, i < n → ∃ x, p i x) : ∃ l : List α, l.length = n ∧ ∀ i (hi : i < l.length), p i l[i] := by
  induction n with
  | zero => exact ⟨[], rfl, fun i hi => by simp at hi⟩
  | succ n ih =>
    obtain ⟨l, hl, hp⟩ := ih (fun i hi => h i (by omega))
    obtain ⟨x, hx⟩ := h n (by omega)
    refine ⟨l ++ [x], by simp [hl], fun i hi => ?_⟩
    by_cases hi' : i < l.length
    · rw [List.getElem_append_left hi']; exact hp i hi'
    · have e : i = n := by simp at hi; omega
      subst e
      rw [List.getElem_append_right (by omega)]
      simpa [hl] using hx
/-- A slice whose elements can each be read as a thing, each by less fuel. -/
theorem readSliceF {α : Type} {t e : TypeId} {n : Nat} (hn : 1 ≤ n) (ht : Try.prog.underlying t = some (.slice e)) (hC : Try.prog.cellsOf e = n) (p : List Value → α → Prop) {base : Nat} {spare : Nat → Bool} {held : Bool}
    {fuel : Nat} {cs : List Value} {y : DataW H × List MemPlace} (he : ∀ m, m < fuel → ∀ cs y, DataW.trod enc Try.prog W base spare held m e cs = some y → ∃ x, p cs x) (h : DataW.trod enc Try.prog W base spare held fuel t cs = some y) :
    ∃ ao cap l, cs = [.slice ao (List.length l) cap] ∧ (l.length ≤ cap ∧ cap ≤ maxLen) ∧ (l.length = 0 ∨ ∃ b off, ao = some ⟨b, off, none⟩ ∧ b < W.heap.size) ∧
      ∀ b off, ao = some ⟨b, off, none⟩ → ∀ i (hi : i < l.length), ∃ cs', p cs' l[i] ∧ cs'.length = n ∧ ∀ j (hj : j < cs'.length), W.cell? ⟨b, off + i * n + j, none⟩ = some cs'[j] := by
  rcases DataW.trod_slice ht h with ⟨hcs, _⟩ | ⟨a, len', cap', elems, rest, m, hfu, hcs, _, _, hl, hm, hel, hx, _, _⟩
  · exact ⟨none, 0, [], by simpa using hcs, ⟨Nat.le_refl _, Nat.zero_le _⟩, .inl rfl, fun b off e => by cases e⟩
  · rw [hC] at hx
    obtain ⟨l, hvl, hvp⟩ := listOfT (n := len') (p := fun i (x : α) => ∃ cs', p cs' x ∧ cs'.length = n ∧ ∀ j (hj : j < cs'.length), W.cell? ((a.add (i * n)).add j) = some cs'[j]) (fun i hi => by
      have key := hx i hi
      rw [List.getElem?_eq_getElem (by omega)] at key
      obtain ⟨cs', h1, h2⟩ := Option.bind_eq_some_iff.1 key
      obtain ⟨x, hp⟩ := he m (by omega) _ _ h2
      obtain ⟨_, hlen, hc⟩ := World.cells?_some h1
      exact ⟨x, cs', hp, hlen, fun j hj => (hc j (by omega)).trans (List.getElem?_eq_getElem hj)⟩)
    subst hvl
    obtain ⟨b, off, spot⟩ := a
    refine ⟨_, cap', l, hcs, ⟨hl, hm⟩, ?_, ?_⟩
    · by_cases h0 : l.length = 0
      · exact .inl h0
      · obtain ⟨cs', _, hlen, hc⟩ := hvp 0 (by omega)
        have h1 := hc 0 (by omega)
        have hspot : spot = none := by simpa [Addr.add] using World.cell?_spot h1
        subst hspot
        simp only [addOffT] at h1
        exact .inr ⟨b, off, rfl, by simpa using block_lt_of_cell h1⟩
    · intro b' off' e i hi
      cases e
      obtain ⟨cs', hp, hlen, hc⟩ := hvp i hi
      exact ⟨cs', hp, hlen, fun j hj => by have := hc j hj; simpa only [addOffT] using this⟩
theorem getD_ofT {α : Type} (l : List α) (d : α) (i : Nat) (h : i < l.length) : l.getD i d = l[i] := by
  rw [List.getD_eq_getElem?_getD, List.getElem?_eq_getElem h]; rfl
theorem readStrs {base : Nat} {spare : Nat → Bool} {held : Bool} {fuel : Nat} {cs : List Value} {y : DataW H × List MemPlace} (h : DataW.trod enc Try.prog W base spare held fuel 23 cs = some y) :
    ∃ ao cap l, cs = [.slice ao (List.length l) cap] ∧ (l.length ≤ cap ∧ cap ≤ maxLen) ∧ StrRow W 0 W.heap.size ao l := by
  obtain ⟨ao, cap, l, rfl, hc, hb, hx⟩ := readSliceF (n := 1) (Nat.le_refl _) Try.underlying23 (by kernel_rfl) (fun cs (x : ByteArray) => cs = [.string x] ∧ x.size ≤ maxLen) (fun m _ cs y h => by
    obtain ⟨a, ea, _, wa⟩ := DataW.trod_string Try.underlying9 h
    exact ⟨a, ea, wa⟩) h
  refine ⟨ao, cap, l, rfl, hc, fun x hx' => ?_, ?_⟩
  · obtain ⟨i, hi, rfl⟩ := List.getElem_of_mem hx'
    rcases hb with h0 | ⟨b, off, e, _⟩
    · omega
    · obtain ⟨_, hp, _⟩ := hx b off e i hi
      exact hp.2
  · rcases hb with h0 | ⟨b, off, e, hlt⟩
    · exact .inl h0
    · refine .inr ⟨b, off, e, Nat.zero_le _, hlt, fun i hi => ?_⟩
      obtain ⟨cs', ⟨rfl, _⟩, _, hcell⟩ := hx b off e i hi
      have := hcell 0 (by simp)
      rw [getD_ofT l _ i hi]; simpa using this
end
end Go.Proofs.Ythglidcfbdigiaa

/-
  Contracts: bools that came in as an argument: taken over, held against each other.
-/
namespace Go.Proofs.Ythglidcfbdigiaa
open Go.RowKit Go.ChangeShapes Go.WideShapes
set_option maxRecDepth 100000

/-- Bools that lie one behind the other, in a block below B. -/
def BlRow (w : World) (B : Nat) (ao : Option Addr) (l : List Bool) : Prop :=
  l.length = 0 ∨ ∃ b off, ao = some ⟨b, off, none⟩ ∧ b < B ∧ ∀ i, i < l.length → w.cell? ⟨b, off + i, none⟩ = some (.bool (l.getD i false))
theorem BlRow.kept {w w' : World} {B : Nat} {ao : Option Addr} {l : List Bool} (h : BlRow w B ao l) (hb : Below B w w') : BlRow w' B ao l := by
  rcases h with h0 | ⟨b, off, e, hB, hc⟩
  · exact .inl h0
  · exact .inr ⟨b, off, e, hB, fun i hi => (hb.cell (p := ⟨b, _, none⟩) hB).trans (hc i hi)⟩
theorem BlRow.at {w : World} {B : Nat} {ao : Option Addr} {l : List Bool} (h : BlRow w B ao l) (k : Nat) (hk : k < l.length) :
    ∃ b off x, ao = some ⟨b, off, none⟩ ∧ b < B ∧ l.getD k false = x ∧ w.cell? ⟨b, off + k, none⟩ = some (.bool x) := by
  rcases h with h0 | ⟨b, off, e, hB, hc⟩
  · omega
  · exact ⟨b, off, _, e, hB, rfl, hc k hk⟩
theorem bools_step (cur : List Value) (l : List Bool) (k : Nat) (hk : k < l.length) (hl : cur.length = l.length) (hc : cur.take k = boolsV (l.take k)) (x : Bool) (hx : l.getD k false = x) :
    (cur.set k (.bool x)).take (k + 1) = boolsV (l.take (k + 1)) ∧ (cur.set k (.bool x)).length = l.length := by
  refine ⟨?_, by simpa using hl⟩
  rw [take_set1 _ _ _ (by omega), hc, List.take_succ_eq_append_getElem hk]
  rw [List.getD_eq_getElem?_getD, List.getElem?_eq_getElem hk] at hx
  simp only [Option.getD_some] at hx
  unfold boolsV
  rw [List.map_append, hx]; rfl
theorem Try.infoBl : (Try.prog.info? 4).map (fun i => (i.zero, i.size, i.bytes)) = some (some (.bool false), 1, 1) := by kernel_rfl
set_option maxHeartbeats 1000000 in
theorem toBoolS_own (B : Nat) (ao : Option Addr) (cap : Nat) (l : List Bool) (w : World) (hB : B ≤ w.heap.size) (hl : l.length ≤ 1048576) (hr : BlRow w B ao l) :
    Calls Try.prog 30 #[.slice ao l.length cap] w fun e w' => ∃ v, e = .returned v ∧ OwnL w.heap.size v l w' ∧ Below w.heap.size w w' := by
  obtain ⟨i0, hi, hz0, hz1, hz2⟩ := info_parts Try.infoBl
  have HR := hide hr
  clear hr
  go_enter Try.func30, Try.ntmps30
  go_wp2_with (at_make; refine wpList_make_full _ rfl _ _ 35 rfl w.heap.size 4 i0 (.bool false) 1 Try.underlying35 hi hz0 hz1 .i64 .i64 _ _ l.length rfl rfl rfl rfl (by rw [hz2]; omega) (by unfold maxLen; omega) (Nat.le_refl _) ?_; intro w1 hown1 hgrow1)
  obtain ⟨cur0, hg0, hl0⟩ : ∃ cur : List Value, w1.heap[w.heap.size]? = some (.cells cur.toArray 4 (0, 0)) ∧ cur.length = l.length := by
    rcases hown1.2 with ⟨h, _⟩ | ⟨g, cap', cur, hv, _, hg, _, _, hs, _⟩
    · simp at h
    · simp at hv
      obtain ⟨rfl, rfl⟩ := hv
      exact ⟨cur.toList, by simpa using hg, by simpa using hs⟩
  have hb1 : Below w.heap.size w w1 := (Below.refl _ _).grown hgrow1 (Nat.le_refl _) (fun j hj => by simp at hj)
  clear hown1 hgrow1
  go_loopw [4] (fun i wr => ∃ (k : Nat) (cur : List Value), k ≤ l.length ∧ i = .int .i64 k ∧ cur.length = l.length ∧ wr.heap[w.heap.size]? = some (.cells cur.toArray 4 (0, 0)) ∧ Hid (cur.take k = boolsV (l.take k)) ∧ Below w.heap.size w wr) (fun i _ => l.length - (intOf i).toNat)
  case atStart => exact ⟨0, cur0, Nat.zero_le _, rfl, hl0, hg0, by show _ = _; simp [boolsV], hb1⟩
  case round =>
    obtain ⟨k, cur, hk, rfl, hlen, hg, HC, hb⟩ := hrel
    clear hb1 hg0 hl0
    have hlt0 : w.heap.size < wr.heap.size := (Array.getElem?_eq_some_iff.1 hg).1
    by_cases hlt : k < l.length
    · obtain ⟨b, off, x, rfl, hbB, hv, d0⟩ := (HR.out.kept (hb.mono hB)).at k hlt
      obtain ⟨HC2, hlen2⟩ := bools_step cur l k hlt hlen HC.out x hv
      have HC3 : Hid ((cur.set k (.bool x)).take (k + 1) = boolsV (l.take (k + 1))) := HC2
      clear hv HC HC2
      obtain ⟨x0, hx0⟩ : ∃ v, cur[k]? = some v := ⟨_, List.getElem?_eq_getElem (by omega)⟩
      have e0 : wr.cell? ⟨w.heap.size, k, none⟩ = some x0 := by rw [cell_of_row _ _ _ _ _ _ hg, List.getElem?_toArray, hx0]
      have ef : ∀ j, wr.frozen? ⟨w.heap.size, j, none⟩ = false := fun j => frozen_of_row _ _ _ _ _ hg
      have HG : Hid (wr.heap[w.heap.size]? = some (.cells cur.toArray 4 (0, 0))) := hg
      clear hx0 hg
      go_wp2
      go_roundw
      case rel => exact ⟨k + 1, _, by omega, by go_num, hlen2, (by rw [heap_setCell_same _ _ _ _ _ _ HG.out]; simp), HC3, hb.setCell (Nat.le_refl _) _⟩
      case measure => simp [intOf]; omega
    · obtain rfl : k = l.length := by omega
      have HF : Hid (OwnL w.heap.size (.slice (some ⟨w.heap.size, 0, none⟩) l.length l.length) l wr) := ⟨by simp [boolsV], .inr ⟨w.heap.size, l.length, cur.toArray, rfl, Nat.le_refl _, hg, Nat.le_refl _, (by unfold maxLen; omega), (by simpa using hlen), (by have := HC.out; rw [List.take_length] at this; simpa using this)⟩⟩
      go_wp2
      go_ret
      exact ⟨_, rfl, HF.out, hb⟩
set_option maxHeartbeats 2000000 in
theorem eqBoolS_own (base base' : Nat) (v v' : Value) (l : List Bool) (w : World) (hl : l.length ≤ 1048576) (ha : OwnL base v l w) (hb : OwnL base' v' l w) :
    Calls Try.prog 31 #[v, v'] w fun e w' => e = .returned (.bool true) ∧ Below w.heap.size w w' := by
  obtain ⟨ao, cap, rfl, hka⟩ := ownL_shape ha
  obtain ⟨bo, cp, rfl, hkb⟩ := ownL_shape hb
  have HA := hide hka
  have HB := hide hkb
  clear ha hb hka hkb
  go_enter Try.func31, Try.ntmps31
  go_wp2
  go_loopw [5] (fun i wr => ∃ k : Nat, k ≤ l.length ∧ i = .int .i64 k ∧ Below w.heap.size w wr) (fun i _ => l.length - (intOf i).toNat)
  case atStart => exact ⟨0, Nat.zero_le _, rfl, Below.refl _ _⟩
  case round =>
    obtain ⟨k, hk, rfl, hbw⟩ := hrel
    by_cases hlt : k < l.length
    · obtain ⟨b, rfl, hbB, d00⟩ := HA.out k hlt
      obtain ⟨b', rfl, hbB', e00⟩ := HB.out k hlt
      generalize l.getD k false = x at *
      have d0 := (hbw.cell (p := ⟨b, k, none⟩) hbB).trans d00
      have e0 := (hbw.cell (p := ⟨b', k, none⟩) hbB').trans e00
      have hi0 : (0 : Int) ≤ (k : Int) := by omega
      have hi1 : (k : Int) < (l.length : Int) := by omega
      have ht := (Int.toNat_natCast k)
      clear d00 e00
      go_wp2
      go_region_held3 (fun W => W.cell? ⟨b, k, none⟩ = some (.bool x) ∧ W.cell? ⟨b', k, none⟩ = some (.bool x)) (go_keep) (fail)
      all_goals
        have hb2 : Below w.heap.size w _ := hbw.drew
        clear d0 e0 hbw
        go_wp2
        go_roundw
        case rel => exact ⟨k + 1, by omega, by go_num, hb2⟩
        case measure => simp [intOf]; omega
    · go_wp2
      go_ret
      exact ⟨rfl, hbw⟩
section
variable {H : Type} {enc : TypeId × Value → H} {W : World}
theorem readBools {base : Nat} {spare : Nat → Bool} {held : Bool} {fuel : Nat} {cs : List Value} {y : DataW H × List MemPlace} (h : DataW.trod enc Try.prog W base spare held fuel 35 cs = some y) :
    ∃ ao cap l, cs = [.slice ao (List.length l) cap] ∧ (l.length ≤ cap ∧ cap ≤ maxLen) ∧ BlRow W W.heap.size ao l := by
  obtain ⟨ao, cap, l, rfl, hc, hb, hx⟩ := readSliceF (n := 1) (Nat.le_refl _) Try.underlying35 (by kernel_rfl) (fun cs (x : Bool) => cs = [.bool x]) (fun m _ cs y h => by
    obtain ⟨a, ea, _⟩ := DataW.trod_bool Try.underlying4 h
    exact ⟨a, ea⟩) h
  refine ⟨ao, cap, l, rfl, hc, ?_⟩
  rcases hb with h0 | ⟨b, off, e, hlt⟩
  · exact .inl h0
  · refine .inr ⟨b, off, e, hlt, fun i hi => ?_⟩
    obtain ⟨cs', rfl, _, hcell⟩ := hx b off e i hi
    rw [getD_ofT l false i hi]
    simpa using hcell 0 (by simp)
theorem rdBools {base : Nat} {v : Value} {d : DataW H} {p : List MemPlace} (hv : Value.okWide Try.prog W .any base 35 v) (h : DataW.Trod enc Try.prog W 0 (fun _ => true) true 35 v d p) : ∃ ko kr kl, v = .slice ko (List.length kl) kr ∧ BlRow W W.heap.size ko kl := by
  obtain ⟨ao, len, cap, rfl⟩ := okWide_slice Try.underlying35 hv
  obtain ⟨fuel, hf⟩ := h
  obtain ⟨ao', cap', l, hcs, hc, hr⟩ := readBools hf
  simp [Value.cells] at hcs
  obtain ⟨rfl, rfl, rfl⟩ := hcs
  exact ⟨ao, cap, l, rfl, hr⟩
end
end Go.Proofs.Ythglidcfbdigiaa

/-
  Contract: a place that the laws draw, below a number of sectors.
-/
namespace Go.Proofs.Ythglidcfbdigiaa
open Go.RowKit

theorem lwAtD_any (B : Nat) (ao : Option Addr) (len cap : Nat) (zs : List Int) (p n : Nat) (hn : n ≤ 1048576) (w : World) (hl : len ≤ 1048576) (hr : ByteRow w B ao len zs) :
    Calls Try.prog 16 #[.slice ao len cap, .int .i64 p, .int .i64 n] w fun e w' => ∃ v : Nat, e = .returned (.int .i64 v) ∧ (v < n ∨ v = 0) ∧ w' = w := by
  by_cases hs : n ≤ 1
  · go_enter Try.func16, Try.ntmps16
    go_wp2
    go_ret
    exact ⟨0, rfl, .inr rfl, rfl⟩
  by_cases h0 : len = 0
  · subst h0
    go_enter Try.func16, Try.ntmps16
    go_wp2
    go_ret
    exact ⟨0, rfl, .inr rfl, rfl⟩
  · rcases hr.2 with h | ⟨b, off, rfl, hbB, hc⟩
    · omega
    · have hq0 : 0 ≤ (p : Int) % len := Int.emod_nonneg _ (by omega)
      have hq1 : (p : Int) % len < len := Int.emod_lt_of_pos _ (by omega)
      have hpm : p % len < len := Nat.mod_lt _ (by omega)
      have hcb := hc (p % len) hpm
      have hz := hr.1 (p % len)
      have hne : ((len : Int) == 0) = false := by simp; omega
      have e1 : (p : Int) % len = ((p % len : Nat) : Int) := by simp
      generalize zs.getD (p % len) 0 = z at *
      generalize hP : p % len = pp at *
      have hr0 := Int.emod_nonneg z (show (n : Int) ≠ 0 by omega)
      have hr1 := Int.emod_lt_of_pos z (show 0 < (n : Int) by omega)
      clear hc hP hr
      go_enter Try.func16, Try.ntmps16
      go_wp2
      go_ret
      exact ⟨(z % (n : Int)).toNat, by rw [Int.toNat_of_nonneg hr0]; rfl, .inl (by omega), rfl⟩
end Go.Proofs.Ythglidcfbdigiaa
