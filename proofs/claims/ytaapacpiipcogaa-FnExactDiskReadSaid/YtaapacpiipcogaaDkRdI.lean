/-
  Contract: DiskRead of the program.
-/
import Derived.Test.YtaapacpiipcogaaDkRdP
import Derived.Test.YtaapacpiipcogaaDkWrI
import Derived.Test.YtaapacpiipcogaaDkRd
namespace Go.Proofs.Ytaapacpiipcogaa
open Go.RowKit
set_option maxRecDepth 100000

set_option maxHeartbeats 8000000 in
theorem implDiskRead_any (b : Nat) (s c : Value) (d : Dk) (a m : Int) (w : World) (hi : dkIn d) (hf : dkFits d) (ha : wI64 a) (hm : wI64 m) (h : OwnD b s c d w) :
    Calls Try.prog 11 #[.agg #[s, c], .int .i64 a, .int .i64 m] w fun e w' => ∃ s' c', e = .returned (.agg #[s', c', .string (dkRead d a m).2, .int .i64 (dkRead d a m).1.2]) ∧ OwnD w.heap.size s' c' (dkRead d a m).1.1 w' ∧ Below w.heap.size w w' := by
  obtain ⟨so, p, co, q, rfl, rfl, hr⟩ := h.row hi
  obtain ⟨n1, hn1⟩ : ∃ n, n = d.secs.length := ⟨_, rfl⟩
  obtain ⟨n2, hn2⟩ : ∃ n, n = d.cache.length := ⟨_, rfl⟩
  have hn1' : n1 ≤ 1048576 := by rw [hn1]; exact hf.1
  obtain ⟨ha0, ha1⟩ := ha
  obtain ⟨hm0, hm1⟩ := hm
  have HA := two_allocs w (.cells #[.slice so n1 p, .slice co n2 q] 29) (.cells #[.slice none 0 0, .slice none 0 0, .string ⟨#[]⟩, .int .i64 0] 31)
  have B0 := hide (((Below.refl w.heap.size w).alloc (Nat.le_refl _) (.cells #[.slice so n1 p, .slice co n2 q] 29)).alloc (by simp) (.cells #[.slice none 0 0, .slice none 0 0, .string ⟨#[]⟩, .int .i64 0] 31))
  have X0 := hide HA.1
  have Y0 := hide HA.2.1
  have HSP := hide (fun (W : World) (hb : Below w.heap.size w W) => implDiskRight_any _ _ so p co q d W hb.size (hr.kept hb))
  rw [← hn1, ← hn2] at h HSP ⊢
  obtain ⟨x0, x1, xf⟩ := cells2 X0.out
  clear HA
  cases hdr : dkRight d with
  | false =>
    rw [dkRead_1 hdr]
    rw [hdr] at HSP
    clear hi hf h hr hdr hn1 hn2 ha0 ha1 hm0 hm1
    go_enter Try.func11, Try.ntmps11
    go_wp2_with (go_at_call 36; refine (HSP.out _ B0.out).mono ?_; rintro e w1 ⟨rfl, b1⟩; have Y1 := hide ((b1.block (w.heap.size + 1) (by simp)).trans Y0.out); have B1 := hide (B0.out.trans (b1.mono B0.out.size)); obtain ⟨y0, y1, y2, y3, yf⟩ := cells4 Y1.out; clear b1)
    refine bodyPost_ret (v := .agg #[.slice none 0 0, .slice none 0 0, .string ⟨#[]⟩, .int .i64 1]) (resOut Try.results11 _ _ (w.heap.size + 1) _ _ _ _ rfl (set4w Y1.out)) rfl ⟨_, _, rfl, ownD_emp _ _, ?_⟩
    exact (((B1.out.setCell (by simp) _).setCell (by simp) _).setCell (by simp) _).setCell (by simp) _
  | true =>
    rw [hdr] at HSP
    have hbd := (dkRight_bounds hdr).1
    rw [← hn1] at hbd
    by_cases h9 : rdFar d a m
    · rw [dkRead_9 hdr h9]
      unfold rdFar at h9
      rw [← hn1] at h9
      clear hi hf h hr hdr hn1 hn2
      by_cases c1 : m < 0
      · skip
        go_enter Try.func11, Try.ntmps11
        go_wp2_with (first | (go_at_call 36; refine (HSP.out _ B0.out).mono ?_; rintro e w1 ⟨rfl, b1⟩; have Y1 := hide ((b1.block (w.heap.size + 1) (by simp)).trans Y0.out); have X1 := hide ((b1.block w.heap.size (by simp; omega)).trans X0.out); have B1 := hide (B0.out.trans (b1.mono B0.out.size)); clear x0 x1 xf; obtain ⟨x0, x1, xf⟩ := cells2 X1.out; obtain ⟨y0, y1, y2, y3, yf⟩ := cells4 Y1.out; clear b1))
        refine bodyPost_ret (v := .agg #[.slice none 0 0, .slice none 0 0, .string ⟨#[]⟩, .int .i64 9]) (resOut Try.results11 _ _ (w.heap.size + 1) _ _ _ _ rfl (set4w Y1.out)) rfl ⟨_, _, rfl, ownD_emp _ _, ?_⟩
        exact (((B1.out.setCell (by simp) _).setCell (by simp) _).setCell (by simp) _).setCell (by simp) _
      · by_cases c2 : 300 < m
        · skip
          go_enter Try.func11, Try.ntmps11
          go_wp2_with (first | (go_at_call 36; refine (HSP.out _ B0.out).mono ?_; rintro e w1 ⟨rfl, b1⟩; have Y1 := hide ((b1.block (w.heap.size + 1) (by simp)).trans Y0.out); have X1 := hide ((b1.block w.heap.size (by simp; omega)).trans X0.out); have B1 := hide (B0.out.trans (b1.mono B0.out.size)); clear x0 x1 xf; obtain ⟨x0, x1, xf⟩ := cells2 X1.out; obtain ⟨y0, y1, y2, y3, yf⟩ := cells4 Y1.out; clear b1))
          refine bodyPost_ret (v := .agg #[.slice none 0 0, .slice none 0 0, .string ⟨#[]⟩, .int .i64 9]) (resOut Try.results11 _ _ (w.heap.size + 1) _ _ _ _ rfl (set4w Y1.out)) rfl ⟨_, _, rfl, ownD_emp _ _, ?_⟩
          exact (((B1.out.setCell (by simp) _).setCell (by simp) _).setCell (by simp) _).setCell (by simp) _
        · have HAT := hide (fun W => areThere_any so p n1 co q n2 a m hbd (by omega) (by omega) W)
          have hab : (decide (0 ≤ a) && decide (a ≤ (n1 : Int) - m)) = false := by rcases h9 with h | h | h | h <;> simp <;> intros <;> omega
          rw [hab] at HAT
          clear h9 hab
          go_enter Try.func11, Try.ntmps11
          go_wp2_with (first | (go_at_call 36; refine (HSP.out _ B0.out).mono ?_; rintro e w1 ⟨rfl, b1⟩; have Y1 := hide ((b1.block (w.heap.size + 1) (by simp)).trans Y0.out); have X1 := hide ((b1.block w.heap.size (by simp; omega)).trans X0.out); have B1 := hide (B0.out.trans (b1.mono B0.out.size)); clear x0 x1 xf; obtain ⟨x0, x1, xf⟩ := cells2 X1.out; clear b1) | (go_at_call 37; refine (HAT.out _).mono ?_; rintro e w2 ⟨rfl, b2⟩; have Y2 := hide ((b2.block (w.heap.size + 1) (Array.getElem?_eq_some_iff.1 Y1.out).1).trans Y1.out); have X2 := hide ((b2.block w.heap.size (blk_lt' X1.out)).trans X1.out); have B2 := hide (B1.out.trans (b2.mono B1.out.size)); clear x0 x1 xf; obtain ⟨x0, x1, xf⟩ := cells2 X2.out; obtain ⟨y0, y1, y2, y3, yf⟩ := cells4 Y2.out; clear b2))
          refine bodyPost_ret (v := .agg #[.slice none 0 0, .slice none 0 0, .string ⟨#[]⟩, .int .i64 9]) (resOut Try.results11 _ _ (w.heap.size + 1) _ _ _ _ rfl (set4w Y2.out)) rfl ⟨_, _, rfl, ownD_emp _ _, ?_⟩
          exact (((B2.out.setCell (by simp) _).setCell (by simp) _).setCell (by simp) _).setCell (by simp) _
    · rw [dkRead_0 hdr h9]
      unfold rdFar at h9
      rw [← hn1] at h9
      obtain ⟨a, rfl⟩ : ∃ a' : Nat, a = (a' : Int) := ⟨a.toNat, by omega⟩
      obtain ⟨m, rfl⟩ : ∃ m' : Nat, m = (m' : Int) := ⟨m.toNat, by omega⟩
      rw [show ((a : Int)).toNat = a from by omega, show ((m : Int)).toNat = m from by omega]
      have hbd2 := (dkRight_bounds hdr).2
      have hml : m ≤ 300 := by omega
      have HAT := hide (fun W => areThere_any so p n1 co q n2 a m hbd (by omega) (by omega) W)
      have hab : (decide (0 ≤ (a : Int)) && decide ((a : Int) ≤ (n1 : Int) - m)) = true := by simp; omega
      rw [hab] at HAT
      have hal : a + m ≤ n1 := by omega
      have HD := hide (fun (W : World) (hb : Below w.heap.size w W) => driveOf_any _ _ so p co q d W hb.size (by omega) (hr.kept hb))
      have HH := hide (fun (bm n : Nat) (W : World) (hb : Below w.heap.size w W) (hM : W.ownsMap Try.prog 2 secR bm n (cacheD d.cache)) => drvRead_any _ _ so p bm n d a m W hb.size hdr (by rw [← hn1]; exact hbd) (by rw [← hn1]; omega) (hr.2.1.kept hb) hM)
      rw [← hn1, ← hn2] at HD
      rw [← hn1] at HH
      have c1 : ¬ (m : Int) < 0 := by omega
      have c2 : ¬ 300 < (m : Int) := by omega
      generalize cacheD d.cache = CD at *
      generalize mkS (secsT (flushL d.secs d.cache) a m) = T at *
      clear hi hf h hr hdr hn1 hn2 h9 hab hbd2
      go_enter Try.func11, Try.ntmps11
      go_wp2_with (first | (go_at_call 36; refine (HSP.out _ B0.out).mono ?_; rintro e w1 ⟨rfl, b1⟩; have Y1 := hide ((b1.block (w.heap.size + 1) (by simp)).trans Y0.out); have X1 := hide ((b1.block w.heap.size (by simp; omega)).trans X0.out); have B1 := hide (B0.out.trans (b1.mono B0.out.size)); clear x0 x1 xf; obtain ⟨x0, x1, xf⟩ := cells2 X1.out; clear b1) | (go_at_call 37; refine (HAT.out _).mono ?_; rintro e w2 ⟨rfl, b2⟩; have Y2 := hide ((b2.block (w.heap.size + 1) (Array.getElem?_eq_some_iff.1 Y1.out).1).trans Y1.out); have X2 := hide ((b2.block w.heap.size (blk_lt' X1.out)).trans X1.out); have B2 := hide (B1.out.trans (b2.mono B1.out.size)); clear x0 x1 xf; obtain ⟨x0, x1, xf⟩ := cells2 X2.out; clear b2) | (go_at_call 38; refine (HD.out _ B2.out).mono ?_; rintro e w3 ⟨bm, rfl, M3, hbm, b3⟩; have Y3 := hide ((b3.block (w.heap.size + 1) (blk_lt' Y2.out)).trans Y2.out); have B3 := hide (B2.out.trans (b3.mono B2.out.size)); have M3' := hide M3; clear M3 b3 hbm x0 x1 xf) | (go_at_call 39; refine (HH.out _ _ _ B3.out M3'.out).mono ?_; rintro e w4 ⟨rfl, b4⟩; have Y4 := hide ((b4.block (w.heap.size + 1) (blk_lt' Y3.out)).trans Y3.out); have B4 := hide (B3.out.trans (b4.mono B3.out.size)); obtain ⟨y0, y1, y2, y3, yf⟩ := cells4 Y4.out; clear b4))
      refine bodyPost_ret (v := .agg #[.slice none 0 0, .slice none 0 0, .string T, .int .i64 0]) (resOut Try.results11 _ _ (w.heap.size + 1) _ _ _ _ rfl (set4w Y4.out)) rfl ⟨_, _, rfl, ownD_emp _ _, ?_⟩
      exact (((B4.out.setCell (by simp) _).setCell (by simp) _).setCell (by simp) _).setCell (by simp) _
end Go.Proofs.Ytaapacpiipcogaa
