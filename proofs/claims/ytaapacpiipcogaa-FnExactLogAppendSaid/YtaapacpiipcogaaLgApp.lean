/-
  Contracts: LogAppend of both.
-/
import Derived.Test.YtaapacpiipcogaaRecB
import Derived.Test.YtaapacpiipcogaaDkWrI
import Derived.Test.YtaapacpiipcogaaDkWrS2
namespace Go.Proofs.Ytaapacpiipcogaa
open Go.RowKit
set_option maxRecDepth 100000

def dkApp (d : Dk) (a q : Int) (t : ByteArray) : Dk × Int := if recRight q t = true then dkWrite d a (recBytes q t) else (⟨[], []⟩, 1)
theorem dkApp_no {d : Dk} {a q : Int} {t : ByteArray} (h : recRight q t = false) : dkApp d a q t = (⟨[], []⟩, 1) := by unfold dkApp; rw [h]; rfl
theorem dkApp_yes {d : Dk} {a q : Int} {t : ByteArray} (h : recRight q t = true) : dkApp d a q t = dkWrite d a (recBytes q t) := by unfold dkApp; rw [h]; rfl
theorem dkApp_fits {d : Dk} (a q : Int) (t : ByteArray) (h : dkFits d) : dkFits (dkApp d a q t).1 := by
  unfold dkApp
  split
  · exact dkWrite_fits a _ h
  · exact ⟨by simp, by simp⟩
set_option maxHeartbeats 8000000 in
theorem specLogAppend_any (b : Nat) (s c : Value) (d : Dk) (a q : Int) (t : ByteArray) (w : World) (hi : dkIn d) (hf : dkFits d) (ha : wI64 a) (hq : wI64 q) (h : OwnD b s c d w) :
    Calls Try.prog 28 #[.agg #[s, c], .int .i64 a, .agg #[.int .i64 q, .string t]] w fun e w' => ∃ s' c', e = .returned (.agg #[s', c', .string ⟨#[]⟩, .int .i64 (dkApp d a q t).2]) ∧ OwnD w.heap.size s' c' (dkApp d a q t).1 w' ∧ Below w.heap.size w w' := by
  obtain ⟨so, p, co, z, rfl, rfl, hr⟩ := h.row hi
  obtain ⟨n1, hn1⟩ : ∃ n, n = d.secs.length := ⟨_, rfl⟩
  obtain ⟨n2, hn2⟩ : ∃ n, n = d.cache.length := ⟨_, rfl⟩
  have HA := alloc3 w (.cells #[.slice so n1 p, .slice co n2 z] 29) (.cells #[.int .i64 q, .string t] 43) (.cells #[.slice none 0 0, .slice none 0 0, .string ⟨#[]⟩, .int .i64 0] 31)
  have B0 := hide ((((Below.refl w.heap.size w).alloc (Nat.le_refl _) (.cells #[.slice so n1 p, .slice co n2 z] 29)).alloc (by simp) (.cells #[.int .i64 q, .string t] 43)).alloc (by simp; omega) (.cells #[.slice none 0 0, .slice none 0 0, .string ⟨#[]⟩, .int .i64 0] 31))
  have X0 := hide HA.1
  have R0 := hide HA.2.1
  have Y0 := hide HA.2.2
  clear HA
  rw [← hn1, ← hn2] at h ⊢
  have HRR := hide (fun W => specRecordRight_any q t W)
  obtain ⟨x0, x1, xf⟩ := cells2 X0.out
  obtain ⟨r0, r1, rf⟩ := cells2 R0.out
  cases hrr : recRight q t with
  | false =>
    rw [dkApp_no hrr]
    rw [hrr] at HRR
    clear hi hf h hr hn1 hn2 hrr ha hq
    go_enter Try.func28, Try.ntmps28
    go_wp2_with (go_at_call 18; refine (HRR.out _).mono ?_; rintro e w1 ⟨rfl, b1⟩; have Y1 := hide ((b1.block (w.heap.size + 1 + 1) (blk_lt Y0.out)).trans Y0.out); have B1 := hide (B0.out.trans (b1.mono B0.out.size)); obtain ⟨y0, y1, y2, y3, yf⟩ := cells4 Y1.out; clear b1)
    refine bodyPost_ret (v := .agg #[.slice none 0 0, .slice none 0 0, .string ⟨#[]⟩, .int .i64 1]) (resOut Try.results28 _ _ (w.heap.size + 1 + 1) _ _ _ _ rfl (set4w Y1.out)) rfl ⟨_, _, rfl, ownD_emp _ _, ?_⟩
    exact (((B1.out.setCell (by show w.heap.size ≤ w.heap.size + 1 + 1; omega) _).setCell (by show w.heap.size ≤ w.heap.size + 1 + 1; omega) _).setCell (by show w.heap.size ≤ w.heap.size + 1 + 1; omega) _).setCell (by show w.heap.size ≤ w.heap.size + 1 + 1; omega) _
  | true =>
    rw [dkApp_yes hrr]
    rw [hrr] at HRR
    have HRB := hide (fun W => specRecordBytes_any q t W hq)
    have HL := recBytes_len q t
    have HDW := hide (fun (W : World) (hb : Below w.heap.size w W) => specDiskWrite_any _ _ _ d a (recBytes q t) W hi hf ha (h.below hb))
    generalize recBytes q t = TB at *
    generalize dkWrite d a TB = R at *
    obtain ⟨D, K⟩ := R
    simp only at *
    have hne1 : ¬ w.heap.size = w.heap.size + 1 + 1 := by omega
    have hne2 : ¬ w.heap.size + 1 + 1 = w.heap.size := by omega
    have hne3 : ¬ w.heap.size + 1 = w.heap.size + 1 + 1 := by omega
    have hne4 : ¬ w.heap.size + 1 + 1 = w.heap.size + 1 := by omega
    clear hi hf h hr hn1 hn2 hrr ha hq
    go_enter Try.func28, Try.ntmps28
    go_wp2_with (go_at_call 18; refine (HRR.out _).mono ?_; rintro e w1 ⟨rfl, b1⟩; have X1 := hide ((b1.block w.heap.size (blk_lt X0.out)).trans X0.out); have R1 := hide ((b1.block (w.heap.size + 1) (blk_lt R0.out)).trans R0.out); have Y1 := hide ((b1.block (w.heap.size + 1 + 1) (blk_lt Y0.out)).trans Y0.out); have B1 := hide (B0.out.trans (b1.mono B0.out.size)); clear b1 x0 x1 xf r0 r1 rf; obtain ⟨x0, x1, xf⟩ := cells2 X1.out; obtain ⟨r0, r1, rf⟩ := cells2 R1.out; obtain ⟨y0, y1, y2, y3, yf⟩ := cells4 Y1.out)
    go_region_held3 (fun W => (W.cell? ⟨w.heap.size, 0, none⟩ = some (.slice so n1 p) ∧ W.cell? ⟨w.heap.size, 1, none⟩ = some (.slice co n2 z)) ∧ (W.cell? ⟨w.heap.size + 1, 0, none⟩ = some (.int .i64 q) ∧ W.cell? ⟨w.heap.size + 1, 1, none⟩ = some (.string t))) (go_keep) (first
      | (go_at_call 21; refine (HRB.out _).mono ?_; rintro e w2 ⟨rfl, b2⟩; have X2 : Hid (w2.heap[w.heap.size]? = some (.cells #[.slice so n1 p, .slice co n2 z] 29 (0, 0))) := (b2.block w.heap.size (blk_lt X1.out)).trans X1.out; have R2 : Hid (w2.heap[w.heap.size + 1]? = some (.cells #[.int .i64 q, .string t] 43 (0, 0))) := (b2.block (w.heap.size + 1) (blk_lt R1.out)).trans R1.out; have Y2 : Hid (w2.heap[w.heap.size + 1 + 1]? = some (.cells #[.slice none 0 0, .slice none 0 0, .string ⟨#[]⟩, .int .i64 0] 31 (0, 0))) := (b2.block (w.heap.size + 1 + 1) (blk_lt Y1.out)).trans Y1.out; have B2 : Hid (Below w.heap.size w w2) := B1.out.drew.trans (b2.mono B1.out.size); have ax := cells2 X2.out; have ax0 := ax.1; have ax1 := ax.2.1; have ar := cells2 R2.out; have ar0 := ar.1; have ar1 := ar.2.1; clear b2 ax ar)
      | (go_at_call 59; refine (HDW.out _ B2.out).mono ?_; rintro e w3 ⟨s2, c2, rfl, o3, b3⟩; obtain ⟨so2, p2, co2, q2, rfl, rfl⟩ := o3.shape; have X3 : Hid (w3.heap[w.heap.size]? = some (.cells #[.slice so n1 p, .slice co n2 z] 29 (0, 0))) := (b3.block w.heap.size (blk_lt X2.out)).trans X2.out; have R3 : Hid (w3.heap[w.heap.size + 1]? = some (.cells #[.int .i64 q, .string t] 43 (0, 0))) := (b3.block (w.heap.size + 1) (blk_lt R2.out)).trans R2.out; have Y3 : Hid (w3.heap[w.heap.size + 1 + 1]? = some (.cells #[.slice none 0 0, .slice none 0 0, .string ⟨#[]⟩, .int .i64 0] 31 (0, 0))) := (b3.block (w.heap.size + 1 + 1) (blk_lt Y2.out)).trans Y2.out; have hl2 : w.heap.size + 1 + 1 < w2.heap.size := blk_lt Y2.out; have B3 : Hid (Below w.heap.size w w3) := B2.out.trans (b3.mono B2.out.size); have O3 := hide o3; have ax := cells2 X3.out; have bx0 := ax.1; have bx1 := ax.2.1; have ar := cells2 R3.out; have br0 := ar.1; have br1 := ar.2.1; obtain ⟨y0, y1, y2, y3, yf⟩ := cells4 Y3.out; clear b3 ax ar o3))
    all_goals
      go_wp2
      refine bodyPost_ret (v := .agg #[.slice so2 D.secs.length p2, .slice co2 D.cache.length q2, .string ⟨#[]⟩, .int .i64 K]) (resOut Try.results28 _ _ (w.heap.size + 1 + 1) _ _ _ _ rfl (set4w Y3.out)) rfl ⟨_, _, rfl, ?_, ?_⟩
      · exact ((((O3.out.set (by show w.heap.size + 1 + 1 < w2.heap.size; exact hl2)).set (by show w.heap.size + 1 + 1 < w2.heap.size; exact hl2)).set (by show w.heap.size + 1 + 1 < w2.heap.size; exact hl2)).set (by show w.heap.size + 1 + 1 < w2.heap.size; exact hl2)).base (by omega)
      · exact (((B3.out.setCell (by show w.heap.size ≤ w.heap.size + 1 + 1; omega) _).setCell (by show w.heap.size ≤ w.heap.size + 1 + 1; omega) _).setCell (by show w.heap.size ≤ w.heap.size + 1 + 1; omega) _).setCell (by show w.heap.size ≤ w.heap.size + 1 + 1; omega) _
set_option maxHeartbeats 8000000 in
theorem implLogAppend_any (b : Nat) (s c : Value) (d : Dk) (a q : Int) (t : ByteArray) (w : World) (hi : dkIn d) (hf : dkFits d) (hq : wI64 q) (h : OwnD b s c d w) :
    Calls Try.prog 29 #[.agg #[s, c], .int .i64 a, .agg #[.int .i64 q, .string t]] w fun e w' => ∃ s' c', e = .returned (.agg #[s', c', .string ⟨#[]⟩, .int .i64 (dkApp d a q t).2]) ∧ OwnD w.heap.size s' c' (dkApp d a q t).1 w' ∧ Below w.heap.size w w' := by
  obtain ⟨so, p, co, z, rfl, rfl, hr⟩ := h.row hi
  obtain ⟨n1, hn1⟩ : ∃ n, n = d.secs.length := ⟨_, rfl⟩
  obtain ⟨n2, hn2⟩ : ∃ n, n = d.cache.length := ⟨_, rfl⟩
  have HA := alloc3 w (.cells #[.slice so n1 p, .slice co n2 z] 29) (.cells #[.int .i64 q, .string t] 43) (.cells #[.slice none 0 0, .slice none 0 0, .string ⟨#[]⟩, .int .i64 0] 31)
  have B0 := hide ((((Below.refl w.heap.size w).alloc (Nat.le_refl _) (.cells #[.slice so n1 p, .slice co n2 z] 29)).alloc (by simp) (.cells #[.int .i64 q, .string t] 43)).alloc (by simp; omega) (.cells #[.slice none 0 0, .slice none 0 0, .string ⟨#[]⟩, .int .i64 0] 31))
  have X0 := hide HA.1
  have R0 := hide HA.2.1
  have Y0 := hide HA.2.2
  clear HA
  rw [← hn1, ← hn2] at h ⊢
  have HRR := hide (fun W => implRecordRight_any q t W)
  obtain ⟨x0, x1, xf⟩ := cells2 X0.out
  obtain ⟨r0, r1, rf⟩ := cells2 R0.out
  cases hrr : recRight q t with
  | false =>
    rw [dkApp_no hrr]
    rw [hrr] at HRR
    clear hi hf h hr hn1 hn2 hrr hq
    go_enter Try.func29, Try.ntmps29
    go_wp2_with (go_at_call 20; refine (HRR.out _).mono ?_; rintro e w1 ⟨rfl, b1⟩; have Y1 := hide ((b1.block (w.heap.size + 1 + 1) (blk_lt Y0.out)).trans Y0.out); have B1 := hide (B0.out.trans (b1.mono B0.out.size)); obtain ⟨y0, y1, y2, y3, yf⟩ := cells4 Y1.out; clear b1)
    refine bodyPost_ret (v := .agg #[.slice none 0 0, .slice none 0 0, .string ⟨#[]⟩, .int .i64 1]) (resOut Try.results29 _ _ (w.heap.size + 1 + 1) _ _ _ _ rfl (set4w Y1.out)) rfl ⟨_, _, rfl, ownD_emp _ _, ?_⟩
    exact (((B1.out.setCell (by show w.heap.size ≤ w.heap.size + 1 + 1; omega) _).setCell (by show w.heap.size ≤ w.heap.size + 1 + 1; omega) _).setCell (by show w.heap.size ≤ w.heap.size + 1 + 1; omega) _).setCell (by show w.heap.size ≤ w.heap.size + 1 + 1; omega) _
  | true =>
    rw [dkApp_yes hrr]
    rw [hrr] at HRR
    have HRB := hide (fun W => implRecordBytes_any q t W hq)
    have HL := recBytes_len q t
    have HDW := hide (fun (W : World) (hb : Below w.heap.size w W) => implDiskWrite_any _ _ _ d a (recBytes q t) W hi hf (by omega) (h.below hb))
    generalize recBytes q t = TB at *
    generalize dkWrite d a TB = R at *
    obtain ⟨D, K⟩ := R
    simp only at *
    have hne1 : ¬ w.heap.size = w.heap.size + 1 + 1 := by omega
    have hne2 : ¬ w.heap.size + 1 + 1 = w.heap.size := by omega
    have hne3 : ¬ w.heap.size + 1 = w.heap.size + 1 + 1 := by omega
    have hne4 : ¬ w.heap.size + 1 + 1 = w.heap.size + 1 := by omega
    clear hi hf h hr hn1 hn2 hrr hq
    go_enter Try.func29, Try.ntmps29
    go_wp2_with (go_at_call 20; refine (HRR.out _).mono ?_; rintro e w1 ⟨rfl, b1⟩; have X1 := hide ((b1.block w.heap.size (blk_lt X0.out)).trans X0.out); have R1 := hide ((b1.block (w.heap.size + 1) (blk_lt R0.out)).trans R0.out); have Y1 := hide ((b1.block (w.heap.size + 1 + 1) (blk_lt Y0.out)).trans Y0.out); have B1 := hide (B0.out.trans (b1.mono B0.out.size)); clear b1 x0 x1 xf r0 r1 rf; obtain ⟨x0, x1, xf⟩ := cells2 X1.out; obtain ⟨r0, r1, rf⟩ := cells2 R1.out; obtain ⟨y0, y1, y2, y3, yf⟩ := cells4 Y1.out)
    go_region_held3 (fun W => (W.cell? ⟨w.heap.size, 0, none⟩ = some (.slice so n1 p) ∧ W.cell? ⟨w.heap.size, 1, none⟩ = some (.slice co n2 z)) ∧ (W.cell? ⟨w.heap.size + 1, 0, none⟩ = some (.int .i64 q) ∧ W.cell? ⟨w.heap.size + 1, 1, none⟩ = some (.string t))) (go_keep) (first
      | (go_at_call 22; refine (HRB.out _).mono ?_; rintro e w2 ⟨rfl, b2⟩; have X2 : Hid (w2.heap[w.heap.size]? = some (.cells #[.slice so n1 p, .slice co n2 z] 29 (0, 0))) := (b2.block w.heap.size (blk_lt X1.out)).trans X1.out; have R2 : Hid (w2.heap[w.heap.size + 1]? = some (.cells #[.int .i64 q, .string t] 43 (0, 0))) := (b2.block (w.heap.size + 1) (blk_lt R1.out)).trans R1.out; have Y2 : Hid (w2.heap[w.heap.size + 1 + 1]? = some (.cells #[.slice none 0 0, .slice none 0 0, .string ⟨#[]⟩, .int .i64 0] 31 (0, 0))) := (b2.block (w.heap.size + 1 + 1) (blk_lt Y1.out)).trans Y1.out; have B2 : Hid (Below w.heap.size w w2) := B1.out.drew.trans (b2.mono B1.out.size); have ax := cells2 X2.out; have ax0 := ax.1; have ax1 := ax.2.1; have ar := cells2 R2.out; have ar0 := ar.1; have ar1 := ar.2.1; clear b2 ax ar)
      | (go_at_call 60; refine (HDW.out _ B2.out).mono ?_; rintro e w3 ⟨s2, c2, rfl, o3, b3⟩; obtain ⟨so2, p2, co2, q2, rfl, rfl⟩ := o3.shape; have X3 : Hid (w3.heap[w.heap.size]? = some (.cells #[.slice so n1 p, .slice co n2 z] 29 (0, 0))) := (b3.block w.heap.size (blk_lt X2.out)).trans X2.out; have R3 : Hid (w3.heap[w.heap.size + 1]? = some (.cells #[.int .i64 q, .string t] 43 (0, 0))) := (b3.block (w.heap.size + 1) (blk_lt R2.out)).trans R2.out; have Y3 : Hid (w3.heap[w.heap.size + 1 + 1]? = some (.cells #[.slice none 0 0, .slice none 0 0, .string ⟨#[]⟩, .int .i64 0] 31 (0, 0))) := (b3.block (w.heap.size + 1 + 1) (blk_lt Y2.out)).trans Y2.out; have hl2 : w.heap.size + 1 + 1 < w2.heap.size := blk_lt Y2.out; have B3 : Hid (Below w.heap.size w w3) := B2.out.trans (b3.mono B2.out.size); have O3 := hide o3; have ax := cells2 X3.out; have bx0 := ax.1; have bx1 := ax.2.1; have ar := cells2 R3.out; have br0 := ar.1; have br1 := ar.2.1; obtain ⟨y0, y1, y2, y3, yf⟩ := cells4 Y3.out; clear b3 ax ar o3))
    all_goals
      go_wp2
      refine bodyPost_ret (v := .agg #[.slice so2 D.secs.length p2, .slice co2 D.cache.length q2, .string ⟨#[]⟩, .int .i64 K]) (resOut Try.results29 _ _ (w.heap.size + 1 + 1) _ _ _ _ rfl (set4w Y3.out)) rfl ⟨_, _, rfl, ?_, ?_⟩
      · exact ((((O3.out.set (by show w.heap.size + 1 + 1 < w2.heap.size; exact hl2)).set (by show w.heap.size + 1 + 1 < w2.heap.size; exact hl2)).set (by show w.heap.size + 1 + 1 < w2.heap.size; exact hl2)).set (by show w.heap.size + 1 + 1 < w2.heap.size; exact hl2)).base (by omega)
      · exact (((B3.out.setCell (by show w.heap.size ≤ w.heap.size + 1 + 1; omega) _).setCell (by show w.heap.size ≤ w.heap.size + 1 + 1; omega) _).setCell (by show w.heap.size ≤ w.heap.size + 1 + 1; omega) _).setCell (by show w.heap.size ≤ w.heap.size + 1 + 1; omega) _
end Go.Proofs.Ytaapacpiipcogaa
