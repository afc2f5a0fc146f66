/-
  Contracts and plain laws, part 7 of 12: DkWrS2, LgApp, DkEI, DkNeq, DkFlI, DkCrI, DkLwR
-/
import Derived.DeepKeys
import Derived.DeepKeys2
import Derived.Laws.StructEq
import Derived.Test.YtfhfhpnoeghgmaaPf

/-
  Contract: DiskWrite of the specification, as a whole; how great what is written is.
-/
namespace Go.Proofs.Ytfhfhpnoeghgmaa
open Go.RowKit
set_option maxRecDepth 100000

theorem dkWrite_fits {d : Dk} (a : Int) (t : ByteArray) (h : dkFits d) : dkFits (dkWrite d a t).1 := by
  unfold dkWrite dkFits
  have h1 := h.1
  have h2 := h.2
  split
  · simp
  split
  · simp
  split
  · simp
  split
  · simp
  · rename_i hq
    simp only [List.length_append, wrsOf_len]
    exact ⟨h1, by omega⟩
set_option maxHeartbeats 4000000 in
theorem specDiskWrite_any (b : Nat) (s c : Value) (d : Dk) (a : Int) (t : ByteArray) (w : World) (hi : dkIn d) (hf : dkFits d) (ha : wI64 a) (h : OwnD b s c d w) :
    Calls Try.prog 29 #[.agg #[s, c], .int .i64 a, .string t] w fun e w' => ∃ s' c', e = .returned (.agg #[s', c', .string ⟨#[]⟩, .int .i64 (dkWrite d a t).2]) ∧ OwnD w.heap.size s' c' (dkWrite d a t).1 w' ∧ Below w.heap.size w w' := by
  obtain ⟨so, p, co, q, rfl, rfl, hr⟩ := h.row hi
  obtain ⟨n1, hn1⟩ : ∃ n, n = d.secs.length := ⟨_, rfl⟩
  obtain ⟨n2, hn2⟩ : ∃ n, n = d.cache.length := ⟨_, rfl⟩
  have HN := hide (And.intro hn1 hn2)
  have HA := two_allocs w (.cells #[.slice so n1 p, .slice co n2 q] 26) (.cells #[.slice none 0 0, .slice none 0 0, .string ⟨#[]⟩, .int .i64 0] 37)
  have B0 := hide (((Below.refl w.heap.size w).alloc (Nat.le_refl _) (.cells #[.slice so n1 p, .slice co n2 q] 26)).alloc (by simp) (.cells #[.slice none 0 0, .slice none 0 0, .string ⟨#[]⟩, .int .i64 0] 37))
  have X0 := hide HA.1
  have Y0 := hide HA.2.1
  have HSP := hide (fun (W : World) (hb : Below w.heap.size w W) => specDiskRight_any _ _ so p co q d W hb.size (hr.kept hb))
  rw [← hn1, ← hn2] at h HSP ⊢
  clear HA hn1 hn2
  by_cases hl : 20000 < t.size
  · rw [dkWrite_2 hl]
    clear HSP hi hf ha h hr
    go_enter Try.func29, Try.ntmps29
    go_wp2
    refine bodyPost_ret (v := .agg #[.slice none 0 0, .slice none 0 0, .string ⟨#[]⟩, .int .i64 2]) (by simp [results, Try.results29, go_sem]) rfl ⟨_, _, rfl, ownD_emp _ _, ?_⟩
    exact ((Below.refl _ _).alloc (Nat.le_refl _) _).alloc (by simp) _
  · obtain ⟨x0, x1, xf⟩ := cells2 X0.out
    cases hdr : dkRight d with
    | false =>
      rw [dkWrite_1 hl hdr]
      rw [hdr] at HSP
      clear hi hf ha h hr hdr
      go_enter Try.func29, Try.ntmps29
      go_wp2_with (go_at_call 58; refine (HSP.out _ B0.out).mono ?_; rintro e w1 ⟨rfl, b1⟩; have Y1 := hide ((b1.block (w.heap.size + 1) (by simp)).trans Y0.out); have B1 := hide (B0.out.trans (b1.mono B0.out.size)); obtain ⟨y0, y1, y2, y3, yf⟩ := cells4 Y1.out; clear b1)
      refine bodyPost_ret (v := .agg #[.slice none 0 0, .slice none 0 0, .string ⟨#[]⟩, .int .i64 1]) (resOut Try.results29 _ _ (w.heap.size + 1) _ _ _ _ rfl (set4w Y1.out)) rfl ⟨_, _, rfl, ownD_emp _ _, ?_⟩
      exact (((B1.out.setCell (by simp) _).setCell (by simp) _).setCell (by simp) _).setCell (by simp) _
    | true =>
      have HWR := hide (fun (W : World) (hb : Below w.heap.size w W) => l07Write_any _ _ _ d a t W hf hdr ha hl (h.below hb))
      rw [hdr] at HSP
      generalize dkWrite d a t = R at *
      obtain ⟨D, K⟩ := R
      simp only at *
      clear hi hf ha h hr hdr
      go_enter Try.func29, Try.ntmps29
      go_wp2_with (first | (go_at_call 58; refine (HSP.out _ B0.out).mono ?_; rintro e w1 ⟨rfl, b1⟩; have Y1 := hide ((b1.block (w.heap.size + 1) (by simp)).trans Y0.out); have X1 := hide ((b1.block w.heap.size (by simp; omega)).trans X0.out); have B1 := hide (B0.out.trans (b1.mono B0.out.size)); clear x0 x1 xf; obtain ⟨x0, x1, xf⟩ := cells2 X1.out; clear b1) | (go_at_call 79; refine (HWR.out _ B1.out).mono ?_; rintro e w2 ⟨s2, c2, rfl, o2, b2⟩; have Y2 := hide ((b2.block (w.heap.size + 1) (Array.getElem?_eq_some_iff.1 Y1.out).1).trans Y1.out); have B2 := hide (B1.out.trans (b2.mono B1.out.size)); have O2 := hide (o2.base (show w.heap.size + 2 ≤ _ from (Array.getElem?_eq_some_iff.1 Y1.out).1)); obtain ⟨so2, p2, co2, q2, rfl, rfl⟩ := o2.shape; obtain ⟨y0, y1, y2, y3, yf⟩ := cells4 Y2.out; clear b2 o2))
      refine bodyPost_ret (v := .agg #[.slice so2 D.secs.length p2, .slice co2 D.cache.length q2, .string ⟨#[]⟩, .int .i64 K]) (resOut Try.results29 _ _ (w.heap.size + 1) _ _ _ _ rfl (set4w Y2.out)) rfl ⟨_, _, rfl, ?_, ?_⟩
      · exact ((((O2.out.set (by omega)).set (by omega)).set (by omega)).set (by omega)).base (by omega)
      · exact (((B2.out.setCell (by simp) _).setCell (by simp) _).setCell (by simp) _).setCell (by simp) _
end Go.Proofs.Ytfhfhpnoeghgmaa

/-
  Contracts: LogAppend of both.
-/
namespace Go.Proofs.Ytfhfhpnoeghgmaa
open Go.RowKit
set_option maxRecDepth 100000

def dkApp (d : Dk) (a q : Int) (t : ByteArray) : Dk × Int := if recRight q t = true then dkWrite d a (recBytes q t) else (⟨[], []⟩, 1)
theorem dkApp_no {d : Dk} {a q : Int} {t : ByteArray} (h : recRight q t = false) : dkApp d a q t = (⟨[], []⟩, 1) := by unfold dkApp; rw [h]; rfl
theorem dkApp_yes {d : Dk} {a q : Int} {t : ByteArray} (h : recRight q t = true) : dkApp d a q t = dkWrite d a (recBytes q t) := by unfold dkApp; rw [h]; rfl
theorem dkApp_fits {d : Dk} (a q : Int) (t : ByteArray) (h : dkFits d) : dkFits (dkApp d a q t).1 := by
  unfold dkApp
  split
  · exact dkWrite_fits a _ h
  · exact ⟨by simp, by simp⟩
set_option maxHeartbeats 8000000 in
theorem specLogAppend_any (b : Nat) (s c : Value) (d : Dk) (a q : Int) (t : ByteArray) (w : World) (hi : dkIn d) (hf : dkFits d) (ha : wI64 a) (hq : wI64 q) (h : OwnD b s c d w) :
    Calls Try.prog 20 #[.agg #[s, c], .int .i64 a, .agg #[.int .i64 q, .string t]] w fun e w' => ∃ s' c', e = .returned (.agg #[s', c', .string ⟨#[]⟩, .int .i64 (dkApp d a q t).2]) ∧ OwnD w.heap.size s' c' (dkApp d a q t).1 w' ∧ Below w.heap.size w w' := by
  obtain ⟨so, p, co, z, rfl, rfl, hr⟩ := h.row hi
  obtain ⟨n1, hn1⟩ : ∃ n, n = d.secs.length := ⟨_, rfl⟩
  obtain ⟨n2, hn2⟩ : ∃ n, n = d.cache.length := ⟨_, rfl⟩
  have HA := alloc3 w (.cells #[.slice so n1 p, .slice co n2 z] 26) (.cells #[.int .i64 q, .string t] 34) (.cells #[.slice none 0 0, .slice none 0 0, .string ⟨#[]⟩, .int .i64 0] 37)
  have B0 := hide ((((Below.refl w.heap.size w).alloc (Nat.le_refl _) (.cells #[.slice so n1 p, .slice co n2 z] 26)).alloc (by simp) (.cells #[.int .i64 q, .string t] 34)).alloc (by simp; omega) (.cells #[.slice none 0 0, .slice none 0 0, .string ⟨#[]⟩, .int .i64 0] 37))
  have X0 := hide HA.1
  have R0 := hide HA.2.1
  have Y0 := hide HA.2.2
  clear HA
  rw [← hn1, ← hn2] at h ⊢
  have HRR := hide (fun W => specRecordRight_any q t W)
  obtain ⟨x0, x1, xf⟩ := cells2 X0.out
  obtain ⟨r0, r1, rf⟩ := cells2 R0.out
  cases hrr : recRight q t with
  | false =>
    rw [dkApp_no hrr]
    rw [hrr] at HRR
    clear hi hf h hr hn1 hn2 hrr ha hq
    go_enter Try.func20, Try.ntmps20
    go_wp2_with (go_at_call 43; refine (HRR.out _).mono ?_; rintro e w1 ⟨rfl, b1⟩; have Y1 := hide ((b1.block (w.heap.size + 1 + 1) (blkR Y0.out)).trans Y0.out); have B1 := hide (B0.out.trans (b1.mono B0.out.size)); obtain ⟨y0, y1, y2, y3, yf⟩ := cells4 Y1.out; clear b1)
    refine bodyPost_ret (v := .agg #[.slice none 0 0, .slice none 0 0, .string ⟨#[]⟩, .int .i64 1]) (resOut Try.results20 _ _ (w.heap.size + 1 + 1) _ _ _ _ rfl (set4w Y1.out)) rfl ⟨_, _, rfl, ownD_emp _ _, ?_⟩
    exact (((B1.out.setCell (by show w.heap.size ≤ w.heap.size + 1 + 1; omega) _).setCell (by show w.heap.size ≤ w.heap.size + 1 + 1; omega) _).setCell (by show w.heap.size ≤ w.heap.size + 1 + 1; omega) _).setCell (by show w.heap.size ≤ w.heap.size + 1 + 1; omega) _
  | true =>
    rw [dkApp_yes hrr]
    rw [hrr] at HRR
    have HRB := hide (fun W => specRecordBytes_any q t W hq)
    have HL := recBytes_len q t
    have HDW := hide (fun (W : World) (hb : Below w.heap.size w W) => specDiskWrite_any _ _ _ d a (recBytes q t) W hi hf ha (h.below hb))
    generalize recBytes q t = TB at *
    generalize dkWrite d a TB = R at *
    obtain ⟨D, K⟩ := R
    simp only at *
    have hne1 : ¬ w.heap.size = w.heap.size + 1 + 1 := by omega
    have hne2 : ¬ w.heap.size + 1 + 1 = w.heap.size := by omega
    have hne3 : ¬ w.heap.size + 1 = w.heap.size + 1 + 1 := by omega
    have hne4 : ¬ w.heap.size + 1 + 1 = w.heap.size + 1 := by omega
    clear hi hf h hr hn1 hn2 hrr ha hq
    go_enter Try.func20, Try.ntmps20
    go_wp2_with (go_at_call 43; refine (HRR.out _).mono ?_; rintro e w1 ⟨rfl, b1⟩; have X1 := hide ((b1.block w.heap.size (blkR X0.out)).trans X0.out); have R1 := hide ((b1.block (w.heap.size + 1) (blkR R0.out)).trans R0.out); have Y1 := hide ((b1.block (w.heap.size + 1 + 1) (blkR Y0.out)).trans Y0.out); have B1 := hide (B0.out.trans (b1.mono B0.out.size)); clear b1 x0 x1 xf r0 r1 rf; obtain ⟨x0, x1, xf⟩ := cells2 X1.out; obtain ⟨r0, r1, rf⟩ := cells2 R1.out; obtain ⟨y0, y1, y2, y3, yf⟩ := cells4 Y1.out)
    go_region_held3 (fun W => (W.cell? ⟨w.heap.size, 0, none⟩ = some (.slice so n1 p) ∧ W.cell? ⟨w.heap.size, 1, none⟩ = some (.slice co n2 z)) ∧ (W.cell? ⟨w.heap.size + 1, 0, none⟩ = some (.int .i64 q) ∧ W.cell? ⟨w.heap.size + 1, 1, none⟩ = some (.string t))) (go_keep) (first
      | (go_at_call 19; refine (HRB.out _).mono ?_; rintro e w2 ⟨rfl, b2⟩; have X2 : Hid (w2.heap[w.heap.size]? = some (.cells #[.slice so n1 p, .slice co n2 z] 26 (0, 0))) := (b2.block w.heap.size (blkR X1.out)).trans X1.out; have R2 : Hid (w2.heap[w.heap.size + 1]? = some (.cells #[.int .i64 q, .string t] 34 (0, 0))) := (b2.block (w.heap.size + 1) (blkR R1.out)).trans R1.out; have Y2 : Hid (w2.heap[w.heap.size + 1 + 1]? = some (.cells #[.slice none 0 0, .slice none 0 0, .string ⟨#[]⟩, .int .i64 0] 37 (0, 0))) := (b2.block (w.heap.size + 1 + 1) (blkR Y1.out)).trans Y1.out; have B2 : Hid (Below w.heap.size w w2) := B1.out.drew.trans (b2.mono B1.out.size); have ax := cells2 X2.out; have ax0 := ax.1; have ax1 := ax.2.1; have ar := cells2 R2.out; have ar0 := ar.1; have ar1 := ar.2.1; clear b2 ax ar)
      | (go_at_call 29; refine (HDW.out _ B2.out).mono ?_; rintro e w3 ⟨s2, c2, rfl, o3, b3⟩; obtain ⟨so2, p2, co2, q2, rfl, rfl⟩ := o3.shape; have X3 : Hid (w3.heap[w.heap.size]? = some (.cells #[.slice so n1 p, .slice co n2 z] 26 (0, 0))) := (b3.block w.heap.size (blkR X2.out)).trans X2.out; have R3 : Hid (w3.heap[w.heap.size + 1]? = some (.cells #[.int .i64 q, .string t] 34 (0, 0))) := (b3.block (w.heap.size + 1) (blkR R2.out)).trans R2.out; have Y3 : Hid (w3.heap[w.heap.size + 1 + 1]? = some (.cells #[.slice none 0 0, .slice none 0 0, .string ⟨#[]⟩, .int .i64 0] 37 (0, 0))) := (b3.block (w.heap.size + 1 + 1) (blkR Y2.out)).trans Y2.out; have hl2 : w.heap.size + 1 + 1 < w2.heap.size := blkR Y2.out; have B3 : Hid (Below w.heap.size w w3) := B2.out.trans (b3.mono B2.out.size); have O3 := hide o3; have ax := cells2 X3.out; have bx0 := ax.1; have bx1 := ax.2.1; have ar := cells2 R3.out; have br0 := ar.1; have br1 := ar.2.1; obtain ⟨y0, y1, y2, y3, yf⟩ := cells4 Y3.out; clear b3 ax ar o3))
    all_goals
      go_wp2
      refine bodyPost_ret (v := .agg #[.slice so2 D.secs.length p2, .slice co2 D.cache.length q2, .string ⟨#[]⟩, .int .i64 K]) (resOut Try.results20 _ _ (w.heap.size + 1 + 1) _ _ _ _ rfl (set4w Y3.out)) rfl ⟨_, _, rfl, ?_, ?_⟩
      · exact ((((O3.out.set (by show w.heap.size + 1 + 1 < w2.heap.size; exact hl2)).set (by show w.heap.size + 1 + 1 < w2.heap.size; exact hl2)).set (by show w.heap.size + 1 + 1 < w2.heap.size; exact hl2)).set (by show w.heap.size + 1 + 1 < w2.heap.size; exact hl2)).base (by omega)
      · exact (((B3.out.setCell (by show w.heap.size ≤ w.heap.size + 1 + 1; omega) _).setCell (by show w.heap.size ≤ w.heap.size + 1 + 1; omega) _).setCell (by show w.heap.size ≤ w.heap.size + 1 + 1; omega) _).setCell (by show w.heap.size ≤ w.heap.size + 1 + 1; omega) _
set_option maxHeartbeats 8000000 in
theorem implLogAppend_any (b : Nat) (s c : Value) (d : Dk) (a q : Int) (t : ByteArray) (w : World) (hi : dkIn d) (hf : dkFits d) (hq : wI64 q) (h : OwnD b s c d w) :
    Calls Try.prog 17 #[.agg #[s, c], .int .i64 a, .agg #[.int .i64 q, .string t]] w fun e w' => ∃ s' c', e = .returned (.agg #[s', c', .string ⟨#[]⟩, .int .i64 (dkApp d a q t).2]) ∧ OwnD w.heap.size s' c' (dkApp d a q t).1 w' ∧ Below w.heap.size w w' := by
  obtain ⟨so, p, co, z, rfl, rfl, hr⟩ := h.row hi
  obtain ⟨n1, hn1⟩ : ∃ n, n = d.secs.length := ⟨_, rfl⟩
  obtain ⟨n2, hn2⟩ : ∃ n, n = d.cache.length := ⟨_, rfl⟩
  have HA := alloc3 w (.cells #[.slice so n1 p, .slice co n2 z] 26) (.cells #[.int .i64 q, .string t] 34) (.cells #[.slice none 0 0, .slice none 0 0, .string ⟨#[]⟩, .int .i64 0] 37)
  have B0 := hide ((((Below.refl w.heap.size w).alloc (Nat.le_refl _) (.cells #[.slice so n1 p, .slice co n2 z] 26)).alloc (by simp) (.cells #[.int .i64 q, .string t] 34)).alloc (by simp; omega) (.cells #[.slice none 0 0, .slice none 0 0, .string ⟨#[]⟩, .int .i64 0] 37))
  have X0 := hide HA.1
  have R0 := hide HA.2.1
  have Y0 := hide HA.2.2
  clear HA
  rw [← hn1, ← hn2] at h ⊢
  have HRR := hide (fun W => implRecordRight_any q t W)
  obtain ⟨x0, x1, xf⟩ := cells2 X0.out
  obtain ⟨r0, r1, rf⟩ := cells2 R0.out
  cases hrr : recRight q t with
  | false =>
    rw [dkApp_no hrr]
    rw [hrr] at HRR
    clear hi hf h hr hn1 hn2 hrr hq
    go_enter Try.func17, Try.ntmps17
    go_wp2_with (go_at_call 45; refine (HRR.out _).mono ?_; rintro e w1 ⟨rfl, b1⟩; have Y1 := hide ((b1.block (w.heap.size + 1 + 1) (blkR Y0.out)).trans Y0.out); have B1 := hide (B0.out.trans (b1.mono B0.out.size)); obtain ⟨y0, y1, y2, y3, yf⟩ := cells4 Y1.out; clear b1)
    refine bodyPost_ret (v := .agg #[.slice none 0 0, .slice none 0 0, .string ⟨#[]⟩, .int .i64 1]) (resOut Try.results17 _ _ (w.heap.size + 1 + 1) _ _ _ _ rfl (set4w Y1.out)) rfl ⟨_, _, rfl, ownD_emp _ _, ?_⟩
    exact (((B1.out.setCell (by show w.heap.size ≤ w.heap.size + 1 + 1; omega) _).setCell (by show w.heap.size ≤ w.heap.size + 1 + 1; omega) _).setCell (by show w.heap.size ≤ w.heap.size + 1 + 1; omega) _).setCell (by show w.heap.size ≤ w.heap.size + 1 + 1; omega) _
  | true =>
    rw [dkApp_yes hrr]
    rw [hrr] at HRR
    have HRB := hide (fun W => implRecordBytes_any q t W hq)
    have HL := recBytes_len q t
    have HDW := hide (fun (W : World) (hb : Below w.heap.size w W) => implDiskWrite_any _ _ _ d a (recBytes q t) W hi hf (by omega) (h.below hb))
    generalize recBytes q t = TB at *
    generalize dkWrite d a TB = R at *
    obtain ⟨D, K⟩ := R
    simp only at *
    have hne1 : ¬ w.heap.size = w.heap.size + 1 + 1 := by omega
    have hne2 : ¬ w.heap.size + 1 + 1 = w.heap.size := by omega
    have hne3 : ¬ w.heap.size + 1 = w.heap.size + 1 + 1 := by omega
    have hne4 : ¬ w.heap.size + 1 + 1 = w.heap.size + 1 := by omega
    clear hi hf h hr hn1 hn2 hrr hq
    go_enter Try.func17, Try.ntmps17
    go_wp2_with (go_at_call 45; refine (HRR.out _).mono ?_; rintro e w1 ⟨rfl, b1⟩; have X1 := hide ((b1.block w.heap.size (blkR X0.out)).trans X0.out); have R1 := hide ((b1.block (w.heap.size + 1) (blkR R0.out)).trans R0.out); have Y1 := hide ((b1.block (w.heap.size + 1 + 1) (blkR Y0.out)).trans Y0.out); have B1 := hide (B0.out.trans (b1.mono B0.out.size)); clear b1 x0 x1 xf r0 r1 rf; obtain ⟨x0, x1, xf⟩ := cells2 X1.out; obtain ⟨r0, r1, rf⟩ := cells2 R1.out; obtain ⟨y0, y1, y2, y3, yf⟩ := cells4 Y1.out)
    go_region_held3 (fun W => (W.cell? ⟨w.heap.size, 0, none⟩ = some (.slice so n1 p) ∧ W.cell? ⟨w.heap.size, 1, none⟩ = some (.slice co n2 z)) ∧ (W.cell? ⟨w.heap.size + 1, 0, none⟩ = some (.int .i64 q) ∧ W.cell? ⟨w.heap.size + 1, 1, none⟩ = some (.string t))) (go_keep) (first
      | (go_at_call 46; refine (HRB.out _).mono ?_; rintro e w2 ⟨rfl, b2⟩; have X2 : Hid (w2.heap[w.heap.size]? = some (.cells #[.slice so n1 p, .slice co n2 z] 26 (0, 0))) := (b2.block w.heap.size (blkR X1.out)).trans X1.out; have R2 : Hid (w2.heap[w.heap.size + 1]? = some (.cells #[.int .i64 q, .string t] 34 (0, 0))) := (b2.block (w.heap.size + 1) (blkR R1.out)).trans R1.out; have Y2 : Hid (w2.heap[w.heap.size + 1 + 1]? = some (.cells #[.slice none 0 0, .slice none 0 0, .string ⟨#[]⟩, .int .i64 0] 37 (0, 0))) := (b2.block (w.heap.size + 1 + 1) (blkR Y1.out)).trans Y1.out; have B2 : Hid (Below w.heap.size w w2) := B1.out.drew.trans (b2.mono B1.out.size); have ax := cells2 X2.out; have ax0 := ax.1; have ax1 := ax.2.1; have ar := cells2 R2.out; have ar0 := ar.1; have ar1 := ar.2.1; clear b2 ax ar)
      | (go_at_call 31; refine (HDW.out _ B2.out).mono ?_; rintro e w3 ⟨s2, c2, rfl, o3, b3⟩; obtain ⟨so2, p2, co2, q2, rfl, rfl⟩ := o3.shape; have X3 : Hid (w3.heap[w.heap.size]? = some (.cells #[.slice so n1 p, .slice co n2 z] 26 (0, 0))) := (b3.block w.heap.size (blkR X2.out)).trans X2.out; have R3 : Hid (w3.heap[w.heap.size + 1]? = some (.cells #[.int .i64 q, .string t] 34 (0, 0))) := (b3.block (w.heap.size + 1) (blkR R2.out)).trans R2.out; have Y3 : Hid (w3.heap[w.heap.size + 1 + 1]? = some (.cells #[.slice none 0 0, .slice none 0 0, .string ⟨#[]⟩, .int .i64 0] 37 (0, 0))) := (b3.block (w.heap.size + 1 + 1) (blkR Y2.out)).trans Y2.out; have hl2 : w.heap.size + 1 + 1 < w2.heap.size := blkR Y2.out; have B3 : Hid (Below w.heap.size w w3) := B2.out.trans (b3.mono B2.out.size); have O3 := hide o3; have ax := cells2 X3.out; have bx0 := ax.1; have bx1 := ax.2.1; have ar := cells2 R3.out; have br0 := ar.1; have br1 := ar.2.1; obtain ⟨y0, y1, y2, y3, yf⟩ := cells4 Y3.out; clear b3 ax ar o3))
    all_goals
      go_wp2
      refine bodyPost_ret (v := .agg #[.slice so2 D.secs.length p2, .slice co2 D.cache.length q2, .string ⟨#[]⟩, .int .i64 K]) (resOut Try.results17 _ _ (w.heap.size + 1 + 1) _ _ _ _ rfl (set4w Y3.out)) rfl ⟨_, _, rfl, ?_, ?_⟩
      · exact ((((O3.out.set (by show w.heap.size + 1 + 1 < w2.heap.size; exact hl2)).set (by show w.heap.size + 1 + 1 < w2.heap.size; exact hl2)).set (by show w.heap.size + 1 + 1 < w2.heap.size; exact hl2)).set (by show w.heap.size + 1 + 1 < w2.heap.size; exact hl2)).base (by omega)
      · exact (((B3.out.setCell (by show w.heap.size ≤ w.heap.size + 1 + 1; omega) _).setCell (by show w.heap.size ≤ w.heap.size + 1 + 1; omega) _).setCell (by show w.heap.size ≤ w.heap.size + 1 + 1; omega) _).setCell (by show w.heap.size ≤ w.heap.size + 1 + 1; omega) _
end Go.Proofs.Ytfhfhpnoeghgmaa

/-
  A flush by the program under way. Plain facts.
-/
namespace Go.Proofs.Ytfhfhpnoeghgmaa
open Go.RowKit
set_option maxRecDepth 100000

structure EI (w : World) (X : Array Value) (v c : Value) (g : Nat) (dv : Value) (bm gd n : Nat) (D : DataW Unit) (l : List ByteArray) (W : World) : Prop where
  fi : FI w X v c g l W
  drv : W.heap[gd]? = some (.cells #[dv, .map (some bm)] 108 (0, 0))
  map : W.ownsMap Try.prog 2 secR bm n D
  far : ∀ b, v.ownBlock = some b → b < bm ∧ b < gd
section
variable {w W W' : World} {X : Array Value} {v c dv : Value} {g e cap n bm gd m : Nat} {l : List ByteArray} {D : DataW Unit}
theorem EI.keep (h : EI w X v c g dv bm gd n D l W) (hb : Below W.heap.size W W') : EI w X v c g dv bm gd n D l W' :=
  ⟨h.fi.keep hb, (hb.block _ (blk_lt' h.drv)).trans h.drv, ownsMap_below h.map hb, h.far⟩
theorem EI.drew (h : EI w X v c g dv bm gd n D l W) : EI w X v c g dv bm gd n D l W.drew := h.keep (Below.refl _ _).drew
theorem EI.put (h : EI w X (.slice (some ⟨e, 0, none⟩) m cap) c g dv bm gd n D l W) (hn : m = l.length) (k : Nat) (x : ByteArray) (he : w.heap.size + 2 ≤ e) : EI w X (.slice (some ⟨e, 0, none⟩) m cap) c g dv bm gd n D (l.set k x) (W.setCell ⟨e, k, none⟩ (.string x)) := by
  have hf := h.far e rfl
  exact ⟨h.fi.put hn k x he, by rw [heap_far _ _ _ _ _ (by omega)]; exact h.drv, h.map.setCell (by simp; omega) _, h.far⟩
end
def mixL (fl ss : List ByteArray) (k : Nat) : List ByteArray := fl.take k ++ ss.drop k
theorem mixL_len {fl ss : List ByteArray} (h : fl.length = ss.length) {k : Nat} (hk : k ≤ ss.length) : (mixL fl ss k).length = ss.length := by
  simp [mixL, h]; omega
theorem mixL_next {fl ss : List ByteArray} (h : fl.length = ss.length) {k : Nat} (hk : k < ss.length) : mixL fl ss (k + 1) = (mixL fl ss k).set k (fl.getD k ByteArray.empty) := by
  unfold mixL
  rw [List.set_append_right _ _ (by simp; omega)]
  have hlen : (fl.take k).length = k := by simp; omega
  rw [hlen, Nat.sub_self, List.drop_eq_getElem_cons hk, List.set_cons_zero, List.getD_eq_getElem?_getD, List.getElem?_eq_getElem (by omega), Option.getD_some, List.take_succ_eq_append_getElem (by omega), List.append_assoc]
  rfl
theorem mixL_same {fl ss : List ByteArray} (h : fl.length = ss.length) {k : Nat} (hk : k < ss.length) (he : fl.getD k ByteArray.empty = ss.getD k ByteArray.empty) : mixL fl ss (k + 1) = mixL fl ss k := by
  rw [mixL_next h hk, he]
  unfold mixL
  rw [List.set_append_right _ _ (by simp; omega)]
  have hlen : (fl.take k).length = k := by simp; omega
  rw [hlen, Nat.sub_self, List.drop_eq_getElem_cons hk, List.set_cons_zero, List.getD_eq_getElem?_getD, List.getElem?_eq_getElem hk]
  rfl
end Go.Proofs.Ytfhfhpnoeghgmaa

/-
  Sectors held against each other as a whole. Plain facts.
-/
namespace Go.Proofs.Ytfhfhpnoeghgmaa
open Go.RowKit
set_option maxRecDepth 100000

theorem mapM_some {α β : Type} {f : α → Option β} {h : α → β} : ∀ (l : List α), (∀ i ∈ l, f i = some (h i)) → l.mapM f = some (l.map h)
  | [], _ => rfl
  | x :: r, hx => by
    rw [List.mapM_cons, hx x (by simp), mapM_some r (fun i hi => hx i (by simp [hi]))]
    rfl
theorem range_flat (g : Nat → Lit) (n : Nat) : ((List.range n).map fun i => [g i]).flatten = (List.range n).map g := by
  induction n with
  | zero => rfl
  | succ n ih => simp [List.range_succ, ih]
theorem u8_lit (b : UInt8) : (Lit.int .u8 (b.toNat : Int)).wf = true := by
  have := b.toNat_lt
  have h1 : IntKind.u8.min = 0 := by decide
  have h2 : IntKind.u8.max = 255 := by decide
  simp [Lit.wf, h1, h2]
  omega
theorem secLits (l : List UInt8) (hl : l.length = 64) : ∃ L, Try.prog.keyLits 3 92 (secV l).toList = some L := by
  have h1 : Try.prog.cellsOf 92 = 64 := by kernel_rfl
  have h2 : Try.prog.cellsOf 90 = 64 := by kernel_rfl
  have h3 : Try.prog.cellsOf 5 = 1 := by kernel_rfl
  have hc : (secV l).toList.length = 64 := by simp [secV, Lib.byteCells, hl]
  have ha : Try.prog.keyLits 2 90 (secV l).toList = some (((List.range 64).map fun i => [Lit.int .u8 ((l.getD i 0).toNat : Int)]).flatten) := by
    unfold Program.keyLits
    rw [Try.underlying90]
    simp only [hc, h2, h3, if_true]
    rw [mapM_some (h := fun i => [Lit.int .u8 ((l.getD i 0).toNat : Int)])]
    · rfl
    · intro i hi
      have hi' : i < l.length := by rw [hl]; simpa using hi
      have hd : (List.drop (i * 1) (secV l).toList).take 1 = [Value.int .u8 ((l.getD i 0).toNat : Int)] := by
        rw [Nat.mul_one]
        unfold secV Lib.byteCells
        rw [← List.map_drop, ← List.map_take, List.drop_eq_getElem_cons hi', List.take_succ_cons, List.take_zero, List.getD_eq_getElem?_getD, List.getElem?_eq_getElem hi']
        rfl
      rw [hd]
      unfold Program.keyLits
      rw [Try.underlying5]
      simp [u8_lit]
  unfold Program.keyLits
  rw [Try.underlying92]
  simp only [hc, h1, true_and]
  rw [if_pos (by simp)]
  simp only [List.mapM_cons, List.mapM_nil, h2, List.drop_zero, List.take_of_length_le (Nat.le_of_eq hc), ha]
  exact ⟨_, rfl⟩
theorem sec_neq (a b : List UInt8) (ha : a.length = 64) (hb : b.length = 64) (W : World) : (binOp .neq 92 (.agg (secV a)) (.agg (secV b))).run Try.prog W = .ok (.bool (!decide (a = b))) W := by
  obtain ⟨la, hla⟩ := secLits a ha
  obtain ⟨lb, hlb⟩ := secLits b hb
  have hk : Try.prog.keyTypeAt 3 92 = true := by kernel_rfl
  have fm : ∀ l : List UInt8, l.length = 64 → (Value.agg (secV l)).formed Try.prog 92 = true := fun l hl => by
    have h1 : Try.prog.cellsOf 92 = 64 := by kernel_rfl
    unfold Value.formed
    rw [Try.underlying92]
    simp [h1, secV_size, hl]
  obtain ⟨r, hr, hiff⟩ := run_equalIn_deep 9997 3 92 hk W 3 3 (.agg (secV a)) (.agg (secV b)) la lb (fm a ha) (fm b hb) hla hlb
  rw [run_neq_struct, hr]
  have ht : Try.prog.tiled 3 92 = true := by kernel_rfl
  have hab : la = lb ↔ a = b := by
    refine ⟨fun e => ?_, fun e => ?_⟩
    · subst e
      have e1 := cells_of_lits 3 _ ht 3 _ _ hla
      have e2 := cells_of_lits 3 _ ht 3 _ _ hlb
      have e3 : (secV a).toList = (secV b).toList := e1.trans e2.symm
      exact secV_inj (by rw [show secV a = secV b from Array.toList_inj.1 e3])
    · subst e
      rw [hla] at hlb
      exact Option.some.inj hlb
  have hrr : r = decide (a = b) := by
    cases r
    · have : ¬ a = b := fun e => by have := hiff.2 (hab.2 e); cases this
      simp [this]
    · have : a = b := hab.1 (hiff.1 rfl)
      simp [this]
  rw [hrr]
  rfl
end Go.Proofs.Ytfhfhpnoeghgmaa

/-
  Contract: DiskFlush of the program.
-/
namespace Go.Proofs.Ytfhfhpnoeghgmaa
open Go.RowKit
set_option maxRecDepth 100000

theorem exec_load_row {P : Program} {W : World} {ev : Operand → Value} {o : Oper} (ty : TypeId) (x : Operand) (ho : o.op = .load ty x) (g : Nat) (hx : ev x = .pointer (some ⟨g, 0, none⟩)) (t : TypeId) (cs : Array Value) (fr : Nat × Nat) (d : TypeDesc)
    (hg : W.heap[g]? = some (.cells cs t fr)) (hu : P.underlying ty = some d) (hd : (match d with | .struct _ | .array _ _ => true | _ => false) = true) (hi : (P.info? ty).map (·.size) = some cs.size) : (execOp ev o).run P W = .ok (.value (.agg cs)) W := by
  unfold execOp
  simp only [ho, hx, Instr.loadAt, Instr.sureAddr, Sem.run_bind, Sem.run_pure, Result.andThen_ok, run_loadVar_row W g t ty cs fr d hg hu hd hi]
theorem exec_neq_sec {W : World} {ev : Operand → Value} {o : Oper} {r : Bool} (x y : Operand) (ho : o.op = .binOp .neq 92 x y 92) (a b : List UInt8) (hx : ev x = .agg (secV a)) (hy : ev y = .agg (secV b)) (hn : (binOp .neq 92 (.agg (secV a)) (.agg (secV b))).run Try.prog W = .ok (.bool r) W) :
    (execOp ev o).run Try.prog W = .ok (.value (.bool r)) W := by
  have hm : Try.prog.eqGuardType Try.prog.depth 92 = false := by kernel_rfl
  unfold execOp
  simp only [ho, hx, hy, Sem.run_bind, run_eqGuard_agg W _ _ _ _ _ _ hm, Result.andThen_ok, hn, Sem.run_pure]
set_option maxHeartbeats 8000000 in
theorem implDiskFlush_any (b : Nat) (s c : Value) (d : Dk) (w : World) (hi : dkIn d) (hf : dkFits d) (h : OwnD b s c d w) :
    Calls Try.prog 37 #[.agg #[s, c]] w fun e w' => ∃ s' c', e = .returned (.agg #[s', c']) ∧ OwnD w.heap.size s' c' (dkFlush d) w' ∧ Below w.heap.size w w' := by
  obtain ⟨so, p, co, q, rfl, rfl, hr⟩ := h.row hi
  have HA := two_allocs w (.cells #[.slice so d.secs.length p, .slice co d.cache.length q] 26) (.cells #[.slice none 0 0, .slice none 0 0] 26)
  have B0 := hide (((Below.refl w.heap.size w).alloc (Nat.le_refl _) (.cells #[.slice so d.secs.length p, .slice co d.cache.length q] 26)).alloc (by simp) (.cells #[.slice none 0 0, .slice none 0 0] 26))
  have X0 := hide HA.1
  have Y0 := hide HA.2.1
  have HSP := hide (fun (W : World) (hb : Below w.heap.size w W) => implDiskRight_any _ _ so p co q d W hb.size (hr.kept hb))
  have HCP := hide (fun (W : World) (hb : Below w.heap.size w W) => copyDisk_own _ _ _ d W hf (h.below hb))
  obtain ⟨x0, x1, xf⟩ := cells2 X0.out
  clear HA
  cases hdr : dkRight d with
  | false =>
    rw [dkFlush_n hdr]
    rw [hdr] at HSP
    obtain ⟨ss, cs⟩ := d
    simp only at *
    clear hi hf h hr hdr
    go_enter Try.func37, Try.ntmps37
    go_wp2_with (first | (go_at_call 67; refine (HCP.out _ B0.out).mono ?_; rintro e w1 ⟨s3, c3, rfl, o1, b1⟩; obtain ⟨so3, p3, co3, q3, rfl, rfl⟩ := o1.shape; have O1 := hide (o1.base (show w.heap.size + 2 ≤ _ from blk_lt' Y0.out)); have F2 := hide (FI.start2 (c := .slice co3 cs.length q3) (B0.out.trans (b1.mono B0.out.size)) ((b1.block _ (blk_lt' X0.out)).trans X0.out) ((b1.block _ (blk_lt' Y0.out)).trans Y0.out) O1.out.secs); have O2 := hide (O1.out.below ((Below.refl w1.heap.size w1).alloc (Nat.le_refl _) (.cells #[.slice so3 ss.length p3, .slice co3 cs.length q3] 26))); clear x0 x1 xf o1 b1 O1; obtain ⟨x0, x1, xf⟩ := cells2 F2.out.par) | (go_at_call 55; refine (HSP.out _ F2.out.below).mono ?_; rintro e w3 ⟨rfl, b3⟩; have F3 := hide (F2.out.keep b3); have O3 := hide (O2.out.below b3); clear x0 x1 xf b3 O2; obtain ⟨x0, x1, xf⟩ := cells2 F3.out.par; obtain ⟨g0, g1, gf⟩ := cells2 F3.out.var; obtain ⟨r0, r1, rf⟩ := cells2 F3.out.res))
    refine bodyPost_ret (v := .agg #[.slice so3 ss.length p3, .slice co3 cs.length q3]) (resDisk Try.results37 _ _ (w.heap.size + 1) _ _ rfl (set2 F3.out.res)) rfl ⟨_, _, rfl, ?_, ?_⟩
    · exact ((O3.out.set (by omega)).set (by omega)).base (by omega)
    · exact (F3.out.below.setCell (by simp) _).setCell (by simp) _
  | true =>
    rw [dkFlush_y hdr]
    rw [hdr] at HSP
    have hbd := dkRight_bounds hdr
    have HD := hide (fun (W : World) (hb : Below w.heap.size w W) => driveOf_any _ _ so p co q d W hb.size (by omega) (hr.kept hb))
    have HH := hide (fun (bm n k : Nat) (W : World) (hk : k < d.secs.length) (hb : Below w.heap.size w W) (hM : W.ownsMap Try.prog 2 secR bm n (cacheD d.cache)) => has_any _ _ so p bm n d k W hb.size hk hdr hbd.1 (hr.2.1.kept hb) hM)
    have HLI := hide (fun (bm k : Nat) (W : World) (hk : k < d.secs.length) (hb : Below w.heap.size w W) => lies_any _ _ so p bm d.secs k W hb.size hk (hr.2.1.kept hb))
    have hlenF : (flushL d.secs d.cache).length = d.secs.length := flushL_len _ _
    have H64 : Hid (∀ i, i < d.secs.length → ((flushL d.secs d.cache).getD i ByteArray.empty).size = 64) := by rw [← hlenF]; exact flush64 hdr
    have HS64 := hide (dkRight_secs hdr)
    have HNX := hide (fun k (hk : k < d.secs.length) => mixL_next hlenF hk)
    have HSM := hide (fun k (hk : k < d.secs.length) he => mixL_same hlenF hk he)
    have HML := hide (fun k (hk : k ≤ d.secs.length) => mixL_len hlenF hk)
    have HM0 : Hid (mixL (flushL d.secs d.cache) d.secs 0 = d.secs) := by show _ = _; simp [mixL]
    have HMN : Hid (mixL (flushL d.secs d.cache) d.secs d.secs.length = flushL d.secs d.cache) := by show _ = _; simp [mixL, ← hlenF]
    have hz := zero_of_info Try.infoSec
    have hzz := hz.1
    have HI64 := hide hz.2
    obtain ⟨ss, cs⟩ := d
    simp only at *
    generalize flushL ss cs = fl at *
    generalize cacheD cs = CD at *
    generalize mixL fl ss = MX at *
    have HLF := hide hlenF
    clear hi hf h hr hdr hlenF hz
    obtain ⟨hb1, hb2⟩ := hbd
    go_enter Try.func37, Try.ntmps37
    go_wp2_with (first | (go_at_call 67; refine (HCP.out _ B0.out).mono ?_; rintro e w1 ⟨s3, c3, rfl, o1, b1⟩; obtain ⟨so3, p3, co3, q3, rfl, rfl⟩ := o1.shape; have O1 := hide (o1.base (show w.heap.size + 2 ≤ _ from blk_lt' Y0.out)); have F2 := hide (FI.start2 (c := .slice co3 cs.length q3) (B0.out.trans (b1.mono B0.out.size)) ((b1.block _ (blk_lt' X0.out)).trans X0.out) ((b1.block _ (blk_lt' Y0.out)).trans Y0.out) O1.out.secs); have O2 := hide (O1.out.below ((Below.refl w1.heap.size w1).alloc (Nat.le_refl _) (.cells #[.slice so3 ss.length p3, .slice co3 cs.length q3] 26))); clear x0 x1 xf o1 b1 O1; obtain ⟨x0, x1, xf⟩ := cells2 F2.out.par) | (go_at_call 55; refine (HSP.out _ F2.out.below).mono ?_; rintro e w3 ⟨rfl, b3⟩; have F3 := hide (F2.out.keep b3); have O3 := hide (O2.out.below b3); clear x0 x1 xf b3 O2; obtain ⟨x0, x1, xf⟩ := cells2 F3.out.par; obtain ⟨g0, g1, gf⟩ := cells2 F3.out.var; obtain ⟨r0, r1, rf⟩ := cells2 F3.out.res) | (go_at_call 87; refine (HD.out _ F3.out.below).mono ?_; rintro e w4 ⟨bm, rfl, M4, hbm, b4⟩; have F4 := hide (F3.out.keep b4); have M4' := hide M4; have HBM := hide hbm; have FA := hide (F4.out.keep ((Below.refl w4.heap.size w4).alloc (Nat.le_refl _) (.cells #[.slice so ss.length p, .map (some bm)] 108))); clear x0 x1 xf g0 g1 gf M4 hbm; obtain ⟨g0, g1, gf⟩ := cells2 FA.out.var; have HB4 := hide b4; clear b4))
    have E5 : Hid (EI w #[.slice so ss.length p, .slice co cs.length q] (.slice so3 ss.length p3) (.slice co3 cs.length q3) w1.heap.size (.slice so ss.length p) bm w4.heap.size cs.length CD (MX 0) (w4.alloc (.cells #[.slice so ss.length p, .map (some bm)] 108))) := by
      rw [HM0.out]
      refine ⟨FA.out, heap_alloc_new _ _, ownsMap_below M4'.out ((Below.refl _ _).alloc (Nat.le_refl _) _), fun b hb => ?_⟩
      have h1 := (World.ownsRow.lt F3.out.secs b hb).2
      have h2 := HBM.out
      have h3 := HB4.out.size
      omega
    clear FA M4' HBM F4 F3 F2 B0 X0 Y0 HB4 HM0 O3 g0 g1 gf
    generalize w4.heap.size = gd at *
    generalize w1.heap.size = g at *
    go_loopw [18] (fun i wr => ∃ k : Nat, k ≤ ss.length ∧ i = .int .i64 k ∧ Hid (EI w #[.slice so ss.length p, .slice co cs.length q] (.slice so3 ss.length p3) (.slice co3 cs.length q3) g (.slice so ss.length p) bm gd cs.length CD (MX k) wr)) (fun i _ => ss.length - (intOf i).toNat)
    case atStart => exact ⟨0, Nat.zero_le _, rfl, E5⟩
    case round =>
      obtain ⟨k, hk, rfl, G⟩ := hrel
      clear E5
      by_cases hlt : k < ss.length
      · obtain ⟨v0, v1, vf⟩ := cells2 G.out.drv
        have HC := hide (HH.out bm _ k wr hlt G.out.fi.below G.out.map)
        have HLL := hide (fun (W : World) (hb : Below w.heap.size w W) => HLI.out bm k W hlt hb)
        have hF : (fl.getD k ByteArray.empty).data.toList.length = 64 := H64.out k hlt
        have hY : (ss.getD k ByteArray.empty).data.toList.length = 64 := HS64.out k hlt
        rw [pad_full hY] at HLL
        have hnq := sec_neq _ _ hF hY
        have HNK := HNX.out k hlt
        have HSK := hide (HSM.out k hlt)
        have HLK := HML.out k (by omega)
        have HNKH := hide HNK
        have HLKH := hide HLK
        have hmkF : mkS (fl.getD k ByteArray.empty).data.toList = fl.getD k ByteArray.empty := mkS_data _
        have HST := hide (fun W => sectorText_any _ hF W)
        rw [hmkF] at HST
        have HF64 : Hid ((secV (fl.getD k ByteArray.empty).data.toList).size = 64) := by show _ = _; rw [secV_size]; exact hF
        have HZ64 : Hid ((secV zSec).size = 64) := by show _ = _; rw [secV_size, zSec_len]
        have hinj : (fl.getD k ByteArray.empty).data.toList = (ss.getD k ByteArray.empty).data.toList → fl.getD k ByteArray.empty = ss.getD k ByteArray.empty := fun e => by rw [← mkS_data (fl.getD k ByteArray.empty), e, mkS_data]
        have HINJ := hide hinj
        clear hinj hmkF hF hY HNK HLK
        generalize fl.getD k ByteArray.empty = F at *
        generalize ss.getD k ByteArray.empty = Y at *
        go_wp2_with (first | (go_at_call 89; refine HC.out.mono ?_; rintro e w6 ⟨rfl, b6⟩; have G6 := hide (G.out.keep b6); have N7 := hide (heap_alloc_new w6 (.cells (secV zSec) 92)); clear b6) | (refine wpList_store_row rfl 92 _ _ rfl w6.heap.size _ rfl rfl 92 _ N7.out (by rw [HF64.out]; exact HI64.out) (by rw [HF64.out, HZ64.out]) (secV_one _) ?_))
        have T8 := hide (setRow_heap _ _ _ (secV F.data.toList) _ _ N7.out)
        have G8 := hide (G6.out.keep (below_setRow ((Below.refl w6.heap.size w6).alloc (Nat.le_refl _) (.cells (secV zSec) 92)) (Nat.le_refl _) (secV F.data.toList))).drew
        have HGT := hide (blk_lt' G6.out.drv)
        clear N7 G6 HC v0 v1 vf G
        generalize (w6.alloc (.cells (secV zSec) 92)).setRow w6.heap.size (secV F.data.toList) = w8 at *
        generalize w6.heap.size = t6 at *
        refine wp_region_noPanic ?_
        have T8d : w8.drew.heap[t6]? = some (.cells (secV F.data.toList) 92 (0, 0)) := T8.out
        have T9 := hide T8d
        clear T8 T8d
        refine wp_region_held_drew (S := fun W => W.heap[t6]? = some (.cells (secV F.data.toList) 92 (0, 0)) ∧ W.heap[gd]? = some (.cells #[.slice so ss.length p, .map (some bm)] 108 (0, 0))) (by kernel_rfl) ⟨T9.out, G8.out.drv⟩ (fun hS1 => ?_)
        generalize w8.drew = w9 at *
        refine takeD 0 24 (v := .agg (secV F.data.toList)) rfl rfl (by kernel_rfl) (by kernel_rfl) (by kernel_rfl) (fun _ _ _ h => h) (by kernel_rfl) ?hy1 (by assumption) ?r1
        case hy1 => (intro W hSw; exact exec_load_row 92 (.tmp 6) (by rfl) t6 (by rfl) 92 _ (0, 0) _ (hSw.1) Try.underlying92 rfl (by rw [HF64.out]; exact HI64.out))
        simp only [Act.put, List.setIfInBounds_toArray, List.set_cons_zero, List.set_cons_succ]
        refine takeD 1 25 (v := ?v2) rfl rfl (by kernel_rfl) (by kernel_rfl) (by kernel_rfl) (fun _ _ _ h => h) (by kernel_rfl) ?hy2 (by assumption) ?r2
        case hy2 => (intro W hSw; obtain ⟨a0, a1, af⟩ := cells2 hSw.2; go_simp; try with_reducible rfl)
        simp only [Act.put, List.setIfInBounds_toArray, List.set_cons_zero, List.set_cons_succ]
        refine takeD 2 26 (v := ?v3) rfl rfl (by kernel_rfl) (by kernel_rfl) (by kernel_rfl) (fun _ _ _ h => h) (by kernel_rfl) ?hy3 (by assumption) ?r3
        case hy3 => (intro W hSw; go_simp; try with_reducible rfl)
        simp only [Act.put, List.setIfInBounds_toArray, List.set_cons_zero, List.set_cons_succ]
        refine wpAnyH_ready (rs := [3]) (by kernel_rfl) (by simp) ?_
        refine AllReadyH.cons (o := _) rfl (fun K hK => ?_) AllReadyH.nil
        go_simp
        go_at_call 90
        refine (HLL.out _ G8.out.fi.below).mono ?_
        rintro e w10 ⟨rfl, b10⟩
        have G10 := hide (G8.out.keep b10)
        have T10 := hide ((b10.block _ (blk_lt' T9.out)).trans T9.out)
        clear b10 G8 T9
        go_wp2_with fail
        refine hK.out _ _ ⟨T10.out, G10.out.drv⟩ (fun hS2 => ?_)
        clear hK K hS1
        try simp only [Act.put, List.setIfInBounds_toArray, List.set_cons_zero, List.set_cons_succ]
        by_cases heq : F.data.toList = Y.data.toList
        · have hn2 : ∀ W : World, (binOp .neq 92 (.agg (secV F.data.toList)) (.agg (secV Y.data.toList))).run Try.prog W = .ok (.bool false) W := fun W => by have := hnq W; simpa [heq] using this
          clear hnq
          refine takeD 4 28 (v := .bool false) rfl rfl (by kernel_rfl) (by kernel_rfl) (by kernel_rfl) (fun _ _ _ h => h) (by kernel_rfl) ?hy4 (by assumption) ?r4
          case hy4 => (intro W hSw; exact exec_neq_sec (.tmp 24) (.tmp 27) (by rfl) _ _ (by rfl) (by rfl) (hn2 W))
          simp only [Act.put, List.setIfInBounds_toArray, List.set_cons_zero, List.set_cons_succ]
          refine wpAnyH_done (by kernel_rfl) ?_ _
          refine NoPanic.normal ?_
          clear hS2 hn2
          have GN : Hid (EI w #[.slice so ss.length p, .slice co cs.length q] (.slice so3 ss.length p3) (.slice co3 cs.length q3) g (.slice so ss.length p) bm gd cs.length CD (MX (k + 1)) w10) := by rw [HSK.out (HINJ.out heq)]; exact G10.out
          clear G10 T10 heq
          go_wp2
          go_roundw
          case rel => exact ⟨k + 1, by omega, by go_num, GN⟩
          case measure => simp [intOf]; omega
        · have hn2 : ∀ W : World, (binOp .neq 92 (.agg (secV F.data.toList)) (.agg (secV Y.data.toList))).run Try.prog W = .ok (.bool true) W := fun W => by have := hnq W; simpa [heq] using this
          clear hnq
          refine takeD 4 28 (v := .bool true) rfl rfl (by kernel_rfl) (by kernel_rfl) (by kernel_rfl) (fun _ _ _ h => h) (by kernel_rfl) ?hy5 (by assumption) ?r5
          case hy5 => (intro W hSw; exact exec_neq_sec (.tmp 24) (.tmp 27) (by rfl) _ _ (by rfl) (by rfl) (hn2 W))
          simp only [Act.put, List.setIfInBounds_toArray, List.set_cons_zero, List.set_cons_succ]
          refine wpAnyH_done (by kernel_rfl) ?_ _
          refine NoPanic.normal ?_
          clear hS2 hn2
          obtain ⟨e, rfl, he, heg, hef, hec⟩ := G10.out.fi.cell (by rw [HLKH.out]; omega)
          have hft : e < t6 := Nat.lt_trans (G10.out.far e rfl).2 HGT.out
          clear hec hef heq
          go_wp2
          refine wp_region_noPanic ?_
          have G11 := hide G10.out.drew
          have T11 : Hid (w10.drew.heap[t6]? = some (.cells (secV F.data.toList) 92 (0, 0))) := T10.out
          clear G10 T10
          refine wp_region_held_drew (S := fun W => W.heap[t6]? = some (.cells (secV F.data.toList) 92 (0, 0)) ∧ W.heap[g]? = some (.cells #[.slice (some ⟨e, 0, none⟩) ss.length p3, .slice co3 cs.length q3] 26 (0, 0))) (by kernel_rfl) ⟨T11.out, G11.out.fi.var⟩ (fun hS3 => ?_)
          generalize w10.drew = w11 at *
          refine takeD 0 29 (v := ?v6) rfl rfl (by kernel_rfl) (by kernel_rfl) (by kernel_rfl) (fun _ _ _ h => h) (by kernel_rfl) ?hy6 (by assumption) ?r6
          case hy6 => (intro W hSw; go_simp; try with_reducible rfl)
          simp only [Act.put, List.setIfInBounds_toArray, List.set_cons_zero, List.set_cons_succ]
          refine takeD 1 30 (v := ?v7) rfl rfl (by kernel_rfl) (by kernel_rfl) (by kernel_rfl) (fun _ _ _ h => h) (by kernel_rfl) ?hy7 (by assumption) ?r7
          case hy7 => (intro W hSw; obtain ⟨a0, a1, af⟩ := cells2 hSw.2; go_simp; try with_reducible rfl)
          simp only [Act.put, List.setIfInBounds_toArray, List.set_cons_zero, List.set_cons_succ]
          refine takeD 2 31 (v := ?v8) rfl rfl (by kernel_rfl) (by kernel_rfl) (by kernel_rfl) (fun _ _ _ h => h) (by kernel_rfl) ?hy8 (by assumption) ?r8
          case hy8 => (intro W hSw; go_simp; try with_reducible rfl)
          simp only [Act.put, List.setIfInBounds_toArray, List.set_cons_zero, List.set_cons_succ]
          refine takeD 3 32 (v := .agg (secV F.data.toList)) rfl rfl (by kernel_rfl) (by kernel_rfl) (by kernel_rfl) (fun _ _ _ h => h) (by kernel_rfl) ?hy9 (by assumption) ?r9
          case hy9 => (intro W hSw; exact exec_load_row 92 (.tmp 6) (by rfl) t6 (by rfl) 92 _ (0, 0) _ (hSw.1) Try.underlying92 rfl (by rw [HF64.out]; exact HI64.out))
          simp only [Act.put, List.setIfInBounds_toArray, List.set_cons_zero, List.set_cons_succ]
          refine wpAnyH_ready (rs := [4]) (by kernel_rfl) (by simp) ?_
          refine AllReadyH.cons (o := _) rfl (fun K hK => ?_) AllReadyH.nil
          go_simp
          go_at_call 70
          refine (HST.out _).mono ?_
          rintro e' w12 ⟨rfl, b12⟩
          have G12 := hide (G11.out.keep b12)
          have T12 := hide ((b12.block _ (blk_lt' T11.out)).trans T11.out)
          clear b12 G11 T11
          go_wp2_with fail
          refine hK.out _ _ ⟨T12.out, G12.out.fi.var⟩ (fun hS4 => ?_)
          clear hK K hS3
          try simp only [Act.put, List.setIfInBounds_toArray, List.set_cons_zero, List.set_cons_succ]
          refine takeD 5 34 (v := ?v10) rfl rfl (by kernel_rfl) (by kernel_rfl) (by kernel_rfl) (fun _ _ _ h => h) (by kernel_rfl) ?hy10 (by assumption) ?r10
          case hy10 => (intro W hSw; go_simp; try with_reducible rfl)
          simp only [Act.put, List.setIfInBounds_toArray, List.set_cons_zero, List.set_cons_succ]
          refine wpAnyH_ready (rs := [6]) (by kernel_rfl) (by simp) ?_
          refine AllReadyH.cons (o := _) rfl (fun K hK => ?_) AllReadyH.nil
          have GN : Hid (EI w #[.slice so ss.length p, .slice co cs.length q] (.slice (some ⟨e, 0, none⟩) ss.length p3) (.slice co3 cs.length q3) g (.slice so ss.length p) bm gd cs.length CD (MX (k + 1)) (w12.setCell ⟨e, k, none⟩ (.string F))) := by rw [HNKH.out]; exact G12.out.put HLKH.out.symm k F he
          have TN : Hid ((w12.setCell ⟨e, k, none⟩ (.string F)).heap[t6]? = some (.cells (secV F.data.toList) 92 (0, 0))) := (heap_far _ _ _ _ _ (by omega)).trans T12.out
          obtain ⟨e2, he2, _, _, hef, hec⟩ := G12.out.fi.cell (by rw [HLKH.out]; omega)
          have he3 : e2 = e := by injection he2 with h; injection h with h; exact h.symm
          subst he3
          have hcm := hec k (by rw [HLKH.out]; exact hlt)
          have hfm := hef k
          clear hec hef he2 hS4
          go_simp
          refine hK.out _ _ ⟨TN.out, GN.out.fi.var⟩ (fun hS5 => ?_)
          clear hK K hcm hfm hS5 TN T12 G12
          refine wpAnyH_done (by kernel_rfl) ?_ _
          refine NoPanic.normal ?_
          generalize w12.setCell ⟨_, k, none⟩ (.string F) = w13 at *
          go_wp2
          go_roundw
          case rel => exact ⟨k + 1, by omega, by go_num, GN⟩
          case measure => simp [intOf]; omega
      · obtain rfl : k = ss.length := by omega
        rw [HMN.out] at G
        obtain ⟨g0, g1, gf⟩ := cells2 G.out.fi.var
        have hgap := G.out.fi.gap.1
        have GE : (wr.setCell ⟨g, 1, none⟩ (.slice none 0 0)).heap[g]? = some (.cells #[.slice so3 ss.length p3, .slice none 0 0] 26 (0, 0)) := heap_setCell_same wr g 1 _ _ _ G.out.fi.var
        have RE : (wr.setCell ⟨g, 1, none⟩ (.slice none 0 0)).heap[w.heap.size + 1]? = some (.cells #[.slice none 0 0, .slice none 0 0] 26 (0, 0)) := by rw [heap_far _ _ _ _ _ (by omega)]; exact G.out.fi.res
        have OE : OwnS (w.heap.size + 2) (.slice so3 ss.length p3) fl (wr.setCell ⟨g, 1, none⟩ (.slice none 0 0)) := ownsRow_setCell_other G.out.fi.secs (a := ⟨g, 1, none⟩) G.out.fi.gap.2 _
        have BE : Below w.heap.size w (wr.setCell ⟨g, 1, none⟩ (.slice none 0 0)) := G.out.fi.below.setCell (by simp; omega) _
        have GEH := hide GE
        have REH := hide RE
        have OEH := hide OE
        have BEH := hide BE
        obtain ⟨h0, h1, hf'⟩ := cells2 GEH.out
        obtain ⟨r0, r1, rf⟩ := cells2 REH.out
        clear GE RE OE BE hgap G HMN
        go_wp2
        exact bodyPost_ret (v := .agg #[.slice so3 ss.length p3, .slice none 0 0]) (resDisk Try.results37 _ _ (w.heap.size + 1) _ _ rfl (set2 REH.out)) rfl ⟨_, _, rfl, ⟨owns_base (own_set (own_set OEH.out (by omega)) (by omega)) (by omega), ownW_nil _ _, (by cases so3 with | none => exact .inl rfl | some x => exact .inr (by simp [Value.ownBlock]))⟩, (BEH.out.setCell (by simp) _).setCell (by simp) _⟩
end Go.Proofs.Ytfhfhpnoeghgmaa

/-
  Contract: DiskCrash of the program.
-/
namespace Go.Proofs.Ytfhfhpnoeghgmaa
open Go.RowKit
set_option maxRecDepth 100000

theorem keptN_mem {cs : List Wr} {kl : List Bool} : ∀ k, k ≤ cs.length → ∀ x ∈ keptN cs kl k, x ∈ cs
  | 0, _, x, hx => by simp [keptN] at hx
  | k + 1, hk, x, hx => by
    unfold keptN at hx
    split at hx
    · rcases List.mem_append.1 hx with h | h
      · exact keptN_mem k (by omega) x h
      · rw [List.mem_singleton.1 h]; exact getD_mem cs noWr k (by omega)
    · exact keptN_mem k (by omega) x hx
theorem kept_right {d : Dk} (kl : List Bool) (h : dkRight d = true) : dkRight ⟨d.secs, keptN d.cache kl d.cache.length⟩ = true := by
  have hb := dkRight_bounds h
  have hl := keptN_len d.cache kl d.cache.length
  refine dkRight_yes hb.1 (by show (keptN d.cache kl d.cache.length).length ≤ 400; omega) ?_ ?_
  · unfold dkRight at h
    simp only [Bool.and_eq_true] at h
    exact h.1.2
  · refine (upto_iff _ _).2 (fun i hi => ?_)
    have hm := keptN_mem (kl := kl) d.cache.length (Nat.le_refl _) _ (List.getElem_mem hi)
    have hc := dkRight_cache h _ hm
    unfold wrOk
    simp only
    rw [List.getD_eq_getElem?_getD, List.getElem?_eq_getElem hi]
    simp [hc]
set_option maxHeartbeats 8000000 in
theorem implDiskCrash_any (b b2 : Nat) (s c kv : Value) (d : Dk) (kl : List Bool) (w : World) (hi : dkIn d) (hf : dkFits d) (hkm : kl.length ≤ 1048576) (h : OwnD b s c d w) (hkv : OwnL b2 kv kl w) :
    Calls Try.prog 21 #[.agg #[s, c], kv] w fun e w' => ∃ s' c', e = .returned (.agg #[s', c']) ∧ OwnD w.heap.size s' c' (dkCrash d kl) w' ∧ Below w.heap.size w w' := by
  obtain ⟨so, p, co, q, rfl, rfl, hr⟩ := h.row hi
  obtain ⟨ko, kr, rfl, _⟩ := ownL_shape hkv
  obtain ⟨n1, hn1⟩ : ∃ n, n = d.secs.length := ⟨_, rfl⟩
  obtain ⟨n2, hn2⟩ : ∃ n, n = d.cache.length := ⟨_, rfl⟩
  have HA := two_allocs w (.cells #[.slice so n1 p, .slice co n2 q] 26) (.cells #[.slice none 0 0, .slice none 0 0] 26)
  have B0 := hide (((Below.refl w.heap.size w).alloc (Nat.le_refl _) (.cells #[.slice so n1 p, .slice co n2 q] 26)).alloc (by simp) (.cells #[.slice none 0 0, .slice none 0 0] 26))
  have X0 := hide HA.1
  have Y0 := hide HA.2.1
  have HSP := hide (fun (W : World) (hb : Below w.heap.size w W) => implDiskRight_any _ _ so p co q d W hb.size (hr.kept hb))
  rw [← hn1, ← hn2] at h HSP ⊢
  obtain ⟨x0, x1, xf⟩ := cells2 X0.out
  clear HA
  by_cases hl : 400 < kl.length
  · rw [dkCrash_l hl]
    obtain ⟨y0, y1, yf⟩ := cells2 Y0.out
    clear hi hf h hr hn1 hn2 HSP hkv x0 x1 xf
    go_enter Try.func21, Try.ntmps21
    go_wp2
    refine bodyPost_ret (v := .agg #[.slice none 0 0, .slice none 0 0]) (resDisk Try.results21 _ _ (w.heap.size + 1) _ _ rfl Y0.out) rfl ⟨_, _, rfl, ownD_emp _ _, B0.out⟩
  · cases hdr : dkRight d with
    | false =>
      rw [dkCrash_n hl hdr]
      rw [hdr] at HSP
      have HC := hide (fun (W : World) (hb : Below w.heap.size w W) => copyDisk_own _ _ _ d W hf (h.below hb))
      clear hi hf h hr hdr hn1 hn2 hkv
      go_enter Try.func21, Try.ntmps21
      go_wp2_with (first | (go_at_call 55; refine (HSP.out _ B0.out).mono ?_; rintro e w1 ⟨rfl, b1⟩; have Y1 := hide ((b1.block (w.heap.size + 1) (by simp)).trans Y0.out); have X1 := hide ((b1.block w.heap.size (by simp; omega)).trans X0.out); have B1 := hide (B0.out.trans (b1.mono B0.out.size)); clear x0 x1 xf; obtain ⟨x0, x1, xf⟩ := cells2 X1.out; clear b1) | (go_at_call 67; refine (HC.out _ B1.out).mono ?_; rintro e w2 ⟨s2, c2, rfl, o2, b2⟩; have Y2 := hide ((b2.block (w.heap.size + 1) (blk_lt' Y1.out)).trans Y1.out); have B2 := hide (B1.out.trans (b2.mono B1.out.size)); have O2 := hide (o2.base (show w.heap.size + 2 ≤ _ from blk_lt' Y1.out)); obtain ⟨so2, p2, co2, q2, rfl, rfl⟩ := o2.shape; obtain ⟨y0, y1, yf⟩ := cells2 Y2.out; clear b2 o2))
      refine bodyPost_ret (v := .agg #[.slice so2 d.secs.length p2, .slice co2 d.cache.length q2]) (resDisk Try.results21 _ _ (w.heap.size + 1) _ _ rfl (set2 Y2.out)) rfl ⟨_, _, rfl, ?_, ?_⟩
      · exact ((O2.out.set (by omega)).set (by omega)).base (by omega)
      · exact (B2.out.setCell (by simp) _).setCell (by simp) _
    | true =>
      rw [dkCrash_y hl hdr]
      rw [hdr] at HSP
      have hkr := kept_right kl hdr
      have hkl := keptN_len d.cache kl d.cache.length
      have hkin : dkIn ⟨d.secs, keptN d.cache kl d.cache.length⟩ := ⟨hi.1, fun x hx => hi.2 x (keptN_mem d.cache.length (Nat.le_refl _) x hx)⟩
      have hkf : dkFits ⟨d.secs, keptN d.cache kl d.cache.length⟩ := ⟨hf.1, Nat.le_trans hkl hf.2⟩
      have HK := hide (fun (W : World) (hb : Below w.heap.size w W) => keptOf_own _ _ _ _ d.cache kl W hf.2 hi.2 (owns_below h.cache hb) (owns_below hkv hb))
      have HFL := hide (fun (s c : Value) (W : World) (h : OwnD 0 s c ⟨d.secs, keptN d.cache kl d.cache.length⟩ W) => implDiskFlush_any 0 s c _ W hkin hkf h)
      have hfe : dkFlush ⟨d.secs, keptN d.cache kl d.cache.length⟩ = ⟨flushL d.secs (keptN d.cache kl d.cache.length), []⟩ := dkFlush_y hkr
      rw [hfe] at HFL
      have HSS := hide h.secs
      have HSL : Hid (∀ b, (Value.slice so n1 p).ownBlock = some b → b < w.heap.size) := fun b hb => (World.ownsRow.lt h.secs b hb).2
      generalize flushL d.secs (keptN d.cache kl d.cache.length) = fl at *
      generalize keptN d.cache kl d.cache.length = KP at *
      clear hi hf h hr hdr hkv hkr hkl hkin hkf hfe hn1 hn2
      go_enter Try.func21, Try.ntmps21
      go_wp2_with (go_at_call 55; refine (HSP.out _ B0.out).mono ?_; rintro e w1 ⟨rfl, b1⟩; have Y1 := hide ((b1.block (w.heap.size + 1) (by simp)).trans Y0.out); have X1 := hide ((b1.block w.heap.size (by simp; omega)).trans X0.out); have B1 := hide (B0.out.trans (b1.mono B0.out.size)); clear x0 x1 xf; obtain ⟨x0, x1, xf⟩ := cells2 X1.out; clear b1)
      have X2 := hide (show w1.drew.heap[w.heap.size]? = some (.cells #[.slice so n1 p, .slice co n2 q] 26 (0, 0)) from X1.out)
      have Y2 := hide (show w1.drew.heap[w.heap.size + 1]? = some (.cells #[.slice none 0 0, .slice none 0 0] 26 (0, 0)) from Y1.out)
      have B2 := hide B1.out.drew
      clear X0 Y0 B0 X1 Y1 B1 x0 x1 xf HSP
      refine wp_region_noPanic ?_
      refine wp_region_held_drew (S := fun W => W.heap[w.heap.size]? = some (.cells #[.slice so n1 p, .slice co n2 q] 26 (0, 0))) (by kernel_rfl) X2.out (fun hS1 => ?_)
      generalize w1.drew = w2 at *
      refine takeD 0 14 (v := ?v1) rfl rfl (by kernel_rfl) (by kernel_rfl) (by kernel_rfl) (fun _ _ _ h => h) (by kernel_rfl) ?hy1 (by assumption) ?r1
      case hy1 => (intro W hSw; go_simp; try with_reducible rfl)
      simp only [Act.put, List.setIfInBounds_toArray, List.set_cons_zero, List.set_cons_succ]
      refine takeD 1 15 (v := ?v2) rfl rfl (by kernel_rfl) (by kernel_rfl) (by kernel_rfl) (fun _ _ _ h => h) (by kernel_rfl) ?hy2 (by assumption) ?r2
      case hy2 => (intro W hSw; obtain ⟨a0, a1, af⟩ := cells2 hSw; go_simp; try with_reducible rfl)
      simp only [Act.put, List.setIfInBounds_toArray, List.set_cons_zero, List.set_cons_succ]
      refine takeD 2 16 (v := ?v3) rfl rfl (by kernel_rfl) (by kernel_rfl) (by kernel_rfl) (fun _ _ _ h => h) (by kernel_rfl) ?hy3 (by assumption) ?r3
      case hy3 => (intro W hSw; go_simp; try with_reducible rfl)
      simp only [Act.put, List.setIfInBounds_toArray, List.set_cons_zero, List.set_cons_succ]
      refine takeD 3 17 (v := ?v4) rfl rfl (by kernel_rfl) (by kernel_rfl) (by kernel_rfl) (fun _ _ _ h => h) (by kernel_rfl) ?hy4 (by assumption) ?r4
      case hy4 => (intro W hSw; obtain ⟨a0, a1, af⟩ := cells2 hSw; go_simp; try with_reducible rfl)
      simp only [Act.put, List.setIfInBounds_toArray, List.set_cons_zero, List.set_cons_succ]
      refine takeD 4 18 (v := ?v5) rfl rfl (by kernel_rfl) (by kernel_rfl) (by kernel_rfl) (fun _ _ _ h => h) (by kernel_rfl) ?hy5 (by assumption) ?r5
      case hy5 => (intro W hSw; go_simp; try with_reducible rfl)
      simp only [Act.put, List.setIfInBounds_toArray, List.set_cons_zero, List.set_cons_succ]
      refine wpAnyH_ready (rs := [5]) (by kernel_rfl) (by simp) ?_
      refine AllReadyH.cons (o := _) rfl (fun K hK => ?_) AllReadyH.nil
      go_simp
      go_at_call 68
      refine (HK.out _ B2.out).mono ?_
      rintro e w3 ⟨v3, rfl, o3, b3⟩
      obtain ⟨ao3, cp3, rfl⟩ := ownW_shape o3
      have X3 := hide ((b3.block _ (blk_lt' X2.out)).trans X2.out)
      have Y3 := hide ((b3.block _ (blk_lt' Y2.out)).trans Y2.out)
      have B3 := hide (B2.out.trans (b3.mono B2.out.size))
      have D3 : Hid (OwnD 0 (.slice so n1 p) (.slice ao3 KP.length cp3) ⟨d.secs, KP⟩ w3) := by
        refine ⟨owns_base (owns_below HSS.out B3.out) (Nat.zero_le _), owns_base o3 (Nat.zero_le _), ?_⟩
        cases hso : (Value.slice so n1 p).ownBlock with
        | none => exact .inl rfl
        | some x => exact .inr (fun e => by have h1 := HSL.out x hso; have h2 := (World.ownsRow.lt o3 x e.symm).1; have h3 := B2.out.size; omega)
      clear o3 b3 X2 Y2 B2
      go_wp2_with fail
      refine hK.out _ _ X3.out (fun hS2 => ?_)
      clear hK K hS1
      try simp only [Act.put, List.setIfInBounds_toArray, List.set_cons_zero, List.set_cons_succ]
      refine takeD 6 20 (v := ?v6) rfl rfl (by kernel_rfl) (by kernel_rfl) (by kernel_rfl) (fun _ _ _ h => h) (by kernel_rfl) ?hy6 (by assumption) ?r6
      case hy6 => (intro W hSw; go_simp; try with_reducible rfl)
      simp only [Act.put, List.setIfInBounds_toArray, List.set_cons_zero, List.set_cons_succ]
      refine wpAnyH_ready (rs := [7]) (by kernel_rfl) (by simp) ?_
      refine AllReadyH.cons (o := _) rfl (fun K hK => ?_) AllReadyH.nil
      go_simp
      go_at_call 37
      refine (HFL.out _ _ _ D3.out).mono ?_
      rintro e w4 ⟨s4, c4, rfl, o4, b4⟩
      obtain ⟨so4, p4, co4, q4, rfl, rfl⟩ := o4.shape
      have X4 := hide ((b4.block _ (blk_lt' X3.out)).trans X3.out)
      have Y4 := hide ((b4.block _ (blk_lt' Y3.out)).trans Y3.out)
      have B4 := hide (B3.out.trans (b4.mono B3.out.size))
      have O4 := hide (o4.base (show w.heap.size + 2 ≤ _ from blk_lt' Y3.out))
      clear o4 b4 X3 Y3 B3 D3
      go_wp2_with fail
      refine hK.out _ _ X4.out (fun hS3 => ?_)
      clear hK K hS2
      try simp only [Act.put, List.setIfInBounds_toArray, List.set_cons_zero, List.set_cons_succ]
      refine wpAnyH_ready (rs := [8]) (by kernel_rfl) (by simp) ?_
      refine AllReadyH.cons (o := _) rfl (fun K hK => ?_) AllReadyH.nil
      obtain ⟨y0, y1, yf⟩ := cells2 Y4.out
      go_simp
      refine hK.out _ _ ?_ (fun hS4 => ?_)
      · exact ((heap_far _ _ _ _ _ (by omega)).trans (heap_far _ _ _ _ _ (by omega))).trans X4.out
      clear hK K hS3 hS4
      refine wpAnyH_done (by kernel_rfl) ?_ _
      refine NoPanic.normal ?_
      go_wp2
      refine bodyPost_ret (v := .agg #[.slice so4 fl.length p4, .slice co4 0 q4]) (resDisk Try.results21 _ _ (w.heap.size + 1) _ _ rfl (set2 Y4.out)) rfl ⟨_, _, rfl, ?_, ?_⟩
      · exact ((O4.out.set (by omega)).set (by omega)).base (by omega)
      · exact (B4.out.setCell (by simp) _).setCell (by simp) _
end Go.Proofs.Ytfhfhpnoeghgmaa

/-
  What the law on disks says, of the plain functions.
-/
namespace Go.Proofs.Ytfhfhpnoeghgmaa
open Go.RowKit
set_option maxRecDepth 100000

theorem not_far {d : Dk} {k m : Nat} (hm : m ≤ 300) (h : k + m ≤ d.secs.length) : ¬ rdFar d (k : Int) (m : Int) := by unfold rdFar; omega
/-- The text that a reading of sectors of a flushed disk gives. -/
theorem read_flushed {d : Dk} {k m : Nat} (hr : dkRight d = true) (hm : m ≤ 300) (h : k + m ≤ d.secs.length) : dkRead (dkFlush d) (k : Int) (m : Int) = dkRead d (k : Int) (m : Int) := by
  rw [dkFlush_y hr, dkRead_0 hr (not_far hm h), dkRead_0 (flushed_r hr) (not_far (d := ⟨flushL d.secs d.cache, []⟩) hm (by show k + m ≤ (flushL d.secs d.cache).length; rw [flushL_len]; exact h))]
  rfl
/-- What is written is read. -/
theorem read_wrote {d : Dk} {k : Nat} {t : ByteArray} (hw : (dkWrite d (k : Int) t).2 = 0) (ht : t.size ≤ 199) :
    ∃ l : List UInt8, dkRead (dkWrite d (k : Int) t).1 (k : Int) (many t : Int) = ((⟨[], []⟩, 0), mkS l) ∧ l.length = many t * 64 ∧ l.take t.size = t.data.toList := by
  obtain ⟨hr, h0, h1, h2, hx⟩ := wrote hw
  have hr2 := wrote_right (a := k) hr (by omega) h2
  have hm := many_small ht
  rw [hx, dkRead_0 hr2 (not_far (d := ⟨d.secs, d.cache ++ wrsOf (k : Int) t (many t)⟩) (by omega) (by show k + many t ≤ d.secs.length; omega))]
  refine ⟨_, rfl, ?_, ?_⟩
  all_goals
    rw [Int.toNat_natCast, Int.toNat_natCast]
    show _ = _
    have e : secsT (flushL d.secs (d.cache ++ wrsOf (k : Int) t (many t))) k (many t) = t.data.toList.take (many t * 64) ++ List.replicate (many t * 64 - t.size) 0 := by
      refine secsT_pieces _ k t (many t) (fun j hj => ?_)
      rw [flushL_app, flush_wrs _ k t (many t) (by rw [flushL_len]; omega), if_pos (by omega)]
      congr 1
      omega
    have hl : t.data.toList.length = t.size := len_data t
    have hc : t.size ≤ many t * 64 := by unfold many; omega
    have e2 : t.data.toList.take (many t * 64) = t.data.toList := List.take_of_length_le (by omega)
    first
      | (show (secsT (flushL d.secs (d.cache ++ wrsOf (k : Int) t (many t))) k (many t)).length = _
         rw [e, e2, List.length_append, List.length_replicate]; omega)
      | (show (secsT (flushL d.secs (d.cache ++ wrsOf (k : Int) t (many t))) k (many t)).take t.size = _
         rw [e, e2, List.take_append_of_le_length (by omega), List.take_of_length_le (by omega)])
/-- All other sectors have what they had. -/
theorem read_other {d : Dk} {k i : Nat} {t : ByteArray} (hw : (dkWrite d (k : Int) t).2 = 0) (hi : i < d.secs.length) (ho : i < k ∨ k + many t ≤ i) : dkRead (dkWrite d (k : Int) t).1 (i : Int) 1 = dkRead d (i : Int) 1 := by
  obtain ⟨hr, h0, h1, h2, hx⟩ := wrote hw
  have hr2 := wrote_right (a := k) hr (by omega) h2
  rw [hx, show (1 : Int) = ((1 : Nat) : Int) from rfl, dkRead_0 hr2 (not_far (d := ⟨d.secs, d.cache ++ wrsOf (k : Int) t (many t)⟩) (by omega) (by show i + 1 ≤ d.secs.length; omega)), dkRead_0 hr (not_far (by omega) (by omega))]
  rw [Int.toNat_natCast, Int.toNat_natCast]
  show (_, mkS (secsT (flushL d.secs (d.cache ++ wrsOf (k : Int) t (many t))) i 1)) = _
  rw [secsT_eq (L := flushL d.secs (d.cache ++ wrsOf (k : Int) t (many t))) (M := flushL d.secs d.cache) 1 (fun j hj => ?_)]
  obtain rfl : j = 0 := by omega
  rw [Nat.add_zero, flushL_app, flush_wrs _ k t (many t) (by rw [flushL_len]; omega), if_neg (by omega)]
/-- With all writes kept a crash is a flush. -/
theorem crash_all {d : Dk} (hr : dkRight d = true) : dkCrash d (List.replicate d.cache.length true) = dkFlush d := by
  have hb := dkRight_bounds hr
  rw [dkCrash_y (by rw [List.length_replicate]; omega) hr, dkFlush_y hr, keptN_all d.cache d.cache.length d.cache.length (Nat.le_refl _) (Nat.le_refl _), List.take_length]
/-- With none kept it has what its sectors had. -/
theorem crash_none {d : Dk} (hr : dkRight d = true) {i : Nat} (hi : i < d.secs.length) : dkCrash d [] = ⟨d.secs, []⟩ ∧ dkRead (dkCrash d []) (i : Int) 1 = ((⟨[], []⟩, 0), d.secs.getD i ByteArray.empty) := by
  have hb := dkRight_bounds hr
  have e : dkCrash d [] = ⟨d.secs, []⟩ := by
    rw [dkCrash_y (by simp) hr, keptN_nil]; rfl
  refine ⟨e, ?_⟩
  have hr0 : dkRight ⟨d.secs, []⟩ = true := by
    have := kept_right [] hr
    rwa [keptN_nil] at this
  rw [e, show (1 : Int) = ((1 : Nat) : Int) from rfl, dkRead_0 hr0 (not_far (d := ⟨d.secs, []⟩) (by omega) (by show i + 1 ≤ d.secs.length; omega))]
  rw [Int.toNat_natCast, Int.toNat_natCast]
  show (_, mkS (secsT (flushL d.secs []) i 1)) = _
  congr 1
end Go.Proofs.Ytfhfhpnoeghgmaa
