/-
  Contract: DiskWrite of the specification, as a whole; how great what is written is.
-/
import Derived.Test.YthglidcfbdigiaaDkWrS
namespace Go.Proofs.Ythglidcfbdigiaa
open Go.RowKit
set_option maxRecDepth 100000

theorem dkWrite_fits {d : Dk} (a : Int) (t : ByteArray) (h : dkFits d) : dkFits (dkWrite d a t).1 := by
  unfold dkWrite dkFits
  have h1 := h.1
  have h2 := h.2
  split
  · simp
  split
  · simp
  split
  · simp
  split
  · simp
  · rename_i hq
    simp only [List.length_append, wrsOf_len]
    exact ⟨h1, by omega⟩
set_option maxHeartbeats 4000000 in
theorem specDiskWrite_any (b : Nat) (s c : Value) (d : Dk) (a : Int) (t : ByteArray) (w : World) (hi : dkIn d) (hf : dkFits d) (ha : wI64 a) (h : OwnD b s c d w) :
    Calls Try.prog 11 #[.agg #[s, c], .int .i64 a, .string t] w fun e w' => ∃ s' c', e = .returned (.agg #[s', c', .string ⟨#[]⟩, .int .i64 (dkWrite d a t).2]) ∧ OwnD w.heap.size s' c' (dkWrite d a t).1 w' ∧ Below w.heap.size w w' := by
  obtain ⟨so, p, co, q, rfl, rfl, hr⟩ := h.row hi
  obtain ⟨n1, hn1⟩ : ∃ n, n = d.secs.length := ⟨_, rfl⟩
  obtain ⟨n2, hn2⟩ : ∃ n, n = d.cache.length := ⟨_, rfl⟩
  have HN := hide (And.intro hn1 hn2)
  have HA := two_allocs w (.cells #[.slice so n1 p, .slice co n2 q] 26) (.cells #[.slice none 0 0, .slice none 0 0, .string ⟨#[]⟩, .int .i64 0] 30)
  have B0 := hide (((Below.refl w.heap.size w).alloc (Nat.le_refl _) (.cells #[.slice so n1 p, .slice co n2 q] 26)).alloc (by simp) (.cells #[.slice none 0 0, .slice none 0 0, .string ⟨#[]⟩, .int .i64 0] 30))
  have X0 := hide HA.1
  have Y0 := hide HA.2.1
  have HSP := hide (fun (W : World) (hb : Below w.heap.size w W) => specDiskRight_any _ _ so p co q d W hb.size (hr.kept hb))
  rw [← hn1, ← hn2] at h HSP ⊢
  clear HA hn1 hn2
  by_cases hl : 20000 < t.size
  · rw [dkWrite_2 hl]
    clear HSP hi hf ha h hr
    go_enter Try.func11, Try.ntmps11
    go_wp2
    refine bodyPost_ret (v := .agg #[.slice none 0 0, .slice none 0 0, .string ⟨#[]⟩, .int .i64 2]) (by simp [results, Try.results11, go_sem]) rfl ⟨_, _, rfl, ownD_emp _ _, ?_⟩
    exact ((Below.refl _ _).alloc (Nat.le_refl _) _).alloc (by simp) _
  · obtain ⟨x0, x1, xf⟩ := cells2 X0.out
    cases hdr : dkRight d with
    | false =>
      rw [dkWrite_1 hl hdr]
      rw [hdr] at HSP
      clear hi hf ha h hr hdr
      go_enter Try.func11, Try.ntmps11
      go_wp2_with (go_at_call 44; refine (HSP.out _ B0.out).mono ?_; rintro e w1 ⟨rfl, b1⟩; have Y1 := hide ((b1.block (w.heap.size + 1) (by simp)).trans Y0.out); have B1 := hide (B0.out.trans (b1.mono B0.out.size)); obtain ⟨y0, y1, y2, y3, yf⟩ := cells4 Y1.out; clear b1)
      refine bodyPost_ret (v := .agg #[.slice none 0 0, .slice none 0 0, .string ⟨#[]⟩, .int .i64 1]) (resOut Try.results11 _ _ (w.heap.size + 1) _ _ _ _ rfl (set4w Y1.out)) rfl ⟨_, _, rfl, ownD_emp _ _, ?_⟩
      exact (((B1.out.setCell (by simp) _).setCell (by simp) _).setCell (by simp) _).setCell (by simp) _
    | true =>
      have HWR := hide (fun (W : World) (hb : Below w.heap.size w W) => l07Write_any _ _ _ d a t W hf hdr ha hl (h.below hb))
      rw [hdr] at HSP
      generalize dkWrite d a t = R at *
      obtain ⟨D, K⟩ := R
      simp only at *
      clear hi hf ha h hr hdr
      go_enter Try.func11, Try.ntmps11
      go_wp2_with (first | (go_at_call 44; refine (HSP.out _ B0.out).mono ?_; rintro e w1 ⟨rfl, b1⟩; have Y1 := hide ((b1.block (w.heap.size + 1) (by simp)).trans Y0.out); have X1 := hide ((b1.block w.heap.size (by simp; omega)).trans X0.out); have B1 := hide (B0.out.trans (b1.mono B0.out.size)); clear x0 x1 xf; obtain ⟨x0, x1, xf⟩ := cells2 X1.out; clear b1) | (go_at_call 45; refine (HWR.out _ B1.out).mono ?_; rintro e w2 ⟨s2, c2, rfl, o2, b2⟩; have Y2 := hide ((b2.block (w.heap.size + 1) (Array.getElem?_eq_some_iff.1 Y1.out).1).trans Y1.out); have B2 := hide (B1.out.trans (b2.mono B1.out.size)); have O2 := hide (o2.base (show w.heap.size + 2 ≤ _ from (Array.getElem?_eq_some_iff.1 Y1.out).1)); obtain ⟨so2, p2, co2, q2, rfl, rfl⟩ := o2.shape; obtain ⟨y0, y1, y2, y3, yf⟩ := cells4 Y2.out; clear b2 o2))
      refine bodyPost_ret (v := .agg #[.slice so2 D.secs.length p2, .slice co2 D.cache.length q2, .string ⟨#[]⟩, .int .i64 K]) (resOut Try.results11 _ _ (w.heap.size + 1) _ _ _ _ rfl (set4w Y2.out)) rfl ⟨_, _, rfl, ?_, ?_⟩
      · exact ((((O2.out.set (by omega)).set (by omega)).set (by omega)).set (by omega)).base (by omega)
      · exact (((B2.out.setCell (by simp) _).setCell (by simp) _).setCell (by simp) _).setCell (by simp) _
end Go.Proofs.Ythglidcfbdigiaa
