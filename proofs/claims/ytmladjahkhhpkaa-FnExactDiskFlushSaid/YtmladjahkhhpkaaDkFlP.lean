/-
  Contract: DiskFlush of the specification.
-/
import Derived.Test.YtmladjahkhhpkaaDkFlS
import Derived.Test.YtmladjahkhhpkaaDkCpS
import Derived.Test.YtmladjahkhhpkaaDkWrP
import Derived.Test.YtmladjahkhhpkaaDkRightS
namespace Go.Proofs.Ytmladjahkhhpkaa
open Go.RowKit
set_option maxRecDepth 100000

def dkFlush (d : Dk) : Dk := if dkRight d = true then ⟨flushL d.secs d.cache, []⟩ else d
theorem dkFlush_n {d : Dk} (h : dkRight d = false) : dkFlush d = d := by unfold dkFlush; rw [if_neg (by rw [h]; simp)]
theorem dkFlush_y {d : Dk} (h : dkRight d = true) : dkFlush d = ⟨flushL d.secs d.cache, []⟩ := by unfold dkFlush; rw [if_pos h]
theorem dkFlush_fits {d : Dk} (h : dkFits d) : dkFits (dkFlush d) := by
  unfold dkFlush
  split
  · exact ⟨by simpa [flushL_len] using h.1, by simp⟩
  · exact h
set_option maxHeartbeats 8000000 in
theorem specDiskFlush_any (b : Nat) (s c : Value) (d : Dk) (w : World) (hi : dkIn d) (hf : dkFits d) (h : OwnD b s c d w) :
    Calls Try.prog 25 #[.agg #[s, c]] w fun e w' => ∃ s' c', e = .returned (.agg #[s', c']) ∧ OwnD w.heap.size s' c' (dkFlush d) w' ∧ Below w.heap.size w w' := by
  obtain ⟨so, p, co, q, rfl, rfl, hr⟩ := h.row hi
  obtain ⟨n1, hn1⟩ : ∃ n, n = d.secs.length := ⟨_, rfl⟩
  obtain ⟨n2, hn2⟩ : ∃ n, n = d.cache.length := ⟨_, rfl⟩
  have HA := two_allocs w (.cells #[.slice so n1 p, .slice co n2 q] 25) (.cells #[.slice none 0 0, .slice none 0 0] 25)
  have B0 := hide (((Below.refl w.heap.size w).alloc (Nat.le_refl _) (.cells #[.slice so n1 p, .slice co n2 q] 25)).alloc (by simp) (.cells #[.slice none 0 0, .slice none 0 0] 25))
  have X0 := hide HA.1
  have Y0 := hide HA.2.1
  have HSP := hide (fun (W : World) (hb : Below w.heap.size w W) => specDiskRight_any _ _ so p co q d W hb.size (hr.kept hb))
  rw [← hn1, ← hn2] at h HSP ⊢
  obtain ⟨x0, x1, xf⟩ := cells2 X0.out
  clear HA
  cases hdr : dkRight d with
  | false =>
    rw [dkFlush_n hdr]
    rw [hdr] at HSP
    have HC := hide (fun (W : World) (hb : Below w.heap.size w W) => l07Copy_own _ _ _ d W hf (h.below hb))
    clear hi hf h hr hdr hn1 hn2
    go_enter Try.func25, Try.ntmps25
    go_wp2_with (first | (go_at_call 15; refine (HSP.out _ B0.out).mono ?_; rintro e w1 ⟨rfl, b1⟩; have Y1 := hide ((b1.block (w.heap.size + 1) (by simp)).trans Y0.out); have X1 := hide ((b1.block w.heap.size (by simp; omega)).trans X0.out); have B1 := hide (B0.out.trans (b1.mono B0.out.size)); clear x0 x1 xf; obtain ⟨x0, x1, xf⟩ := cells2 X1.out; clear b1) | (go_at_call 54; refine (HC.out _ B1.out).mono ?_; rintro e w2 ⟨s2, c2, rfl, o2, b2⟩; have Y2 := hide ((b2.block (w.heap.size + 1) (blk_lt' Y1.out)).trans Y1.out); have B2 := hide (B1.out.trans (b2.mono B1.out.size)); have O2 := hide (o2.base (show w.heap.size + 2 ≤ _ from blk_lt' Y1.out)); obtain ⟨so2, p2, co2, q2, rfl, rfl⟩ := o2.shape; obtain ⟨y0, y1, yf⟩ := cells2 Y2.out; clear b2 o2))
    refine bodyPost_ret (v := .agg #[.slice so2 d.secs.length p2, .slice co2 d.cache.length q2]) (resDisk Try.results25 _ _ (w.heap.size + 1) _ _ rfl (set2 Y2.out)) rfl ⟨_, _, rfl, ?_, ?_⟩
    · exact ((O2.out.set (by omega)).set (by omega)).base (by omega)
    · exact (B2.out.setCell (by simp) _).setCell (by simp) _
  | true =>
    rw [dkFlush_y hdr]
    rw [hdr] at HSP
    have HC := hide (fun (W : World) (hb : Below w.heap.size w W) => l07Flush_all _ _ _ d W hdr hf hi (h.below hb))
    generalize flushL d.secs d.cache = fl at *
    clear hi hf h hr hdr hn1 hn2
    go_enter Try.func25, Try.ntmps25
    go_wp2_with (first | (go_at_call 15; refine (HSP.out _ B0.out).mono ?_; rintro e w1 ⟨rfl, b1⟩; have Y1 := hide ((b1.block (w.heap.size + 1) (by simp)).trans Y0.out); have X1 := hide ((b1.block w.heap.size (by simp; omega)).trans X0.out); have B1 := hide (B0.out.trans (b1.mono B0.out.size)); clear x0 x1 xf; obtain ⟨x0, x1, xf⟩ := cells2 X1.out; clear b1) | (go_at_call 55; refine (HC.out _ B1.out).mono ?_; rintro e w2 ⟨v2, rfl, o2, b2⟩; have Y2 := hide ((b2.block (w.heap.size + 1) (blk_lt' Y1.out)).trans Y1.out); have B2 := hide (B1.out.trans (b2.mono B1.out.size)); have O2 := hide (owns_base o2 (show w.heap.size + 2 ≤ _ from blk_lt' Y1.out)); obtain ⟨so2, p2, rfl⟩ := ownS_shape o2; obtain ⟨y0, y1, yf⟩ := cells2 Y2.out; clear b2 o2))
    refine bodyPost_ret (v := .agg #[.slice so2 fl.length p2, .slice none 0 0]) (resDisk Try.results25 _ _ (w.heap.size + 1) _ _ rfl (set2 Y2.out)) rfl ⟨_, _, rfl, ⟨owns_base (own_set (own_set O2.out (by omega)) (by omega)) (by omega), ownW_nil _ _, ?_⟩, ?_⟩
    · cases so2 with
      | none => exact .inl rfl
      | some x => exact .inr (by simp [Value.ownBlock])
    · exact (B2.out.setCell (by simp) _).setCell (by simp) _
end Go.Proofs.Ytmladjahkhhpkaa
