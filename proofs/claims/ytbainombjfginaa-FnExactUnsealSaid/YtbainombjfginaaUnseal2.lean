/-
  Contracts: Unseal of the specification; the law on both.
-/
import Derived.Test.YtbainombjfginaaUnseal
import Derived.Deep.RegionHeld3
namespace Go.Proofs.Ytbainombjfginaa
open Go.RowKit
attribute [local go_sem ↓] Go.wp_at_zero Go.wp_at_succ

set_option maxHeartbeats 2000000 in
theorem specUnseal_any (s : ByteArray) (w : World) :
    Calls Try.prog 27 #[.string s] w fun e w' => e = .returned (unsealV s) ∧ Below w.heap.size w w' := by
  by_cases h1 : 20000 < s.size
  · have H : Hid (unsealV s = tOut ByteArray.empty 0 2) := if_pos h1
    go_enter Try.func27, Try.ntmps27
    go_wp2
    refine bodyPost_ret (v := tOut ByteArray.empty 0 2) (by simp [results, Try.results27, go_sem, tOut]; rfl) rfl ⟨by rw [H.out], (Below.refl _ _).alloc (Nat.le_refl _) _⟩
  by_cases h2 : s.size < 4
  · have H : Hid (unsealV s = tOut ByteArray.empty 0 4) := by show _ = _; unfold unsealV; rw [if_neg h1, if_pos h2]
    go_enter Try.func27, Try.ntmps27
    go_wp2
    refine bodyPost_ret (v := tOut ByteArray.empty 0 4) (by simp [results, Try.results27, go_sem, tOut]; rfl) rfl ⟨by rw [H.out], (Below.refl _ _).alloc (Nat.le_refl _) _⟩
  have hs1 : (4 : Int) ≤ s.size := by omega
  have hs2 : (0 : Int) ≤ (s.size : Int) - 4 := by omega
  have hs3 : (s.size : Int) - 4 ≤ s.size := by omega
  have hw : IntKind.i64.wrap ((s.size : Int) - 4) = (s.size : Int) - 4 := by rw [IntKind.wrap_i64]; omega
  have he : ((s.size : Int) - 4).toNat = s.size - 4 := by omega
  have hz : (s.extract 0 (s.size - 4)).size ≤ 20000 := by simp; omega
  have hcr : crcOf (s.extract 0 (s.size - 4)) = crcMoreN 0 (s.extract 0 (s.size - 4)).data.toList := crcOf_in _ hz
  have hcl := crcMoreN_lt (c := 0) (by omega) (s.extract 0 (s.size - 4)).data.toList
  by_cases hq : ((fourS (crcOf (s.extract 0 (s.size - 4)))).toList == (s.extract (s.size - 4) s.size).toList) = true
  · have H : Hid (unsealV s = tOut (s.extract 0 (s.size - 4)) 0 0) := by show _ = _; unfold unsealV; rw [if_neg h1, if_neg h2]; exact if_pos hq
    rw [hcr] at hq
    clear hcr
    generalize hc : crcMoreN 0 (s.extract 0 (s.size - 4)).data.toList = c at *
    have HC : Hid (crcMoreN 0 (s.extract 0 (s.size - 4)).data.toList = c) := hc
    clear hc
    go_enter Try.func27, Try.ntmps27
    go_wp2
    go_region_held3 (fun _ => True) (trivial) (first | (go_at_call 36; refine (specCrc_any 0 (by omega) _ (by omega) _).mono ?_; rintro e w1 ⟨rfl, rfl⟩; rw [HC.out]) | (go_at_call 35; refine (four_any c hcl _).mono ?_; rintro e w1 ⟨rfl, hb1⟩; obtain ⟨hc1, hf1⟩ := bcell hb1; have hz1 : w.heap.size < w1.heap.size := by (have := hb1.size; simp at this; omega)))
    all_goals
      have hk1 : w1.heap[w.heap.size]? = _ := (hb1.block _ (by simp)).trans (heap_alloc_new w _)
      have HK : Hid (w1.heap[w.heap.size]? = some (.cells #[.string ⟨#[]⟩, .int .i64 0, .int .i64 0] 27 (0, 0))) := hk1
      clear hk1
      go_wp2
      refine bodyPost_ret (v := tOut (s.extract 0 (s.size - 4)) 0 0) (resOut Try.results27 _ _ w.heap.size _ _ _ rfl (set3 HK.out)) rfl ⟨by rw [H.out], ?_⟩
      exact (((((Below.refl _ _).alloc (Nat.le_refl _) _).drew.trans (hb1.mono (by simp))).setCell (Nat.le_refl _) _).setCell (Nat.le_refl _) _).setCell (Nat.le_refl _) _
  · have hq' : ((fourS (crcOf (s.extract 0 (s.size - 4)))).toList == (s.extract (s.size - 4) s.size).toList) = false := by simpa using hq
    have H : Hid (unsealV s = tOut ByteArray.empty 0 5) := by show _ = _; unfold unsealV; rw [if_neg h1, if_neg h2]; exact if_neg hq
    clear hq
    rw [hcr] at hq'
    clear hcr
    generalize hc : crcMoreN 0 (s.extract 0 (s.size - 4)).data.toList = c at *
    have HC : Hid (crcMoreN 0 (s.extract 0 (s.size - 4)).data.toList = c) := hc
    clear hc
    go_enter Try.func27, Try.ntmps27
    go_wp2
    go_region_held3 (fun _ => True) (trivial) (first | (go_at_call 36; refine (specCrc_any 0 (by omega) _ (by omega) _).mono ?_; rintro e w1 ⟨rfl, rfl⟩; rw [HC.out]) | (go_at_call 35; refine (four_any c hcl _).mono ?_; rintro e w1 ⟨rfl, hb1⟩; obtain ⟨hc1, hf1⟩ := bcell hb1; have hz1 : w.heap.size < w1.heap.size := by (have := hb1.size; simp at this; omega)))
    all_goals
      have hk1 : w1.heap[w.heap.size]? = _ := (hb1.block _ (by simp)).trans (heap_alloc_new w _)
      have HK : Hid (w1.heap[w.heap.size]? = some (.cells #[.string ⟨#[]⟩, .int .i64 0, .int .i64 0] 27 (0, 0))) := hk1
      clear hk1
      go_wp2
      refine bodyPost_ret (v := tOut ByteArray.empty 0 5) (resOut Try.results27 _ _ w.heap.size _ _ _ rfl (set3 HK.out)) rfl ⟨by rw [H.out], ?_⟩
      exact (((((Below.refl _ _).alloc (Nat.le_refl _) _).drew.trans (hb1.mono (by simp))).setCell (Nat.le_refl _) _).setCell (Nat.le_refl _) _).setCell (Nat.le_refl _) _

theorem eqText_same (t : ByteArray) (a c : Int) (w : World) :
    Calls Try.prog 28 #[tOut t a c, tOut t a c] w fun e w' => e = .returned (.bool true) ∧ Below w.heap.size w w' := by
  unfold tOut
  go_enter Try.func28, Try.ntmps28
  go_wp2
  go_ret
  exact ⟨rfl, ((Below.refl _ _).alloc (Nat.le_refl _) _).alloc (by simp) _⟩
theorem unsealV_form (s : ByteArray) : ∃ t a c, unsealV s = tOut t a c := by
  unfold unsealV
  split
  · exact ⟨_, _, _, rfl⟩
  · split
    · exact ⟨_, _, _, rfl⟩
    · split <;> exact ⟨_, _, _, rfl⟩
set_option maxHeartbeats 400000 in
theorem lawUnseal (a0 : ByteArray) (_w0 : a0.size ≤ maxLen) (w : World) :
    Calls Try.prog 10 #[.string a0] w fun e w' => e = .returned (.bool true) ∧ Below w.heap.size w w' := by
  by_cases hs : a0.size ≤ 1048576
  · obtain ⟨t, a, c, hu⟩ := unsealV_form a0
    have hspec := specUnseal_any a0
    have himpl := implUnseal_any a0
    rw [hu] at hspec himpl
    have HS : Hid (∀ w, Calls Try.prog 27 #[.string a0] w fun e w' => e = .returned (tOut t a c) ∧ Below w.heap.size w w') := hspec
    have HI : Hid (∀ w, Calls Try.prog 15 #[.string a0] w fun e w' => e = .returned (tOut t a c) ∧ Below w.heap.size w w') := himpl
    clear hspec himpl hu
    go_enter Try.func10, Try.ntmps10
    go_wp2_with fail
    refine (HS.out _).mono ?_
    rintro e w1 ⟨rfl, hb1⟩
    unfold tOut
    go_wp2_with fail
    refine (HI.out _).mono ?_
    rintro e w2 ⟨rfl, hb2⟩
    unfold tOut
    obtain ⟨hc2, hf2⟩ := bcell hb2
    have hz2 : w1.heap.size < w2.heap.size := by (have := hb2.size; simp at this; omega)
    go_wp2_with fail
    have heq := eqText_same t a c
    unfold tOut at heq
    refine (heq _).mono ?_
    rintro e w3 ⟨rfl, hb3⟩
    go_wp2
    go_ret
    refine ⟨rfl, ?_⟩
    have k1 := hb1.alloc hb1.size (.cells #[.string t, .int .i64 a, .int .i64 c] 27)
    have k2 := k1.trans (hb2.mono (by simp; have := hb1.size; omega))
    have k3 := k2.alloc (by have := hb1.size; omega) (.cells #[.string t, .int .i64 a, .int .i64 c] 27)
    exact k3.trans (hb3.mono (by simp; have := hb1.size; omega))
  · go_enter Try.func10, Try.ntmps10
    go_wp2
    go_ret
    exact ⟨rfl, Below.refl _ _⟩
end Go.Proofs.Ytbainombjfginaa
