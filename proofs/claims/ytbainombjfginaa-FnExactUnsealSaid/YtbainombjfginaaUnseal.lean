/-
  Contracts: Unseal of the program and of the specification; the law on both.
-/
import Derived.Test.YtbainombjfginaaSeal
import Derived.Test.YtbainombjfginaaOutT
import Derived.Deep.RegionWith
import Derived.Deep.DrawnRows
namespace Go.Proofs.Ytbainombjfginaa
open Go.RowKit

def headS (s : ByteArray) : ByteArray := s.extract 0 (s.size - 4)
def tailS (s : ByteArray) : ByteArray := s.extract (s.size - 4) s.size
def unsealV (s : ByteArray) : Value :=
  if 20000 < s.size then tOut ByteArray.empty 0 2 else if s.size < 4 then tOut ByteArray.empty 0 4
  else if ((fourS (crcOf (headS s))).toList == (tailS s).toList) = true then tOut (headS s) 0 0 else tOut ByteArray.empty 0 5

attribute [local go_sem ↓] Go.wp_at_zero Go.wp_at_succ
set_option maxHeartbeats 2000000 in
theorem implUnseal_any (s : ByteArray) (w : World) :
    Calls Try.prog 15 #[.string s] w fun e w' => e = .returned (unsealV s) ∧ Below w.heap.size w w' := by
  by_cases h1 : 20000 < s.size
  · have H : Hid (unsealV s = tOut ByteArray.empty 0 2) := if_pos h1
    go_enter Try.func15, Try.ntmps15
    go_wp2_with (go_at_call 37; refine (tooLong_yes _ h1 _).mono ?_; rintro e w' ⟨rfl, rfl⟩)
    refine bodyPost_ret (v := tOut ByteArray.empty 0 2) (by simp [results, Try.results15, go_sem, tOut]; rfl) rfl ⟨by rw [H.out], (Below.refl _ _).alloc (Nat.le_refl _) _⟩
  by_cases h2 : s.size < 4
  · have H : Hid (unsealV s = tOut ByteArray.empty 0 4) := by show _ = _; unfold unsealV; rw [if_neg h1, if_pos h2]
    go_enter Try.func15, Try.ntmps15
    go_wp2_with (go_at_call 37; refine (tooLong_no _ (by omega) _).mono ?_; rintro e w' ⟨rfl, rfl⟩)
    refine bodyPost_ret (v := tOut ByteArray.empty 0 4) (by simp [results, Try.results15, go_sem, tOut]; rfl) rfl ⟨by rw [H.out], (Below.refl _ _).alloc (Nat.le_refl _) _⟩
  have hs1 : (4 : Int) ≤ s.size := by omega
  have he : ((s.size : Int) - 4).toNat = s.size - 4 := by omega
  have hz : (s.extract 0 (s.size - 4)).size ≤ 20000 := by simp; omega
  by_cases hq : ((fourS (crcOf (s.extract 0 (s.size - 4)))).toList == (s.extract (s.size - 4) s.size).toList) = true
  · have H : Hid (unsealV s = tOut (s.extract 0 (s.size - 4)) 0 0) := by show _ = _; unfold unsealV; rw [if_neg h1, if_neg h2]; exact if_pos hq
    go_enter Try.func15, Try.ntmps15
    go_wp2_with (go_at_call 37; refine (tooLong_no _ (by omega) _).mono ?_; rintro e w' ⟨rfl, rfl⟩)
    go_region_with (go_at_call 34; refine (sumText_any _ _).mono ?_; rintro e w1 ⟨rfl, hb1⟩; obtain ⟨hc1, hf1⟩ := bcell hb1; have hz1 : w.heap.size < w1.heap.size := by (have := hb1.size; simp at this; omega))
    all_goals
      go_wp2_with fail
      refine (join1 (s.extract 0 (s.size - 4)) _ _ _ (by omega) (by simp)).mono ?_
      rintro e w2 ⟨rfl, hb2⟩
      obtain ⟨hc2, hf2⟩ := bcell hb2
      have hz2 : w1.heap.size < w2.heap.size := by (have := hb2.size; simp at this; omega)
      have hk1 : w1.heap[w.heap.size]? = _ := (hb1.block _ (by simp)).trans (heap_alloc_new w _)
      have hk2 : w2.heap[w.heap.size]? = _ := (hb2.block _ (by simp; omega)).trans ((Below.heap_alloc w1 _ _ hz1).trans hk1)
      have HK : Hid (w2.heap[w.heap.size]? = some (.cells #[.string ⟨#[]⟩, .int .i64 0, .int .i64 0] 27 (0, 0))) := hk2
      clear hk1 hk2
      go_wp2
      refine bodyPost_ret (v := tOut (s.extract 0 (s.size - 4)) 0 0) (resOut Try.results15 _ _ w.heap.size _ _ _ rfl (set3 HK.out)) rfl ⟨by rw [H.out], ?_⟩
      exact (((((((Below.refl _ _).alloc (Nat.le_refl _) _).drew.trans (hb1.mono (by simp))).alloc (by omega) _).trans (hb2.mono (by simp; omega))).setCell (Nat.le_refl _) _).setCell (Nat.le_refl _) _).setCell (Nat.le_refl _) _
  · have hq' : ((fourS (crcOf (s.extract 0 (s.size - 4)))).toList == (s.extract (s.size - 4) s.size).toList) = false := by simpa using hq
    have H : Hid (unsealV s = tOut ByteArray.empty 0 5) := by show _ = _; unfold unsealV; rw [if_neg h1, if_neg h2]; exact if_neg hq
    clear hq
    go_enter Try.func15, Try.ntmps15
    go_wp2_with (go_at_call 37; refine (tooLong_no _ (by omega) _).mono ?_; rintro e w' ⟨rfl, rfl⟩)
    go_region_with (go_at_call 34; refine (sumText_any _ _).mono ?_; rintro e w1 ⟨rfl, hb1⟩; obtain ⟨hc1, hf1⟩ := bcell hb1; have hz1 : w.heap.size < w1.heap.size := by (have := hb1.size; simp at this; omega))
    all_goals
      go_wp2
      refine bodyPost_ret (v := tOut ByteArray.empty 0 5) (by simp [results, Try.results15, go_sem, tOut, hc1]; rfl) rfl ⟨by rw [H.out], ?_⟩
      exact (((((Below.refl _ _).alloc (Nat.le_refl _) _).drew.trans (hb1.mono (by simp))).setCell (Nat.le_refl _) _).setCell (Nat.le_refl _) _).setCell (Nat.le_refl _) _
end Go.Proofs.Ytbainombjfginaa
