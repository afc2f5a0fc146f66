/-
  Contracts: a disk is marked, and looked at again.
-/
import Derived.Test.YtgnegidgeegknaaDkMark
import Derived.Test.YtgnegidgeegknaaDkTo2
namespace Go.Proofs.Ytgnegidgeegknaa
open Go.RowKit
set_option maxRecDepth 100000

set_option maxHeartbeats 2000000 in
theorem heldStringS_mk (base : Nat) (v : Value) (n k0 : Nat) (w : World) (hk0 : 0 < k0) (hk1 : k0 + n ≤ 5000000) (h : OwnS base v (mStrs k0 n) w) :
    Calls Try.prog 47 #[v, .int .i64 k0] w fun e w' => e = .returned (.int .i64 ((k0 + n : Nat) : Int)) ∧ Below w.heap.size w w' := by
  obtain ⟨ao, cap, rfl, hka⟩ := ownS_row h
  rw [mStrs_len] at hka ⊢
  have HA : Hid (∀ k, k < n → ∃ b off, ao = some ⟨b, off, none⟩ ∧ b < w.heap.size ∧ w.cell? ⟨b, off + k, none⟩ = some (.string (markS (k0 + k)))) := fun k hk => by
    obtain ⟨b, off, x, e, hb, hx, hc⟩ := hka k hk
    rw [mStrs_get _ _ _ hk] at hx
    subst hx
    exact ⟨b, off, e, hb, hc⟩
  clear h hka
  go_enter Try.func47, Try.ntmps47
  go_wp2
  go_loopw [1, 5] (fun q i wr => ∃ k : Nat, k ≤ n ∧ i = .int .i64 k ∧ q = .int .i64 ((k0 + k : Nat) : Int) ∧ Below w.heap.size w wr) (fun _ i _ => n - (intOf i).toNat)
  case atStart => exact ⟨0, Nat.zero_le _, rfl, rfl, Below.refl _ _⟩
  case round =>
    obtain ⟨k, hk, rfl, rfl, hb⟩ := hrel
    have hz := hb.size
    by_cases hlt : k < n
    · obtain ⟨b, off, rfl, hbB, d00⟩ := HA.out k hlt
      have d0 := (hb.cell (p := ⟨b, off + k, none⟩) hbB).trans d00
      have hi0 : (0 : Int) ≤ (k : Int) := by omega
      have hi1 : (k : Int) < (n : Int) := by omega
      have ht := (Int.toNat_natCast k)
      have hmt := fun W => markText_pos (k0 + k) (by omega) (by omega) W
      generalize markS (k0 + k) = T at *
      have hgr : b < wr.heap.size := by omega
      clear d00
      go_wp2
      go_region_held3 (fun W => W.cell? ⟨b, off + k, none⟩ = some (.string T)) (go_keep) (first | (go_at_call 73; refine (hmt _).mono ?_; rintro e w1 ⟨rfl, hb1⟩; have hb1' : Below wr.heap.size wr w1 := (Below.refl _ _).drew.trans hb1; obtain ⟨hc1, hf1⟩ := bcell hb1'))
      all_goals
        have hb2 := hb.trans (hb1'.mono hz)
        clear d0 hb1 hb1' hb hc1 hf1
        go_wp2
        go_roundw
        case rel => exact ⟨k + 1, by omega, by go_num, by go_num, hb2⟩
        case measure => simp [intOf]; omega
    · obtain rfl : k = n := by omega
      go_wp2
      go_ret
      exact ⟨rfl, hb⟩
end Go.Proofs.Ytgnegidgeegknaa
