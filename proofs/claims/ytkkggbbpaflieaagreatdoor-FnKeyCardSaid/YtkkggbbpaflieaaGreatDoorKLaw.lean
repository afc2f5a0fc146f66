/-
  The law on keys, out of the contracts.
-/
import Derived.Test.YtkkggbbpaflieaaGreatDoorKDraw5
namespace Go.Proofs.YtkkggbbpaflieaaGreatDoor
open Go.RowKit

set_option maxRecDepth 100000 in
set_option maxHeartbeats 2000000 in
theorem lwValues_same (ao : Option Addr) (cap : Nat) (bo : Option Addr) (cp : Nat) (vs : List Val) (w : World) (hl : vs.length ≤ 1048576) (ha : ValRow w w.heap.size ao vs) (hb : ValRow w w.heap.size bo vs) :
    Calls Tryz.prog 10 #[.slice ao vs.length cap, .slice bo vs.length cp] w fun e w' => e = .returned (.bool true) ∧ Below w.heap.size w w' := by
  have HA : Hid (ValRow w w.heap.size ao vs) := ha
  have HB : Hid (ValRow w w.heap.size bo vs) := hb
  clear ha hb
  go_enter Tryz.func10, Tryz.ntmps10
  go_wp2
  go_loopw [5] (fun i wr => ∃ k : Nat, k ≤ vs.length ∧ i = .int .i64 k ∧ Below w.heap.size w wr) (fun i _ => vs.length - (intOf i).toNat)
  case atStart => exact ⟨0, Nat.zero_le _, rfl, Below.refl _ _⟩
  case round =>
    obtain ⟨k, hk, rfl, hbw⟩ := hrel
    by_cases hlt : k < vs.length
    · obtain ⟨b, off, kk, nn, tt, rfl, hbB, hv, htt, d0, d1, d2⟩ := (HA.out.kept hbw).at k hlt
      obtain ⟨b', off', kk', nn', tt', rfl, hbB', hv', htt', e0, e1, e2⟩ := (HB.out.kept hbw).at k hlt
      rw [hv] at hv'
      simp only [Val.mk.injEq] at hv'
      obtain ⟨rfl, rfl, rfl⟩ := hv'
      have hz := hbw.size
      have hi0 : (0 : Int) ≤ (k : Int) := by omega
      have hi1 : (k : Int) < (vs.length : Int) := by omega
      have ht := (Int.toNat_natCast k)
      have hq1 : b < wr.heap.size := by omega
      have hq2 : b' < wr.heap.size := by omega
      clear hv htt htt'
      go_wp2
      go_region
      have hb2 := hbw.drew
      clear d0 d1 d2 e0 e1 e2
      go_wp2
      go_roundw
      case rel => exact ⟨k + 1, by omega, by go_num, hb2⟩
      case measure => simp [intOf]; omega
    · go_wp2
      go_ret
      exact ⟨rfl, hbw⟩
end Go.Proofs.YtkkggbbpaflieaaGreatDoor
