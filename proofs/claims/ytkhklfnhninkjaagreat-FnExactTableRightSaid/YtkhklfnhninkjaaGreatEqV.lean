/-
  Contracts: two slices of the same values are the same.
-/
import Derived.Test.YtkhklfnhninkjaaGreatRows
import Derived.Test.YtkhklfnhninkjaaGreatVRow
import Derived.WalkKit
import Derived.WalkLawsBesides
import Derived.Deep.RegionHeld3
import Derived.OwnWalk
namespace Go.Proofs.YtkhklfnhninkjaaGreat
open Go.RowKit

theorem eqValue_same (k n : Int) (t : ByteArray) (w : World) :
    Calls Tryz.prog 55 #[.agg #[.int .i64 k, .int .i64 n, .string t], .agg #[.int .i64 k, .int .i64 n, .string t]] w fun e w' => e = .returned (.bool true) ∧ Below w.heap.size w w' := by
  go_enter Tryz.func55, Tryz.ntmps55
  go_wp2
  go_ret
  exact ⟨rfl, ((Below.refl _ _).alloc (Nat.le_refl _) _).alloc (by simp) _⟩
set_option maxHeartbeats 2000000 in
theorem eqValueS_same (ao : Option Addr) (cap : Nat) (bo : Option Addr) (cp : Nat) (vs : List Val) (w : World) (hl : vs.length ≤ 1048576) (ha : ValRow w w.heap.size ao vs) (hb : ValRow w w.heap.size bo vs) :
    Calls Tryz.prog 41 #[.slice ao vs.length cap, .slice bo vs.length cp] w fun e w' => e = .returned (.bool true) ∧ Below w.heap.size w w' := by
  have HA : Hid (ValRow w w.heap.size ao vs) := ha
  have HB : Hid (ValRow w w.heap.size bo vs) := hb
  clear ha hb
  go_enter Tryz.func41, Tryz.ntmps41
  go_wp2
  go_loopw [5] (fun i wr => ∃ k : Nat, k ≤ vs.length ∧ i = .int .i64 k ∧ Below w.heap.size w wr) (fun i _ => vs.length - (intOf i).toNat)
  case atStart => exact ⟨0, Nat.zero_le _, rfl, Below.refl _ _⟩
  case round =>
    obtain ⟨k, hk, rfl, hbw⟩ := hrel
    by_cases hlt : k < vs.length
    · obtain ⟨b, off, kk, nn, tt, rfl, hbB, hv, htt, d0, d1, d2⟩ := (HA.out.kept hbw).at k hlt
      obtain ⟨b', off', kk', nn', tt', rfl, hbB', hv', htt', e0, e1, e2⟩ := (HB.out.kept hbw).at k hlt
      rw [hv] at hv'
      simp only [Val.mk.injEq] at hv'
      obtain ⟨rfl, rfl, rfl⟩ := hv'
      have hz := hbw.size
      have hi0 : (0 : Int) ≤ (k : Int) := by omega
      have hi1 : (k : Int) < (vs.length : Int) := by omega
      have ht := (Int.toNat_natCast k)
      have hq1 : b < wr.heap.size := by omega
      have hq2 : b' < wr.heap.size := by omega
      clear hv htt htt'
      go_wp2
      go_region_held3 (fun W => W.cell? ⟨b, off + k * 3, none⟩ = some (.int .i64 kk) ∧ W.cell? ⟨b, off + k * 3 + 1, none⟩ = some (.int .i64 nn) ∧ W.cell? ⟨b, off + k * 3 + 2, none⟩ = some (.string tt) ∧ W.cell? ⟨b', off' + k * 3, none⟩ = some (.int .i64 kk) ∧ W.cell? ⟨b', off' + k * 3 + 1, none⟩ = some (.int .i64 nn) ∧ W.cell? ⟨b', off' + k * 3 + 2, none⟩ = some (.string tt)) (go_keep) (first | (go_at_call 55; refine (eqValue_same kk nn tt _).mono ?_; rintro e w1 ⟨rfl, hb1⟩; have hb1' : Below wr.heap.size wr w1 := (Below.refl _ _).drew.trans hb1; obtain ⟨hc1, hf1⟩ := bcell hb1'))
      all_goals
        have hb2 := hbw.trans (hb1'.mono hz)
        clear d0 d1 d2 e0 e1 e2 hb1 hb1' hbw hc1 hf1
        go_wp2
        go_roundw
        case rel => exact ⟨k + 1, by omega, by go_num, hb2⟩
        case measure => simp [intOf]; omega
    · go_wp2
      go_ret
      exact ⟨rfl, hbw⟩
end Go.Proofs.YtkhklfnhninkjaaGreat
