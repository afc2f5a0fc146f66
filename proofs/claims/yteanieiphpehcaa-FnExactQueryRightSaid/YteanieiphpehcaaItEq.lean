/-
  Contracts: two lists of Items of the same parts are the same.
-/
import Derived.Test.YteanieiphpehcaaItTo

namespace Go.Proofs.Yteanieiphpehcaa
open Go.RowKit
set_option maxRecDepth 100000

set_option maxHeartbeats 1000000 in
theorem eqItem_same (agg : Int) (col : ByteArray) (w : World) :
    Calls Try.prog 50 #[.agg #[.int .i64 agg, .string col], .agg #[.int .i64 agg, .string col]] w fun e w' => e = .returned (.bool true) ∧ Below w.heap.size w w' := by
  go_enter Try.func50, Try.ntmps50
  go_wp2
  go_ret
  exact ⟨rfl, ((Below.refl _ _).alloc (Nat.le_refl _) _).alloc (by simp) _⟩
set_option maxHeartbeats 4000000 in
theorem eqItemS_same (A B A' B' : Nat) (ao : Option Addr) (cap : Nat) (bo : Option Addr) (cp : Nat) (l : List Itm) (w : World) (hB : B ≤ w.heap.size) (hB' : B' ≤ w.heap.size) (hl : l.length ≤ 1048576) (ha : ItmRow w A B ao l) (hb : ItmRow w A' B' bo l) :
    Calls Try.prog 34 #[.slice ao l.length cap, .slice bo l.length cp] w fun e w' => e = .returned (.bool true) ∧ Below w.heap.size w w' := by
  have HA : Hid (ItmRow w A B ao l) := ha
  have HB : Hid (ItmRow w A' B' bo l) := hb
  clear ha hb
  go_enter Try.func34, Try.ntmps34
  go_wp2
  go_loopw [5] (fun i wr => ∃ k : Nat, k ≤ l.length ∧ i = .int .i64 k ∧ Below w.heap.size w wr) (fun i _ => l.length - (intOf i).toNat)
  case atStart => exact ⟨0, Nat.zero_le _, rfl, Below.refl _ _⟩
  case round =>
    obtain ⟨k, hk, rfl, hbw⟩ := hrel
    by_cases hlt : k < l.length
    · obtain ⟨b, off, agg, col, rfl, hbB, hv, hft, d0, d1⟩ := ItmRow.at (FRow.kept HA.out (hbw.mono hB)) k hlt
      obtain ⟨b', off', agg', col', rfl, hbB', hv', hft', e0, e1⟩ := ItmRow.at (FRow.kept HB.out (hbw.mono hB')) k hlt
      rw [hv] at hv'
      simp only [Itm.mk.injEq] at hv'
      obtain ⟨rfl, rfl⟩ := hv'
      have hz := hbw.size
      have hi0 : (0 : Int) ≤ (k : Int) := by omega
      have hi1 : (k : Int) < (l.length : Int) := by omega
      have ht := (Int.toNat_natCast k)
      have hq1 : b < wr.heap.size := by omega
      have hq2 : b' < wr.heap.size := by omega
      clear hv hft hft'
      go_wp2
      go_region_held3 (fun W => W.cell? ⟨b, off + k * 2, none⟩ = some (.int .i64 agg) ∧ W.cell? ⟨b, off + k * 2 + 1, none⟩ = some (.string col) ∧ W.cell? ⟨b', off' + k * 2, none⟩ = some (.int .i64 agg) ∧ W.cell? ⟨b', off' + k * 2 + 1, none⟩ = some (.string col)) (go_keep) (first | (go_at_call 50; refine (eqItem_same agg col _).mono ?_; rintro e w1 ⟨rfl, hb1⟩; have hb1' : Below wr.heap.size wr w1 := (Below.refl _ _).drew.trans hb1; obtain ⟨hc1, hf1⟩ := bcell hb1'))
      all_goals
        have hb2 := hbw.trans (hb1'.mono hz)
        clear d0 e0 d1 e1 hb1 hb1' hbw hc1 hf1
        go_wp2
        go_roundw
        case rel => exact ⟨k + 1, by omega, by go_num, hb2⟩
        case measure => simp [intOf]; omega
    · go_wp2
      go_ret
      exact ⟨rfl, hbw⟩
end Go.Proofs.Yteanieiphpehcaa
