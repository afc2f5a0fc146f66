/-
  Contracts: two lists of Terms of the same parts are the same.
-/
import Derived.Test.YteanieiphpehcaaTmTo
import Derived.Test.YteanieiphpehcaaQVal
namespace Go.Proofs.Yteanieiphpehcaa
open Go.RowKit
set_option maxRecDepth 100000

set_option maxHeartbeats 1000000 in
theorem eqTerm_same (col : ByteArray) (op : ByteArray) (kind : Int) (num : Int) (text : ByteArray) (w : World) :
    Calls Try.prog 51 #[.agg #[.string col, .string op, .int .i64 kind, .int .i64 num, .string text], .agg #[.string col, .string op, .int .i64 kind, .int .i64 num, .string text]] w fun e w' => e = .returned (.bool true) ∧ Below w.heap.size w w' := by
  go_enter Try.func51, Try.ntmps51
  have B0 := hide (((Below.refl w.heap.size w).alloc (Nat.le_refl _) (.cells #[.string col, .string op, .int .i64 kind, .int .i64 num, .string text] 52)).alloc (by simp) (.cells #[.string col, .string op, .int .i64 kind, .int .i64 num, .string text] 52))
  go_wp2_with (go_at_call 55; refine (eqValue_sameQ kind num text _).mono ?_; rintro e w1 ⟨rfl, hb1⟩)
  go_ret
  exact ⟨rfl, B0.out.trans (hb1.mono B0.out.size)⟩
set_option maxHeartbeats 4000000 in
theorem eqTermS_same (A B A' B' : Nat) (ao : Option Addr) (cap : Nat) (bo : Option Addr) (cp : Nat) (l : List Trm) (w : World) (hB : B ≤ w.heap.size) (hB' : B' ≤ w.heap.size) (hl : l.length ≤ 1048576) (ha : TrmRow w A B ao l) (hb : TrmRow w A' B' bo l) :
    Calls Try.prog 35 #[.slice ao l.length cap, .slice bo l.length cp] w fun e w' => e = .returned (.bool true) ∧ Below w.heap.size w w' := by
  have HA : Hid (TrmRow w A B ao l) := ha
  have HB : Hid (TrmRow w A' B' bo l) := hb
  clear ha hb
  go_enter Try.func35, Try.ntmps35
  go_wp2
  go_loopw [5] (fun i wr => ∃ k : Nat, k ≤ l.length ∧ i = .int .i64 k ∧ Below w.heap.size w wr) (fun i _ => l.length - (intOf i).toNat)
  case atStart => exact ⟨0, Nat.zero_le _, rfl, Below.refl _ _⟩
  case round =>
    obtain ⟨k, hk, rfl, hbw⟩ := hrel
    by_cases hlt : k < l.length
    · obtain ⟨b, off, col, op, kind, num, text, rfl, hbB, hv, hft, d0, d1, d2, d3, d4⟩ := TrmRow.at (FRow.kept HA.out (hbw.mono hB)) k hlt
      obtain ⟨b', off', col', op', kind', num', text', rfl, hbB', hv', hft', e0, e1, e2, e3, e4⟩ := TrmRow.at (FRow.kept HB.out (hbw.mono hB')) k hlt
      rw [hv] at hv'
      simp only [Trm.mk.injEq] at hv'
      obtain ⟨rfl, rfl, rfl, rfl, rfl⟩ := hv'
      have hz := hbw.size
      have hi0 : (0 : Int) ≤ (k : Int) := by omega
      have hi1 : (k : Int) < (l.length : Int) := by omega
      have ht := (Int.toNat_natCast k)
      have hq1 : b < wr.heap.size := by omega
      have hq2 : b' < wr.heap.size := by omega
      clear hv hft hft'
      go_wp2
      go_region_held3 (fun W => W.cell? ⟨b, off + k * 5, none⟩ = some (.string col) ∧ W.cell? ⟨b, off + k * 5 + 1, none⟩ = some (.string op) ∧ W.cell? ⟨b, off + k * 5 + 2, none⟩ = some (.int .i64 kind) ∧ W.cell? ⟨b, off + k * 5 + 3, none⟩ = some (.int .i64 num) ∧ W.cell? ⟨b, off + k * 5 + 4, none⟩ = some (.string text) ∧ W.cell? ⟨b', off' + k * 5, none⟩ = some (.string col) ∧ W.cell? ⟨b', off' + k * 5 + 1, none⟩ = some (.string op) ∧ W.cell? ⟨b', off' + k * 5 + 2, none⟩ = some (.int .i64 kind) ∧ W.cell? ⟨b', off' + k * 5 + 3, none⟩ = some (.int .i64 num) ∧ W.cell? ⟨b', off' + k * 5 + 4, none⟩ = some (.string text)) (go_keep) (first | (go_at_call 51; refine (eqTerm_same col op kind num text _).mono ?_; rintro e w1 ⟨rfl, hb1⟩; have hb1' : Below wr.heap.size wr w1 := (Below.refl _ _).drew.trans hb1; obtain ⟨hc1, hf1⟩ := bcell hb1'))
      all_goals
        have hb2 := hbw.trans (hb1'.mono hz)
        clear d0 e0 d1 e1 d2 e2 d3 e3 d4 e4 hb1 hb1' hbw hc1 hf1
        go_wp2
        go_roundw
        case rel => exact ⟨k + 1, by omega, by go_num, hb2⟩
        case measure => simp [intOf]; omega
    · go_wp2
      go_ret
      exact ⟨rfl, hbw⟩
end Go.Proofs.Yteanieiphpehcaa
