/-
  Contracts: the sizes of Terms, as the laws count them.
-/
import Derived.Test.YteanieiphpehcaaTmTo
namespace Go.Proofs.Yteanieiphpehcaa
open Go.RowKit
set_option maxRecDepth 100000

set_option maxHeartbeats 2000000 in
theorem szTerm_any (col : ByteArray) (op : ByteArray) (kind : Int) (num : Int) (text : ByteArray) (left : Int) (h0 : 0 ≤ left) (h1 : left ≤ 1048576) (ht : col.size ≤ maxLen ∧ op.size ≤ maxLen ∧ text.size ≤ maxLen) (w : World) :
    Calls Try.prog 39 #[.agg #[.string col, .string op, .int .i64 kind, .int .i64 num, .string text], .int .i64 left] w fun e w' => ∃ r : Int, e = .returned (.int .i64 r) ∧ r ≤ left ∧ (r < 0 ∨ 0 ≤ r ∧ (Trm.mk col op kind num text).small) ∧ Below w.heap.size w w' := by
  unfold maxLen at ht
  by_cases hcol : left < (col.size : Int)
  · go_enter Try.func39, Try.ntmps39
    go_wp2
    go_ret
    exact ⟨-1, rfl, by omega, .inl (by omega), (Below.refl _ _).alloc (Nat.le_refl _) _⟩
  · have hw0 : IntKind.i64.wrap (left - (col.size : Int)) = left - (col.size : Int) := by rw [IntKind.wrap_i64]; omega
    by_cases hop : left - (col.size : Int) < (op.size : Int)
    · go_enter Try.func39, Try.ntmps39
      go_wp2
      go_ret
      exact ⟨-1, rfl, by omega, .inl (by omega), (Below.refl _ _).alloc (Nat.le_refl _) _⟩
    · have hw1 : IntKind.i64.wrap (left - (col.size : Int) - (op.size : Int)) = left - (col.size : Int) - (op.size : Int) := by rw [IntKind.wrap_i64]; omega
      obtain ⟨q, hq⟩ : ∃ q, q = left - (col.size : Int) - (op.size : Int) := ⟨_, rfl⟩
      go_enter Try.func39, Try.ntmps39
      go_wp2_with fail
      rw [← hq]
      refine (szValue_any kind num q text (by omega) (by omega) (by unfold maxLen; omega) _).mono ?_
      rintro e w1 ⟨rfl, hb1⟩
      have hb2 := hide (((Below.refl w.heap.size w).alloc (Nat.le_refl _) _).trans (hb1.mono (by simp)))
      clear hb1
      by_cases hs : q < (text.size : Int)
      · rw [if_pos hs]
        go_wp2
        go_ret
        exact ⟨-1, rfl, by omega, .inl (by omega), hb2.out⟩
      · rw [if_neg hs]
        go_wp2
        go_ret
        exact ⟨_, rfl, by omega, .inr ⟨by omega, ⟨(show col.size ≤ 1048576 by omega), (show op.size ≤ 1048576 by omega), (show text.size ≤ 1048576 by omega)⟩⟩, hb2.out⟩
set_option maxHeartbeats 1000000 in
theorem szTermS_any (A B : Nat) (ao : Option Addr) (cap : Nat) (l : List Trm) (left : Int) (w : World) (hB : B ≤ w.heap.size) (hl : l.length ≤ maxLen) (hr : TrmRow w A B ao l) (h0 : 0 ≤ left) (h1 : left ≤ 1048576) :
    Calls Try.prog 21 #[.slice ao l.length cap, .int .i64 left] w fun e w' => ∃ r : Int, e = .returned (.int .i64 r) ∧ r ≤ left ∧ (r < 0 ∨ 0 ≤ r ∧ l.length ≤ 1048576 ∧ ∀ i, i < l.length → (l.getD i noTrm).small) ∧ Below w.heap.size w w' := by
  unfold maxLen at hl
  by_cases hlong : left < l.length
  · go_enter Try.func21, Try.ntmps21
    go_wp2
    go_ret
    exact ⟨-1, rfl, by omega, .inl (by omega), Below.refl _ _⟩
  · have HR : Hid (TrmRow w A B ao l) := hr
    clear hr
    go_enter Try.func21, Try.ntmps21
    go_wp2
    go_loopw [1, 5] (fun x i wr => ∃ (k : Nat) (r : Int), k ≤ l.length ∧ i = .int .i64 k ∧ x = .int .i64 r ∧ 0 ≤ r ∧ r ≤ left ∧ Hid (∀ i, i < k → (l.getD i noTrm).small) ∧ Below w.heap.size w wr) (fun _ i _ => l.length - (intOf i).toNat)
    case atStart => exact ⟨0, left - l.length, Nat.zero_le _, rfl, rfl, by omega, by omega, fun i hi => absurd hi (Nat.not_lt_zero _), Below.refl _ _⟩
    case round =>
      obtain ⟨k, r, hk, rfl, rfl, hr0, hr1, HF, hb⟩ := hrel
      by_cases hlt : k < l.length
      · obtain ⟨b, off, col, op, kind, num, text, rfl, hbB, hv, ⟨ftcol, ftop, ftkind, ftnum, fttext⟩, d0, d1, d2, d3, d4⟩ := TrmRow.at (FRow.kept HR.out (hb.mono hB)) k hlt
        have HS := hide (fun (W : World) => szTerm_any col op kind num text r hr0 (by omega) ⟨ftcol, ftop, fttext⟩ W)
        have HV := hide hv
        clear hv ftcol ftop ftkind ftnum fttext
        go_wp2_with fail
        refine (HS.out _).mono ?_
        rintro e w1 ⟨q, rfl, hq, hcase, hb1⟩
        have hb2 := hb.trans (hb1.mono hb.size)
        clear hb hb1 d0 d1 d2 d3 d4 HS
        rcases hcase with hs | ⟨hs, hsm⟩
        · go_wp2
          go_ret
          exact ⟨-1, rfl, by omega, .inl (by omega), hb2⟩
        · have HF2 : Hid (∀ i, i < k + 1 → (l.getD i noTrm).small) := fun i hi => by
            by_cases e : i = k
            · subst e
              rw [HV.out]
              exact hsm
            · exact HF.out i (by omega)
          clear HF HV hsm
          go_wp2
          go_roundw
          case rel => exact ⟨k + 1, q, by omega, by go_num, rfl, by omega, by omega, HF2, hb2⟩
          case measure => simp [intOf]; omega
      · obtain rfl : k = l.length := by omega
        go_wp2
        go_ret
        exact ⟨r, rfl, hr1, .inr ⟨hr0, by omega, HF.out⟩, hb⟩
end Go.Proofs.Yteanieiphpehcaa
