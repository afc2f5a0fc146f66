/-
  Contracts: marks.
-/
import Derived.Test.YtgnegidgeegknaaMkS
import Derived.Test.YtgnegidgeegknaaConvOne
namespace Go.Proofs.Ytgnegidgeegknaa
open Go.RowKit

/-- A number's figures, ahead of what stands there. -/
def figs (j : Nat) (o : ByteArray) : ByteArray := if _h : j = 0 then o else figs (j / 10) (mkS [UInt8.ofNat (48 + j % 10)] ++ o)
termination_by j
decreasing_by omega
theorem figs_zero (o : ByteArray) : figs 0 o = o := by rw [figs]; rfl
theorem figs_pos (j : Nat) (o : ByteArray) (h : 0 < j) : figs j o = figs (j / 10) (mkS [UInt8.ofNat (48 + j % 10)] ++ o) := by rw [figs, dif_neg (by omega)]
/-- A mark. -/
def markS (k : Nat) : ByteArray := "m".toUTF8 ++ figs k ⟨#[]⟩
theorem m_size (k : Nat) : markS k = ⟨#[109]⟩ ++ figs k ⟨#[]⟩ := rfl
set_option maxRecDepth 100000 in
set_option maxHeartbeats 4000000 in
theorem markText_pos (k : Nat) (h : 0 < k) (hk : k ≤ 10000000) (w : World) :
    Calls Try.prog 73 #[.int .i64 k] w fun e w' => e = .returned (.string (markS k)) ∧ Below w.heap.size w w' := by
  go_enter Try.func73, Try.ntmps73
  go_wp2
  go_loopw [0, 3] (fun i o wr => ∃ (j : Nat) (x : ByteArray), x.size + j ≤ 10000000 ∧ i = .int .i64 j ∧ o = .string x ∧ Hid (figs k ⟨#[]⟩ = figs j x) ∧ Below w.heap.size w wr) (fun i _ _ => (intOf i).toNat)
  case atStart => exact ⟨k, ⟨#[]⟩, by simpa [ByteArray.size] using hk, rfl, rfl, rfl, Below.refl _ _⟩
  case round =>
    obtain ⟨j, x, hj, rfl, rfl, HF, hb⟩ := hrel
    have hz := hb.size
    by_cases hj0 : j = 0
    · subst hj0
      have HM : Hid (markS k = ⟨#[109]⟩ ++ x) := by show _ = _; rw [m_size, HF.out, figs_zero]
      clear HF
      go_wp2
      go_ret
      exact ⟨ret_str HM.out.symm, hb⟩
    · have HF2 : Hid (figs k ⟨#[]⟩ = figs (j / 10) (mkS [UInt8.ofNat (48 + j % 10)] ++ x)) := by show _ = _; rw [HF.out, figs_pos j x (by omega)]
      have hr10 : j % 10 < 10 := Nat.mod_lt _ (by omega)
      have hcv := conv_one wr (UInt8.ofNat (48 + j % 10)) (48 + (j : Int) % 10) (by rw [UInt8.toNat_ofNat']; omega)
      have hms : (mkS [UInt8.ofNat (48 + j % 10)]).size = 1 := mkS_size _
      have hb2 := hb.alloc hz (.cells #[.int .u8 (48 + (j : Int) % 10)] 5)
      clear HF
      generalize mkS [UInt8.ofNat (48 + j % 10)] = c at *
      go_wp2
      go_roundw
      case rel => exact ⟨j / 10, c ++ x, by rw [ByteArray.size_append]; omega, by go_num, rfl, HF2, hb2⟩
      case measure => simp [intOf]; omega
end Go.Proofs.Ytgnegidgeegknaa
