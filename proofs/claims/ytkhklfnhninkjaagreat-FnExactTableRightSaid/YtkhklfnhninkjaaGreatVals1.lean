/-
  Contracts: the sizes of values, as the laws count them.
-/
import Derived.Test.YtkhklfnhninkjaaGreatVTake
import Derived.Test.YtkhklfnhninkjaaGreatInner3
import Derived.Test.YtkhklfnhninkjaaGreatVal1
import Derived.Test.YtkhklfnhninkjaaGreatReadVal
import Derived.Deep.RegionHeld3
import Derived.OwnWalk
namespace Go.Proofs.YtkhklfnhninkjaaGreat
open Go.RowKit

/-- Do all texts, and the places, fit in? -/
def szFits (left : Int) (vs : List Val) : Prop := (vs.length : Int) + ((vs.map fun v => v.text.size).sum : Nat) ≤ left
theorem sum_take (vs : List Val) (k : Nat) (hk : k < vs.length) : ((vs.take (k + 1)).map fun v => v.text.size).sum = ((vs.take k).map fun v => v.text.size).sum + vs[k].text.size := by
  rw [List.take_succ_eq_append_getElem hk]; simp only [List.map_append, List.sum_append, List.map_cons, List.map_nil, List.sum_cons, List.sum_nil, Nat.add_zero]
theorem sum_le (vs : List Val) (k : Nat) : ((vs.take k).map fun v => v.text.size).sum ≤ (vs.map fun v => v.text.size).sum := by
  have h : ((vs.take k ++ vs.drop k).map fun v => v.text.size).sum = ((vs.take k).map fun v => v.text.size).sum + ((vs.drop k).map fun v => v.text.size).sum := by rw [List.map_append, List.sum_append]
  rw [List.take_append_drop] at h
  omega
set_option maxHeartbeats 1000000 in
theorem szValueS_any (B : Nat) (ao : Option Addr) (cap : Nat) (vs : List Val) (left : Int) (w : World) (hB : B ≤ w.heap.size) (hl : vs.length ≤ maxLen) (hr : ValRow w B ao vs) (h0 : 0 ≤ left) (h1 : left ≤ 1048576) :
    Calls Tryz.prog 24 #[.slice ao vs.length cap, .int .i64 left] w fun e w' => ∃ r : Int, e = .returned (.int .i64 r) ∧ r ≤ left ∧ (r < 0 ∨ 0 ≤ r ∧ szFits left vs) ∧ Below w.heap.size w w' := by
  unfold maxLen at hl
  by_cases hlong : left < vs.length
  · go_enter Tryz.func24, Tryz.ntmps24
    go_wp2
    go_ret
    exact ⟨-1, rfl, by omega, .inl (by omega), Below.refl _ _⟩
  · have HR : Hid (ValRow w B ao vs) := hr
    clear hr
    go_enter Tryz.func24, Tryz.ntmps24
    go_wp2
    go_loopw [1, 5] (fun x i wr => ∃ (k : Nat) (r : Int), k ≤ vs.length ∧ i = .int .i64 k ∧ x = .int .i64 r ∧ 0 ≤ r ∧ Hid (r = left - vs.length - ((vs.take k).map fun v => v.text.size).sum) ∧ Below w.heap.size w wr) (fun _ i _ => vs.length - (intOf i).toNat)
    case atStart => exact ⟨0, left - vs.length, Nat.zero_le _, rfl, rfl, by omega, by show _ = _; simp, Below.refl _ _⟩
    case round =>
      obtain ⟨k, r, hk, rfl, rfl, hr0, HS, hb⟩ := hrel
      have hr1 : r ≤ left := by have := HS.out; omega
      by_cases hlt : k < vs.length
      · obtain ⟨b, off, kk, nn, tt, rfl, hbB, hv, htt, d0, d1, d2⟩ := (HR.out.kept (hb.mono hB)).at k hlt
        have HVk : Hid (vs[k] = ⟨kk, nn, tt⟩) := hv
        clear hv
        have hc := fun w => szValue_any kk nn r tt hr0 (by omega) htt w
        by_cases hs : r < tt.size
        · rw [if_pos hs] at hc
          go_wp2_with fail
          refine (hc _).mono ?_
          rintro e w1 ⟨rfl, hb1⟩
          have hb2 := hb.trans (hb1.mono hb.size)
          clear hc hb hb1 d0 d1 d2
          go_wp2
          go_ret
          exact ⟨-1, rfl, by omega, .inl (by omega), hb2⟩
        · rw [if_neg hs] at hc
          have HS2 : Hid (r - tt.size = left - vs.length - ((vs.take (k + 1)).map fun v => v.text.size).sum) := by
            show _ = _
            rw [sum_take vs k hlt, HVk.out]
            have := HS.out
            simp only; omega
          go_wp2_with fail
          refine (hc _).mono ?_
          rintro e w1 ⟨rfl, hb1⟩
          have hb2 := hb.trans (hb1.mono hb.size)
          clear hc hb hb1 d0 d1 d2
          go_wp2
          go_roundw
          case rel => exact ⟨k + 1, r - tt.size, by omega, by go_num, by go_num, by omega, HS2, hb2⟩
          case measure => simp [intOf]; omega
      · obtain rfl : k = vs.length := by omega
        have HF : Hid (szFits left vs) := by
          have := HS.out
          rw [List.take_length] at this
          unfold szFits; show _ ≤ _; omega
        go_wp2
        go_ret
        exact ⟨r, rfl, hr1, .inr ⟨hr0, HF.out⟩, hb⟩
end Go.Proofs.YtkhklfnhninkjaaGreat
