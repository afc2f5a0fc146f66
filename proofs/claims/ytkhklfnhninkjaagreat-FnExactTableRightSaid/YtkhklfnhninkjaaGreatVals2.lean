/-
  Contracts: values copied into a slice of their own; two slices of the same values are the same.
-/
import Derived.Test.YtkhklfnhninkjaaGreatVals1
import Derived.Test.YtkhklfnhninkjaaGreatFlatV
import Derived.Test.YtkhklfnhninkjaaGreatInfoV
import Derived.Test.YtkhklfnhninkjaaGreatEqV
namespace Go.Proofs.YtkhklfnhninkjaaGreat
open Go.RowKit

set_option maxHeartbeats 1000000 in
theorem toValueS_any (B : Nat) (ao : Option Addr) (cap : Nat) (vs : List Val) (w : World) (hB : B ≤ w.heap.size) (hl : vs.length ≤ 1048576) (hr : ValRow w B ao vs) :
    Calls Tryz.prog 33 #[.slice ao vs.length cap] w fun e w' => ∃ bo cp, e = .returned (.slice bo vs.length cp) ∧ ValRow w' w'.heap.size bo vs ∧ Below w.heap.size w w' := by
  obtain ⟨i0, hi, hz0, hz1, hz2⟩ := info_parts Tryz.infoVal
  have HR : Hid (ValRow w B ao vs) := hr
  clear hr
  go_enter Tryz.func33, Tryz.ntmps33
  go_wp2_with (at_make; refine wpList_make_full _ rfl _ _ 46 rfl w.heap.size 72 i0 (.agg #[.int .i64 0, .int .i64 0, .string ⟨#[]⟩]) 3 Tryz.underlying46 hi hz0 hz1 .i64 .i64 _ _ vs.length rfl rfl rfl rfl (by rw [hz2]; omega) (by unfold maxLen; omega) (Nat.le_refl _) ?_; intro w1 hown1 hgrow1)
  obtain ⟨cur0, hg0, hl0⟩ : ∃ cur : List Value, w1.heap[w.heap.size]? = some (.cells cur.toArray 72 (0, 0)) ∧ cur.length = vs.length * 3 := by
    rcases hown1.2 with ⟨h, _⟩ | ⟨g, cap', cur, hv, _, hg, _, _, hs, _⟩
    · simp at h
    · simp at hv
      obtain ⟨rfl, rfl⟩ := hv
      exact ⟨cur.toList, by simpa using hg, by simpa using hs⟩
  have hb1 : Below w.heap.size w w1 := (Below.refl _ _).grown hgrow1 (Nat.le_refl _) (fun j hj => by simp at hj)
  clear hown1 hgrow1
  go_loopw [4] (fun i wr => ∃ (k : Nat) (cur : List Value), k ≤ vs.length ∧ i = .int .i64 k ∧ cur.length = vs.length * 3 ∧ wr.heap[w.heap.size]? = some (.cells cur.toArray 72 (0, 0)) ∧ Hid (cur.take (k * 3) = flatV (vs.take k)) ∧ Below w.heap.size w wr) (fun i _ => vs.length - (intOf i).toNat)
  case atStart => exact ⟨0, cur0, Nat.zero_le _, rfl, hl0, hg0, by show _ = _; simp [flatV], hb1⟩
  case round =>
    obtain ⟨k, cur, hk, rfl, hlen, hg, HC, hb⟩ := hrel
    clear hb1 hg0 hl0
    have hlt0 : w.heap.size < wr.heap.size := (Array.getElem?_eq_some_iff.1 hg).1
    by_cases hlt : k < vs.length
    · obtain ⟨b, off, kk, nn, tt, rfl, hbB, hv, htt, d0, d1, d2⟩ := (HR.out.kept (hb.mono hB)).at k hlt
      obtain ⟨HC2, hlen2⟩ := flatV_step cur vs k hlt hlen HC.out kk nn tt hv
      have HC3 : Hid ((((cur.set (k * 3) (.int .i64 kk)).set (k * 3 + 1) (.int .i64 nn)).set (k * 3 + 2) (.string tt)).take ((k + 1) * 3) = flatV (vs.take (k + 1))) := HC2
      clear hv HC HC2
      go_wp2_with fail
      refine (toValue_any kk nn tt _).mono ?_
      rintro e w2 ⟨rfl, hb2⟩
      have hg2 : w2.heap[w.heap.size]? = some (.cells cur.toArray 72 (0, 0)) := (hb2.block _ hlt0).trans hg
      have hb3 := hb.trans (hb2.mono hb.size)
      obtain ⟨x0, hx0⟩ : ∃ v, cur[k * 3]? = some v := ⟨_, List.getElem?_eq_getElem (by omega)⟩
      obtain ⟨x1, hx1⟩ : ∃ v, cur[k * 3 + 1]? = some v := ⟨_, List.getElem?_eq_getElem (by omega)⟩
      obtain ⟨x2, hx2⟩ : ∃ v, cur[k * 3 + 2]? = some v := ⟨_, List.getElem?_eq_getElem (by omega)⟩
      have e0 : w2.cell? ⟨w.heap.size, k * 3, none⟩ = some x0 := by rw [cell_of_row _ _ _ _ _ _ hg2, List.getElem?_toArray, hx0]
      have e1 : w2.cell? ⟨w.heap.size, k * 3 + 1, none⟩ = some x1 := by rw [cell_of_row _ _ _ _ _ _ hg2, List.getElem?_toArray, hx1]
      have e2 : w2.cell? ⟨w.heap.size, k * 3 + 2, none⟩ = some x2 := by rw [cell_of_row _ _ _ _ _ _ hg2, List.getElem?_toArray, hx2]
      have ef : ∀ j, w2.frozen? ⟨w.heap.size, j, none⟩ = false := fun j => frozen_of_row _ _ _ _ _ hg2
      have HG : Hid (w2.heap[w.heap.size]? = some (.cells cur.toArray 72 (0, 0))) := hg2
      clear hx0 hx1 hx2 hg2 hg d0 d1 d2 hb hb2
      go_wp2
      go_roundw
      case rel => exact ⟨k + 1, _, by omega, by go_num, hlen2, set3_heap HG.out, HC3, ((hb3.setCell (Nat.le_refl _) _).setCell (Nat.le_refl _) _).setCell (Nat.le_refl _) _⟩
      case measure => simp [intOf]; omega
    · obtain rfl : k = vs.length := by omega
      have HF : Hid (ValRow wr wr.heap.size (some ⟨w.heap.size, 0, none⟩) vs) := valRow_of hg (by rw [HC.out, List.take_length]) HR.out.1 HR.out.2.1
      go_wp2
      go_ret
      exact ⟨_, _, rfl, HF.out, hb⟩
end Go.Proofs.YtkhklfnhninkjaaGreat
