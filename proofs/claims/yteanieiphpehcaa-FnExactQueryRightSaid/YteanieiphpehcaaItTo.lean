/-
  Contracts: Items copied.
-/
import Derived.Test.YteanieiphpehcaaRows
import Derived.Test.YteanieiphpehcaaItP
import Derived.Test.YteanieiphpehcaaFlatV
import Derived.Deep.RegionHeld3
import Derived.OwnWalk
import Derived.WalkLawsBesides
import Derived.Laws.ResultCell
import Derived.Deep.CutRange

namespace Go.Proofs.Yteanieiphpehcaa
open Go.RowKit
set_option maxRecDepth 100000

theorem Try.infoItm : (Try.prog.info? 75).map (fun i => (i.zero, i.size, i.bytes)) = some (some (.agg #[.int .i64 0, .string ⟨#[]⟩]), 2, 24) := by kernel_rfl

set_option maxHeartbeats 4000000 in
theorem toItem_any (agg : Int) (col : ByteArray) (w : World) :
    Calls Try.prog 43 #[.agg #[.int .i64 agg, .string col]] w fun e w' => e = .returned (.agg #[.int .i64 agg, .string col]) ∧ Below w.heap.size w w' := by
  go_enter Try.func43, Try.ntmps43
  go_wp2
  refine bodyPost_ret (v := .agg #[.int .i64 agg, .string col]) (by simp [results, Try.results43, go_sem]) rfl ⟨rfl, ?_⟩
  exact (((Below.refl _ _).alloc (Nat.le_refl _) _).alloc (by simp) _).alloc (by simp; omega) _
set_option maxHeartbeats 2000000 in
theorem toItemS_any (A B : Nat) (ao : Option Addr) (cap : Nat) (l : List Itm) (w : World) (hB : B ≤ w.heap.size) (hl : l.length ≤ 1048576) (hr : ItmRow w A B ao l) :
    Calls Try.prog 26 #[.slice ao l.length cap] w fun e w' => ∃ bo cp, e = .returned (.slice bo l.length cp) ∧ ItmRow w' w.heap.size w'.heap.size bo l ∧ Below w.heap.size w w' := by
  obtain ⟨i0, hi, hz0, hz1, hz2⟩ := info_parts Try.infoItm
  have HR : Hid (ItmRow w A B ao l) := hr
  clear hr
  go_enter Try.func26, Try.ntmps26
  go_wp2_with (at_make; refine wpList_make_full _ rfl _ _ 36 rfl w.heap.size 75 i0 (.agg #[.int .i64 0, .string ⟨#[]⟩]) 2 Try.underlying36 hi hz0 hz1 .i64 .i64 _ _ l.length rfl rfl rfl rfl (by rw [hz2]; omega) (by unfold maxLen; omega) (Nat.le_refl _) ?_; intro w1 hown1 hgrow1)
  obtain ⟨cur0, hg0, hl0⟩ : ∃ cur : List Value, w1.heap[w.heap.size]? = some (.cells cur.toArray 75 (0, 0)) ∧ cur.length = l.length * 2 := by
    rcases hown1.2 with ⟨h, _⟩ | ⟨g, cap', cur, hv, _, hg, _, _, hs, _⟩
    · simp at h
    · simp at hv
      obtain ⟨rfl, rfl⟩ := hv
      exact ⟨cur.toList, by simpa using hg, by simpa using hs⟩
  have hb1 : Below w.heap.size w w1 := (Below.refl _ _).grown hgrow1 (Nat.le_refl _) (fun j hj => by simp at hj)
  clear hown1 hgrow1
  go_loopw [4] (fun i wr => ∃ (k : Nat) (cur : List Value), k ≤ l.length ∧ i = .int .i64 k ∧ cur.length = l.length * 2 ∧ wr.heap[w.heap.size]? = some (.cells cur.toArray 75 (0, 0)) ∧ Hid (FCur itCells noItm 2 cur l k) ∧ Below w.heap.size w wr) (fun i _ => l.length - (intOf i).toNat)
  case atStart => exact ⟨0, cur0, Nat.zero_le _, rfl, hl0, hg0, FCur.zero _ _, hb1⟩
  case round =>
    obtain ⟨k, cur, hk, rfl, hlen, hg, HC, hb⟩ := hrel
    clear hb1 hg0 hl0
    have hlt0 : w.heap.size < wr.heap.size := (Array.getElem?_eq_some_iff.1 hg).1
    by_cases hlt : k < l.length
    · obtain ⟨b, off, agg, col, rfl, hbB, hv, hfit, d0, d1⟩ := ItmRow.at (FRow.kept HR.out (hb.mono hB)) k hlt
      have HC2 := hide (FCur.step itCells_len HC.out (show k * 2 + 2 ≤ cur.length by omega) (show itCells (l.getD k noItm) = [.int .i64 agg, .string col] by rw [hv]; rfl))
      clear hv HC hfit
      go_wp2_with fail
      refine (toItem_any agg col _).mono ?_
      rintro e w2 ⟨rfl, hb2⟩
      have hg2 : w2.heap[w.heap.size]? = some (.cells cur.toArray 75 (0, 0)) := (hb2.block _ hlt0).trans hg
      have hb3 := hb.trans (hb2.mono hb.size)
      obtain ⟨x0, hx0⟩ : ∃ v, cur[k * 2]? = some v := ⟨_, List.getElem?_eq_getElem (by omega)⟩
      have e0 : w2.cell? ⟨w.heap.size, k * 2, none⟩ = some x0 := by rw [cell_of_row _ _ _ _ _ _ hg2, List.getElem?_toArray, hx0]
      obtain ⟨x1, hx1⟩ : ∃ v, cur[k * 2 + 1]? = some v := ⟨_, List.getElem?_eq_getElem (by omega)⟩
      have e1 : w2.cell? ⟨w.heap.size, k * 2 + 1, none⟩ = some x1 := by rw [cell_of_row _ _ _ _ _ _ hg2, List.getElem?_toArray, hx1]
      have ef : ∀ j, w2.frozen? ⟨w.heap.size, j, none⟩ = false := fun j => frozen_of_row _ _ _ _ _ hg2
      have HG : Hid (w2.heap[w.heap.size]? = some (.cells cur.toArray 75 (0, 0))) := hg2
      clear hx0 d0 hx1 d1 hg2 hg hb hb2
      go_wp2
      go_roundw
      case rel => exact ⟨k + 1, _, by omega, by go_num, (lsetL_len _ _ _).trans hlen, setL_heapL [.int .i64 agg, .string col] HG.out, HC2, setL_below [.int .i64 agg, .string col] hb3 (Nat.le_refl _)⟩
      case measure => simp [intOf]; omega
    · obtain rfl : k = l.length := by omega
      have HF : Hid (ItmRow wr w.heap.size wr.heap.size (some ⟨w.heap.size, 0, none⟩) l) := fRow_of hg HR.out.1 HC.out
      go_wp2
      go_ret
      exact ⟨_, _, rfl, HF.out, hb⟩
end Go.Proofs.Yteanieiphpehcaa
