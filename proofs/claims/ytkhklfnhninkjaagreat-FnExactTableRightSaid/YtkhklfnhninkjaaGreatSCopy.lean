/-
  Contracts: numbers, columns and indexes copied into slices of their own.
-/
import Derived.Test.YtkhklfnhninkjaaGreatRows
import Derived.Test.YtkhklfnhninkjaaGreatSRow
import Derived.Test.YtkhklfnhninkjaaGreatFlatV
import Derived.Deep.RegionHeld3
import Derived.OwnWalk
import Derived.WalkLawsBesides
namespace Go.Proofs.YtkhklfnhninkjaaGreat
open Go.RowKit
set_option maxRecDepth 100000

theorem Tryz.infoI64 : (Tryz.prog.info? 2).map (fun i => (i.zero, i.size, i.bytes)) = some (some (.int .i64 0), 1, 8) := by kernel_rfl
theorem Tryz.infoCol : (Tryz.prog.info? 67).map (fun i => (i.zero, i.size, i.bytes)) = some (some (.agg #[.string ⟨#[]⟩, .int .i64 0, .bool false]), 3, 32) := by kernel_rfl
theorem Tryz.infoIdx : (Tryz.prog.info? 69).map (fun i => (i.zero, i.size, i.bytes)) = some (some (.agg #[.slice none 0 0, .bool false]), 2, 32) := by kernel_rfl

def numsV (l : List Int) : List Value := l.map (Value.int .i64)
theorem intRow_of {w : World} {g : Nat} {cur : List Value} {t : TypeId} {f : Nat × Nat} {l : List Int} (hg : w.heap[g]? = some (.cells cur.toArray t f)) (hc : cur.take l.length = numsV l) (ho : ∀ x ∈ l, inI64 x) :
    IntRow w g w.heap.size (some ⟨g, 0, none⟩) l := by
  have hlt : g < w.heap.size := (Array.getElem?_eq_some_iff.1 hg).1
  refine ⟨ho, .inr ⟨g, 0, rfl, Nat.le_refl _, hlt, fun i hi => ?_⟩⟩
  rw [cell_of_row _ _ _ _ _ _ hg, List.getElem?_toArray, Nat.zero_add]
  have : (cur.take l.length)[i]? = cur[i]? := List.getElem?_take_of_lt hi
  rw [← this, hc, numsV, List.getElem?_map, List.getD_eq_getElem?_getD, List.getElem?_eq_getElem hi]; rfl
theorem nums_step (cur : List Value) (l : List Int) (k : Nat) (hk : k < l.length) (hl : cur.length = l.length) (hc : cur.take k = numsV (l.take k)) (x : Int) (hx : l.getD k 0 = x) :
    (cur.set k (.int .i64 x)).take (k + 1) = numsV (l.take (k + 1)) ∧ (cur.set k (.int .i64 x)).length = l.length := by
  refine ⟨?_, by simpa using hl⟩
  have hk' : k < (cur.set k (.int .i64 x)).length := by simp; omega
  rw [List.take_succ_eq_append_getElem hk', List.take_set_of_le (Nat.le_refl _), hc, List.getElem_set_self, List.take_succ_eq_append_getElem hk]
  rw [List.getD_eq_getElem?_getD, List.getElem?_eq_getElem hk] at hx
  simp only [Option.getD_some] at hx
  unfold numsV
  rw [List.map_append, hx]; rfl
set_option maxHeartbeats 1000000 in
theorem toInt64S_any (A B : Nat) (ao : Option Addr) (cap : Nat) (l : List Int) (w : World) (hB : B ≤ w.heap.size) (hl : l.length ≤ 1048576) (hr : IntRow w A B ao l) :
    Calls Tryz.prog 31 #[.slice ao l.length cap] w fun e w' => ∃ bo cp, e = .returned (.slice bo l.length cp) ∧ (l.length ≤ cp ∧ cp ≤ maxLen) ∧ IntRow w' w.heap.size w'.heap.size bo l ∧ Below w.heap.size w w' := by
  obtain ⟨i0, hi, hz0, hz1, hz2⟩ := info_parts Tryz.infoI64
  have HR : Hid (IntRow w A B ao l) := hr
  clear hr
  go_enter Tryz.func31, Tryz.ntmps31
  go_wp2_with (at_make; refine wpList_make_full _ rfl _ _ 23 rfl w.heap.size 2 i0 (.int .i64 0) 1 Tryz.underlying23 hi hz0 hz1 .i64 .i64 _ _ l.length rfl rfl rfl rfl (by rw [hz2]; omega) (by unfold maxLen; omega) (Nat.le_refl _) ?_; intro w1 hown1 hgrow1)
  obtain ⟨cur0, hg0, hl0⟩ : ∃ cur : List Value, w1.heap[w.heap.size]? = some (.cells cur.toArray 2 (0, 0)) ∧ cur.length = l.length := by
    rcases hown1.2 with ⟨h, _⟩ | ⟨g, cap', cur, hv, _, hg, _, _, hs, _⟩
    · simp at h
    · simp at hv
      obtain ⟨rfl, rfl⟩ := hv
      exact ⟨cur.toList, by simpa using hg, by simpa using hs⟩
  have hb1 : Below w.heap.size w w1 := (Below.refl _ _).grown hgrow1 (Nat.le_refl _) (fun j hj => by simp at hj)
  clear hown1 hgrow1
  go_loopw [4] (fun i wr => ∃ (k : Nat) (cur : List Value), k ≤ l.length ∧ i = .int .i64 k ∧ cur.length = l.length ∧ wr.heap[w.heap.size]? = some (.cells cur.toArray 2 (0, 0)) ∧ Hid (cur.take k = numsV (l.take k)) ∧ Below w.heap.size w wr) (fun i _ => l.length - (intOf i).toNat)
  case atStart => exact ⟨0, cur0, Nat.zero_le _, rfl, hl0, hg0, by show _ = _; simp [numsV], hb1⟩
  case round =>
    obtain ⟨k, cur, hk, rfl, hlen, hg, HC, hb⟩ := hrel
    clear hb1 hg0 hl0
    have hlt0 : w.heap.size < wr.heap.size := (Array.getElem?_eq_some_iff.1 hg).1
    by_cases hlt : k < l.length
    · obtain ⟨b, off, x, rfl, hbB, hv, hx, d0⟩ := (HR.out.kept (hb.mono hB)).at k hlt
      obtain ⟨HC2, hlen2⟩ := nums_step cur l k hlt hlen HC.out x hv
      have HC3 : Hid ((cur.set k (.int .i64 x)).take (k + 1) = numsV (l.take (k + 1))) := HC2
      clear hv HC HC2
      obtain ⟨x0, hx0⟩ : ∃ v, cur[k]? = some v := ⟨_, List.getElem?_eq_getElem (by omega)⟩
      have e0 : wr.cell? ⟨w.heap.size, k, none⟩ = some x0 := by rw [cell_of_row _ _ _ _ _ _ hg, List.getElem?_toArray, hx0]
      have ef : ∀ j, wr.frozen? ⟨w.heap.size, j, none⟩ = false := fun j => frozen_of_row _ _ _ _ _ hg
      have HG : Hid (wr.heap[w.heap.size]? = some (.cells cur.toArray 2 (0, 0))) := hg
      clear hx0 hg
      go_wp2
      go_roundw
      case rel => exact ⟨k + 1, _, by omega, by go_num, hlen2, (by rw [heap_setCell_same _ _ _ _ _ _ HG.out]; simp), HC3, hb.setCell (Nat.le_refl _) _⟩
      case measure => simp [intOf]; omega
    · obtain rfl : k = l.length := by omega
      have HF : Hid (IntRow wr w.heap.size wr.heap.size (some ⟨w.heap.size, 0, none⟩) l) := intRow_of hg (by rw [HC.out, List.take_length]) HR.out.1
      go_wp2
      go_ret
      exact ⟨_, _, rfl, ⟨Nat.le_refl _, by unfold maxLen; omega⟩, HF.out, hb⟩

theorem toColumn_any (t : ByteArray) (k : Int) (n : Bool) (w : World) :
    Calls Tryz.prog 45 #[.agg #[.string t, .int .i64 k, .bool n]] w fun e w' => e = .returned (.agg #[.string t, .int .i64 k, .bool n]) ∧ Below w.heap.size w w' := by
  go_enter Tryz.func45, Tryz.ntmps45
  go_wp2
  refine bodyPost_ret (v := .agg #[.string t, .int .i64 k, .bool n]) (by simp [results, Tryz.results45, go_sem]) rfl ⟨rfl, ?_⟩
  exact (((Below.refl _ _).alloc (Nat.le_refl _) _).alloc (by simp) _).alloc (by simp; omega) _
end Go.Proofs.YtkhklfnhninkjaaGreat
