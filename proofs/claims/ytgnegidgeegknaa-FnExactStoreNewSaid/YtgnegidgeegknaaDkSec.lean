/-
  Contracts: a text's first 64 bytes as a sector; a sector as a text.
-/
import Derived.Test.YtgnegidgeegknaaBase
import Derived.Test.YtgnegidgeegknaaOwnBytes
import Derived.Lib.BufferWrite
import Derived.Laws.ResultCell
import Derived.Deep.WholeRow
import Derived.Laws.CopyOwn
namespace Go.Proofs.Ytgnegidgeegknaa
open Go.RowKit
set_option maxRecDepth 100000

/-- A text's first 64 bytes, bytes 0 filling them up. -/
def pad (l : List UInt8) : List UInt8 := l.take 64 ++ List.replicate (64 - l.length) 0
/-- 64 bytes 0. -/
def zSec : List UInt8 := List.replicate 64 0
theorem zSec_len : zSec.length = 64 := by simp [zSec]
theorem pad_len (l : List UInt8) : (pad l).length = 64 := by simp [pad]; omega
theorem pad_full {l : List UInt8} (h : l.length = 64) : pad l = l := by unfold pad; rw [List.take_of_length_le (by omega), h]; simp
def secV (l : List UInt8) : Array Value := (Lib.byteCells l).toArray
theorem secV_size (l : List UInt8) : (secV l).size = l.length := by simp [secV, Lib.byteCells]
theorem secV_one (l : List UInt8) : (secV l).all (·.oneCell') = true := by
  rw [Array.all_eq_true_iff_forall_mem]
  intro v hv
  exact Lib.byteCells_one l v (by simpa [secV] using hv)
theorem byteCells_nums (l : List UInt8) : Lib.byteCells l = (numsU l).map (Value.int .u8) := by simp [Lib.byteCells, numsU, Function.comp_def]
theorem cells_zero (n : Nat) : Lib.byteCells (List.replicate n 0) = List.replicate n (Value.int .u8 0) := by simp [Lib.byteCells]
theorem cells_app (a b : List UInt8) : Lib.byteCells (a ++ b) = Lib.byteCells a ++ Lib.byteCells b := by simp [Lib.byteCells]
/-- 'copy(dst, s)' over 64 bytes 0. -/
theorem run_copy_pad {P : Program} (w : World) (dT sT elem : TypeId) (g : Nat) (s : ByteArray) (t : TypeId)
    (hu : P.underlying dT = some (.slice elem)) (hs : (P.info? elem).map (·.size) = some 1) (hg : w.heap[g]? = some (.cells (secV zSec) t (0, 0))) :
    ∃ n : Nat, ∀ ty, (Builtin.copy_ #[dT, sT] ty #[.slice (some ⟨g, 0, none⟩) 64 64, .string s]).run P w = .ok (goInt n) (w.setRow g (secV (pad s.data.toList))) := by
  have hds : s.data.toList.length = s.size := rfl
  by_cases h : s.size ≤ 64
  · refine ⟨s.size, fun ty => ?_⟩
    rw [Lib.run_copy_row_string w dT sT ty elem g 0 64 64 s _ t hu hs hg h (by rw [secV_size, zSec_len]; simpa using h)]
    congr 2
    have e1 : (secV zSec).toList = List.replicate 64 (Value.int .u8 0) := by unfold secV zSec; rw [cells_zero]
    rw [e1]
    unfold secV pad
    rw [cells_app, cells_zero, List.take_of_length_le (show s.data.toList.length ≤ 64 by rw [hds]; exact h), hds, List.take_zero, List.nil_append, Nat.zero_add, List.drop_replicate]
  · refine ⟨64, fun ty => ?_⟩
    have hst := run_storeCells_at P g 0 t (Lib.byteCells (s.data.toList.take 64)) 0 (secV zSec) w hg (by simp [Lib.byteCells, secV, zSec]; omega) (Lib.byteCells_one _)
    have hmin : Nat.min s.size 64 = 64 := Nat.min_eq_right (by omega)
    have hlen : (Lib.byteCells (s.data.toList.take 64)).length = 64 := by simp [Lib.byteCells]; omega
    rw [hlen] at hst
    simp only [Nat.add_zero, List.take_zero, List.nil_append, Nat.zero_add] at hst
    have hd : List.drop 64 (secV zSec).toList = [] := List.drop_eq_nil_of_le (by simp [secV, Lib.byteCells, zSec])
    rw [hd, List.append_nil] at hst
    have hp : secV (pad s.data.toList) = (Lib.byteCells (s.data.toList.take 64)).toArray := by
      unfold secV pad
      rw [show 64 - s.data.toList.length = 0 by omega]; simp
    cases hq : P.info? elem with
    | none => simp [hq] at hs
    | some i =>
      simp [Builtin.copy_, run_underlying hu, Builtin.lenOf, Builtin.firstCells, sizeOf, typeInfo, hq, hmin]
      have hst' : Sem.run P (storeCells ⟨g, 0, none⟩ (List.map (fun b : UInt8 => Value.int IntKind.u8 (b.toNat : Int)) (List.take 64 s.data.toList))) w = _ := hst
      rw [← List.map_take, hst', hp]
      simp [Result.andThen]
theorem Try.infoSec : (Try.prog.info? 67).map (fun i => (i.zero, i.size)) = some (some (.agg (secV zSec)), 64) := by kernel_rfl
set_option maxHeartbeats 1000000 in
theorem sectorText_any (l : List UInt8) (hl : l.length = 64) (w : World) :
    Calls Try.prog 42 #[.agg (secV l)] w fun e w' => e = .returned (.string (mkS l)) ∧ Below w.heap.size w w' := by
  have hrun : (convert 63 9 (.slice (some ⟨w.heap.size, 0, none⟩) 64 64)).run Try.prog (w.alloc (.cells (secV l) 67)) = .ok (.string (mkS l)) (w.alloc (.cells (secV l) 67)) := by
    rw [← strOfNums_bytes]
    refine run_convert_bytes_arg _ 63 5 Try.underlying63 Try.underlying5 w.heap.size 0 64 64 (l.map fun b => (b.toNat : Int)) (by simpa using hl) (fun i hi => ?_) 9 Try.underlying9
    rw [Nat.zero_add, cell_of_row _ _ _ _ _ _ (heap_alloc_new w _)]
    unfold secV Lib.byteCells
    rw [List.getElem?_toArray, List.getElem?_map, List.getElem?_eq_getElem (by omega)]
    simp [List.getElem?_eq_getElem (show i < l.length by omega)]
  have B0 := hide ((Below.refl w.heap.size w).alloc (Nat.le_refl _) (.cells (secV l) 67))
  go_enter Try.func42, Try.ntmps42
  go_wp2
  go_ret
  exact ⟨rfl, B0.out⟩
set_option maxHeartbeats 1000000 in
theorem sectorOf_any (s : ByteArray) (w : World) :
    Calls Try.prog 79 #[.string s] w fun e w' => e = .returned (.agg (secV (pad s.data.toList))) ∧ Below w.heap.size w w' := by
  have hz := zero_of_info Try.infoSec
  have hzz := hz.1
  have HS64 := hide hz.2
  have hs : (Try.prog.info? 5).map (·.size) = some 1 := by kernel_rfl
  have HA := two_allocs w (.cells (secV zSec) 67) (.cells (secV zSec) 67)
  have B0 := hide (((Below.refl w.heap.size w).alloc (Nat.le_refl _) (.cells (secV zSec) 67)).alloc (by simp) (.cells (secV zSec) 67))
  obtain ⟨n, w1, hcp, hg1, hr1, hb1⟩ : ∃ (n : Nat) (w1 : World), (∀ ty, (Builtin.copy_ #[63, 9] ty #[.slice (some ⟨w.heap.size + 1, 0, none⟩) 64 64, .string s]).run Try.prog ((w.alloc (.cells (secV zSec) 67)).alloc (.cells (secV zSec) 67)) = .ok (goInt n) w1) ∧ w1.heap[w.heap.size + 1]? = some (.cells (secV (pad s.data.toList)) 67 (0, 0)) ∧ w1.heap[w.heap.size]? = some (.cells (secV zSec) 67 (0, 0)) ∧ Below w.heap.size w w1 := by
    obtain ⟨n, h⟩ := run_copy_pad (P := Try.prog) ((w.alloc (.cells (secV zSec) 67)).alloc (.cells (secV zSec) 67)) 63 9 5 (w.heap.size + 1) s _ Try.underlying63 hs HA.2.1
    exact ⟨n, _, h, setRow_heap _ _ _ _ _ _ HA.2.1, (setRow_other _ _ _ _ (by omega)).trans HA.1, below_setRow B0.out (Nat.le_succ _) _⟩
  have HG1 := hide hg1
  have HR1 := hide hr1
  have B1 := hide hb1
  clear hz HA B0 hg1 hr1 hb1 hs
  go_enter Try.func79, Try.ntmps79
  go_wp2_with (first | (refine wpList_load_row rfl 67 _ rfl (w.heap.size + 1) rfl 67 _ (0, 0) _ HG1.out Try.underlying67 rfl (by rw [secV_size, pad_len]; exact HS64.out) ?_) | (refine wpList_store_row rfl 67 _ _ rfl w.heap.size _ rfl rfl 67 _ HR1.out (by rw [secV_size, pad_len]; exact HS64.out) (by rw [secV_size, secV_size, zSec_len, pad_len]) (secV_one _) ?_))
  refine bodyPost_ret (v := .agg (secV (pad s.data.toList))) (results_cell_row (p := 2) rfl _ _ w.heap.size 67 _ (0, 0) _ rfl (setRow_heap _ _ _ _ _ _ HR1.out) Try.underlying67 rfl (by rw [secV_size, pad_len]; exact HS64.out)) rfl ⟨rfl, below_setRow B1.out (Nat.le_refl _) _⟩
end Go.Proofs.Ytgnegidgeegknaa
