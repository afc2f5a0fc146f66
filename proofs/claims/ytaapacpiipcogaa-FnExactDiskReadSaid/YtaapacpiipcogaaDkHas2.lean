/-
  Contract: what a sector has, by the map of the last writes.
-/
import Derived.Test.YtaapacpiipcogaaDkHas
namespace Go.Proofs.Ytaapacpiipcogaa
open Go.RowKit Go.Maps Go.ChangeMaps Go.MapKept
set_option maxRecDepth 100000

set_option maxHeartbeats 4000000 in
theorem has_any (A B : Nat) (so : Option Addr) (p b n : Nat) (d : Dk) (i : Nat) (w : World) (hB : B ≤ w.heap.size) (hi : i < d.secs.length) (hR : dkRight d = true) (hlen : d.secs.length ≤ 700) (hr : StrRow w A B so d.secs) (hm : w.ownsMap Try.prog 2 secR b n (cacheD d.cache)) :
    Calls Try.prog 66 #[.agg #[.slice so d.secs.length p, .map (some b)], .int .i64 (i : Int)] w fun e w' => e = .returned (.agg (secV ((flushL d.secs d.cache).getD i ByteArray.empty).data.toList)) ∧ Below w.heap.size w w' := by
  have hlook := cache_look (dkRight_cache hR) i hi
  have hfull : ((flushL d.secs d.cache).getD i ByteArray.empty).data.toList.length = 64 := flush_sizes d.cache d.secs (fun x hx => (dkRight_cache hR x hx).2.2) (dkRight_secs hR) i hi
  have hown : (d.secs.getD i ByteArray.empty).data.toList.length = 64 := dkRight_secs hR i hi
  have HWF : Hid (keyOf Try.prog 2 (.int .i64 (i : Int)) = some (.int .i64 (i : Int))) := keyOf_int_mk Try.underlying2 (wf_i64' (by unfold wI64; omega))
  have HL := hide (fun W hW hr' => lies_any A B so p b d.secs i W hW hi hr')
  have HPF : Hid (pad (d.secs.getD i ByteArray.empty).data.toList = (d.secs.getD i ByteArray.empty).data.toList) := pad_full hown
  obtain ⟨ss, cs⟩ := d
  simp only at *
  generalize (flushL ss cs).getD i ByteArray.empty = F at *
  generalize cacheD cs = D at *
  have HF64 : Hid ((secV F.data.toList).size = 64) := by show _ = _; rw [secV_size]; exact hfull
  have HZ64 : Hid ((secV zSec).size = 64) := by show _ = _; rw [secV_size, zSec_len]
  clear hfull hown
  have HSR := hide hr
  have hz := zero_of_info Try.infoSec
  have hzz := hz.1
  have HS64 := hide hz.2
  have h0 := two_allocs w (.cells #[.slice so ss.length p, .map (some b)] 64) (.cells (secV zSec) 92)
  have X0 := hide h0.1
  have R0 := hide h0.2.1
  have Z0 := hide h0.2.2
  have B0 := hide (((Below.refl w.heap.size w).alloc (Nat.le_refl _) (.cells #[.slice so ss.length p, .map (some b)] 64)).alloc (by simp) (.cells (secV zSec) 92))
  have M0 := hide ((hm.alloc (.cells #[.slice so ss.length p, .map (some b)] 64)).alloc (.cells (secV zSec) 92))
  clear hz h0 hm hr hlen
  have N0 : Hid ((((w.alloc (.cells #[.slice so ss.length p, .map (some b)] 64)).alloc (.cells (secV zSec) 92)).alloc (.cells (secV zSec) 92)).heap[w.heap.size + 2]? = some (.cells (secV zSec) 92 (0, 0))) := by
    have h := heap_alloc_new ((w.alloc (.cells #[.slice so ss.length p, .map (some b)] 64)).alloc (.cells (secV zSec) 92)) (.cells (secV zSec) 92)
    rw [Z0.out] at h
    exact h
  have R1 := hide ((heap_old ((w.alloc (.cells #[.slice so ss.length p, .map (some b)] 64)).alloc (.cells (secV zSec) 92)) (.cells (secV zSec) 92) (w.heap.size + 1) (by rw [Z0.out]; omega)).trans R0.out)
  have X1 := hide ((heap_old ((w.alloc (.cells #[.slice so ss.length p, .map (some b)] 64)).alloc (.cells (secV zSec) 92)) (.cells (secV zSec) 92) w.heap.size (by rw [Z0.out]; omega)).trans X0.out)
  have B1 := hide (B0.out.alloc B0.out.size (.cells (secV zSec) 92))
  clear X0 R0 Z0 B0
  cases hhas : Maps.has D (.int .i64 (i : Int)) with
  | true =>
    have hat := hlook.1 hhas (.lit (.string zSec))
    have N2 := hide (setRow_heap _ _ _ (secV F.data.toList) _ _ N0.out)
    have R2 := hide ((setRow_other _ (w.heap.size + 2) (w.heap.size + 1) (secV F.data.toList) (by omega)).trans R1.out)
    have B2 := hide (below_setRow B1.out (show w.heap.size ≤ w.heap.size + 2 by omega) (secV F.data.toList))
    clear hlook R1 X1 B1
    go_enter Try.func66, Try.ntmps66
    go_wp2_with (first
      | (at_lookup; refine wpList_lookup_own_ok _ rfl _ _ 62 rfl 2 92 keyI Try.underlying62 secR (zeroS _) (.lit (.string zSec)) [] (secR_mk _) b n D rfl M0.out _ _ rfl HWF.out ?_; intro v ps hv; rw [hat] at hv; obtain ⟨l, rfl, hl⟩ := secR_inv hv; obtain rfl : F.data.toList = l := (by simpa using congrArg Prod.fst hl); rw [hhas]; clear hv hl)
      | (refine wpList_store_row rfl 92 _ _ rfl (w.heap.size + 2) _ rfl rfl 92 _ N0.out (by rw [HF64.out]; exact HS64.out) (by rw [HF64.out, HZ64.out]) (secV_one _) ?_)
      | (refine wpList_load_row rfl 92 _ rfl (w.heap.size + 2) rfl 92 _ (0, 0) _ N2.out Try.underlying92 rfl (by rw [HF64.out]; exact HS64.out) ?_)
      | (refine wpList_store_row rfl 92 _ _ rfl (w.heap.size + 1) _ rfl rfl 92 _ R2.out (by rw [HF64.out]; exact HS64.out) (by rw [HF64.out, HZ64.out]) (secV_one _) ?_))
    refine bodyPost_ret (v := .agg (secV F.data.toList)) (results_cell_row (p := 4) rfl _ _ (w.heap.size + 1) 92 _ (0, 0) _ rfl (setRow_heap _ _ _ _ _ _ R2.out) Try.underlying92 rfl (by rw [HF64.out]; exact HS64.out)) rfl ⟨rfl, below_setRow B2.out (Nat.le_succ _) _⟩
  | false =>
    have hat : D.atKey (.int .i64 (i : Int)) (.lit (.string zSec)) = .lit (.string zSec) := atKey_of_not_has hhas _
    obtain rfl : F = ss.getD i ByteArray.empty := hlook.2 hhas
    generalize ss.getD i ByteArray.empty = F at *
    have X2 := hide ((setRow_other _ (w.heap.size + 2) w.heap.size (secV zSec) (by omega)).trans X1.out)
    have R2 := hide ((setRow_other _ (w.heap.size + 2) (w.heap.size + 1) (secV zSec) (by omega)).trans R1.out)
    have B2 := hide (below_setRow B1.out (show w.heap.size ≤ w.heap.size + 2 by omega) (secV zSec))
    obtain ⟨x0, x1, xf⟩ := cells2 X2.out
    clear hlook R1 X1 B1
    go_enter Try.func66, Try.ntmps66
    go_wp2_with (first
      | (at_lookup; refine wpList_lookup_own_ok _ rfl _ _ 62 rfl 2 92 keyI Try.underlying62 secR (zeroS _) (.lit (.string zSec)) [] (secR_mk _) b n D rfl M0.out _ _ rfl HWF.out ?_; intro v ps hv; rw [hat] at hv; obtain ⟨l, rfl, hl⟩ := secR_inv hv; obtain rfl : zSec = l := (by simpa using congrArg Prod.fst hl); rw [hhas]; clear hv hl)
      | (refine wpList_store_row rfl 92 _ _ rfl (w.heap.size + 2) _ rfl rfl 92 _ N0.out (by rw [HZ64.out]; exact HS64.out) rfl (secV_one _) ?_)
      | (go_at_call 85; refine (HL.out _ (Nat.le_trans hB B2.out.size) (HSR.out.kept (B2.out.mono hB))).mono ?_; rintro e w3 ⟨rfl, b3⟩; have R3 := hide ((b3.block _ (blk_lt' R2.out)).trans R2.out); have B3 := hide (B2.out.trans (b3.mono B2.out.size)); rw [HPF.out]; clear b3)
      | (refine wpList_store_row rfl 92 _ _ rfl (w.heap.size + 1) _ rfl rfl 92 _ R3.out (by rw [HF64.out]; exact HS64.out) (by rw [HF64.out, HZ64.out]) (secV_one _) ?_))
    refine bodyPost_ret (v := .agg (secV F.data.toList)) (results_cell_row (p := 4) rfl _ _ (w.heap.size + 1) 92 _ (0, 0) _ rfl (setRow_heap _ _ _ _ _ _ R3.out) Try.underlying92 rfl (by rw [HF64.out]; exact HS64.out)) rfl ⟨rfl, below_setRow B3.out (Nat.le_succ _) _⟩
end Go.Proofs.Ytaapacpiipcogaa
