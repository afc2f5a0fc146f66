/-
  Contracts: what lies on a sector; what a sector has.
-/
import Derived.Test.YtaapacpiipcogaaDkDrv
namespace Go.Proofs.Ytaapacpiipcogaa
open Go.RowKit Go.Maps Go.ChangeMaps Go.MapKept
set_option maxRecDepth 100000

set_option maxHeartbeats 2000000 in
theorem lies_any (A B : Nat) (so : Option Addr) (p b : Nat) (ss : List ByteArray) (i : Nat) (w : World) (hB : B ≤ w.heap.size) (hi : i < ss.length) (hr : StrRow w A B so ss) :
    Calls Try.prog 85 #[.agg #[.slice so ss.length p, .map (some b)], .int .i64 (i : Int)] w fun e w' => e = .returned (.agg (secV (pad (ss.getD i ByteArray.empty).data.toList))) ∧ Below w.heap.size w w' := by
  have hsh : ∃ g off, so = some ⟨g, off, none⟩ := by
    obtain ⟨g, off, x, e, _⟩ := hr.at i hi
    exact ⟨g, off, e⟩
  obtain ⟨g, off, rfl⟩ := hsh
  have hz := zero_of_info Try.infoSec
  have hzz := hz.1
  have HS64 := hide hz.2
  have HA := two_allocs w (.cells #[.slice (some ⟨g, off, none⟩) ss.length p, .map (some b)] 64) (.cells (secV zSec) 92)
  have R0 := hide HA.2.1
  have B0 := hide (((Below.refl w.heap.size w).alloc (Nat.le_refl _) (.cells #[.slice (some ⟨g, off, none⟩) ss.length p, .map (some b)] 64)).alloc (by simp) (.cells (secV zSec) 92))
  obtain ⟨g', off', x, e, hgB, hv, hx, c0⟩ := (hr.kept (B0.out.mono hB)).at i hi
  simp only [Option.some.injEq, Addr.mk.injEq, and_true] at e
  obtain ⟨rfl, rfl⟩ := e
  rw [hv]
  clear hr hv hx
  have HSO := hide (fun W => sectorOf_any x W)
  clear hz HA
  go_enter Try.func85, Try.ntmps85
  go_wp2_with (first | (go_at_call 65; refine (HSO.out _).mono ?_; rintro e w1 ⟨rfl, b1⟩; have R1 := hide ((b1.block (w.heap.size + 1) (by simp)).trans R0.out); have B1 := hide (B0.out.trans (b1.mono B0.out.size)); clear b1) | (refine wpList_store_row rfl 92 _ _ rfl (w.heap.size + 1) _ rfl rfl 92 _ R1.out (by rw [secV_size, pad_len]; exact HS64.out) (by rw [secV_size, secV_size, zSec_len, pad_len]) (secV_one _) ?_))
  refine bodyPost_ret (v := .agg (secV (pad x.data.toList))) (results_cell_row (p := 4) rfl _ _ (w.heap.size + 1) 92 _ (0, 0) _ rfl (setRow_heap _ _ _ _ _ _ R1.out) Try.underlying92 rfl (by rw [secV_size, pad_len]; exact HS64.out)) rfl ⟨rfl, below_setRow B1.out (Nat.le_succ _) _⟩
end Go.Proofs.Ytaapacpiipcogaa
