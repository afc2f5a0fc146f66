/-
  Contract: what so many sectors of a drive have.
-/
import Derived.Test.YtaapacpiipcogaaDkTxt
import Derived.Test.YtaapacpiipcogaaDkHas2
import Derived.Laws.MakeOwn
namespace Go.Proofs.Ytaapacpiipcogaa
open Go.RowKit
set_option maxRecDepth 100000

set_option maxHeartbeats 4000000 in
theorem drvRead_any (A B : Nat) (so : Option Addr) (p bm n : Nat) (d : Dk) (a m : Nat) (w : World) (hB : B ≤ w.heap.size) (hdr : dkRight d = true) (hbd : d.secs.length ≤ 700) (ham : a + m ≤ d.secs.length) (hS : StrRow w A B so d.secs) (hM : w.ownsMap Try.prog 2 secR bm n (cacheD d.cache)) :
    Calls Try.prog 39 #[.agg #[.slice so d.secs.length p, .map (some bm)], .int .i64 (a : Int), .int .i64 (m : Int)] w fun e w' => e = .returned (.string (mkS (secsT (flushL d.secs d.cache) a m))) ∧ Below w.heap.size w w' := by
  obtain ⟨i0, hj, hz0, hz1, hz2⟩ := info_parts Try.infoU8
  obtain ⟨n1, hn1⟩ : ∃ n, n = d.secs.length := ⟨_, rfl⟩
  have HH := hide (fun (k : Nat) (W : World) (hk : k < n1) (hb : Below w.heap.size w W) => has_any A B so p bm n d k W (Nat.le_trans hB hb.size) (by rw [← hn1]; exact hk) hdr hbd (hS.kept (hb.mono hB)) (ownsMap_below hM hb))
  have hlenF : (flushL d.secs d.cache).length = n1 := by rw [flushL_len, hn1]
  have H64 : Hid (∀ i, i < n1 → ((flushL d.secs d.cache).getD i ByteArray.empty).data.toList.length = 64) := by rw [← hlenF]; exact flush64 hdr
  have HTL := hide (fun k (hk : a + k ≤ n1) => secsT_len (flush64 hdr) a k (by rw [hlenF]; exact hk))
  have HN := hide (fun k => show secsT (flushL d.secs d.cache) a (k + 1) = secsT (flushL d.secs d.cache) a k ++ ((flushL d.secs d.cache).getD (a + k) ByteArray.empty).data.toList from rfl)
  have H0 : Hid (secsT (flushL d.secs d.cache) a 0 = []) := rfl
  rw [← hn1] at HH ham hbd ⊢
  have hml : m ≤ 700 := by omega
  have hmul : IntKind.i64.wrap ((m : Int) * 64) = (m : Int) * 64 := by rw [IntKind.wrap_i64]; omega
  have hmk : ∀ W : World, (Instr.makeSlice 87 (.int .i64 0) (.int .i64 ((m : Int) * 64))).run Try.prog W = .ok (.slice (some ⟨W.heap.size, 0, none⟩) 0 (m * 64)) (W.alloc (.cells (madeCells #[.int .u8 0] (m * 64)) 5)) := fun W => by
    have h := run_makeSlice (P := Try.prog) (w := W) 87 5 i0 (.int .u8 0) Try.underlying87 hj hz0 .i64 .i64 0 ((m * 64 : Nat) : Int) (by omega) (by omega) (by rw [hz1]; simp; omega) (by rw [hz2]; omega) (by omega)
    rw [hz1, Int.toNat_natCast, Nat.mul_one] at h
    rw [show (m : Int) * 64 = ((m * 64 : Nat) : Int) from by omega]
    exact h
  generalize secsT (flushL d.secs d.cache) a = ST at *
  generalize flushL d.secs d.cache = fl at *
  have B4 := hide ((Below.refl w.heap.size w).alloc (Nat.le_refl _) (.cells #[.slice so n1 p, .map (some bm)] 64))
  have V4 := hide (heap_alloc_new w (.cells #[.slice so n1 p, .map (some bm)] 64))
  have Z4 : Hid ((w.alloc (.cells #[.slice so n1 p, .map (some bm)] 64)).heap.size = w.heap.size + 1) := by show _ = _; simp
  clear hn1 hS hM hdr hlenF hB
  go_enter Try.func39, Try.ntmps39
  go_wp2
  generalize w.alloc (.cells #[.slice so n1 p, .map (some bm)] 64) = w4 at *
  have E5 : w.heap.size + 1 = w4.heap.size := Z4.out.symm
  have O5 : Hid (OwnB w4.heap.size (.slice (some ⟨w.heap.size + 1, 0, none⟩) 0 (m * 64)) (ST 0) (w4.alloc (.cells (madeCells #[.int .u8 0] (m * 64)) 5))) := by
    rw [H0.out, E5]
    exact World.ownsRow_made w4 _ (m * 64) (Nat.le_refl _) (by unfold maxLen; omega) (by simpa using size_madeCells #[.int .u8 0] (m * 64))
  have B5 := hide ((Below.refl w4.heap.size w4).alloc (Nat.le_refl _) (.cells (madeCells #[.int .u8 0] (m * 64)) 5))
  clear E5 Z4 H0
  go_loopw [7, 13] (fun l i wr => ∃ (k : Nat) (v : Value), k ≤ m ∧ i = .int .i64 (k : Int) ∧ l = v ∧ Hid (OwnB w4.heap.size v (ST k) wr) ∧ Hid (Below w4.heap.size w4 wr)) (fun _ i _ => m - (intOf i).toNat)
  case atStart => exact ⟨0, _, Nat.zero_le _, rfl, rfl, O5, B5⟩
  case round =>
    obtain ⟨k, v, hk, rfl, rfl, HO, HB⟩ := hrel
    clear O5 B5
    obtain ⟨ao', cap', hv⟩ := ownB_shape HO.out
    rw [HTL.out k (by omega)] at hv
    subst hv
    by_cases hlt : k < m
    · obtain ⟨v0, v1, vf⟩ := cells2 ((HB.out.block _ (blk_lt' V4.out)).trans V4.out)
      have hc := HH.out (a + k) wr (by omega) (B4.out.trans (HB.out.mono B4.out.size))
      rw [Int.natCast_add] at hc
      have HC := hide hc
      clear hc
      have HX := H64.out (a + k) (by omega)
      have HT := hide (HN.out k)
      generalize (fl.getD (a + k) ByteArray.empty).data.toList = L at *
      have HST := hide (fun W => sectorText_any L HX W)
      have hsz : (mkS L).size = 64 := HX
      have HTK := HTL.out k (by omega)
      have HS63 : Hid ((ST k).length + (mkS L).size ≤ maxLen ∧ (ST k).length + (mkS L).size ≤ 140737488355328) := by rw [HTK, hsz]; show _ ∧ _; unfold maxLen; omega
      have hwr : IntKind.i64.wrap ((a : Int) + (k : Int)) = (a : Int) + (k : Int) := by rw [IntKind.wrap_i64]; omega
      clear HX hsz HTK
      go_wp2_with (first | (go_at_call 66; refine HC.out.mono ?_; rintro e w5 ⟨rfl, b5⟩; have O6 := hide (HO.out.below b5); have B6 := hide (HB.out.trans (b5.mono HB.out.size)); clear b5) | (go_at_call 67; refine (HST.out _).mono ?_; rintro e w6 ⟨rfl, b6⟩; have O7 := hide (O6.out.below b6); have B7 := hide (B6.out.trans (b6.mono B6.out.size)); have HW : Hid (w6.ownsRow w4.heap.size 5 1 (.slice ao' (k * 64) cap') (ST k).length ((numsU (ST k)).map (Value.int .u8))) := O7; clear b6) | (at_builtin; refine Lib.wpList_append_own_string _ rfl _ _ 87 9 rfl w4.heap.size 5 i0 Try.underlying87 Try.underlying9 hj hz0 hz1 hz2 (.slice ao' (k * 64) cap') (ST k).length _ rfl HW.out (mkS L) rfl HS63.out.1 HS63.out.2 B7.out.size ?_; intro v5 w7 o5 g5 l5; have O8 := hide (ownB_str (mkS L) o5); have B8 := hide (B7.out.grown g5 B7.out.size (fun b hb => (World.ownsRow.lt HW.out b hb).1)); clear o5 g5 l5))
      have O9 : Hid (OwnB w4.heap.size v5 (ST (k + 1)) w7) := by rw [HT.out]; exact O8.out
      go_roundw
      case rel => exact ⟨k + 1, _, by omega, by go_num, rfl, O9, B8⟩
      case measure => simp [intOf]; omega
    · obtain rfl : k = m := by omega
      have HCV := hide (OwnB.conv HO.out)
      have hconv := HCV.out
      go_wp2
      go_ret
      exact ⟨rfl, B4.out.trans (HB.out.mono B4.out.size)⟩
end Go.Proofs.Ytaapacpiipcogaa
