/-
  Contracts: the text of some sectors, by the specification.
-/
import Derived.Test.YtaapacpiipcogaaDkFlS
import Derived.Test.YtaapacpiipcogaaOwnBytes
import Derived.Lib.AppendStr
namespace Go.Proofs.Ytaapacpiipcogaa
open Go.RowKit
set_option maxRecDepth 100000

/-- The text of k sectors from one on. -/
def secsT (l : List ByteArray) (a : Nat) : Nat → List UInt8
  | 0 => []
  | k + 1 => secsT l a k ++ (l.getD (a + k) ByteArray.empty).data.toList
theorem secsT_len {l : List ByteArray} (h : ∀ i, i < l.length → (l.getD i ByteArray.empty).size = 64) (a : Nat) : ∀ k, a + k ≤ l.length → (secsT l a k).length = k * 64
  | 0, _ => rfl
  | k + 1, hk => by
    have h1 : (l.getD (a + k) ByteArray.empty).data.toList.length = 64 := h (a + k) (by omega)
    show (secsT l a k ++ _).length = _
    rw [List.length_append, secsT_len h a k (by omega), h1]; omega
theorem strCells_nums (s : ByteArray) : Lib.strCells s = (numsU s.data.toList).map (Value.int .u8) := by
  simp [Lib.strCells, numsU, Function.comp_def]
theorem ownB_shape {base : Nat} {v : Value} {l : List UInt8} {w : World} (h : OwnB base v l w) : ∃ ao cap, v = .slice ao l.length cap := by
  rcases h.2 with ⟨h1, h2⟩ | ⟨g, cap, cur, h1, _⟩
  · exact ⟨none, 0, by rw [h1, h2]⟩
  · exact ⟨_, _, h1⟩
theorem ownB_str {base : Nat} {v : Value} {l : List UInt8} {w : World} (s : ByteArray) (h : w.ownsRow base 5 1 v (l.length + s.size) ((numsU l).map (Value.int .u8) ++ Lib.strCells s)) : OwnB base v (l ++ s.data.toList) w :=
  ownB_of h (by rw [List.length_append]; rfl) (by rw [strCells_nums, numsU_append, List.map_append])
theorem OwnS.eq {base : Nat} {v : Value} {l : List ByteArray} {w : World} (h : w.ownsRow base 9 1 v l.length (strsV l)) : OwnS base v l w := h
theorem flush64 {d : Dk} (hR : dkRight d = true) : ∀ i, i < (flushL d.secs d.cache).length → ((flushL d.secs d.cache).getD i ByteArray.empty).size = 64 := by
  intro i hi
  rw [flushL_len] at hi
  exact flush_sizes d.cache d.secs (fun x hx => (dkRight_cache hR x hx).2.2) (dkRight_secs hR) i hi
theorem flush_mem {d : Dk} (hR : dkRight d = true) : ∀ x ∈ flushL d.secs d.cache, x.size ≤ maxLen := by
  intro x hx
  obtain ⟨i, hi, rfl⟩ := List.getElem_of_mem hx
  have h := flush64 hR i hi
  rw [List.getD_eq_getElem?_getD, List.getElem?_eq_getElem hi] at h
  simp only [Option.getD_some] at h
  unfold maxLen
  omega
set_option maxHeartbeats 4000000 in
theorem l07Text_any (b : Nat) (s c : Value) (d : Dk) (a m : Nat) (w : World) (hR : dkRight d = true) (hf : dkFits d) (hin : dkIn d) (hm : m ≤ 300) (ham : a + m ≤ d.secs.length) (hlen : d.secs.length ≤ 700) (h : OwnD b s c d w) :
    Calls Try.prog 33 #[.agg #[s, c], .int .i64 (a : Int), .int .i64 (m : Int)] w fun e w' => e = .returned (.string (mkS (secsT (flushL d.secs d.cache) a m))) ∧ Below w.heap.size w w' := by
  obtain ⟨i0, hi, hz0, hz1, hz2⟩ := info_parts Try.infoU8
  have HL := hide (fun W h => l07Flush_all b s c d W hR hf hin h)
  have H64 := hide (flush64 hR)
  have HME := hide (flush_mem hR)
  have hfl := flushL_len d.cache d.secs
  have HTL := hide (fun k (hk : a + k ≤ (flushL d.secs d.cache).length) => secsT_len (flush64 hR) a k hk)
  have HN := hide (fun k => show secsT (flushL d.secs d.cache) a (k + 1) = secsT (flushL d.secs d.cache) a k ++ ((flushL d.secs d.cache).getD (a + k) ByteArray.empty).data.toList from rfl)
  have H0 : Hid (secsT (flushL d.secs d.cache) a 0 = []) := rfl
  have D0 := hide (h.below ((Below.refl w.heap.size w).alloc (Nat.le_refl _) (.cells #[s, c] 29)))
  have B0 := hide ((Below.refl w.heap.size w).alloc (Nat.le_refl _) (.cells #[s, c] 29))
  obtain ⟨so, p, co, q, rfl, rfl⟩ := h.shape
  rw [← hfl] at ham hlen
  clear h hf hin hR hfl
  generalize flushL d.secs d.cache = fl at *
  generalize secsT fl a = ST at *
  go_enter Try.func33, Try.ntmps33
  go_wp2_with (go_at_call 62; refine (HL.out _ D0.out).mono ?_; rintro e w1 ⟨v, rfl, o1, b1⟩; obtain ⟨ao, cap, rfl⟩ := ownS_shape o1; have B1 := hide (B0.out.trans (b1.mono B0.out.size)); have O1 := hide o1; clear o1 b1)
  have BA := (Below.refl w1.heap.size w1).alloc (Nat.le_refl _) (.cells #[.slice ao fl.length cap, .slice none 0 0] 29)
  have V2 := hide (heap_alloc_new w1 (.cells #[.slice ao fl.length cap, .slice none 0 0] 29))
  have SR : Hid (StrRow (w1.alloc (.cells #[.slice ao fl.length cap, .slice none 0 0] 29)) 0 (w1.alloc (.cells #[.slice ao fl.length cap, .slice none 0 0] 29)).heap.size ao fl) := by
    obtain ⟨ao', cap', e1, h1, h2⟩ := ownS_str (OwnS.eq (owns_below O1.out BA)) HME.out
    injection e1 with e1 _ _
    subst e1
    exact h2.mono (Nat.zero_le _) (Nat.le_refl _)
  have B2 := hide (B1.out.trans (BA.mono B1.out.size))
  clear BA B1 O1 B0 D0 HL
  have Z2 : Hid ((w1.alloc (.cells #[.slice ao fl.length cap, .slice none 0 0] 29)).heap.size = w1.heap.size + 1) := by show _ = _; simp
  generalize w1.alloc (.cells #[.slice ao fl.length cap, .slice none 0 0] 29) = w2 at *
  have E3 : w1.heap.size + 1 = w2.heap.size := Z2.out.symm
  have O3 : Hid (OwnB w2.heap.size (.slice (some ⟨w1.heap.size + 1, 0, none⟩) 0 0) (ST 0) (w2.alloc (.cells #[] 5))) := by
    rw [H0.out, E3]
    exact own_empty (heap_alloc_new _ _) (Nat.le_refl _)
  have B3 := hide ((Below.refl w2.heap.size w2).alloc (Nat.le_refl _) (.cells #[] 5))
  clear E3 Z2 H0
  go_loopw [8, 9] (fun l i wr => ∃ (k : Nat) (v : Value), k ≤ m ∧ i = .int .i64 ((a : Int) + (k : Int)) ∧ l = v ∧ Hid (OwnB w2.heap.size v (ST k) wr) ∧ Hid (Below w2.heap.size w2 wr)) (fun _ i _ => a + m - (intOf i).toNat)
  case atStart => exact ⟨0, _, Nat.zero_le _, by simp, rfl, O3, B3⟩
  case round =>
    obtain ⟨k, v, hk, rfl, rfl, HO, HB⟩ := hrel
    clear O3 B3
    obtain ⟨ao', cap', hv⟩ := ownB_shape HO.out
    rw [HTL.out k (by omega)] at hv
    subst hv
    by_cases hlt : k < m
    · obtain ⟨eb, off, x, rfl, hgB, hx, hxm, c0⟩ := (SR.out.kept HB.out).at (a + k) (by omega)
      have hx64 : x.size = 64 := by rw [← hx]; exact H64.out _ (by omega)
      obtain ⟨v0, v1, vf⟩ := cells2 ((HB.out.block _ (blk_lt' V2.out)).trans V2.out)
      have HT := hide (HN.out k)
      rw [hx] at HT
      have HTK := HTL.out k (by omega)
      have HS63 : Hid ((ST k).length + x.size ≤ maxLen ∧ (ST k).length + x.size ≤ 140737488355328) := by rw [HTK, hx64]; show _ ∧ _; unfold maxLen; omega
      have HW : Hid (wr.ownsRow w2.heap.size 5 1 (.slice ao' (k * 64) cap') (ST k).length ((numsU (ST k)).map (Value.int .u8))) := HO
      clear hx hxm hx64 HTK
      go_wp2_with (at_builtin; refine Lib.wpList_append_own_string _ rfl _ _ 87 9 rfl w2.heap.size 5 i0 Try.underlying87 Try.underlying9 hi hz0 hz1 hz2 (.slice ao' (k * 64) cap') (ST k).length _ rfl HW.out x rfl HS63.out.1 HS63.out.2 HB.out.size ?_; intro v5 w5 o5 g5 l5; have O5 := hide (ownB_str x o5); have B5 := hide (HB.out.grown g5 HB.out.size (fun b hb => (World.ownsRow.lt HW.out b hb).1)); rw [← HT.out] at O5; clear o5 g5 l5)
      go_roundw
      case rel => exact ⟨k + 1, _, by omega, by go_num, rfl, O5, B5⟩
      case measure => simp [intOf]; omega
    · obtain rfl : k = m := by omega
      have HC := hide (OwnB.conv HO.out)
      have hconv := HC.out
      go_wp2
      go_ret
      exact ⟨rfl, B2.out.trans (HB.out.mono B2.out.size)⟩
end Go.Proofs.Ytaapacpiipcogaa
