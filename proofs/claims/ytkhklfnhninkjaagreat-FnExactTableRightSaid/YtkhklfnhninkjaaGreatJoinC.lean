/-
  Contracts: joinTexts.
-/
import Derived.Test.YtkhklfnhninkjaaGreatConv
import Derived.Test.YtkhklfnhninkjaaGreatMkS
import Derived.WalkKit
import Derived.WalkLawsBesides
import Derived.Laws.BytesArg
import Derived.OpenShut
import Derived.Maps.AppendAt
import Derived.Lib.BufferWrite
import Derived.Laws.CopyOwn
namespace Go.Proofs.YtkhklfnhninkjaaGreat
open Go.RowKit

def catL (ss : List ByteArray) : List UInt8 := (ss.map fun s => s.data.toList).flatten
theorem catL_snoc (ss : List ByteArray) (k : Nat) (h : k < ss.length) : catL (ss.take (k + 1)) = catL (ss.take k) ++ (ss[k]).data.toList := by
  unfold catL; rw [List.take_succ_eq_append_getElem h, List.map_append, List.flatten_append]; simp
theorem catL_le (ss : List ByteArray) (k : Nat) : (catL (ss.take k)).length ≤ (catL ss).length := by
  have : catL ss = catL (ss.take k) ++ catL (ss.drop k) := by
    unfold catL; rw [← List.flatten_append, ← List.map_append, List.take_append_drop]
  rw [this]; simp

/-- What one round of the copying does, whatever the cut 'all[at:]' has come to. -/
theorem copyRound (wr : World) (g tot at' : Nat) (s : ByteArray) (cur : List Value) (hg : wr.heap[g]? = some (.cells cur.toArray 5 (0, 0))) (hl : cur.length = tot) (hat : at' + s.size ≤ tot) :
    ∃ (ad : Addr) (w1 : World) (new : List Value), (∀ W, (Instr.slice 109 (.slice (some ⟨g, 0, none⟩) tot tot) (some (.int .i64 (at' : Int))) none none).run Tryz.prog W = .ok (.slice (some ad) (tot - at') (tot - at')) W) ∧
      (∀ ty, (Builtin.copy_ #[109, 9] ty #[.slice (some ad) (tot - at') (tot - at'), .string s]).run Tryz.prog wr = .ok (goInt s.size) w1) ∧ w1.heap[g]? = some (.cells new.toArray 5 (0, 0)) ∧ (∀ B w0, Below B w0 wr → B ≤ g → Below B w0 w1) ∧
      new.length = tot ∧ new.take (at' + s.size) = cur.take at' ++ s.data.toList.map bCell := by
  have hs : (Tryz.prog.info? 5).map (·.size) = some 1 := by kernel_rfl
  have hsz : ∀ w, (sizeOf (Tryz.prog.elem 109)).run Tryz.prog w = .ok 1 w := fun w => by kernel_rfl
  have hu : Tryz.prog.underlying 109 = some (.slice (Tryz.prog.elem 109)) := by kernel_rfl
  have hslice : ∀ W, (Instr.slice 109 (.slice (some ⟨g, 0, none⟩) tot tot) (some (.int .i64 (at' : Int))) none none).run Tryz.prog W = .ok (sliced (some ⟨g, 0, none⟩) at' tot tot 1) W := by
    intro W
    rw [run_slice_l W 109 _ tot tot hu .i64 (at' : Int) (by omega) (by omega), hsz]
    simp [Result.andThen]
  have hsl : ∀ W, (Instr.slice 109 (.slice (some ⟨g, 0, none⟩) tot tot) (some (.int .i64 (at' : Int))) none none).run Tryz.prog W = .ok (.slice (some (if tot = at' then ⟨g, 0, none⟩ else ⟨g, at', none⟩)) (tot - at') (tot - at')) W := by
    intro W
    rw [hslice W]
    by_cases e : tot = at'
    · simp [sliced, e]
    · simp [sliced, e, Addr.add]; omega
  have hsd : s.data.toList.length = s.size := rfl
  by_cases h0 : s.size = 0
  · have e : s.data.toList = [] := List.eq_nil_of_length_eq_zero h0
    refine ⟨_, wr, cur, hsl, fun ty => ?_, hg, fun B w0 h _ => h, hl, by rw [e, h0]; simp⟩
    rw [Lib.run_copy_empty_string wr 109 9 ty 5 _ _ _ s Tryz.underlying109 (by rw [hs]; rfl) h0, h0]; rfl
  · rw [if_neg (by omega)] at hsl
    refine ⟨_, _, cur.take at' ++ s.data.toList.map bCell ++ cur.drop (at' + s.size), hsl, fun ty => Lib.run_copy_row_string wr 109 9 ty 5 g at' (tot - at') (tot - at') s cur.toArray _ Tryz.underlying109 hs hg (by omega) (by simp; omega), ?_, fun B w0 h hB => below_setRow h hB _, ?_, ?_⟩
    · rw [setRow_heap wr g _ _ _ _ hg]; rfl
    · simp only [List.length_append, List.length_take, List.length_map, List.length_drop, hsd]; omega
    · rw [List.take_append_of_le_length (by simp only [List.length_append, List.length_take, List.length_map, hsd]; omega)]
      exact List.take_of_length_le (by simp only [List.length_append, List.length_take, List.length_map, hsd]; omega)

set_option maxHeartbeats 400000 in
theorem join_any (ss : List ByteArray) (pb po cap : Nat) (w : World) (hb : (catL ss).length ≤ 1000000000) (hn : ss.length ≤ 1000000)
    (hc : ∀ j, j < ss.length → w.cell? ⟨pb, po + j, none⟩ = some (.string (ss.getD j ByteArray.empty))) :
    Calls Tryz.prog 104 #[.slice (some ⟨pb, po, none⟩) ss.length cap] w fun e w' => e = .returned (.string (mkS (catL ss))) ∧ Below w.heap.size w w' := by
  obtain ⟨i0, hi, hz0, hz1, hz2⟩ := info_parts Tryz.infoU8
  go_enter Tryz.func104, Tryz.ntmps104
  go_wp2
  go_loop [3, 12] (fun z i => ∃ k : Nat, k ≤ ss.length ∧ i = .int .i64 k ∧ z = .int .i64 ((catL (ss.take k)).length : Nat)) (fun _ i => ss.length - (intOf i).toNat)
  case atStart => exact ⟨0, Nat.zero_le _, rfl, by simp [catL]⟩
  case round =>
    obtain ⟨k, hk, rfl, rfl⟩ := hrel
    have hle := catL_le ss k
    by_cases hlt : k < ss.length
    · have hck := hc k hlt
      have HS : Hid ((catL (ss.take (k + 1))).length = (catL (ss.take k)).length + (ss.getD k ByteArray.empty).size) := by
        show _ = _
        rw [catL_snoc ss k hlt, List.length_append, len_data]; simp [List.getElem?_eq_getElem hlt]
      have hle2 := catL_le ss (k + 1)
      have hsb : (catL (ss.take k)).length + (ss.getD k ByteArray.empty).size ≤ 1000000000 := by rw [← HS.out]; omega
      generalize (catL (ss.take k)).length = z at *
      generalize ss.getD k ByteArray.empty = sk at *
      clear hc hle2
      go_wp2
      go_round
      case rel => exact ⟨k + 1, by omega, by go_num, by rw [HS.out]; go_num⟩
      case measure => simp [intOf]; omega
    · obtain rfl : k = ss.length := by omega
      rw [List.take_length]
      generalize hT : (catL ss).length = tot at *
      have HT : Hid ((catL ss).length = tot) := hT
      clear hT
      go_wp2_with (at_make; refine wpList_make_full _ rfl _ _ 109 rfl w.heap.size 5 i0 (.int .u8 0) 1 Tryz.underlying109 hi hz0 hz1 .i64 .i64 _ _ tot rfl rfl rfl rfl (by rw [hz2]; omega) (by unfold maxLen; omega) (Nat.le_refl _) ?_; intro w1 hown1 hgrow1)
      obtain ⟨cur0, hg0, hl0⟩ : ∃ cur : List Value, w1.heap[w.heap.size]? = some (.cells cur.toArray 5 (0, 0)) ∧ cur.length = tot := by
        rcases hown1.2 with ⟨h, _⟩ | ⟨g, cap', cur, hv, _, hg, _, _, hs, _⟩
        · simp at h
        · simp at hv
          obtain ⟨rfl, rfl⟩ := hv
          exact ⟨cur.toList, by simpa using hg, by simpa using hs⟩
      have hb1 : Below w.heap.size w w1 := (Below.refl _ _).grown hgrow1 (Nat.le_refl _) (fun j hj => by simp at hj)
      clear hown1 hgrow1
      go_loopw [7, 25] (fun z i wr => ∃ (k : Nat) (cur : List Value), k ≤ ss.length ∧ i = .int .i64 k ∧ z = .int .i64 ((catL (ss.take k)).length : Nat) ∧ cur.length = tot ∧
          wr.heap[w.heap.size]? = some (.cells cur.toArray 5 (0, 0)) ∧ Hid (cur.take (catL (ss.take k)).length = (catL (ss.take k)).map bCell) ∧ Below w.heap.size w wr) (fun _ i _ => ss.length - (intOf i).toNat)
      case atStart => exact ⟨0, cur0, Nat.zero_le _, rfl, by simp [catL], hl0, hg0, by show _ = _; simp [catL], hb1⟩
      case round =>
        obtain ⟨k, cur, hk, rfl, rfl, hlen, hg, HC, hbw⟩ := hrel
        clear hb1 hg0 hl0
        have hle2 := catL_le ss k
        rw [HT.out] at hle2
        by_cases hlt : k < ss.length
        · have hck : wr.cell? ⟨pb, po + k, none⟩ = some (.string (ss.getD k ByteArray.empty)) := by
            have h := hc k hlt
            rw [hbw.cell (p := ⟨pb, po + k, none⟩) (block_lt_of_cell h)]; exact h
          have HS : Hid (catL (ss.take (k + 1)) = catL (ss.take k) ++ (ss.getD k ByteArray.empty).data.toList) := by
            show _ = _
            rw [catL_snoc ss k hlt]; simp [List.getElem?_eq_getElem hlt]
          have hle3 := catL_le ss (k + 1)
          rw [HT.out, HS.out, List.length_append, len_data] at hle3
          generalize hZ : (catL (ss.take k)).length = z at *
          generalize hSK : ss.getD k ByteArray.empty = sk at *
          obtain ⟨ad, w2, new, hsl, hcp, hg2, hB2, hl2, ht2⟩ := copyRound wr w.heap.size tot z sk cur hg hlen hle3
          have hb2 := hB2 _ _ hbw (Nat.le_refl _)
          have HN : Hid (new.take (catL (ss.take (k + 1))).length = (catL (ss.take (k + 1))).map bCell) := by
            show _ = _
            rw [HS.out, List.length_append, hZ, len_data, ht2, HC.out, List.map_append]
          have HZ : Hid ((catL (ss.take (k + 1))).length = z + sk.size) := by
            show _ = _
            rw [HS.out, List.length_append, hZ, len_data]
          have HG : Hid (w2.heap[w.heap.size]? = some (.cells new.toArray 5 (0, 0))) := hg2
          clear hc hZ hSK hB2 ht2 hg hg2 hbw
          go_wp2
          go_roundw
          case rel => exact ⟨k + 1, new, by omega, by go_num, by rw [HZ.out]; go_num, hl2, HG.out, HN.out, hb2⟩
          case measure => simp [intOf]; omega
        · obtain rfl : k = ss.length := by omega
          have hcv : (convert 109 9 (.slice (some ⟨w.heap.size, 0, none⟩) tot tot)).run Tryz.prog wr = .ok (.string (mkS (catL ss))) wr := by
            have hcc := HC.out
            rw [List.take_length, HT.out, List.take_of_length_le (by omega)] at hcc
            rw [← strOfNums_bytes]
            refine run_convert_bytes_arg _ 109 5 Tryz.underlying109 Tryz.underlying5 w.heap.size 0 tot tot _ (by rw [List.length_map, HT.out]) (fun i hi => ?_) 9 Tryz.underlying9
            have hi2 : i < (catL ss).length := by rw [HT.out]; exact hi
            rw [Nat.zero_add, cell_of_row _ _ i _ _ _ hg, hcc]
            simp [bCell, List.getElem?_eq_getElem hi2]
          clear hc HC hg hlen
          go_wp2
          go_ret
          exact ⟨rfl, hbw⟩

theorem join2 (t s : ByteArray) (pb cap : Nat) (w : World) (hb : t.size + s.size ≤ 1000000000) (h0 : w.cell? ⟨pb, 0, none⟩ = some (.string t)) (h1 : w.cell? ⟨pb, 1, none⟩ = some (.string s)) :
    Calls Tryz.prog 104 #[.slice (some ⟨pb, 0, none⟩) 2 cap] w fun e w' => e = .returned (.string (mkS (t.data.toList ++ s.data.toList))) ∧ Below w.heap.size w w' := by
  have h := join_any [t, s] pb 0 cap w (by simp only [catL, List.map_cons, List.map_nil, List.flatten_cons, List.flatten_nil, List.append_nil, List.length_append, len_data]; exact hb) (by simp) (fun j hj => by
    match j, hj with
    | 0, _ => simpa using h0
    | 1, _ => simpa using h1)
  simpa [catL] using h
theorem join1 (s : ByteArray) (pb cap : Nat) (w : World) (hb : s.size ≤ 1000000000) (h0 : w.cell? ⟨pb, 0, none⟩ = some (.string s)) :
    Calls Tryz.prog 104 #[.slice (some ⟨pb, 0, none⟩) 1 cap] w fun e w' => e = .returned (.string s) ∧ Below w.heap.size w w' := by
  have h := join_any [s] pb 0 cap w (by simp only [catL, List.map_cons, List.map_nil, List.flatten_cons, List.flatten_nil, List.append_nil, len_data]; exact hb) (by simp) (fun j hj => by
    match j, hj with
    | 0, _ => simpa using h0)
  simpa [catL, mkS] using h
end Go.Proofs.YtkhklfnhninkjaaGreat
