/-
  Contracts and plain laws, part 6 of 12: JoinC, Join, SealC, GetPlain, GetBack, RecP, RecR, RecB, DkCl, DkRightI, DkWrI, DkWrS
-/
import Derived.WalkKit
import Derived.WalkLawsBesides
import Derived.Laws.BytesArg
import Derived.OpenShut
import Derived.Maps.AppendAt
import Derived.Lib.BufferWrite
import Derived.Laws.CopyOwn
import Derived.Deep.RegionHeld3
import Derived.Deep.DrawnRows
import Derived.Lib.SliceRun
import Derived.Deep.CutRange
import Derived.Test.YtfhfhpnoeghgmaaPe

/-
  Contracts: joinTexts.
-/
namespace Go.Proofs.Ytfhfhpnoeghgmaa
open Go.RowKit

def catL (ss : List ByteArray) : List UInt8 := (ss.map fun s => s.data.toList).flatten
theorem catL_snoc (ss : List ByteArray) (k : Nat) (h : k < ss.length) : catL (ss.take (k + 1)) = catL (ss.take k) ++ (ss[k]).data.toList := by
  unfold catL; rw [List.take_succ_eq_append_getElem h, List.map_append, List.flatten_append]; simp
theorem catL_le (ss : List ByteArray) (k : Nat) : (catL (ss.take k)).length ≤ (catL ss).length := by
  have : catL ss = catL (ss.take k) ++ catL (ss.drop k) := by
    unfold catL; rw [← List.flatten_append, ← List.map_append, List.take_append_drop]
  rw [this]; simp

/-- What one round of the copying does, whatever the cut 'all[at:]' has come to. -/
theorem copyRound (wr : World) (g tot at' : Nat) (s : ByteArray) (cur : List Value) (hg : wr.heap[g]? = some (.cells cur.toArray 5 (0, 0))) (hl : cur.length = tot) (hat : at' + s.size ≤ tot) :
    ∃ (ad : Addr) (w1 : World) (new : List Value), (∀ W, (Instr.slice 22 (.slice (some ⟨g, 0, none⟩) tot tot) (some (.int .i64 (at' : Int))) none none).run Try.prog W = .ok (.slice (some ad) (tot - at') (tot - at')) W) ∧
      (∀ ty, (Builtin.copy_ #[22, 9] ty #[.slice (some ad) (tot - at') (tot - at'), .string s]).run Try.prog wr = .ok (goInt s.size) w1) ∧ w1.heap[g]? = some (.cells new.toArray 5 (0, 0)) ∧ (∀ B w0, Below B w0 wr → B ≤ g → Below B w0 w1) ∧
      new.length = tot ∧ new.take (at' + s.size) = cur.take at' ++ s.data.toList.map bCell := by
  have hs : (Try.prog.info? 5).map (·.size) = some 1 := by kernel_rfl
  have hsz : ∀ w, (sizeOf (Try.prog.elem 22)).run Try.prog w = .ok 1 w := fun w => by kernel_rfl
  have hu : Try.prog.underlying 22 = some (.slice (Try.prog.elem 22)) := by kernel_rfl
  have hslice : ∀ W, (Instr.slice 22 (.slice (some ⟨g, 0, none⟩) tot tot) (some (.int .i64 (at' : Int))) none none).run Try.prog W = .ok (sliced (some ⟨g, 0, none⟩) at' tot tot 1) W := by
    intro W
    rw [run_slice_l W 22 _ tot tot hu .i64 (at' : Int) (by omega) (by omega), hsz]
    simp [Result.andThen]
  have hsl : ∀ W, (Instr.slice 22 (.slice (some ⟨g, 0, none⟩) tot tot) (some (.int .i64 (at' : Int))) none none).run Try.prog W = .ok (.slice (some (if tot = at' then ⟨g, 0, none⟩ else ⟨g, at', none⟩)) (tot - at') (tot - at')) W := by
    intro W
    rw [hslice W]
    by_cases e : tot = at'
    · simp [sliced, e]
    · simp [sliced, e, Addr.add]; omega
  have hsd : s.data.toList.length = s.size := rfl
  by_cases h0 : s.size = 0
  · have e : s.data.toList = [] := List.eq_nil_of_length_eq_zero h0
    refine ⟨_, wr, cur, hsl, fun ty => ?_, hg, fun B w0 h _ => h, hl, by rw [e, h0]; simp⟩
    rw [Lib.run_copy_empty_string wr 22 9 ty 5 _ _ _ s Try.underlying22 (by rw [hs]; rfl) h0, h0]; rfl
  · rw [if_neg (by omega)] at hsl
    refine ⟨_, _, cur.take at' ++ s.data.toList.map bCell ++ cur.drop (at' + s.size), hsl, fun ty => Lib.run_copy_row_string wr 22 9 ty 5 g at' (tot - at') (tot - at') s cur.toArray _ Try.underlying22 hs hg (by omega) (by simp; omega), ?_, fun B w0 h hB => below_setRow h hB _, ?_, ?_⟩
    · rw [setRow_heap wr g _ _ _ _ hg]; rfl
    · simp only [List.length_append, List.length_take, List.length_map, List.length_drop, hsd]; omega
    · rw [List.take_append_of_le_length (by simp only [List.length_append, List.length_take, List.length_map, hsd]; omega)]
      exact List.take_of_length_le (by simp only [List.length_append, List.length_take, List.length_map, hsd]; omega)

set_option maxHeartbeats 400000 in
theorem join_any (ss : List ByteArray) (pb po cap : Nat) (w : World) (hb : (catL ss).length ≤ 1000000000) (hn : ss.length ≤ 1000000)
    (hc : ∀ j, j < ss.length → w.cell? ⟨pb, po + j, none⟩ = some (.string (ss.getD j ByteArray.empty))) :
    Calls Try.prog 92 #[.slice (some ⟨pb, po, none⟩) ss.length cap] w fun e w' => e = .returned (.string (mkS (catL ss))) ∧ Below w.heap.size w w' := by
  obtain ⟨i0, hi, hz0, hz1, hz2⟩ := info_parts Try.infoU8
  go_enter Try.func92, Try.ntmps92
  go_wp2
  go_loop [3, 12] (fun z i => ∃ k : Nat, k ≤ ss.length ∧ i = .int .i64 k ∧ z = .int .i64 ((catL (ss.take k)).length : Nat)) (fun _ i => ss.length - (intOf i).toNat)
  case atStart => exact ⟨0, Nat.zero_le _, rfl, by simp [catL]⟩
  case round =>
    obtain ⟨k, hk, rfl, rfl⟩ := hrel
    have hle := catL_le ss k
    by_cases hlt : k < ss.length
    · have hck := hc k hlt
      have HS : Hid ((catL (ss.take (k + 1))).length = (catL (ss.take k)).length + (ss.getD k ByteArray.empty).size) := by
        show _ = _
        rw [catL_snoc ss k hlt, List.length_append, len_data]; simp [List.getElem?_eq_getElem hlt]
      have hle2 := catL_le ss (k + 1)
      have hsb : (catL (ss.take k)).length + (ss.getD k ByteArray.empty).size ≤ 1000000000 := by rw [← HS.out]; omega
      generalize (catL (ss.take k)).length = z at *
      generalize ss.getD k ByteArray.empty = sk at *
      clear hc hle2
      go_wp2
      go_round
      case rel => exact ⟨k + 1, by omega, by go_num, by rw [HS.out]; go_num⟩
      case measure => simp [intOf]; omega
    · obtain rfl : k = ss.length := by omega
      rw [List.take_length]
      generalize hT : (catL ss).length = tot at *
      have HT : Hid ((catL ss).length = tot) := hT
      clear hT
      go_wp2_with (at_make; refine wpList_make_full _ rfl _ _ 22 rfl w.heap.size 5 i0 (.int .u8 0) 1 Try.underlying22 hi hz0 hz1 .i64 .i64 _ _ tot rfl rfl rfl rfl (by rw [hz2]; omega) (by unfold maxLen; omega) (Nat.le_refl _) ?_; intro w1 hown1 hgrow1)
      obtain ⟨cur0, hg0, hl0⟩ : ∃ cur : List Value, w1.heap[w.heap.size]? = some (.cells cur.toArray 5 (0, 0)) ∧ cur.length = tot := by
        rcases hown1.2 with ⟨h, _⟩ | ⟨g, cap', cur, hv, _, hg, _, _, hs, _⟩
        · simp at h
        · simp at hv
          obtain ⟨rfl, rfl⟩ := hv
          exact ⟨cur.toList, by simpa using hg, by simpa using hs⟩
      have hb1 : Below w.heap.size w w1 := (Below.refl _ _).grown hgrow1 (Nat.le_refl _) (fun j hj => by simp at hj)
      clear hown1 hgrow1
      go_loopw [7, 25] (fun z i wr => ∃ (k : Nat) (cur : List Value), k ≤ ss.length ∧ i = .int .i64 k ∧ z = .int .i64 ((catL (ss.take k)).length : Nat) ∧ cur.length = tot ∧
          wr.heap[w.heap.size]? = some (.cells cur.toArray 5 (0, 0)) ∧ Hid (cur.take (catL (ss.take k)).length = (catL (ss.take k)).map bCell) ∧ Below w.heap.size w wr) (fun _ i _ => ss.length - (intOf i).toNat)
      case atStart => exact ⟨0, cur0, Nat.zero_le _, rfl, by simp [catL], hl0, hg0, by show _ = _; simp [catL], hb1⟩
      case round =>
        obtain ⟨k, cur, hk, rfl, rfl, hlen, hg, HC, hbw⟩ := hrel
        clear hb1 hg0 hl0
        have hle2 := catL_le ss k
        rw [HT.out] at hle2
        by_cases hlt : k < ss.length
        · have hck : wr.cell? ⟨pb, po + k, none⟩ = some (.string (ss.getD k ByteArray.empty)) := by
            have h := hc k hlt
            rw [hbw.cell (p := ⟨pb, po + k, none⟩) (block_lt_of_cell h)]; exact h
          have HS : Hid (catL (ss.take (k + 1)) = catL (ss.take k) ++ (ss.getD k ByteArray.empty).data.toList) := by
            show _ = _
            rw [catL_snoc ss k hlt]; simp [List.getElem?_eq_getElem hlt]
          have hle3 := catL_le ss (k + 1)
          rw [HT.out, HS.out, List.length_append, len_data] at hle3
          generalize hZ : (catL (ss.take k)).length = z at *
          generalize hSK : ss.getD k ByteArray.empty = sk at *
          obtain ⟨ad, w2, new, hsl, hcp, hg2, hB2, hl2, ht2⟩ := copyRound wr w.heap.size tot z sk cur hg hlen hle3
          have hb2 := hB2 _ _ hbw (Nat.le_refl _)
          have HN : Hid (new.take (catL (ss.take (k + 1))).length = (catL (ss.take (k + 1))).map bCell) := by
            show _ = _
            rw [HS.out, List.length_append, hZ, len_data, ht2, HC.out, List.map_append]
          have HZ : Hid ((catL (ss.take (k + 1))).length = z + sk.size) := by
            show _ = _
            rw [HS.out, List.length_append, hZ, len_data]
          have HG : Hid (w2.heap[w.heap.size]? = some (.cells new.toArray 5 (0, 0))) := hg2
          clear hc hZ hSK hB2 ht2 hg hg2 hbw
          go_wp2
          go_roundw
          case rel => exact ⟨k + 1, new, by omega, by go_num, by rw [HZ.out]; go_num, hl2, HG.out, HN.out, hb2⟩
          case measure => simp [intOf]; omega
        · obtain rfl : k = ss.length := by omega
          have hcv : (convert 22 9 (.slice (some ⟨w.heap.size, 0, none⟩) tot tot)).run Try.prog wr = .ok (.string (mkS (catL ss))) wr := by
            have hcc := HC.out
            rw [List.take_length, HT.out, List.take_of_length_le (by omega)] at hcc
            rw [← strOfNums_bytes]
            refine run_convert_bytes_arg _ 22 5 Try.underlying22 Try.underlying5 w.heap.size 0 tot tot _ (by rw [List.length_map, HT.out]) (fun i hi => ?_) 9 Try.underlying9
            have hi2 : i < (catL ss).length := by rw [HT.out]; exact hi
            rw [Nat.zero_add, cell_of_row _ _ i _ _ _ hg, hcc]
            simp [bCell, List.getElem?_eq_getElem hi2]
          clear hc HC hg hlen
          go_wp2
          go_ret
          exact ⟨rfl, hbw⟩

theorem join2 (t s : ByteArray) (pb cap : Nat) (w : World) (hb : t.size + s.size ≤ 1000000000) (h0 : w.cell? ⟨pb, 0, none⟩ = some (.string t)) (h1 : w.cell? ⟨pb, 1, none⟩ = some (.string s)) :
    Calls Try.prog 92 #[.slice (some ⟨pb, 0, none⟩) 2 cap] w fun e w' => e = .returned (.string (mkS (t.data.toList ++ s.data.toList))) ∧ Below w.heap.size w w' := by
  have h := join_any [t, s] pb 0 cap w (by simp only [catL, List.map_cons, List.map_nil, List.flatten_cons, List.flatten_nil, List.append_nil, List.length_append, len_data]; exact hb) (by simp) (fun j hj => by
    match j, hj with
    | 0, _ => simpa using h0
    | 1, _ => simpa using h1)
  simpa [catL] using h
theorem join1 (s : ByteArray) (pb cap : Nat) (w : World) (hb : s.size ≤ 1000000000) (h0 : w.cell? ⟨pb, 0, none⟩ = some (.string s)) :
    Calls Try.prog 92 #[.slice (some ⟨pb, 0, none⟩) 1 cap] w fun e w' => e = .returned (.string s) ∧ Below w.heap.size w w' := by
  have h := join_any [s] pb 0 cap w (by simp only [catL, List.map_cons, List.map_nil, List.flatten_cons, List.flatten_nil, List.append_nil, len_data]; exact hb) (by simp) (fun j hj => by
    match j, hj with
    | 0, _ => simpa using h0)
  simpa [catL, mkS] using h
end Go.Proofs.Ytfhfhpnoeghgmaa

/-
  Contracts: PutText of the program and of the specification.
-/
namespace Go.Proofs.Ytfhfhpnoeghgmaa
open Go.RowKit

/-- PutText of a text: the empty text beyond MaxBytes. -/
def putT (s : ByteArray) : ByteArray := if s.size ≤ 20000 then mkS ((strOfNums (putL 9 (foldN s.size))).data.toList ++ s.data.toList) else ByteArray.empty
theorem putL_len : ∀ f u, (putL f u).length ≤ f + 1
  | 0, u => by simp [putL]
  | f + 1, u => by
    unfold putL
    split
    · simp
    · have := putL_len f (u / 128); simp; omega
theorem num_size (n : Int) : (strOfNums (putL 9 (foldN n))).size ≤ 10 := by
  rw [strOfNums_size]; exact putL_len 9 _

set_option maxHeartbeats 400000 in
theorem implPutText_any (s : ByteArray) (w : World) :
    Calls Try.prog 94 #[.string s] w fun e w' => e = .returned (.string (putT s)) ∧ Below w.heap.size w w' := by
  by_cases hs : s.size ≤ 20000
  · have HP : Hid (putT s = mkS ((strOfNums (putL 9 (foldN s.size))).data.toList ++ s.data.toList)) := if_pos hs
    have hn := num_size s.size
    go_enter Try.func94, Try.ntmps94
    go_wp2_with fail
    refine (tooLong_no _ hs _).mono ?_
    rintro e w0 ⟨rfl, rfl⟩
    go_wp2_with fail
    refine (implPutNum_any _ (by omega) (by omega) _).mono ?_
    rintro e w1 ⟨rfl, hb1⟩
    generalize strOfNums (putL 9 (foldN s.size)) = t at *
    go_wp2_with fail
    refine (join2 t s _ _ _ (by omega) (by simp) (by simp)).mono ?_
    rintro e w2 ⟨rfl, hb2⟩
    go_wp2
    go_ret
    exact ⟨ret_str (by rw [HP.out]), (hb1.alloc hb1.size _).trans (hb2.mono (by simp; have := hb1.size; omega))⟩
  · have HP : Hid (putT s = ByteArray.empty) := if_neg hs
    go_enter Try.func94, Try.ntmps94
    go_wp2_with (go_at_call 83; refine (tooLong_yes _ (by omega) _).mono ?_; rintro e w' ⟨rfl, rfl⟩)
    go_ret
    exact ⟨ret_str (by rw [HP.out]; rfl), Below.refl _ _⟩

theorem specPutText_any (s : ByteArray) (w : World) :
    Calls Try.prog 66 #[.string s] w fun e w' => e = .returned (.string (putT s)) ∧ Below w.heap.size w w' := by
  by_cases hs : s.size ≤ 20000
  · have HP : Hid (putT s = mkS ((strOfNums (putL 9 (foldN s.size))).data.toList ++ s.data.toList)) := if_pos hs
    have hn := num_size s.size
    go_enter Try.func66, Try.ntmps66
    go_wp2_with fail
    refine (specPutNum_any _ (by omega) (by omega) _).mono ?_
    rintro e w1 ⟨rfl, hb1⟩
    generalize strOfNums (putL 9 (foldN s.size)) = t at *
    go_wp2
    go_ret
    exact ⟨ret_str (by rw [HP.out]; rfl), hb1⟩
  · have HP : Hid (putT s = ByteArray.empty) := if_neg hs
    go_enter Try.func66, Try.ntmps66
    go_wp2
    go_ret
    exact ⟨ret_str (by rw [HP.out]; rfl), Below.refl _ _⟩

end Go.Proofs.Ytfhfhpnoeghgmaa

/-
  Contracts: sumText, l01Four, Seal and Unseal of the program and of the specification; the laws on them.
-/
namespace Go.Proofs.Ytfhfhpnoeghgmaa
open Go.RowKit

def fourL (c : Nat) : List Int := [(c : Int) % 256, (c : Int) / 256 % 256, (c : Int) / 65536 % 256, (c : Int) / 16777216]
def fourS (c : Nat) : ByteArray := strOfNums (fourL c)
theorem fourS_size (c : Nat) : (fourS c).size = 4 := by simp [fourS, strOfNums_size, fourL]
theorem conv4 (c : Nat) (t : TypeId) (W : World) :
    (convert 22 9 (.slice (some ⟨W.heap.size, 0, none⟩) 4 4)).run Try.prog (W.alloc (.cells #[.int .u8 ((c : Int) % 256), .int .u8 ((c : Int) / 256 % 256), .int .u8 ((c : Int) / 65536 % 256), .int .u8 ((c : Int) / 16777216)] t)) =
      .ok (.string (fourS c)) (W.alloc (.cells #[.int .u8 ((c : Int) % 256), .int .u8 ((c : Int) / 256 % 256), .int .u8 ((c : Int) / 65536 % 256), .int .u8 ((c : Int) / 16777216)] t)) := by
  refine run_convert_bytes_arg _ 22 5 Try.underlying22 Try.underlying5 W.heap.size 0 4 4 (fourL c) rfl (fun i hi => ?_) 9 Try.underlying9
  rw [Nat.zero_add, cell_of_row _ _ i _ _ _ (heap_alloc_new W _)]
  match i, hi with
  | 0, _ => rfl
  | 1, _ => rfl
  | 2, _ => rfl
  | 3, _ => rfl

theorem sumText_any (s : ByteArray) (w : World) :
    Calls Try.prog 115 #[.string s] w fun e w' => e = .returned (.string (fourS (crcOf s))) ∧ Below w.heap.size w w' := by
  have hc := crcOf_lt s
  have hcv := fun t W => conv4 (crcOf s) t W
  go_enter Try.func115, Try.ntmps115
  go_wp2_with (go_at_call 124; refine (implCrc_any _ _).mono ?_; rintro e w' ⟨rfl, rfl⟩)
  go_ret
  exact ⟨rfl, (Below.refl _ _).alloc (Nat.le_refl _) _⟩
theorem four_any (c : Nat) (hc : c < 4294967296) (w : World) :
    Calls Try.prog 103 #[.int .i64 c] w fun e w' => e = .returned (.string (fourS c)) ∧ Below w.heap.size w w' := by
  have hcv := fun t W => conv4 c t W
  go_enter Try.func103, Try.ntmps103
  go_wp2
  go_ret
  exact ⟨rfl, (Below.refl _ _).alloc (Nat.le_refl _) _⟩

theorem crcOf_in (s : ByteArray) (h : s.size ≤ 20000) : crcOf s = crcMoreN 0 s.data.toList := if_pos h
/-- The seal of a text: the empty text where it does not fit. -/
def sealS (s : ByteArray) : ByteArray := if s.size ≤ 19996 then mkS (s.data.toList ++ (fourS (crcOf s)).data.toList) else ByteArray.empty

theorem implSeal_any (s : ByteArray) (w : World) :
    Calls Try.prog 91 #[.string s] w fun e w' => e = .returned (.string (sealS s)) ∧ Below w.heap.size w w' := by
  by_cases hs : s.size ≤ 19996
  · have HP : Hid (sealS s = mkS (s.data.toList ++ (fourS (crcOf s)).data.toList)) := if_pos hs
    have hn := fourS_size (crcOf s)
    go_enter Try.func91, Try.ntmps91
    go_wp2_with fail
    refine (sumText_any s _).mono ?_
    rintro e w1 ⟨rfl, hb1⟩
    generalize fourS (crcOf s) = t at *
    go_wp2_with fail
    refine (join2 s t _ _ _ (by omega) (by simp) (by simp)).mono ?_
    rintro e w2 ⟨rfl, hb2⟩
    go_wp2
    go_ret
    exact ⟨ret_str (by rw [HP.out]), (hb1.alloc hb1.size _).trans (hb2.mono (by simp; have := hb1.size; omega))⟩
  · have HP : Hid (sealS s = ByteArray.empty) := if_neg hs
    go_enter Try.func91, Try.ntmps91
    go_wp2
    go_ret
    exact ⟨ret_str (by rw [HP.out]; rfl), Below.refl _ _⟩
theorem specSeal_any (s : ByteArray) (w : World) :
    Calls Try.prog 64 #[.string s] w fun e w' => e = .returned (.string (sealS s)) ∧ Below w.heap.size w w' := by
  by_cases hs : s.size ≤ 19996
  · have HP : Hid (sealS s = mkS (s.data.toList ++ (fourS (crcMoreN 0 s.data.toList)).data.toList)) := by
      show _ = _
      rw [← crcOf_in s (by omega)]; exact if_pos hs
    have hn := fourS_size (crcMoreN 0 s.data.toList)
    go_enter Try.func64, Try.ntmps64
    go_wp2_with fail
    refine (specCrc_any 0 (by omega) s (by omega) _).mono ?_
    rintro e w0 ⟨rfl, rfl⟩
    go_wp2_with fail
    refine (four_any _ (crcMoreN_lt (by omega) _) _).mono ?_
    rintro e w1 ⟨rfl, hb1⟩
    generalize fourS (crcMoreN 0 s.data.toList) = t at *
    go_wp2
    go_ret
    exact ⟨ret_str (by rw [HP.out]; rfl), hb1⟩
  · have HP : Hid (sealS s = ByteArray.empty) := if_neg hs
    go_enter Try.func64, Try.ntmps64
    go_wp2
    go_ret
    exact ⟨ret_str (by rw [HP.out]; rfl), Below.refl _ _⟩

end Go.Proofs.Ytfhfhpnoeghgmaa

/-
  Plain facts: a number read from its bytes.
-/
namespace Go.Proofs.Ytfhfhpnoeghgmaa
open Go.RowKit

def unz (u : Nat) : Int := if u % 2 = 1 then -((u / 2 : Nat) : Int) - 1 else ((u / 2 : Nat) : Int)
/-- The number, how many bytes it has, the code. -/
def rd (k u : Nat) : List UInt8 → Int × Nat × Nat
  | [] => (0, 0, 4)
  | b :: l =>
    if k = 9 ∧ 1 < b.toNat then (0, 0, 3)
    else if b.toNat < 128 then (if b.toNat = 0 ∧ 0 < k then (0, 0, 3) else (unz (u + b.toNat % 128 * 2 ^ (7 * k)), k + 1, 0))
    else rd (k + 1) (u + b.toNat % 128 * 2 ^ (7 * k)) l
def rdAt (l : List UInt8) (at' : Nat) : Int × Nat × Nat := rd 0 0 (l.drop at')
theorem drop_cons (s : ByteArray) (k : Nat) (h : k < s.size) : s.data.toList.drop k = s[k] :: s.data.toList.drop (k + 1) := by
  rw [List.drop_eq_getElem_cons (by simpa using h)]; rfl
theorem drop_none (s : ByteArray) (k : Nat) (h : s.size ≤ k) : s.data.toList.drop k = [] := List.drop_eq_nil_of_le (by simpa using h)
theorem rd_short (k u : Nat) : rd k u [] = (0, 0, 4) := rfl
theorem rd_big {k u : Nat} {b : UInt8} {l : List UInt8} (h : k = 9) (hb : 1 < b.toNat) : rd k u (b :: l) = (0, 0, 3) := by simp [rd, h, hb]
theorem rd_nought {k u : Nat} {b : UInt8} {l : List UInt8} (h : 0 < k) (hb : b.toNat = 0) : rd k u (b :: l) = (0, 0, 3) := by simp [rd, h, hb]
theorem rd_last {k u : Nat} {b : UInt8} {l : List UInt8} (h : ¬ (k = 9 ∧ 1 < b.toNat)) (hb : b.toNat < 128) (hz : ¬ (b.toNat = 0 ∧ 0 < k)) : rd k u (b :: l) = (unz (u + b.toNat % 128 * 2 ^ (7 * k)), k + 1, 0) := by
  simp only [rd, if_neg h, if_pos hb, if_neg hz]
theorem rd_more {k u : Nat} {b : UInt8} {l : List UInt8} (h : ¬ k = 9) (hb : ¬ b.toNat < 128) : rd k u (b :: l) = rd (k + 1) (u + b.toNat % 128 * 2 ^ (7 * k)) l := by
  have h' : ¬ (k = 9 ∧ 1 < b.toNat) := fun e => h e.1
  rw [rd, if_neg h', if_neg hb]
theorem u8_and127 (b : Nat) (h : b < 256) : bits .and .u8 (b : Int) 127 = ((b % 128 : Nat) : Int) := by
  have := u8_and_nat b 127 h (by omega)
  simpa [nat_mask7] using this
theorem next_lt {k u b : Nat} (hu : u < 2 ^ (7 * k)) : u + b % 128 * 2 ^ (7 * k) < 2 ^ (7 * (k + 1)) := by
  have e : 2 ^ (7 * (k + 1)) = 128 * 2 ^ (7 * k) := by rw [Nat.mul_add, Nat.pow_add, Nat.mul_comm]
  rw [e]
  have : b % 128 < 128 := Nat.mod_lt _ (by omega)
  have h2 : b % 128 * 2 ^ (7 * k) ≤ 127 * 2 ^ (7 * k) := Nat.mul_le_mul_right _ (by omega)
  omega
theorem pow_le {k : Nat} (h : k ≤ 9) : 2 ^ (7 * k) ≤ 9223372036854775808 := Nat.pow_le_pow_right (n := 2) (by omega) (show 7 * k ≤ 63 by omega)
theorem or_join {k u b : Nat} (hu : u < 2 ^ (7 * k)) : u ||| b * 2 ^ (7 * k) = u + b * 2 ^ (7 * k) := by
  rw [Nat.or_comm, nat_join (7 * k) (b * 2 ^ (7 * k)) u (by simp) hu, Nat.add_comm]
/-- The product fits: at the tenth byte it is 0 or 1. -/
theorem prod_lt {k b : Nat} (hk : k ≤ 9) (h : ¬ (k = 9 ∧ 1 < b)) : b % 128 * 2 ^ (7 * k) < 18446744073709551616 := by
  by_cases h9 : k = 9
  · subst h9
    have : b ≤ 1 := by
      rcases Nat.lt_or_ge 1 b with h1 | h1
      · exact absurd ⟨rfl, h1⟩ h
      · exact h1
    have : b % 128 ≤ 1 := by omega
    have : b % 128 * 2 ^ (7 * 9) ≤ 1 * 2 ^ (7 * 9) := Nat.mul_le_mul_right _ this
    omega
  · have h1 := pow_le (k := k + 1) (by omega)
    have h2 := next_lt (k := k) (u := 0) (b := b) (Nat.two_pow_pos _)
    omega
theorem or_u64 {k u b : Nat} (hu : u < 2 ^ (7 * k)) (hp : b % 128 * 2 ^ (7 * k) < 18446744073709551616) (hk : k ≤ 9) :
    bits .or .u64 (u : Int) (IntKind.u64.wrap ((b : Int) % 128 * 2 ^ (7 * k))) = ((u + b % 128 * 2 ^ (7 * k) : Nat) : Int) := by
  have e : (b : Int) % 128 * 2 ^ (7 * k) = ((b % 128 * 2 ^ (7 * k) : Nat) : Int) := by simp
  have hw : IntKind.u64.wrap ((b % 128 * 2 ^ (7 * k) : Nat) : Int) = ((b % 128 * 2 ^ (7 * k) : Nat) : Int) := by rw [IntKind.wrap_u64]; omega
  have hu2 : u < 18446744073709551616 := Nat.lt_of_lt_of_le hu (Nat.le_trans (pow_le hk) (by omega))
  rw [e, hw, u64_or_nat _ _ hu2 hp, or_join hu]
theorem u64_and1 (u : Nat) (hu : u < 18446744073709551616) : bits .and .u64 (u : Int) 1 = ((u % 2 : Nat) : Int) := by
  have := u64_and_nat u 1 hu (by omega)
  simpa [nat_mask1] using this
theorem i64_xor_neg (a : Nat) (ha : a < 9223372036854775808) : bits .xor .i64 (a : Int) (-1) = -(a : Int) - 1 := by
  show IntKind.i64.wrap ((BitVec.ofInt 64 (a : Int) ^^^ BitVec.ofInt 64 (-1)).toNat : Int) = _
  have h1 : BitVec.ofInt 64 (-1) = BitVec.allOnes 64 := by decide
  rw [h1, BitVec.xor_allOnes, BitVec.toNat_not, ofInt_u64 a (by omega)]
  simp [IntKind.wrap, IntKind.bits, IntKind.signed]
  omega
theorem i64_xor_zero (a : Nat) (ha : a < 9223372036854775808) : bits .xor .i64 (a : Int) 0 = (a : Int) := by
  show IntKind.i64.wrap ((BitVec.ofInt 64 (a : Int) ^^^ BitVec.ofInt 64 0).toNat : Int) = _
  have h1 : BitVec.ofInt 64 0 = 0#64 := by decide
  rw [h1, BitVec.xor_zero, ofInt_u64 a (by omega)]
  simp [IntKind.wrap, IntKind.bits, IntKind.signed]
  omega
theorem unz_odd {u : Nat} (hu : u < 18446744073709551616) (h : u % 2 = 1) : bits .xor .i64 ((u : Int) / 2) (-1) = unz u := by
  have := i64_xor_neg (u / 2) (by omega)
  rw [unz, if_pos h, ← this]; simp
theorem unz_even {u : Nat} (hu : u < 18446744073709551616) (h : ¬ u % 2 = 1) : bits .xor .i64 ((u : Int) / 2) 0 = unz u := by
  have := i64_xor_zero (u / 2) (by omega)
  rw [unz, if_neg h, ← this]; simp
theorem or_first (b : Nat) : bits .or .u64 0 ((b : Int) % 128) = ((b % 128 : Nat) : Int) := by
  have := u64_or_nat 0 (b % 128) (by omega) (by omega)
  simpa using this
theorem wrap_prod {k b : Nat} (hp : b % 128 * 2 ^ (7 * k) < 18446744073709551616) : IntKind.u64.wrap ((b : Int) % 128 * 2 ^ (7 * k)) = ((b % 128 * 2 ^ (7 * k) : Nat) : Int) := by
  have e : (b : Int) % 128 * 2 ^ (7 * k) = ((b % 128 * 2 ^ (7 * k) : Nat) : Int) := by simp
  rw [e, IntKind.wrap_u64]; omega
theorem sum_lt {k u b : Nat} (hk : k ≤ 9) (hu : u < 2 ^ (7 * k)) (hA : ¬ (k = 9 ∧ 1 < b)) : u + b % 128 * 2 ^ (7 * k) < 18446744073709551616 := by
  have := pow_le hk
  rcases Nat.lt_or_ge k 9 with h9 | h9
  · have := next_lt (b := b) hu
    have := pow_le (k := k + 1) (by omega)
    omega
  · obtain rfl : k = 9 := by omega
    have h1 : ¬ 1 < b := fun h => hA ⟨rfl, h⟩
    have : b % 128 ≤ 1 := by omega
    have : b % 128 * 2 ^ (7 * 9) ≤ 1 * 2 ^ (7 * 9) := Nat.mul_le_mul_right _ this
    omega
theorem unz_eq (u : Nat) : unz u = if u % 2 = 1 then -((u / 2 : Nat) : Int) - 1 else ((u / 2 : Nat) : Int) := rfl
end Go.Proofs.Ytfhfhpnoeghgmaa

/-
  Plain facts: a number is got back from its bytes, and not from fewer.
-/
namespace Go.Proofs.Ytfhfhpnoeghgmaa
open Go.RowKit

def toB (x : Int) : UInt8 := UInt8.ofNat x.toNat
theorem toB_small {U : Nat} (h : U < 256) : (toB (U : Int)).toNat = U := by
  unfold toB; rw [Int.toNat_natCast, UInt8.toNat_ofNat', Nat.mod_eq_of_lt h]
theorem sum_step (k u0 U : Nat) : u0 + U % 128 * 2 ^ (7 * k) + U / 128 * 2 ^ (7 * (k + 1)) = u0 + U * 2 ^ (7 * k) := by
  have e : 2 ^ (7 * (k + 1)) = 128 * 2 ^ (7 * k) := by rw [Nat.mul_add, Nat.pow_add, Nat.mul_comm]
  have h := Nat.div_add_mod U 128
  rw [e, ← Nat.mul_assoc]
  have h2 : U * 2 ^ (7 * k) = (U % 128) * 2 ^ (7 * k) + (U / 128 * 128) * 2 ^ (7 * k) := by rw [← Nat.add_mul]; congr 1; omega
  rw [h2]; omega
/-- Read from the k-th byte on: the number whose bytes stand there. -/
theorem rd_put : ∀ (f k u0 U : Nat) (rest : List UInt8), k + f = 9 → U < 2 ^ (64 - 7 * k) → (0 < k → 0 < U) →
    rd k u0 ((putL f U).map toB ++ rest) = (unz (u0 + U * 2 ^ (7 * k)), k + (putL f U).length, 0)
  | 0, k, u0, U, rest, hk, hU, hp => by
    obtain rfl : k = 9 := by omega
    have hU2 : U < 2 := by simpa using hU
    rw [putL_small 0 U (by omega)]
    have hb := toB_small (U := U) (by omega)
    rw [List.map_cons, List.map_nil, List.singleton_append, rd_last (by rw [hb]; omega) (by rw [hb]; omega) (by rw [hb]; omega), hb, Nat.mod_eq_of_lt (by omega)]
    rfl
  | f + 1, k, u0, U, rest, hk, hU, hp => by
    by_cases hs : U < 128
    · rw [putL_small _ U hs]
      have hb := toB_small (U := U) (by omega)
      rw [List.map_cons, List.map_nil, List.singleton_append, rd_last (by rw [hb]; omega) (by rw [hb]; omega) (by rw [hb]; omega), hb, Nat.mod_eq_of_lt (by omega)]
      rfl
    · rw [putL_big f U hs]
      have hb := toB_small (U := U % 128 + 128) (by omega)
      rw [List.map_cons, List.cons_append, rd_more (by omega) (by rw [hb]; omega), hb, show (U % 128 + 128) % 128 = U % 128 by omega]
      rw [rd_put f (k + 1) _ (U / 128) rest (by omega) (pow_step k U (by omega) hU) (by omega), sum_step, List.length_cons]
      simp; omega
/-- All bytes but the last: too short. -/
theorem rd_cut : ∀ (f k u0 U : Nat), k + f = 9 → U < 2 ^ (64 - 7 * k) → rd k u0 ((putL f U).map toB).dropLast = (0, 0, 4)
  | 0, k, u0, U, hk, hU => by simp [putL, rd]
  | f + 1, k, u0, U, hk, hU => by
    by_cases hs : U < 128
    · rw [putL_small _ U hs]; simp [rd]
    · rw [putL_big f U hs]
      have hb := toB_small (U := U % 128 + 128) (by omega)
      have hne : (putL f (U / 128)).map toB ≠ [] := by
        cases f <;> simp [putL]
        split <;> simp
      rw [List.map_cons, List.dropLast_cons_of_ne_nil hne, rd_more (by omega) (by rw [hb]; omega)]
      exact rd_cut f (k + 1) _ (U / 128) (by omega) (pow_step k U (by omega) hU)
theorem unz_fold (n : Int) : unz (foldN n) = n := by
  unfold unz foldN
  split <;> split <;> omega
def numB (n : Int) : List UInt8 := (putL 9 (foldN n)).map toB
theorem numS_list (n : Int) : (strOfNums (putL 9 (foldN n))).data.toList = numB n := strOfNums_data _
theorem numB_pos (n : Int) : 0 < (numB n).length := by
  unfold numB; rw [List.length_map, putL]; split <;> simp
theorem rdAt_put (n : Int) (h1 : -9223372036854775808 ≤ n) (h2 : n ≤ 9223372036854775807) (a b : List UInt8) : rdAt (a ++ numB n ++ b) a.length = (n, (numB n).length, 0) := by
  unfold rdAt
  rw [List.append_assoc, List.drop_append_of_le_length (Nat.le_refl _), List.drop_length, List.nil_append]
  have h := rd_put 9 0 0 (foldN n) b rfl (foldN_lt n h1 h2) (by omega)
  unfold numB
  rw [h]
  simp [unz_fold]
theorem rdAt_cut (n : Int) (h1 : -9223372036854775808 ≤ n) (h2 : n ≤ 9223372036854775807) : rdAt (numB n).dropLast 0 = (0, 0, 4) := by
  unfold rdAt
  rw [List.drop_zero]
  exact rd_cut 9 0 0 (foldN n) rfl (foldN_lt n h1 h2)
end Go.Proofs.Ytfhfhpnoeghgmaa

/-
  Records and their bytes: plain.
-/
namespace Go.Proofs.Ytfhfhpnoeghgmaa
open Go.RowKit
set_option maxRecDepth 100000

def seqOk (q : Int) : Bool := decide (1 ≤ q) && decide (q ≤ 1000000000)
def recRight (q : Int) (t : ByteArray) : Bool := seqOk q && decide (t.size ≤ 6000)
def numS (q : Int) : ByteArray := strOfNums (putL 9 (foldN q))
/-- What is sealed. -/
def recL (q : Int) (t : ByteArray) : List UInt8 := 76 :: ((numS q).data.toList ++ (putT t).data.toList)
def recS (q : Int) (t : ByteArray) : ByteArray := sealS (mkS (recL q t))
/-- The bytes of a record: none, where it is not right. -/
def recBytes (q : Int) (t : ByteArray) : ByteArray := if recRight q t = true then recS q t else ⟨#[]⟩
theorem recBytes_no {q : Int} {t : ByteArray} (h : recRight q t = false) : recBytes q t = ⟨#[]⟩ := by unfold recBytes; rw [h]; rfl
theorem recBytes_yes {q : Int} {t : ByteArray} (h : recRight q t = true) : recBytes q t = recS q t := by unfold recBytes; rw [h]; rfl
theorem recRight_iff (q : Int) (t : ByteArray) : recRight q t = true ↔ (1 ≤ q ∧ q ≤ 1000000000) ∧ t.size ≤ 6000 := by simp [recRight, seqOk]
theorem numS_len (q : Int) : (numS q).size ≤ 10 := num_size q
theorem numS_data (q : Int) : (numS q).data.toList = numB q := numS_list q
theorem putT_yes {t : ByteArray} (h : t.size ≤ 20000) : putT t = mkS ((numS t.size).data.toList ++ t.data.toList) := if_pos h
theorem putT_len (t : ByteArray) (h : t.size ≤ 6000) : (putT t).size ≤ 6010 := by
  rw [putT_yes (by omega), mkS_size, List.length_append]
  have h1 : (numS (t.size : Int)).data.toList.length ≤ 10 := numS_len _
  have h2 : t.data.toList.length = t.size := rfl
  omega
theorem recL_len (q : Int) (t : ByteArray) (h : t.size ≤ 6000) : (recL q t).length ≤ 6021 := by
  unfold recL
  have h1 : (numS q).data.toList.length ≤ 10 := numS_len _
  have h2 : (putT t).data.toList.length ≤ 6010 := putT_len t h
  simp only [List.length_cons, List.length_append]
  omega
theorem recS_eq {q : Int} {t : ByteArray} (h : t.size ≤ 6000) : recS q t = mkS (recL q t ++ (fourS (crcOf (mkS (recL q t)))).data.toList) := by
  unfold recS sealS
  have h1 := recL_len q t h
  have h2 := mkS_size (recL q t)
  rw [if_pos (by omega)]
  rfl
theorem recS_len {q : Int} {t : ByteArray} (h : t.size ≤ 6000) : (recS q t).size = (recL q t).length + 4 := by
  rw [recS_eq h, mkS_size, List.length_append]
  have h1 : (fourS (crcOf (mkS (recL q t)))).data.toList.length = 4 := fourS_size _
  omega
theorem recBytes_len (q : Int) (t : ByteArray) : (recBytes q t).size ≤ 6025 := by
  cases h : recRight q t with
  | false => rw [recBytes_no h]; decide
  | true =>
    have h2 := ((recRight_iff q t).1 h).2
    have := recL_len q t h2
    rw [recBytes_yes h, recS_len h2]; omega
end Go.Proofs.Ytfhfhpnoeghgmaa

/-
  Contracts: is a record right, of both; the bytes of a record, of both.
-/
namespace Go.Proofs.Ytfhfhpnoeghgmaa
open Go.RowKit
set_option maxRecDepth 100000

theorem blkR {W : World} {g : Nat} {o : Obj} (h : W.heap[g]? = some o) : g < W.heap.size := (Array.getElem?_eq_some_iff.1 h).1
theorem seqRight_any (q : Int) (w : World) : Calls Try.prog 56 #[.int .i64 q] w fun e w' => e = .returned (.bool (seqOk q)) ∧ w' = w := by
  by_cases h1 : 1 ≤ q
  · go_enter Try.func56, Try.ntmps56
    go_wp2
    go_ret
    exact ⟨ret_bool (by simp [seqOk, h1]), rfl⟩
  · go_enter Try.func56, Try.ntmps56
    go_wp2
    go_ret
    exact ⟨ret_bool (by simp [seqOk]; intros; omega), rfl⟩
theorem l08Seq_any (q : Int) (w : World) : Calls Try.prog 59 #[.int .i64 q] w fun e w' => e = .returned (.bool (seqOk q)) ∧ w' = w := by
  by_cases h1 : 1 ≤ q
  · go_enter Try.func59, Try.ntmps59
    go_wp2
    go_ret
    exact ⟨ret_bool (by simp [seqOk, h1]), rfl⟩
  · go_enter Try.func59, Try.ntmps59
    go_wp2
    go_ret
    exact ⟨ret_bool (by simp [seqOk]; intros; omega), rfl⟩
theorem implRecordRight_any (q : Int) (t : ByteArray) (w : World) : Calls Try.prog 45 #[.agg #[.int .i64 q, .string t]] w fun e w' => e = .returned (.bool (recRight q t)) ∧ Below w.heap.size w w' := by
  have B0 := hide ((Below.refl w.heap.size w).alloc (Nat.le_refl _) (.cells #[.int .i64 q, .string t] 34))
  have X0 := hide (heap_alloc_new w (.cells #[.int .i64 q, .string t] 34))
  obtain ⟨x0, x1, xf⟩ := cells2 X0.out
  have HS := hide (seqRight_any q)
  have HR : Hid (recRight q t = (seqOk q && decide (t.size ≤ 6000))) := rfl
  cases hs : seqOk q with
  | false =>
    rw [hs] at HS HR
    go_enter Try.func45, Try.ntmps45
    go_wp2_with (go_at_call 56; refine (HS.out _).mono ?_; rintro e w1 ⟨rfl, rfl⟩)
    go_ret
    exact ⟨ret_bool (by rw [HR.out]; rfl), B0.out⟩
  | true =>
    rw [hs] at HS HR
    go_enter Try.func45, Try.ntmps45
    go_wp2_with (go_at_call 56; refine (HS.out _).mono ?_; rintro e w1 ⟨rfl, rfl⟩)
    go_ret
    exact ⟨ret_bool (by rw [HR.out]; simp; omega), B0.out⟩
theorem specRecordRight_any (q : Int) (t : ByteArray) (w : World) : Calls Try.prog 43 #[.agg #[.int .i64 q, .string t]] w fun e w' => e = .returned (.bool (recRight q t)) ∧ Below w.heap.size w w' := by
  have B0 := hide ((Below.refl w.heap.size w).alloc (Nat.le_refl _) (.cells #[.int .i64 q, .string t] 34))
  have X0 := hide (heap_alloc_new w (.cells #[.int .i64 q, .string t] 34))
  obtain ⟨x0, x1, xf⟩ := cells2 X0.out
  have HS := hide (l08Seq_any q)
  have HR : Hid (recRight q t = (seqOk q && decide (t.size ≤ 6000))) := rfl
  cases hs : seqOk q with
  | false =>
    rw [hs] at HS HR
    go_enter Try.func43, Try.ntmps43
    go_wp2_with (go_at_call 59; refine (HS.out _).mono ?_; rintro e w1 ⟨rfl, rfl⟩)
    go_ret
    exact ⟨ret_bool (by rw [HR.out]; rfl), B0.out⟩
  | true =>
    rw [hs] at HS HR
    go_enter Try.func43, Try.ntmps43
    go_wp2_with (go_at_call 59; refine (HS.out _).mono ?_; rintro e w1 ⟨rfl, rfl⟩)
    go_ret
    exact ⟨ret_bool (by rw [HR.out]; simp; omega), B0.out⟩
end Go.Proofs.Ytfhfhpnoeghgmaa

/-
  Contracts: the bytes of a record, of both.
-/
namespace Go.Proofs.Ytfhfhpnoeghgmaa
open Go.RowKit
set_option maxRecDepth 100000


set_option maxHeartbeats 1000000 in
theorem specRecordBytes_any (q : Int) (t : ByteArray) (w : World) (hq : -9223372036854775808 ≤ q ∧ q ≤ 9223372036854775807) : Calls Try.prog 19 #[.agg #[.int .i64 q, .string t]] w fun e w' => e = .returned (.string (recBytes q t)) ∧ Below w.heap.size w w' := by
  have B0 := hide ((Below.refl w.heap.size w).alloc (Nat.le_refl _) (.cells #[.int .i64 q, .string t] 34))
  have X0 := hide (heap_alloc_new w (.cells #[.int .i64 q, .string t] 34))
  obtain ⟨x0, x1, xf⟩ := cells2 X0.out
  have HR := hide (specRecordRight_any q t)
  cases hr : recRight q t with
  | false =>
    rw [hr] at HR
    rw [recBytes_no hr]
    go_enter Try.func19, Try.ntmps19
    go_wp2_with (go_at_call 43; refine (HR.out _).mono ?_; rintro e w1 ⟨rfl, b1⟩; have B1 := hide (B0.out.trans (b1.mono B0.out.size)); clear b1)
    go_ret
    exact ⟨rfl, B1.out⟩
  | true =>
    rw [hr] at HR
    rw [recBytes_yes hr]
    have HE : Hid (recS q t = sealS (mkS (recL q t))) := rfl
    have HL : Hid (mkS (recL q t) = (⟨#[76]⟩ : ByteArray) ++ numS q ++ putT t) := rfl
    have HN := hide (fun W => specPutNum_any q hq.1 hq.2 W)
    have HP := hide (fun W => specPutText_any t W)
    have HS := hide (fun s W => specSeal_any s W)
    rw [show strOfNums (putL 9 (foldN q)) = numS q from rfl] at HN
    have hA := numS_len q
    have hB := putT_len t ((recRight_iff q t).1 hr).2
    generalize numS q = A at *
    generalize putT t = B at *
    have hD1 : ¬ 9223372036854775807 < 1 + A.size := by omega
    have hD2 : ¬ 9223372036854775807 < 1 + A.size + B.size := by omega
    clear hr
    go_enter Try.func19, Try.ntmps19
    go_wp2_with (go_at_call 43; refine (HR.out _).mono ?_; rintro e w1 ⟨rfl, b1⟩; have B1 := hide (B0.out.trans (b1.mono B0.out.size)); have X1 := hide ((b1.block w.heap.size (by simp)).trans X0.out); clear b1 x0 x1 xf; obtain ⟨x0, x1, xf⟩ := cells2 X1.out)
    go_region_held3 (fun W => W.cell? ⟨w.heap.size, 0, none⟩ = some (.int .i64 q) ∧ W.cell? ⟨w.heap.size, 1, none⟩ = some (.string t)) (go_keep) (first
      | (go_at_call 65; refine (HN.out _).mono ?_; rintro e w2 ⟨rfl, b2⟩; have X2 : Hid (w2.heap[w.heap.size]? = some (.cells #[.int .i64 q, .string t] 34 (0, 0))) := (b2.block w.heap.size (blkR X1.out)).trans X1.out; have B2 : Hid (Below w.heap.size w w2) := B1.out.drew.trans (b2.mono B1.out.size); have y2 := cells2 X2.out; have x02 := y2.1; have x12 := y2.2.1; clear y2 b2)
      | (go_at_call 66; refine (HP.out _).mono ?_; rintro e w3 ⟨rfl, b3⟩; have X3 : Hid (w3.heap[w.heap.size]? = some (.cells #[.int .i64 q, .string t] 34 (0, 0))) := (b3.block w.heap.size (blkR X2.out)).trans X2.out; have B3 : Hid (Below w.heap.size w w3) := B2.out.trans (b3.mono B2.out.size); have y3 := cells2 X3.out; have x03 := y3.1; have x13 := y3.2.1; clear y3 b3)
      | (go_at_call 64; refine (HS.out _ _).mono ?_; rintro e w4 ⟨rfl, b4⟩; have X4 : Hid (w4.heap[w.heap.size]? = some (.cells #[.int .i64 q, .string t] 34 (0, 0))) := (b4.block w.heap.size (blkR X3.out)).trans X3.out; have B4 : Hid (Below w.heap.size w w4) := B3.out.trans (b4.mono B3.out.size); have y4 := cells2 X4.out; have x04 := y4.1; have x14 := y4.2.1; clear y4 b4))
    all_goals
      go_wp2
      go_ret
      exact ⟨ret_str (by rw [HE.out, HL.out]), B4.out⟩
theorem cellsT (w : World) (t : TypeId) (a b c : Value) : (w.alloc (.cells #[a, b, c] t)).cell? ⟨w.heap.size, 0, none⟩ = some a ∧ (w.alloc (.cells #[a, b, c] t)).cell? ⟨w.heap.size, 1, none⟩ = some b ∧ (w.alloc (.cells #[a, b, c] t)).cell? ⟨w.heap.size, 2, none⟩ = some c := by
  have h := heap_alloc_new w (.cells #[a, b, c] t)
  refine ⟨?_, ?_, ?_⟩ <;> rw [cell_of_row _ _ _ _ _ _ h] <;> rfl
theorem join3 (s t u : ByteArray) (pb cap : Nat) (w : World) (hb : s.size + t.size + u.size ≤ 1000000000) (h0 : w.cell? ⟨pb, 0, none⟩ = some (.string s)) (h1 : w.cell? ⟨pb, 1, none⟩ = some (.string t)) (h2 : w.cell? ⟨pb, 2, none⟩ = some (.string u)) :
    Calls Try.prog 92 #[.slice (some ⟨pb, 0, none⟩) 3 cap] w fun e w' => e = .returned (.string (mkS (s.data.toList ++ (t.data.toList ++ u.data.toList)))) ∧ Below w.heap.size w w' := by
  have h := join_any [s, t, u] pb 0 cap w (by simp only [catL, List.map_cons, List.map_nil, List.flatten_cons, List.flatten_nil, List.append_nil, List.length_append, len_data]; omega) (by simp) (fun j hj => by
    match j, hj with
    | 0, _ => simpa using h0
    | 1, _ => simpa using h1
    | 2, _ => simpa using h2)
  simpa [catL] using h
set_option maxHeartbeats 1000000 in
theorem implRecordBytes_any (q : Int) (t : ByteArray) (w : World) (hq : -9223372036854775808 ≤ q ∧ q ≤ 9223372036854775807) : Calls Try.prog 46 #[.agg #[.int .i64 q, .string t]] w fun e w' => e = .returned (.string (recBytes q t)) ∧ Below w.heap.size w w' := by
  have B0 := hide ((Below.refl w.heap.size w).alloc (Nat.le_refl _) (.cells #[.int .i64 q, .string t] 34))
  have X0 := hide (heap_alloc_new w (.cells #[.int .i64 q, .string t] 34))
  obtain ⟨x0, x1, xf⟩ := cells2 X0.out
  have HR := hide (implRecordRight_any q t)
  cases hr : recRight q t with
  | false =>
    rw [hr] at HR
    rw [recBytes_no hr]
    go_enter Try.func46, Try.ntmps46
    go_wp2_with (go_at_call 45; refine (HR.out _).mono ?_; rintro e w1 ⟨rfl, b1⟩; have B1 := hide (B0.out.trans (b1.mono B0.out.size)); clear b1)
    go_ret
    exact ⟨rfl, B1.out⟩
  | true =>
    rw [hr] at HR
    rw [recBytes_yes hr]
    have HE : Hid (recS q t = sealS (mkS (recL q t))) := rfl
    have HL : Hid (recL q t = (⟨#[76]⟩ : ByteArray).data.toList ++ ((numS q).data.toList ++ (putT t).data.toList)) := rfl
    have HN := hide (fun W => implPutNum_any q hq.1 hq.2 W)
    have HP := hide (fun W => implPutText_any t W)
    have HS := hide (fun s W => implSeal_any s W)
    rw [show strOfNums (putL 9 (foldN q)) = numS q from rfl] at HN
    have hA := numS_len q
    have hB := putT_len t ((recRight_iff q t).1 hr).2
    generalize numS q = A at *
    generalize putT t = B at *
    have HJ := hide (fun (pb cap : Nat) (W : World) => join3 ⟨#[76]⟩ A B pb cap W (by show 1 + _ + _ ≤ _; omega))
    clear hr
    go_enter Try.func46, Try.ntmps46
    go_wp2_with (go_at_call 45; refine (HR.out _).mono ?_; rintro e w1 ⟨rfl, b1⟩; have B1 := hide (B0.out.trans (b1.mono B0.out.size)); have X1 := hide ((b1.block w.heap.size (by simp)).trans X0.out); clear b1 x0 x1 xf; obtain ⟨x0, x1, xf⟩ := cells2 X1.out)
    go_region_held3 (fun W => W.cell? ⟨w.heap.size, 0, none⟩ = some (.int .i64 q) ∧ W.cell? ⟨w.heap.size, 1, none⟩ = some (.string t)) (go_keep) (first
      | (go_at_call 93; refine (HN.out _).mono ?_; rintro e w2 ⟨rfl, b2⟩; have X2 : Hid (w2.heap[w.heap.size]? = some (.cells #[.int .i64 q, .string t] 34 (0, 0))) := (b2.block w.heap.size (blkR X1.out)).trans X1.out; have B2 : Hid (Below w.heap.size w w2) := B1.out.drew.trans (b2.mono B1.out.size); have y2 := cells2 X2.out; have x02 := y2.1; have x12 := y2.2.1; clear y2 b2)
      | (go_at_call 94; refine (HP.out _).mono ?_; rintro e w3 ⟨rfl, b3⟩; have X3 : Hid (w3.heap[w.heap.size]? = some (.cells #[.int .i64 q, .string t] 34 (0, 0))) := (b3.block w.heap.size (blkR X2.out)).trans X2.out; have B3 : Hid (Below w.heap.size w w3) := B2.out.trans (b3.mono B2.out.size); have y3 := cells2 X3.out; have x03 := y3.1; have x13 := y3.2.1; have hn3 := Nat.ne_of_lt (blkR X3.out); clear y3 b3)
      | (go_at_call 92; have z3 := cellsT w3 9 (.string ⟨#[76]⟩) (.string A) (.string B); refine (HJ.out _ _ _ z3.1 z3.2.1 z3.2.2).mono ?_; rintro e w5 ⟨rfl, b5⟩; have X5 : Hid (w5.heap[w.heap.size]? = some (.cells #[.int .i64 q, .string t] 34 (0, 0))) := (b5.block w.heap.size (by have := blkR X3.out; rw [World.size_alloc]; omega)).trans ((heap_old w3 _ _ (blkR X3.out)).trans X3.out); have B5 : Hid (Below w.heap.size w w5) := (B3.out.alloc B3.out.size _).trans (b5.mono (by have := B3.out.size; rw [World.size_alloc]; omega)); have y5 := cells2 X5.out; have x05 := y5.1; have x15 := y5.2.1; clear y5 b5)
      | (go_at_call 91; refine (HS.out _ _).mono ?_; rintro e w4 ⟨rfl, b4⟩; have X4 : Hid (w4.heap[w.heap.size]? = some (.cells #[.int .i64 q, .string t] 34 (0, 0))) := (b4.block w.heap.size (blkR X5.out)).trans X5.out; have B4 : Hid (Below w.heap.size w w4) := B5.out.trans (b4.mono B5.out.size); have y4 := cells2 X4.out; have x04 := y4.1; have x14 := y4.2.1; clear y4 b4))
    all_goals
      go_wp2
      go_ret
      exact ⟨ret_str (by rw [HE.out, HL.out]; rfl), B4.out⟩
end Go.Proofs.Ytfhfhpnoeghgmaa

/-
  Contracts: slices.Clone of texts and of writes: rows of their own.
-/
namespace Go.Proofs.Ytfhfhpnoeghgmaa
open Go.RowKit
set_option maxRecDepth 100000

set_option maxHeartbeats 2000000 in
theorem cloneStr_own (b : Nat) (v : Value) (l : List ByteArray) (w : World) (hl : l.length ≤ 1048576) (h : OwnS b v l w) :
    Calls Try.prog 106 #[v] w fun e w' => ∃ v', e = .returned v' ∧ OwnS w.heap.size v' l w' ∧ Below w.heap.size w w' := by
  obtain ⟨i0, hi, hz0, hz1, hz2⟩ := info_parts Try.infoStr'
  have qn : ∀ (w : World) (a : Option Addr) (n c n' c' : Nat), (binOp .eql 23 (.slice a n c) (.slice none n' c')).run Try.prog w = .ok (.bool a.isNone) w := fun w a n c n' c' => Lib.run_eql_slice_nil w _ _ a n c n' c' Try.underlying23
  rcases h.2 with ⟨rfl, h0⟩ | ⟨g, cap, cur, rfl, _⟩
  · obtain rfl : l = [] := List.eq_nil_of_length_eq_zero h0
    go_enter Try.func106, Try.ntmps106
    go_wp2
    go_ret
    exact ⟨_, rfl, ownS_nil _ _, Below.refl _ _⟩
  · have BA := (Below.refl w.heap.size w).alloc (Nat.le_refl _) (.cells #[] 9)
    have hown : (w.alloc (.cells #[] 9)).ownsRow w.heap.size 9 1 (.slice (some ⟨w.heap.size, 0, none⟩) 0 0) 0 [] := own_empty (heap_alloc_new _ _) (Nat.le_refl _)
    have HS := hide (owns_below h BA)
    have HB := hide BA
    have HB63 : Hid (0 + l.length ≤ maxLen ∧ (0 + l.length) * 16 ≤ 140737488355328) := by show _ ∧ _; unfold maxLen; omega
    clear h BA
    go_enter Try.func106, Try.ntmps106
    go_wp2_with (at_builtin; refine wpList_app_own rfl _ _ 23 rfl w.heap.size b 9 i0 (.string ⟨#[]⟩) 1 16 Try.underlying23 hi hz0 hz1 hz2 rfl (by decide) _ 0 [] rfl hown _ _ _ rfl HS.out (strsV_one _) HB63.out.1 HB63.out.2 (by simp) ?_; intro v5 w5 o5 g5 l5)
    have O5 : Hid (OwnS w.heap.size v5 l w5) := by show OwnS _ _ _ _; simpa [OwnS] using o5
    have B5 := hide (HB.out.grown g5 (by simp) (fun j hj => Nat.le_of_eq (Option.some.inj (show some w.heap.size = some j from hj))))
    clear o5 g5 l5 hown
    obtain ⟨ao, cp, rfl⟩ := ownS_shape O5.out
    go_wp2
    go_ret
    exact ⟨_, rfl, O5.out, B5.out⟩
set_option maxHeartbeats 2000000 in
theorem cloneWrs_own (b : Nat) (v : Value) (l : List Wr) (w : World) (hl : l.length ≤ 1048576) (h : OwnW b v l w) :
    Calls Try.prog 107 #[v] w fun e w' => ∃ v', e = .returned v' ∧ OwnW w.heap.size v' l w' ∧ Below w.heap.size w w' := by
  obtain ⟨i0, hi, hz0, hz1, hz2⟩ := info_parts Try.infoWr
  have qn : ∀ (w : World) (a : Option Addr) (n c n' c' : Nat), (binOp .eql 24 (.slice a n c) (.slice none n' c')).run Try.prog w = .ok (.bool a.isNone) w := fun w a n c n' c' => Lib.run_eql_slice_nil w _ _ a n c n' c' Try.underlying24
  rcases h.2 with ⟨rfl, h0⟩ | ⟨g, cap, cur, rfl, _⟩
  · obtain rfl : l = [] := List.eq_nil_of_length_eq_zero h0
    go_enter Try.func107, Try.ntmps107
    go_wp2
    go_ret
    exact ⟨_, rfl, ownW_nil _ _, Below.refl _ _⟩
  · have BA := (Below.refl w.heap.size w).alloc (Nat.le_refl _) (.cells #[] 122)
    have hown : (w.alloc (.cells #[] 122)).ownsRow w.heap.size 122 2 (.slice (some ⟨w.heap.size, 0, none⟩) 0 0) 0 [] := own_empty (heap_alloc_new _ _) (Nat.le_refl _)
    have HS := hide (owns_below h BA)
    have HB := hide BA
    have HB63 : Hid (0 + l.length ≤ maxLen ∧ (0 + l.length) * 24 ≤ 140737488355328) := by show _ ∧ _; unfold maxLen; omega
    clear h BA
    go_enter Try.func107, Try.ntmps107
    go_wp2_with (at_builtin; refine wpList_app_own rfl _ _ 24 rfl w.heap.size b 122 i0 (.agg #[.int .i64 0, .string ⟨#[]⟩]) 2 24 Try.underlying24 hi hz0 hz1 hz2 rfl (by decide) _ 0 [] rfl hown _ _ _ rfl HS.out (flatW_one _) HB63.out.1 HB63.out.2 (by simp) ?_; intro v5 w5 o5 g5 l5)
    have O5 : Hid (OwnW w.heap.size v5 l w5) := by show OwnW _ _ _ _; simpa [OwnW] using o5
    have B5 := hide (HB.out.grown g5 (by simp) (fun j hj => Nat.le_of_eq (Option.some.inj (show some w.heap.size = some j from hj))))
    clear o5 g5 l5 hown
    obtain ⟨ao, cp, rfl⟩ := ownW_shape O5.out
    go_wp2
    go_ret
    exact ⟨_, rfl, O5.out, B5.out⟩
set_option maxHeartbeats 4000000 in
theorem copyDisk_own (b : Nat) (s c : Value) (d : Dk) (w : World) (hf : dkFits d) (h : OwnD b s c d w) :
    Calls Try.prog 67 #[.agg #[s, c]] w fun e w' => ∃ s' c', e = .returned (.agg #[s', c']) ∧ OwnD w.heap.size s' c' d w' ∧ Below w.heap.size w w' := by
  have HSC := hide (fun W (hb : Below w.heap.size w W) => cloneStr_own b s d.secs W hf.1 (owns_below h.secs hb))
  have HWC := hide (fun W (hb : Below w.heap.size w W) => cloneWrs_own b c d.cache W hf.2 (owns_below h.cache hb))
  obtain ⟨so, p, co, q, rfl, rfl⟩ := h.shape
  obtain ⟨ss, cs⟩ := d
  simp only at *
  have C0 := hide (CI.start w (.slice so ss.length p) (.slice co cs.length q))
  clear h hf
  obtain ⟨x0, x1, xf⟩ := cells2 C0.out.par
  obtain ⟨y0, y1, yf⟩ := cells2 C0.out.res
  go_enter Try.func67, Try.ntmps67
  go_wp2
  have C1 := hide C0.out.drew
  clear C0 x0 x1 xf y0 y1 yf
  generalize (w.alloc (.cells #[.slice so ss.length p, .slice co cs.length q] 26)).alloc (.cells #[.slice none 0 0, .slice none 0 0] 26) = W0 at *
  refine wp_region_noPanic ?_
  refine wp_region_held_drew (S := fun W => W.heap[w.heap.size]? = some (.cells #[.slice so ss.length p, .slice co cs.length q] 26 (0, 0))) (by kernel_rfl) C1.out.par (fun hS1 => ?_)
  generalize W0.drew = W1 at *
  refine takeD 0 3 (v := ?v1) rfl rfl (by kernel_rfl) (by kernel_rfl) (by kernel_rfl) (fun _ _ _ h => h) (by kernel_rfl) ?hy1 (by assumption) ?r1
  case hy1 => (intro W hSw; obtain ⟨x0, x1, xf⟩ := cells2 (hSw); go_simp; try with_reducible rfl)
  simp only [Act.put, List.setIfInBounds_toArray, List.set_cons_zero, List.set_cons_succ]
  refine takeD 1 4 (v := ?v2) rfl rfl (by kernel_rfl) (by kernel_rfl) (by kernel_rfl) (fun _ _ _ h => h) (by kernel_rfl) ?hy2 (by assumption) ?r2
  case hy2 => (intro W hSw; obtain ⟨x0, x1, xf⟩ := cells2 (hSw); go_simp; try with_reducible rfl)
  simp only [Act.put, List.setIfInBounds_toArray, List.set_cons_zero, List.set_cons_succ]
  refine takeD 3 6 (v := ?v3) rfl rfl (by kernel_rfl) (by kernel_rfl) (by kernel_rfl) (fun _ _ _ h => h) (by kernel_rfl) ?hy3 (by assumption) ?r3
  case hy3 => (intro W hSw; obtain ⟨x0, x1, xf⟩ := cells2 (hSw); go_simp; try with_reducible rfl)
  simp only [Act.put, List.setIfInBounds_toArray, List.set_cons_zero, List.set_cons_succ]
  refine takeD 4 7 (v := ?v4) rfl rfl (by kernel_rfl) (by kernel_rfl) (by kernel_rfl) (fun _ _ _ h => h) (by kernel_rfl) ?hy4 (by assumption) ?r4
  case hy4 => (intro W hSw; obtain ⟨x0, x1, xf⟩ := cells2 (hSw); go_simp; try with_reducible rfl)
  simp only [Act.put, List.setIfInBounds_toArray, List.set_cons_zero, List.set_cons_succ]
  refine wpAnyH_ready (rs := [2]) (by kernel_rfl) (by simp) ?_
  refine AllReadyH.cons (o := _) rfl (fun K hK => ?_) AllReadyH.nil
  go_simp
  go_at_call 106
  refine (HSC.out _ C1.out.below).mono ?_
  rintro e W2 ⟨v2, rfl, o2, b2⟩
  have C2 := hide (C1.out.cloneS o2 b2)
  obtain ⟨so', p', hs'⟩ := ownS_shape o2
  subst hs'
  clear o2 b2
  go_wp2_with fail
  refine hK.out _ _ C2.out.par (fun hS2 => ?_)
  clear hK K
  refine wpAnyH_ready (rs := [5]) (by kernel_rfl) (by simp) ?_
  refine AllReadyH.cons (o := _) rfl (fun K hK => ?_) AllReadyH.nil
  go_simp
  go_at_call 107
  refine (HWC.out _ C2.out.below).mono ?_
  rintro e W3 ⟨v3, rfl, o3, b3⟩
  have C3 := hide (C2.out.cloneW o3 b3)
  obtain ⟨co', q', hc'⟩ := ownW_shape o3
  subst hc'
  clear o3 b3
  go_wp2_with fail
  refine hK.out _ _ C3.out.par (fun hS3 => ?_)
  clear hK K
  refine takeD 6 9 (v := ?v5) rfl rfl (by kernel_rfl) (by kernel_rfl) (by kernel_rfl) (fun _ _ _ h => h) (by kernel_rfl) ?hy5 (by assumption) ?r5
  case hy5 => (intro W hSw; go_simp; try with_reducible rfl)
  simp only [Act.put, List.setIfInBounds_toArray, List.set_cons_zero, List.set_cons_succ]
  refine wpAnyH_ready (rs := [7]) (by kernel_rfl) (by simp) ?_
  refine AllReadyH.cons (o := _) rfl (fun K hK => ?_) AllReadyH.nil
  obtain ⟨y0, y1, yf⟩ := cells2 C3.out.res
  go_simp
  refine hK.out _ _ C3.out.par2 (fun hS => ?_)
  clear hK K
  refine wpAnyH_done (by kernel_rfl) ?_ _
  refine NoPanic.normal ?_
  go_wp2
  exact bodyPost_ret (v := .agg #[.slice so' ss.length p', .slice co' cs.length q']) (resDisk Try.results67 _ _ (w.heap.size + 1) _ _ rfl (set2 C3.out.res)) rfl ⟨_, _, rfl, C3.out.out2.1, C3.out.out2.2⟩
end Go.Proofs.Ytfhfhpnoeghgmaa

/-
  Contract: is a disk right? The program's answer.
-/
namespace Go.Proofs.Ytfhfhpnoeghgmaa
open Go.RowKit
set_option maxRecDepth 100000

theorem writeRight_any (n : Int) (t : ByteArray) (m : Int) (w : World) :
    Calls Try.prog 99 #[.agg #[.int .i64 n, .string t], .int .i64 m] w fun e w' => e = .returned (.bool (decide (0 ≤ n) && decide (n < m) && decide (t.size = 64))) ∧ Below w.heap.size w w' := by
  have B0 := hide ((Below.refl w.heap.size w).alloc (Nat.le_refl _) (.cells #[.int .i64 n, .string t] 122))
  by_cases h0 : 0 ≤ n
  · by_cases h1 : n < m
    · by_cases h2 : t.size = 64
      · have h2' : (t.size : Int) = 64 := by omega
        go_enter Try.func99, Try.ntmps99
        go_wp2
        go_ret
        exact ⟨ret_bool (by simp [h0, h1, h2]), B0.out⟩
      · have h2' : ¬ (t.size : Int) = 64 := by omega
        go_enter Try.func99, Try.ntmps99
        go_wp2
        go_ret
        exact ⟨ret_bool (by simp [h0, h1, h2, h2']), B0.out⟩
    · go_enter Try.func99, Try.ntmps99
      go_wp2
      go_ret
      exact ⟨ret_bool (by simp; intros; omega), B0.out⟩
  · go_enter Try.func99, Try.ntmps99
    go_wp2
    go_ret
    exact ⟨ret_bool (by simp; intros; omega), B0.out⟩
set_option maxHeartbeats 4000000 in
theorem implDiskRight_any (A B : Nat) (so : Option Addr) (p : Nat) (co : Option Addr) (q : Nat) (d : Dk) (w : World) (hB : B ≤ w.heap.size) (hr : DkRow w A B so co d) :
    Calls Try.prog 55 #[.agg #[.slice so d.secs.length p, .slice co d.cache.length q]] w fun e w' => e = .returned (.bool (dkRight d)) ∧ Below w.heap.size w w' := by
  have HL := hide (fun h => dkRight_long (d := d) h)
  have HSN := hide (fun k (x : ByteArray) (hk : k < d.secs.length) (hv : d.secs.getD k ByteArray.empty = x) (hx : ¬ x.size = 64) => dkRight_sec hk (by rw [secOk_of hv]; simpa using hx))
  have HSY := hide (fun k (x : ByteArray) (h : upto (secOk d) k = true) (hv : d.secs.getD k ByteArray.empty = x) (hx : x.size = 64) => upto_next h (by rw [secOk_of hv]; simpa using hx))
  have HWN := hide (fun k (n : Int) (t : ByteArray) (hk : k < d.cache.length) (hv : d.cache.getD k noWr = ⟨n, t⟩) (hx : n < 0 ∨ (d.secs.length : Int) ≤ n ∨ ¬ t.size = 64) => dkRight_wr hk (by rw [wrOk_of hv]; rcases hx with h | h | h <;> simp <;> omega))
  have HWY := hide (fun k (n : Int) (t : ByteArray) (h : upto (wrOk d) k = true) (hv : d.cache.getD k noWr = ⟨n, t⟩) (h0 : 0 ≤ n) (h1 : n < (d.secs.length : Int)) (hx : t.size = 64) => upto_next h (by rw [wrOk_of hv]; simp [h0, h1, hx]))
  have HYES := hide (fun h1 h2 h3 h4 => dkRight_yes (d := d) h1 h2 h3 h4)
  have HU1 : Hid (upto (secOk d) 0 = true) := rfl
  have HU2 : Hid (upto (wrOk d) 0 = true) := rfl
  generalize dkRight d = R at *
  generalize secOk d = SO at *
  generalize wrOk d = WO at *
  obtain ⟨ss, cs⟩ := d
  obtain ⟨⟨hl1, hl2⟩, hs, hc⟩ := hr
  simp only at *
  have HS := hide hs
  have HC := hide hc
  clear hs hc
  unfold maxLen at hl1 hl2
  have B0 := hide ((Below.refl w.heap.size w).alloc (Nat.le_refl _) (.cells #[.slice so ss.length p, .slice co cs.length q] 26))
  have X0 := hide (heap_alloc_new w (.cells #[.slice so ss.length p, .slice co cs.length q] 26))
  by_cases hlong : 700 < ss.length ∨ 400 < cs.length
  · have HF := hide (HL.out hlong)
    clear HSN HSY HWN HWY HYES HL HU1 HU2 X0
    rcases hlong with h | h
    · go_enter Try.func55, Try.ntmps55
      go_wp2
      go_ret
      exact ⟨ret_bool HF.out.symm, B0.out⟩
    · by_cases h1 : 700 < ss.length
      · go_enter Try.func55, Try.ntmps55
        go_wp2
        go_ret
        exact ⟨ret_bool HF.out.symm, B0.out⟩
      · go_enter Try.func55, Try.ntmps55
        go_wp2
        go_ret
        exact ⟨ret_bool HF.out.symm, B0.out⟩
  · have h1 : ¬ 700 < ss.length := by omega
    have h2 : ¬ 400 < cs.length := by omega
    clear hlong HL
    go_enter Try.func55, Try.ntmps55
    go_wp2
    have Z0 : Hid ((w.alloc (.cells #[.slice so ss.length p, .slice co cs.length q] 26)).heap.size = w.heap.size + 1) := by show _ = _; simp
    generalize w.alloc (.cells #[.slice so ss.length p, .slice co cs.length q] 26) = W0 at *
    obtain ⟨x0, x1, xf⟩ := cells2 X0.out
    go_loop [20] (fun i => ∃ k : Nat, k ≤ ss.length ∧ i = .int .i64 k ∧ Hid (upto SO k = true)) (fun i => ss.length - (intOf i).toNat)
    case atStart => exact ⟨0, Nat.zero_le _, rfl, HU1⟩
    case round =>
      obtain ⟨k, hk, rfl, HU⟩ := hrel
      by_cases hlt : k < ss.length
      · obtain ⟨b, off, x, rfl, hbB, hv, hx, d0⟩ := (HS.out.kept (B0.out.mono hB)).at k hlt
        unfold maxLen at hx
        by_cases h64 : x.size = 64
        · have HU2' := hide (HSY.out k x HU.out hv h64)
          have h64' : (x.size : Int) = 64 := by omega
          clear hv HSN HSY HWN HWY HYES HU HU1 HU2 h64
          go_wp2
          go_round
          case rel => exact ⟨k + 1, by omega, by go_num, HU2'⟩
          case measure => simp [intOf]; omega
        · have HF := hide (HSN.out k x hlt hv h64)
          have h64' : ¬ (x.size : Int) = 64 := by omega
          clear hv HSN HSY HWN HWY HYES HU HU1 HU2 h64
          go_wp2
          go_ret
          exact ⟨ret_bool HF.out.symm, B0.out⟩
      · obtain rfl : k = ss.length := by omega
        have HUS := HU
        clear HU HSN HSY HU1 HS
        go_wp2
        go_loopw [31] (fun i wr => ∃ k : Nat, k ≤ cs.length ∧ i = .int .i64 k ∧ Hid (upto WO k = true) ∧ Below W0.heap.size W0 wr) (fun i _ => cs.length - (intOf i).toNat)
        case atStart => exact ⟨0, Nat.zero_le _, rfl, HU2, Below.refl _ _⟩
        case round =>
          obtain ⟨k, hk, rfl, HU, hb⟩ := hrel
          have X1 := hide ((hb.block w.heap.size (by rw [Z0.out]; omega)).trans X0.out)
          have B1 := hide (B0.out.trans (hb.mono B0.out.size))
          obtain ⟨x0, x1, xf⟩ := cells2 X1.out
          by_cases hlt : k < cs.length
          · obtain ⟨b, off, nn, tt, rfl, hbB, hv, htt, hki, d0, d1⟩ := (HC.out.kept (B1.out.mono hB)).at k hlt
            have hq1 : b < wr.heap.size := by have := B1.out.size; omega
            have hz1 : w.heap.size < wr.heap.size := by have := hb.size; have := Z0.out; omega
            unfold maxLen at htt
            unfold wI64 at hki
            have B2 := hide ((hb.alloc hb.size (.cells #[.int .i64 nn, .string tt] 122)))
            have B3 := hide (B0.out.trans (B2.out.mono B0.out.size))
            have hql : ((ss.length : Nat) : Int) ≤ maxLen := by unfold maxLen; omega
            have HC2 := hide (fun W => writeRight_any nn tt ss.length W)
            by_cases hbad : nn < 0 ∨ (ss.length : Int) ≤ nn ∨ ¬ tt.size = 64
            · have HF := hide (HWN.out k nn tt hlt hv hbad)
              have HCB : Hid ((decide (0 ≤ nn) && decide (nn < (ss.length : Int)) && decide (tt.size = 64)) = false) := by show _ = _; rcases hbad with h | h | h <;> simp <;> intros <;> omega
              rw [HCB.out] at HC2
              clear hv HWN HWY HYES HU HU2 B1 hb HUS hbad HCB
              go_wp2_with (go_at_call 99; refine (HC2.out _).mono ?_; rintro e w2 ⟨rfl, hb2⟩; have B4 := hide (B3.out.trans (hb2.mono B3.out.size)))
              go_ret
              exact ⟨ret_bool HF.out.symm, B4.out⟩
            · have HU3 := hide (HWY.out k nn tt HU.out hv (by omega) (by omega) (by omega))
              have HCB : Hid ((decide (0 ≤ nn) && decide (nn < (ss.length : Int)) && decide (tt.size = 64)) = true) := by show _ = _; simp; omega
              rw [HCB.out] at HC2
              clear hv HWN HWY HYES HU HU2 B1 hb HUS hbad HCB
              go_wp2_with (go_at_call 99; refine (HC2.out _).mono ?_; rintro e w2 ⟨rfl, hb2⟩; have B4 := hide (B2.out.trans (hb2.mono B2.out.size)))
              go_roundw
              case rel => exact ⟨k + 1, by omega, by go_num, HU3, B4.out⟩
              case measure => simp [intOf]; omega
          · obtain rfl : k = cs.length := by omega
            have HF := hide (HYES.out (by omega) (by omega) HUS.out HU.out)
            clear HWN HWY HYES HU HU2 hb HUS
            go_wp2
            go_ret
            exact ⟨ret_bool HF.out.symm, B1.out⟩
end Go.Proofs.Ytfhfhpnoeghgmaa

/-
  Contract: DiskWrite of the program.
-/
namespace Go.Proofs.Ytfhfhpnoeghgmaa
open Go.RowKit
set_option maxRecDepth 100000

theorem areThere_any (so : Option Addr) (p n1 : Nat) (co : Option Addr) (q n2 : Nat) (a m : Int) (h1 : n1 ≤ 700) (h2 : 0 ≤ m) (h3 : m ≤ 100000) (w : World) :
    Calls Try.prog 84 #[.agg #[.slice so n1 p, .slice co n2 q], .int .i64 a, .int .i64 m] w fun e w' => e = .returned (.bool (decide (0 ≤ a) && decide (a ≤ (n1 : Int) - m))) ∧ Below w.heap.size w w' := by
  have B0 := hide ((Below.refl w.heap.size w).alloc (Nat.le_refl _) (.cells #[.slice so n1 p, .slice co n2 q] 26))
  by_cases h0 : 0 ≤ a
  · go_enter Try.func84, Try.ntmps84
    go_wp2
    go_ret
    exact ⟨ret_bool (by simp [h0]), B0.out⟩
  · go_enter Try.func84, Try.ntmps84
    go_wp2
    go_ret
    exact ⟨ret_bool (by simp; intros; omega), B0.out⟩
set_option maxHeartbeats 8000000 in
theorem implDiskWrite_any (b : Nat) (s c : Value) (d : Dk) (a : Int) (t : ByteArray) (w : World) (hi : dkIn d) (hf : dkFits d) (ht : t.size ≤ 1048576) (h : OwnD b s c d w) :
    Calls Try.prog 31 #[.agg #[s, c], .int .i64 a, .string t] w fun e w' => ∃ s' c', e = .returned (.agg #[s', c', .string ⟨#[]⟩, .int .i64 (dkWrite d a t).2]) ∧ OwnD w.heap.size s' c' (dkWrite d a t).1 w' ∧ Below w.heap.size w w' := by
  obtain ⟨so, p, co, q, rfl, rfl, hr⟩ := h.row hi
  obtain ⟨n1, hn1⟩ : ∃ n, n = d.secs.length := ⟨_, rfl⟩
  obtain ⟨n2, hn2⟩ : ∃ n, n = d.cache.length := ⟨_, rfl⟩
  have HN := hide (And.intro hn1 hn2)
  have HP := hide (fun W => piecesOf_any t ht W)
  have HA := two_allocs w (.cells #[.slice so n1 p, .slice co n2 q] 26) (.cells #[.slice none 0 0, .slice none 0 0, .string ⟨#[]⟩, .int .i64 0] 37)
  have B0 := hide (((Below.refl w.heap.size w).alloc (Nat.le_refl _) (.cells #[.slice so n1 p, .slice co n2 q] 26)).alloc (by simp) (.cells #[.slice none 0 0, .slice none 0 0, .string ⟨#[]⟩, .int .i64 0] 37))
  have X0 := hide HA.1
  have Y0 := hide HA.2.1
  have Z0 := hide HA.2.2
  rw [← hn1, ← hn2] at h ⊢
  have HIM := hide (fun (W : World) (hb : Below w.heap.size w W) => implDiskRight_any _ _ so p co q d W hb.size (hr.kept hb))
  rw [← hn1, ← hn2] at HIM
  clear HA hn1 hn2
  by_cases hl : 20000 < t.size
  · have HY := hide (fun W => tooLong_yes t hl W)
    rw [dkWrite_2 hl]
    clear HIM hi hf ht h hr hl
    go_enter Try.func31, Try.ntmps31
    go_wp2_with (first | (go_at_call 82; refine (HP.out _).mono ?_; rintro e w1 ⟨rfl, hw⟩; rw [hw]; clear hw w1) | (go_at_call 83; refine (HY.out _).mono ?_; rintro e w1 ⟨rfl, hw⟩; rw [hw]; clear hw w1))
    refine bodyPost_ret (v := .agg #[.slice none 0 0, .slice none 0 0, .string ⟨#[]⟩, .int .i64 2]) (by simp [results, Try.results31, go_sem]) rfl ⟨_, _, rfl, ownD_emp _ _, ?_⟩
    exact ((Below.refl _ _).alloc (Nat.le_refl _) _).alloc (by simp) _
  · have HNO := hide (fun W => tooLong_no t (by omega) W)
    have hm : many t ≤ 313 := by unfold many; omega
    have HM0 := hide (Nat.zero_le (many t))
    obtain ⟨x0, x1, xf⟩ := cells2 X0.out
    cases hdr : dkRight d with
    | false =>
      rw [dkWrite_1 hl hdr]
      rw [hdr] at HIM
      clear hi hf ht h hr hl hm hdr
      generalize many t = m at *
      go_enter Try.func31, Try.ntmps31
      go_wp2_with (first | (go_at_call 82; refine (HP.out _).mono ?_; rintro e w1 ⟨rfl, hw⟩; rw [hw]; clear hw w1) | (go_at_call 83; refine (HNO.out _).mono ?_; rintro e w1 ⟨rfl, hw⟩; rw [hw]; clear hw w1) | (go_at_call 55; refine (HIM.out _ B0.out).mono ?_; rintro e w1 ⟨rfl, b1⟩; have Y1 := hide ((b1.block (w.heap.size + 1) (by simp)).trans Y0.out); have B1 := hide (B0.out.trans (b1.mono B0.out.size)); obtain ⟨y0, y1, y2, y3, yf⟩ := cells4 Y1.out; clear b1))
      refine bodyPost_ret (v := .agg #[.slice none 0 0, .slice none 0 0, .string ⟨#[]⟩, .int .i64 1]) (resOut Try.results31 _ _ (w.heap.size + 1) _ _ _ _ rfl (set4w Y1.out)) rfl ⟨_, _, rfl, ownD_emp _ _, ?_⟩
      exact (((B1.out.setCell (by simp) _).setCell (by simp) _).setCell (by simp) _).setCell (by simp) _
    | true =>
      have hbd := dkRight_bounds hdr
      rw [← HN.out.1, ← HN.out.2] at hbd
      obtain ⟨hb1, hb2⟩ := hbd
      rw [hdr] at HIM
      have HAT := hide (fun W => areThere_any so p n1 co q n2 a (many t : Int) hb1 (by omega) (by omega) W)
      by_cases h9 : a < 0 ∨ (n1 : Int) - (many t : Int) < a
      · rw [dkWrite_9 hl hdr (by rw [← HN.out.1]; exact h9)]
        have hab : (decide (0 ≤ a) && decide (a ≤ (n1 : Int) - (many t : Int))) = false := by rcases h9 with h | h <;> simp <;> intros <;> omega
        rw [hab] at HAT
        clear hi hf ht h hr hl hm hdr h9 hab
        generalize many t = m at *
        go_enter Try.func31, Try.ntmps31
        go_wp2_with (first | (go_at_call 82; refine (HP.out _).mono ?_; rintro e w1 ⟨rfl, hw⟩; rw [hw]; clear hw w1) | (go_at_call 83; refine (HNO.out _).mono ?_; rintro e w1 ⟨rfl, hw⟩; rw [hw]; clear hw w1) | (go_at_call 55; refine (HIM.out _ B0.out).mono ?_; rintro e w1 ⟨rfl, b1⟩; have Y1 := hide ((b1.block (w.heap.size + 1) (by simp)).trans Y0.out); have X1 := hide ((b1.block w.heap.size (by simp; omega)).trans X0.out); have B1 := hide (B0.out.trans (b1.mono B0.out.size)); clear b1 x0 x1 xf; obtain ⟨x0, x1, xf⟩ := cells2 X1.out) | (go_at_call 84; refine (HAT.out _).mono ?_; rintro e w2 ⟨rfl, b2⟩; have Y2 := hide ((b2.block (w.heap.size + 1) (Array.getElem?_eq_some_iff.1 Y1.out).1).trans Y1.out); have B2 := hide (B1.out.trans (b2.mono B1.out.size)); obtain ⟨y0, y1, y2, y3, yf⟩ := cells4 Y2.out; clear b2))
        refine bodyPost_ret (v := .agg #[.slice none 0 0, .slice none 0 0, .string ⟨#[]⟩, .int .i64 9]) (resOut Try.results31 _ _ (w.heap.size + 1) _ _ _ _ rfl (set4w Y2.out)) rfl ⟨_, _, rfl, ownD_emp _ _, ?_⟩
        exact (((B2.out.setCell (by simp) _).setCell (by simp) _).setCell (by simp) _).setCell (by simp) _
      · have hab : (decide (0 ≤ a) && decide (a ≤ (n1 : Int) - (many t : Int))) = true := by simp; omega
        rw [hab] at HAT
        by_cases hfull : 400 < n2 + many t
        · rw [dkWrite_11 hl hdr (by rw [← HN.out.1]; exact h9) (by rw [← HN.out.2]; exact hfull)]
          clear hi hf ht h hr hl hdr h9 hab
          generalize many t = m at *
          go_enter Try.func31, Try.ntmps31
          go_wp2_with (first | (go_at_call 82; refine (HP.out _).mono ?_; rintro e w1 ⟨rfl, hw⟩; rw [hw]; clear hw w1) | (go_at_call 83; refine (HNO.out _).mono ?_; rintro e w1 ⟨rfl, hw⟩; rw [hw]; clear hw w1) | (go_at_call 55; refine (HIM.out _ B0.out).mono ?_; rintro e w1 ⟨rfl, b1⟩; have Y1 := hide ((b1.block (w.heap.size + 1) (by simp)).trans Y0.out); have X1 := hide ((b1.block w.heap.size (by simp; omega)).trans X0.out); have B1 := hide (B0.out.trans (b1.mono B0.out.size)); clear b1 x0 x1 xf; obtain ⟨x0, x1, xf⟩ := cells2 X1.out) | (go_at_call 84; refine (HAT.out _).mono ?_; rintro e w2 ⟨rfl, b2⟩; have Y2 := hide ((b2.block (w.heap.size + 1) (Array.getElem?_eq_some_iff.1 Y1.out).1).trans Y1.out); have X2 := hide ((b2.block w.heap.size (Array.getElem?_eq_some_iff.1 X1.out).1).trans X1.out); have B2 := hide (B1.out.trans (b2.mono B1.out.size)); clear x0 x1 xf; obtain ⟨x0, x1, xf⟩ := cells2 X2.out; obtain ⟨y0, y1, y2, y3, yf⟩ := cells4 Y2.out; clear b2))
          refine bodyPost_ret (v := .agg #[.slice none 0 0, .slice none 0 0, .string ⟨#[]⟩, .int .i64 11]) (resOut Try.results31 _ _ (w.heap.size + 1) _ _ _ _ rfl (set4w Y2.out)) rfl ⟨_, _, rfl, ownD_emp _ _, ?_⟩
          exact (((B2.out.setCell (by simp) _).setCell (by simp) _).setCell (by simp) _).setCell (by simp) _
        · rw [dkWrite_0 hl hdr (by rw [← HN.out.1]; exact h9) (by rw [← HN.out.2]; exact hfull)]
          obtain ⟨j0, hj, hy0, hy1, hy2⟩ := info_parts Try.infoWr
          have HCP := hide (fun (W : World) (hb : Below w.heap.size w W) => copyDisk_own _ _ _ d W hf (h.below hb))
          have HWR := hide (fun (W : World) => writesOf_any a t (by omega) (by omega) (by omega) W)
          have HLEN := hide (fun k => wrsOf_len a t k)
          have HB63 : Hid (n2 + many t ≤ maxLen ∧ (n2 + many t) * 24 ≤ 140737488355328) := by show _ ∧ _; unfold maxLen; omega
          clear hi hf ht h hr hl hdr h9 hab
          generalize many t = m at *
          go_enter Try.func31, Try.ntmps31
          go_wp2_with (first | (go_at_call 82; refine (HP.out _).mono ?_; rintro e w1 ⟨rfl, hw⟩; rw [hw]; clear hw w1) | (go_at_call 83; refine (HNO.out _).mono ?_; rintro e w1 ⟨rfl, hw⟩; rw [hw]; clear hw w1) | (go_at_call 55; refine (HIM.out _ B0.out).mono ?_; rintro e w1 ⟨rfl, b1⟩; have Y1 := hide ((b1.block (w.heap.size + 1) (by simp)).trans Y0.out); have X1 := hide ((b1.block w.heap.size (by simp; omega)).trans X0.out); have B1 := hide (B0.out.trans (b1.mono B0.out.size)); clear b1 x0 x1 xf; obtain ⟨x0, x1, xf⟩ := cells2 X1.out) | (go_at_call 84; refine (HAT.out _).mono ?_; rintro e w2 ⟨rfl, b2⟩; have Y2 := hide ((b2.block (w.heap.size + 1) (Array.getElem?_eq_some_iff.1 Y1.out).1).trans Y1.out); have X2 := hide ((b2.block w.heap.size (Array.getElem?_eq_some_iff.1 X1.out).1).trans X1.out); have B2 := hide (B1.out.trans (b2.mono B1.out.size)); clear x0 x1 xf; obtain ⟨x0, x1, xf⟩ := cells2 X2.out; clear b2) | (go_at_call 67; refine (HCP.out _ B2.out).mono ?_; rintro e w3 ⟨s3, c3, rfl, o3, b3⟩; obtain ⟨so3, p3, co3, q3, rfl, rfl⟩ := o3.shape; rw [← HN.out.1, ← HN.out.2] at o3 ⊢; have G3 := hide (GI.start B2.out (Array.getElem?_eq_some_iff.1 Y2.out).1 Y2.out o3 b3 HN.out.2); clear o3 b3 x0 x1 xf))
          have G4 := hide G3.out.drew
          clear G3
          generalize w3.alloc (.cells #[.slice so3 n1 p3, .slice co3 n2 q3] 26) = W3 at *
          refine wp_region_noPanic ?_
          refine wp_region_held_drew (S := fun _ => True) (by kernel_rfl) trivial (fun hS1 => ?_)
          generalize W3.drew = W4 at *
          clear hS1
          refine takeD 0 37 (v := ?v1) rfl rfl (by kernel_rfl) (by kernel_rfl) (by kernel_rfl) (fun _ _ _ h => h) (by kernel_rfl) ?hy1 trivial ?r1
          case hy1 => (intro W hSw; go_simp; try with_reducible rfl)
          simp only [Act.put, List.setIfInBounds_toArray, List.set_cons_zero, List.set_cons_succ]
          refine takeD 2 39 (v := ?v2) rfl rfl (by kernel_rfl) (by kernel_rfl) (by kernel_rfl) (fun _ _ _ h => h) (by kernel_rfl) ?hy2 trivial ?r2
          case hy2 => (intro W hSw; go_simp; try with_reducible rfl)
          simp only [Act.put, List.setIfInBounds_toArray, List.set_cons_zero, List.set_cons_succ]
          refine takeD 3 40 (v := ?v3) rfl rfl (by kernel_rfl) (by kernel_rfl) (by kernel_rfl) (fun _ _ _ h => h) (by kernel_rfl) ?hy3 trivial ?r3
          case hy3 => (intro W hSw; go_simp; try with_reducible rfl)
          simp only [Act.put, List.setIfInBounds_toArray, List.set_cons_zero, List.set_cons_succ]
          refine wpAnyH_ready (rs := [1, 4]) (by kernel_rfl) (by simp) ?_
          refine AllReadyH.cons (o := _) rfl (fun K hK => ?_) (AllReadyH.cons (o := _) rfl (fun K hK => ?_) AllReadyH.nil)
          · skip
            obtain ⟨g0, g1', gf⟩ := cells2 G4.out.var
            go_simp
            refine hK.out _ _ trivial (fun _ => ?_)
            clear hK K g0 g1' gf
            try simp only [Act.put, List.setIfInBounds_toArray, List.set_cons_zero, List.set_cons_succ]
            refine wpAnyH_ready (rs := [4]) (by kernel_rfl) (by simp) ?_
            refine AllReadyH.cons (o := _) rfl (fun K hK => ?_) AllReadyH.nil
            go_simp
            go_at_call 85
            refine (HWR.out _).mono ?_
            rintro e W5 ⟨v5, rfl, o5, b5⟩
            have O5 := hide o5
            have G5 := hide (G4.out.keep b5)
            obtain ⟨ao5, cp5, hv5⟩ := ownW_shape o5
            rw [HLEN.out] at hv5
            subst hv5
            clear o5 b5
            go_wp2_with fail
            refine hK.out _ _ trivial (fun _ => ?_)
            clear hK K
            try simp only [Act.put, List.setIfInBounds_toArray, List.set_cons_zero, List.set_cons_succ]
            refine wpAnyH_ready (rs := [5]) (by kernel_rfl) (by simp) ?_
            refine AllReadyH.cons (o := _) rfl (fun K hK => ?_) AllReadyH.nil
            have o5 := O5.out
            unfold OwnW at o5
            rw [HLEN.out] at o5
            refine step_app_own rfl (.tmp 38) (.tmp 41) 24 rfl (w.heap.size + 2) _ 122 j0 (.agg #[.int .i64 0, .string ⟨#[]⟩]) 2 24 Try.underlying24 hj hy0 hy1 hy2 rfl (by decide) _ n2 _ rfl G5.out.cacheN _ m _ rfl o5 (flatW_one _) HB63.out.1 HB63.out.2 G5.out.lt ?_
            intro v6 W6 o6 g6 l6
            have G6 := hide (G5.out.app o6 g6 l6 HN.out.2 (HLEN.out m))
            have V6 := hide (own_shape' o6)
            clear o6 g6 l6 o5
            refine hK.out _ _ trivial (fun _ => ?_)
            clear hK K
            simp only [List.getElem_toArray, List.getElem_cons_succ, List.getElem_cons_zero, Act.put, List.setIfInBounds_toArray, List.set_cons_zero, List.set_cons_succ]
            refine takeD 6 43 (v := ?v4) rfl rfl (by kernel_rfl) (by kernel_rfl) (by kernel_rfl) (fun _ _ _ h => h) (by kernel_rfl) ?hy4 trivial ?r4
            case hy4 => (intro W hSw; go_simp; try with_reducible rfl)
            simp only [Act.put, List.setIfInBounds_toArray, List.set_cons_zero, List.set_cons_succ]
            refine wpAnyH_ready (rs := [7]) (by kernel_rfl) (by simp) ?_
            refine AllReadyH.cons (o := _) rfl (fun K hK => ?_) AllReadyH.nil
            obtain ⟨ao6, cp6, hv6⟩ := V6.out
            subst hv6
            obtain ⟨g0, g1', gf⟩ := cells2 G6.out.var
            go_simp
            have G7 := hide (G6.out.set)
            refine hK.out _ _ trivial (fun _ => ?_)
            clear hK K g0 g1' gf G6 G5
            refine wpAnyH_done (by kernel_rfl) ?_ _
            refine NoPanic.normal ?_
            obtain ⟨g0, g1', gf⟩ := cells2 G7.out.1
            obtain ⟨y0, y1, y2, y3, yf⟩ := cells4 G7.out.2.1
            have O7 := hide G7.out.2.2.1
            have B7 := hide G7.out.2.2.2
            go_wp2
            refine bodyPost_ret (v := .agg #[.slice so3 n1 p3, .slice ao6 (n2 + m) cp6, .string ⟨#[]⟩, .int .i64 0]) (resOut Try.results31 _ _ (w.heap.size + 1) _ _ _ _ rfl (set4w G7.out.2.1)) rfl ⟨_, _, rfl, ?_, ?_⟩
            · exact ((((O7.out.set (by omega)).set (by omega)).set (by omega)).set (by omega)).base (by omega)
            · exact (((B7.out.setCell (by simp) _).setCell (by simp) _).setCell (by simp) _).setCell (by simp) _
          · skip
            go_simp
            go_at_call 85
            refine (HWR.out _).mono ?_
            rintro e W5 ⟨v5, rfl, o5, b5⟩
            have O5 := hide o5
            have G5 := hide (G4.out.keep b5)
            obtain ⟨ao5, cp5, hv5⟩ := ownW_shape o5
            rw [HLEN.out] at hv5
            subst hv5
            clear o5 b5
            go_wp2_with fail
            refine hK.out _ _ trivial (fun _ => ?_)
            clear hK K
            try simp only [Act.put, List.setIfInBounds_toArray, List.set_cons_zero, List.set_cons_succ]
            refine wpAnyH_ready (rs := [1]) (by kernel_rfl) (by simp) ?_
            refine AllReadyH.cons (o := _) rfl (fun K hK => ?_) AllReadyH.nil
            obtain ⟨g0, g1', gf⟩ := cells2 G5.out.var
            go_simp
            refine hK.out _ _ trivial (fun _ => ?_)
            clear hK K g0 g1' gf
            try simp only [Act.put, List.setIfInBounds_toArray, List.set_cons_zero, List.set_cons_succ]
            refine wpAnyH_ready (rs := [5]) (by kernel_rfl) (by simp) ?_
            refine AllReadyH.cons (o := _) rfl (fun K hK => ?_) AllReadyH.nil
            have o5 := O5.out
            unfold OwnW at o5
            rw [HLEN.out] at o5
            refine step_app_own rfl (.tmp 38) (.tmp 41) 24 rfl (w.heap.size + 2) _ 122 j0 (.agg #[.int .i64 0, .string ⟨#[]⟩]) 2 24 Try.underlying24 hj hy0 hy1 hy2 rfl (by decide) _ n2 _ rfl G5.out.cacheN _ m _ rfl o5 (flatW_one _) HB63.out.1 HB63.out.2 G5.out.lt ?_
            intro v6 W6 o6 g6 l6
            have G6 := hide (G5.out.app o6 g6 l6 HN.out.2 (HLEN.out m))
            have V6 := hide (own_shape' o6)
            clear o6 g6 l6 o5
            refine hK.out _ _ trivial (fun _ => ?_)
            clear hK K
            simp only [List.getElem_toArray, List.getElem_cons_succ, List.getElem_cons_zero, Act.put, List.setIfInBounds_toArray, List.set_cons_zero, List.set_cons_succ]
            refine takeD 6 43 (v := ?v5) rfl rfl (by kernel_rfl) (by kernel_rfl) (by kernel_rfl) (fun _ _ _ h => h) (by kernel_rfl) ?hy5 trivial ?r5
            case hy5 => (intro W hSw; go_simp; try with_reducible rfl)
            simp only [Act.put, List.setIfInBounds_toArray, List.set_cons_zero, List.set_cons_succ]
            refine wpAnyH_ready (rs := [7]) (by kernel_rfl) (by simp) ?_
            refine AllReadyH.cons (o := _) rfl (fun K hK => ?_) AllReadyH.nil
            obtain ⟨ao6, cp6, hv6⟩ := V6.out
            subst hv6
            obtain ⟨g0, g1', gf⟩ := cells2 G6.out.var
            go_simp
            have G7 := hide (G6.out.set)
            refine hK.out _ _ trivial (fun _ => ?_)
            clear hK K g0 g1' gf G6 G5
            refine wpAnyH_done (by kernel_rfl) ?_ _
            refine NoPanic.normal ?_
            obtain ⟨g0, g1', gf⟩ := cells2 G7.out.1
            obtain ⟨y0, y1, y2, y3, yf⟩ := cells4 G7.out.2.1
            have O7 := hide G7.out.2.2.1
            have B7 := hide G7.out.2.2.2
            go_wp2
            refine bodyPost_ret (v := .agg #[.slice so3 n1 p3, .slice ao6 (n2 + m) cp6, .string ⟨#[]⟩, .int .i64 0]) (resOut Try.results31 _ _ (w.heap.size + 1) _ _ _ _ rfl (set4w G7.out.2.1)) rfl ⟨_, _, rfl, ?_, ?_⟩
            · exact ((((O7.out.set (by omega)).set (by omega)).set (by omega)).set (by omega)).base (by omega)
            · exact (((B7.out.setCell (by simp) _).setCell (by simp) _).setCell (by simp) _).setCell (by simp) _
end Go.Proofs.Ytfhfhpnoeghgmaa

/-
  Contract: DiskWrite of the specification.
-/
namespace Go.Proofs.Ytfhfhpnoeghgmaa
open Go.RowKit
set_option maxRecDepth 100000

theorem own_succ' {w : World} {base n size : Nat} {t : TypeId} {v : Value} {xs : List Value} (h : w.ownsRow base t size v (n + 1) xs) : ∃ g cap, v = .slice (some ⟨g, 0, none⟩) (n + 1) cap := by
  rcases h.2 with ⟨_, h0⟩ | ⟨g, cap, cur, h1, _⟩
  · omega
  · exact ⟨g, cap, h1⟩
theorem made_secV {w1 : World} {base g : Nat} (h : w1.ownsRow base 5 1 (.slice (some ⟨g, 0, none⟩) 64 64) 64 ((numsU zSec).map (Value.int .u8))) : w1.heap[g]? = some (.cells (secV zSec) 5 (0, 0)) := by
  rcases h.2 with ⟨h, _⟩ | ⟨g', cap', cur, hv, _, hg, _, _, hs, ht⟩
  · simp at h
  · simp at hv
    obtain ⟨rfl, rfl⟩ := hv
    rw [hg]
    congr 2
    rw [List.take_of_length_le (by simp [hs])] at ht
    unfold secV
    rw [byteCells_nums, ← ht]
theorem conv_sec {W : World} {g : Nat} {l : List UInt8} {t : TypeId} (hg : W.heap[g]? = some (.cells (secV l) t (0, 0))) (hl : l.length = 64) :
    (convert 22 9 (.slice (some ⟨g, 0, none⟩) 64 64)).run Try.prog W = .ok (.string (mkS l)) W := by
  rw [← strOfNums_bytes]
  refine run_convert_bytes_arg _ 22 5 Try.underlying22 Try.underlying5 g 0 64 64 (l.map fun b => (b.toNat : Int)) (by simpa using hl) (fun i hi => ?_) 9 Try.underlying9
  rw [Nat.zero_add, cell_of_row _ _ _ _ _ _ hg]
  unfold secV Lib.byteCells
  rw [List.getElem?_toArray, List.getElem?_map, List.getElem?_eq_getElem (by omega)]
  simp [List.getElem?_eq_getElem (show i < l.length by omega)]
set_option maxHeartbeats 8000000 in
theorem l07Write_any (b : Nat) (s c : Value) (d : Dk) (a : Int) (t : ByteArray) (w : World) (hf : dkFits d) (hdr : dkRight d = true) (ha : wI64 a) (hl : ¬ 20000 < t.size) (h : OwnD b s c d w) :
    Calls Try.prog 79 #[.agg #[s, c], .int .i64 a, .string t] w fun e w' => ∃ s' c', e = .returned (.agg #[s', c', .string ⟨#[]⟩, .int .i64 (dkWrite d a t).2]) ∧ OwnD w.heap.size s' c' (dkWrite d a t).1 w' ∧ Below w.heap.size w w' := by
  obtain ⟨so, p, co, q, rfl, rfl⟩ := h.shape
  obtain ⟨n1, hn1⟩ : ∃ n, n = d.secs.length := ⟨_, rfl⟩
  obtain ⟨n2, hn2⟩ : ∃ n, n = d.cache.length := ⟨_, rfl⟩
  have HN := hide (And.intro hn1 hn2)
  have HA := two_allocs w (.cells #[.slice so n1 p, .slice co n2 q] 26) (.cells #[.slice none 0 0, .slice none 0 0, .string ⟨#[]⟩, .int .i64 0] 37)
  have B0 := hide (((Below.refl w.heap.size w).alloc (Nat.le_refl _) (.cells #[.slice so n1 p, .slice co n2 q] 26)).alloc (by simp) (.cells #[.slice none 0 0, .slice none 0 0, .string ⟨#[]⟩, .int .i64 0] 37))
  have X0 := hide HA.1
  have Y0 := hide HA.2.1
  have Z0 := hide HA.2.2
  rw [← hn1, ← hn2] at h ⊢
  clear HA hn1 hn2
  have hm : many t ≤ 313 := by unfold many; omega
  have HE1 : Hid (((t.size : Int) + 64 - 1) / 64 = (many t : Int)) := by show _ = _; unfold many; omega
  have hbd := dkRight_bounds hdr
  rw [← HN.out.1, ← HN.out.2] at hbd
  obtain ⟨hb1, hb2⟩ := hbd
  unfold wI64 at ha
  by_cases h9 : a < 0 ∨ (n1 : Int) - (many t : Int) < a
  · rw [dkWrite_9 hl hdr (by rw [← HN.out.1]; exact h9)]
    obtain ⟨x0, x1, xf⟩ := cells2 X0.out
    clear hf hdr h
    generalize many t = m at *
    by_cases h0 : a < 0
    · go_enter Try.func79, Try.ntmps79
      go_upto_region 2 with fail
      rw [HE1.out]
      go_wp2
      refine bodyPost_ret (v := .agg #[.slice none 0 0, .slice none 0 0, .string ⟨#[]⟩, .int .i64 9]) (by simp [results, Try.results79, go_sem]) rfl ⟨_, _, rfl, ownD_emp _ _, ?_⟩
      exact ((Below.refl _ _).alloc (Nat.le_refl _) _).alloc (by simp) _
    · have h9' : (n1 : Int) - (m : Int) < a := by omega
      clear h9
      go_enter Try.func79, Try.ntmps79
      go_upto_region 2 with fail
      rw [HE1.out]
      go_wp2
      refine bodyPost_ret (v := .agg #[.slice none 0 0, .slice none 0 0, .string ⟨#[]⟩, .int .i64 9]) (by simp [results, Try.results79, go_sem]) rfl ⟨_, _, rfl, ownD_emp _ _, ?_⟩
      exact ((Below.refl _ _).alloc (Nat.le_refl _) _).alloc (by simp) _
  · have h9a : ¬ a < 0 := by omega
    have h9b : ¬ (n1 : Int) - (many t : Int) < a := by omega
    by_cases hfull : 400 < n2 + many t
    · rw [dkWrite_11 hl hdr (by rw [← HN.out.1]; exact h9) (by rw [← HN.out.2]; exact hfull)]
      obtain ⟨x0, x1, xf⟩ := cells2 X0.out
      clear hf hdr h h9
      generalize many t = m at *
      have hfull' : 400 < (n2 : Int) + (m : Int) := by omega
      go_enter Try.func79, Try.ntmps79
      go_upto_region 2 with fail
      rw [HE1.out]
      go_wp2
      refine bodyPost_ret (v := .agg #[.slice none 0 0, .slice none 0 0, .string ⟨#[]⟩, .int .i64 11]) (by simp [results, Try.results79, go_sem]) rfl ⟨_, _, rfl, ownD_emp _ _, ?_⟩
      exact ((Below.refl _ _).alloc (Nat.le_refl _) _).alloc (by simp) _
    · rw [dkWrite_0 hl hdr (by rw [← HN.out.1]; exact h9) (by rw [← HN.out.2]; exact hfull)]
      obtain ⟨j0, hj, hy0, hy1, hy2⟩ := info_parts Try.infoWr
      obtain ⟨i0, hi, hz0, hz1, hz2⟩ := info_parts Try.infoU8
      have HCZ : Hid ((madeCells (Value.int .u8 0).cells (64 * 1)).toList = (numsU zSec).map (Value.int .u8)) := by show _ = _; kernel_rfl
      have HU : Hid ((Try.prog.info? 5).map (·.size) = some 1) := by show _ = _; kernel_rfl
      have HCP := hide (fun (W : World) (hb : Below w.heap.size w W) => l07Copy_own _ _ _ d W hf (h.below hb))
      have HSUCC := hide (fun k => wrsOf_succ a t k)
      have HLEN := hide (fun k => wrsOf_len a t k)
      have HM2 : Hid (∀ k, k < many t → k * 64 < t.size) := fun k hk => by unfold many at hk; omega
      have HPC : Hid (∀ k, mkS (pad (t.extract (k * 64) t.size).data.toList) = piece t k) := fun k => by rw [drop_extract]; rfl
      obtain ⟨x0, x1, xf⟩ := cells2 X0.out
      have hfull' : ¬ 400 < (n2 : Int) + (many t : Int) := by omega
      clear hf hdr h h9
      generalize many t = m at *
      go_enter Try.func79, Try.ntmps79
      go_upto_region 2 with fail
      rw [HE1.out]
      go_wp2_with (go_at_call 62; refine (HCP.out _ B0.out).mono ?_; rintro e w3 ⟨s3, c3, rfl, o3, b3⟩; obtain ⟨so3, p3, co3, q3, rfl, rfl⟩ := o3.shape; rw [← HN.out.1, ← HN.out.2] at o3 ⊢; have G3 := hide (GI.start B0.out (by simp) Y0.out o3 b3 HN.out.2); clear o3 b3 x0 x1 xf)
      have G3' : Hid (GI w w3.heap.size (.slice so3 n1 p3) (.slice co3 n2 q3) (.slice co3 n2 q3) (n2 + 0) ⟨d.secs, d.cache ++ wrsOf a t 0⟩ (w3.alloc (.cells #[.slice so3 n1 p3, .slice co3 n2 q3] 26))) := by
        show GI _ _ _ _ _ _ _ _
        rw [wrsOf_zero, List.append_nil]
        exact G3.out
      clear G3 HCP B0 X0 Y0 Z0
      generalize w3.alloc (.cells #[.slice so3 n1 p3, .slice co3 n2 q3] 26) = W3 at *
      generalize w3.heap.size = g at *
      go_loopw [9] (fun i wr => ∃ (k : Nat) (v : Value), k ≤ m ∧ i = .int .i64 k ∧ Hid (GI w g (.slice so3 n1 p3) v v (n2 + k) ⟨d.secs, d.cache ++ wrsOf a t k⟩ wr)) (fun i _ => m - (intOf i).toNat)
      case atStart => exact ⟨0, _, Nat.zero_le _, rfl, G3'⟩
      case round =>
        obtain ⟨k, v, hk, rfl, G⟩ := hrel
        clear G3'
        obtain ⟨ao, cap, hv⟩ := own_shape' G.out.cacheN
        subst hv
        by_cases hlt : k < m
        · have h64 := HM2.out k hlt
          have hk64 : ((k : Int) * 64).toNat = k * 64 := by omega
          have hc1 := HPC.out k
          go_wp2_with (first | (at_make; refine wpList_make_full _ rfl _ _ 22 rfl 0 5 i0 (.int .u8 0) 1 Try.underlying22 hi hz0 hz1 .i64 .i64 _ _ 64 rfl rfl rfl rfl (by rw [hz2]; omega) (by unfold maxLen; omega) (Nat.zero_le _) ?_; intro w4 hown hgrow; rw [HCZ.out] at hown; have X4 := hide (made_secV hown); have B4 := hide ((Below.refl wr.heap.size wr).grown hgrow (Nat.le_refl _) (fun j hj => by simp at hj)); clear hown hgrow; obtain ⟨nn, w5, hcp, X5, B5⟩ : ∃ (nn : Nat) (w5 : World), (∀ ty, (Builtin.copy_ #[22, 9] ty #[.slice (some ⟨wr.heap.size, 0, none⟩) 64 64, .string (t.extract (k * 64) t.size)]).run Try.prog w4 = .ok (goInt nn) w5) ∧ Hid (w5.heap[wr.heap.size]? = some (.cells (secV (pad (t.extract (k * 64) t.size).data.toList)) 5 (0, 0))) ∧ Hid (Below wr.heap.size wr w5) := (run_copy_pad (P := Try.prog) w4 22 9 5 wr.heap.size (t.extract (k * 64) t.size) _ Try.underlying22 HU.out X4.out).elim fun nn h => ⟨nn, _, h, setRow_heap _ _ _ _ _ _ X4.out, below_setRow B4.out (Nat.le_refl _) _⟩; have hcv := conv_sec X5.out (pad_len _); rw [hc1] at hcv; have G5 := hide (G.out.keep B5.out); obtain ⟨g0, g1, gf⟩ := cells2 G5.out.var; have G6 := hide (G5.out.keep ((Below.refl w5.heap.size w5).alloc (Nat.le_refl _) (.cells #[.int .i64 (a + (k : Int)), .string (piece t k)] 122))); have S6 := hide (own_wr_one w5 (a + (k : Int)) (piece t k)); have Z6 := hide G6.out.lt; clear X4 B4 X5 B5) | (at_builtin; refine wpList_app_own rfl _ _ 24 rfl (w.heap.size + 2) w5.heap.size 122 j0 (.agg #[.int .i64 0, .string ⟨#[]⟩]) 2 24 Try.underlying24 hj hy0 hy1 hy2 rfl (by decide) _ (n2 + k) _ rfl G6.out.cacheN _ 1 _ rfl S6.out (wr_one _ _) (by unfold maxLen; omega) (by omega) Z6.out ?_; intro v7 w7 o7 g7 l7; have G7 := hide (G6.out.app (k := [⟨a + (k : Int), piece t k⟩]) (m := 1) o7 g7 l7 G6.out.num rfl); obtain ⟨g5', c5', hv7⟩ := own_succ' o7; subst hv7; clear g0 g1 gf; obtain ⟨g0, g1, gf⟩ := cells2 G7.out.var; clear o7 g7 l7))
          have G8 := hide G7.out.put
          simp only [List.append_assoc] at G8
          rw [← HSUCC.out] at G8
          clear G5 G6 S6 Z6 G7 g0 g1 gf hcp hcv hc1
          go_roundw
          case rel => exact ⟨k + 1, _, by omega, by go_num, G8⟩
          case measure => simp [intOf]; omega
        · obtain rfl : k = m := by omega
          obtain ⟨g0, g1, gf⟩ := cells2 G.out.var
          obtain ⟨y0, y1, y2, y3, yf⟩ := cells4 G.out.res
          go_wp2
          refine bodyPost_ret (v := .agg #[.slice so3 n1 p3, .slice ao (n2 + k) cap, .string ⟨#[]⟩, .int .i64 0]) (resOut Try.results79 _ _ (w.heap.size + 1) _ _ _ _ rfl (set4w G.out.res)) rfl ⟨_, _, rfl, ?_, ?_⟩
          · exact ((((G.out.own.set (by omega)).set (by omega)).set (by omega)).set (by omega)).base (by omega)
          · exact (((G.out.below.setCell (by simp) _).setCell (by simp) _).setCell (by simp) _).setCell (by simp) _
end Go.Proofs.Ytfhfhpnoeghgmaa
