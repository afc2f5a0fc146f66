/-
  Contracts: a text cut into the writes of its pieces.
-/
import Derived.Test.YthglidcfbdigiaaDkSec
import Derived.Test.YthglidcfbdigiaaDkCp
namespace Go.Proofs.Ythglidcfbdigiaa
open Go.RowKit
set_option maxRecDepth 100000

def many (t : ByteArray) : Nat := (t.size + 63) / 64
def piece (t : ByteArray) (k : Nat) : ByteArray := mkS (pad (t.data.toList.drop (k * 64)))
def wrsOf (at' : Int) (t : ByteArray) (n : Nat) : List Wr := (List.range n).map fun i : Nat => ⟨at' + (i : Int), piece t i⟩
theorem wrsOf_zero (a : Int) (t : ByteArray) : wrsOf a t 0 = [] := rfl
theorem wrsOf_succ (a : Int) (t : ByteArray) (k : Nat) : wrsOf a t (k + 1) = wrsOf a t k ++ [⟨a + (k : Int), piece t k⟩] := by simp [wrsOf, List.range_succ]
theorem wrsOf_len (a : Int) (t : ByteArray) (n : Nat) : (wrsOf a t n).length = n := by simp [wrsOf]
theorem piece_size (t : ByteArray) (k : Nat) : (piece t k).size = 64 := by unfold piece; rw [mkS_size, pad_len]
theorem drop_extract (s : ByteArray) (k : Nat) : (s.extract k s.size).data.toList = s.data.toList.drop k := by
  have e : s.extract k s.size = (ByteArray.mk s.data.toList.toArray).extract k s.size := rfl
  rw [e, ByteArray.extract_mk]
  show List.take (s.size - k) (s.data.toList.drop k) = _
  exact List.take_of_length_le (by rw [List.length_drop]; exact Nat.le_refl _)
theorem own_wr_one (w : World) (x : Int) (t : ByteArray) : (w.alloc (.cells #[.int .i64 x, .string t] 78)).ownsRow w.heap.size 78 2 (.slice (some ⟨w.heap.size, 0, none⟩) 1 1) 1 [.int .i64 x, .string t] :=
  ⟨rfl, .inr ⟨w.heap.size, 1, _, rfl, Nat.le_refl _, heap_alloc_new _ _, Nat.le_refl _, by decide, rfl, rfl⟩⟩
theorem wr_one (x : Int) (t : ByteArray) : ∀ u ∈ [Value.int .i64 x, Value.string t], u.oneCell' = true := fun u hu => by
  simp at hu
  rcases hu with rfl | rfl <;> rfl
theorem ownW_snoc {base : Nat} {v : Value} {l : List Wr} {w : World} {n : Nat} {x : Int} {t : ByteArray} (h : w.ownsRow base 78 2 v (n + 1) (flatW l ++ [.int .i64 x, .string t])) (hn : l.length = n) : OwnW base v (l ++ [⟨x, t⟩]) w := by
  unfold OwnW
  rw [flatW_snoc, List.length_append]
  simpa [hn] using h
set_option maxHeartbeats 1000000 in
theorem piecesOf_any (t : ByteArray) (ht : t.size ≤ 1048576) (w : World) :
    Calls Try.prog 39 #[.string t] w fun e w' => e = .returned (.int .i64 (many t : Int)) ∧ w' = w := by
  have e1 : ((t.size : Int) + 64 - 1) / 64 = (many t : Int) := by unfold many; omega
  go_enter Try.func39, Try.ntmps39
  go_wp2
  go_ret
  exact ⟨ret_int (by omega), rfl⟩
def pcs (t : ByteArray) (n : Nat) : List ByteArray := (List.range n).map fun i : Nat => piece t i
theorem pcs_succ (t : ByteArray) (k : Nat) : pcs t (k + 1) = pcs t k ++ [piece t k] := by simp [pcs, List.range_succ]
theorem pcs_len (t : ByteArray) (n : Nat) : (pcs t n).length = n := by simp [pcs]
theorem pcs_get (t : ByteArray) (n k : Nat) (h : k < n) : (pcs t n).getD k ByteArray.empty = piece t k := by simp [pcs, List.getD_eq_getElem?_getD, h]
theorem ownS_nil' (base : Nat) (w : World) : OwnS base (.slice none 0 0) [] w := ownS_nil _ _
theorem cut_str_one (w : World) (t : ByteArray) : (w.alloc (.cells #[.string t] 9)).ownsRow w.heap.size 9 1 (.slice (some ⟨w.heap.size, 0, none⟩) 1 1) 1 [.string t] :=
  ⟨rfl, .inr ⟨w.heap.size, 1, _, rfl, Nat.le_refl _, heap_alloc_new _ _, Nat.le_refl _, by decide, rfl, rfl⟩⟩
theorem cut_one (t : ByteArray) : ∀ u ∈ [Value.string t], u.oneCell' = true := fun u hu => by
  simp at hu
  rcases hu with rfl
  rfl
theorem cut_snoc {base : Nat} {v : Value} {l : List ByteArray} {w : World} {n : Nat} {t : ByteArray} (h : w.ownsRow base 9 1 v (n + 1) (strsV l ++ [.string t])) (hn : l.length = n) : OwnS base v (l ++ [t]) w := by
  unfold OwnS
  rw [List.length_append]
  simpa [strsV, hn] using h
set_option maxHeartbeats 4000000 in
theorem cutText_any (t : ByteArray) (ht : t.size ≤ 20000) (w : World) :
    Calls Try.prog 69 #[.string t] w fun e w' => ∃ v, e = .returned v ∧ OwnS w.heap.size v (pcs t (many t)) w' ∧ Below w.heap.size w w' := by
  obtain ⟨j0, hj, hy0, hy1, hy2⟩ := info_parts Try.infoStr'
  have hm : many t ≤ 313 := by unfold many; omega
  have hm2 : ∀ k, k < many t → k * 64 < t.size := fun k hk => by unfold many at hk; omega
  have HM2 := hide hm2
  have HP := hide (fun W => piecesOf_any t (by omega) W)
  have HSUCC := hide (fun k => pcs_succ t k)
  have HLEN := hide (fun k => pcs_len t k)
  have HPC : Hid (∀ k, mkS (pad (t.extract (k * 64) t.size).data.toList) = piece t k) := fun k => by rw [drop_extract]; rfl
  generalize many t = m at *
  clear hm2
  go_enter Try.func69, Try.ntmps69
  go_wp2_with (go_at_call 39; refine (HP.out _).mono ?_; rintro e w1 ⟨rfl, hw⟩; rw [hw]; clear hw w1)
  go_loopw [3, 7] (fun l i wr => ∃ (k : Nat) (v : Value), k ≤ m ∧ i = .int .i64 k ∧ l = v ∧ Hid (OwnS w.heap.size v (pcs t k) wr) ∧ Below w.heap.size w wr) (fun _ i _ => m - (intOf i).toNat)
  case atStart => exact ⟨0, _, Nat.zero_le _, rfl, rfl, ownS_nil w.heap.size w, Below.refl _ _⟩
  case round =>
    obtain ⟨k, v, hk, rfl, rfl, HO, hb⟩ := hrel
    obtain ⟨ao, cap, hv⟩ := ownS_shape HO.out
    rw [HLEN.out] at hv
    subst hv
    by_cases hlt : k < m
    · have h64 := HM2.out k hlt
      have hk64 : ((k : Int) * 64).toNat = k * 64 := by omega
      have hmul : IntKind.i64.wrap ((k : Int) * 64) = (k : Int) * 64 := by rw [IntKind.wrap_i64]; omega
      have hb0 := hide hb
      have HSO := hide (fun W => sectorOf_any (t.extract (k * 64) t.size) W)
      have HST := hide (fun W => sectorText_any (pad (t.extract (k * 64) t.size).data.toList) (pad_len _) W)
      rw [HPC.out] at HST
      generalize pad (t.extract (k * 64) t.size).data.toList = Z at *
      clear hb
      go_wp2_with (first | (go_at_call 70; refine (HSO.out _).mono ?_; rintro e w1 ⟨rfl, b1⟩; have B1 := hide (hb0.out.trans (b1.mono hb0.out.size)); have O1 := hide (owns_below HO.out b1); clear b1) | (go_at_call 50; refine (HST.out _).mono ?_; rintro e w2 ⟨rfl, b2⟩; have B2 := hide (B1.out.trans (b2.mono B1.out.size)); have O2 := hide (owns_below O1.out b2); have O3 := hide (World.ownsRow.alloc O2.out (.cells #[.string (piece t k)] 9)); have B3 := hide (B2.out.alloc B2.out.size (.cells #[.string (piece t k)] 9)); have S3 := hide (cut_str_one w2 (piece t k)); rw [HLEN.out] at O3; clear b2) | (at_builtin; refine wpList_app_own rfl _ _ 23 rfl w.heap.size w2.heap.size 9 j0 (.string ⟨#[]⟩) 1 16 Try.underlying23 hj hy0 hy1 hy2 rfl (by decide) _ k _ rfl O3.out _ 1 _ rfl S3.out (cut_one _) (by unfold maxLen; omega) (by omega) B3.out.size ?_; intro v5 w5 o5 g5 l5; have O5 := hide (cut_snoc o5 (HLEN.out k)); have B5 := hide (B3.out.grown g5 B3.out.size (fun b hb => (World.ownsRow.lt O3.out b hb).1)); rw [← HSUCC.out] at O5; obtain ⟨ao5, cp5, hv5⟩ := ownS_shape O5.out; rw [HLEN.out] at hv5; subst hv5; clear o5 g5 l5))
      go_roundw
      case rel => exact ⟨k + 1, _, by omega, by go_num, rfl, O5, B5.out⟩
      case measure => simp [intOf]; omega
    · obtain rfl : k = m := by omega
      go_wp2
      go_ret
      exact ⟨_, rfl, HO.out, hb⟩
set_option maxHeartbeats 4000000 in
theorem writesOf_any (a : Int) (t : ByteArray) (h0 : 0 ≤ a) (h1 : a ≤ 700) (ht : t.size ≤ 20000) (w : World) :
    Calls Try.prog 43 #[.int .i64 a, .string t] w fun e w' => ∃ v, e = .returned v ∧ OwnW w.heap.size v (wrsOf a t (many t)) w' ∧ Below w.heap.size w w' := by
  obtain ⟨j0, hj, hy0, hy1, hy2⟩ := info_parts Try.infoWr
  have hm : many t ≤ 313 := by unfold many; omega
  have HCT := hide (fun W => cutText_any t ht W)
  have HSUCC := hide (fun k => wrsOf_succ a t k)
  have HLEN := hide (fun k => wrsOf_len a t k)
  have HPL := hide (pcs_len t (many t))
  have HPG := hide (fun k h => pcs_get t (many t) k h)
  generalize many t = m at *
  go_enter Try.func43, Try.ntmps43
  go_wp2_with (go_at_call 69; refine (HCT.out _).mono ?_; rintro e w1 ⟨v1, rfl, o1, b1⟩; obtain ⟨ao1, cap1, hv1, hc1⟩ := ownS_row o1; rw [HPL.out] at hv1 hc1; subst hv1; have HC1 := hide hc1; have B1 := hide b1; clear hc1 o1 b1)
  go_loopw [5, 11] (fun l i wr => ∃ (k : Nat) (v : Value), k ≤ m ∧ i = .int .i64 k ∧ l = v ∧ Hid (OwnW w1.heap.size v (wrsOf a t k) wr) ∧ Below w1.heap.size w1 wr) (fun _ i _ => m - (intOf i).toNat)
  case atStart => exact ⟨0, _, Nat.zero_le _, rfl, rfl, ownW_nil w1.heap.size w1, Below.refl _ _⟩
  case round =>
    obtain ⟨k, v, hk, rfl, rfl, HO, hbl⟩ := hrel
    obtain ⟨ao, cap, hv⟩ := ownW_shape HO.out
    rw [HLEN.out] at hv
    subst hv
    by_cases hlt : k < m
    · obtain ⟨bb, off, x, rfl, hbB, hv, d00⟩ := HC1.out k hlt
      rw [HPG.out k hlt] at hv
      subst hv
      have d0 := (hbl.cell (p := ⟨bb, off + k, none⟩) hbB).trans d00
      have ht' := (Int.toNat_natCast k)
      have hi0 : (0 : Int) ≤ (k : Int) := by omega
      have hi1 : (k : Int) < (m : Int) := by omega
      have hwr : IntKind.i64.wrap (a + (k : Int)) = a + (k : Int) := by rw [IntKind.wrap_i64]; omega
      have HBL := hide hbl
      have O3 := hide (World.ownsRow.alloc HO.out (.cells #[.int .i64 (a + (k : Int)), .string (piece t k)] 78))
      have L3 := hide (hbl.alloc hbl.size (.cells #[.int .i64 (a + (k : Int)), .string (piece t k)] 78))
      have S3 := hide (own_wr_one wr (a + (k : Int)) (piece t k))
      rw [HLEN.out] at O3
      clear d00 HC1 hbl
      go_wp2_with (at_builtin; refine wpList_app_own rfl _ _ 24 rfl w1.heap.size wr.heap.size 78 j0 (.agg #[.int .i64 0, .string ⟨#[]⟩]) 2 24 Try.underlying24 hj hy0 hy1 hy2 rfl (by decide) _ k _ rfl O3.out _ 1 _ rfl S3.out (wr_one _ _) (by unfold maxLen; omega) (by omega) L3.out.size ?_; intro v5 w5 o5 g5 l5; have O5 := hide (ownW_snoc o5 (HLEN.out k)); have L5 := hide (L3.out.grown g5 L3.out.size (fun b hb => (World.ownsRow.lt O3.out b hb).1)); rw [← HSUCC.out] at O5; obtain ⟨ao5, cp5, hv5⟩ := ownW_shape O5.out; rw [HLEN.out] at hv5; subst hv5; clear o5 g5 l5)
      go_roundw
      case rel => exact ⟨k + 1, _, by omega, by go_num, rfl, O5, L5.out⟩
      case measure => simp [intOf]; omega
    · obtain rfl : k = m := by omega
      go_wp2
      go_ret
      exact ⟨_, rfl, owns_base HO.out B1.out.size, B1.out.trans (hbl.mono B1.out.size)⟩
end Go.Proofs.Ythglidcfbdigiaa
