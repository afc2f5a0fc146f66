/-
  Plain facts: a seal is opened to its text; with one byte turned it is refused.
-/
import Derived.Test.YtbainombjfginaaUnseal
namespace Go.Proofs.Ytbainombjfginaa
open Go.RowKit

theorem xor_cancel {a b c : Nat} (h : a ^^^ c = b ^^^ c) : a = b := by
  have := congrArg (· ^^^ c) h
  simpa [Nat.xor_assoc] using this
theorem top_half {a : Nat} (h : a < 4294967296) : (a / 2).testBit 31 = false := Nat.testBit_lt_two_pow (by omega)
theorem top_poly : (3988292384 : Nat).testBit 31 = true := by decide
theorem crcBit_inj {a b : Nat} (ha : a < 4294967296) (hb : b < 4294967296) (h : crcBit a = crcBit b) : a = b := by
  unfold crcBit at h
  have ta := top_half ha
  have tb := top_half hb
  split at h <;> split at h
  · have := xor_cancel h; omega
  · have := congrArg (fun x => x.testBit 31) h
    simp [Nat.testBit_xor, ta, tb, top_poly] at this
  · have := congrArg (fun x => x.testBit 31) h
    simp [Nat.testBit_xor, ta, tb, top_poly] at this
  · omega
theorem crcBits_inj {a b : Nat} (ha : a < 4294967296) (hb : b < 4294967296) : ∀ k, crcBits k a = crcBits k b → a = b
  | 0, h => h
  | k + 1, h => crcBits_inj ha hb k (crcBit_inj (crcBits_lt ha k) (crcBits_lt hb k) h)
theorem crcByte_inj {a b : Nat} (ha : a < 4294967296) (hb : b < 4294967296) (h : crcByte a = crcByte b) : a = b := crcBits_inj ha hb 8 h
theorem crcL_inj {a b : Nat} (ha : a < 4294967296) (hb : b < 4294967296) (l : List UInt8) (h : crcL a l = crcL b l) : a = b := by
  induction l generalizing a b with
  | nil => exact h
  | cons x l ih =>
    have := ih (crcByte_lt (xor_byte_lt ha x)) (crcByte_lt (xor_byte_lt hb x)) h
    exact xor_cancel (crcByte_inj (xor_byte_lt ha x) (xor_byte_lt hb x) this)
theorem xor_left_cancel {a b c : Nat} (h : c ^^^ a = c ^^^ b) : a = b := by
  rw [Nat.xor_comm c a, Nat.xor_comm c b] at h; exact xor_cancel h
/-- One byte turned: another CRC. -/
theorem crc_flip (l1 l2 : List UInt8) (x y : UInt8) (h : x ≠ y) : crcMoreN 0 (l1 ++ x :: l2) ≠ crcMoreN 0 (l1 ++ y :: l2) := by
  intro e
  unfold crcMoreN at e
  have e1 := xor_cancel e
  have hr : (0 ^^^ 4294967295 : Nat) < 4294967296 := by decide
  have split : ∀ z : UInt8, crcL (0 ^^^ 4294967295) (l1 ++ z :: l2) = crcL (crcByte (crcL (0 ^^^ 4294967295) l1 ^^^ z.toNat)) l2 := fun z => by simp [crcL]
  rw [split x, split y] at e1
  have h1 := crcL_lt hr l1
  have e2 := crcL_inj (crcByte_lt (xor_byte_lt h1 x)) (crcByte_lt (xor_byte_lt h1 y)) l2 e1
  have e3 := crcByte_inj (xor_byte_lt h1 x) (xor_byte_lt h1 y) e2
  exact h (UInt8.toNat.inj (xor_left_cancel e3))
theorem four_list (c : Nat) : (fourS c).data.toList = [UInt8.ofNat (c % 256), UInt8.ofNat (c / 256 % 256), UInt8.ofNat (c / 65536 % 256), UInt8.ofNat (c / 16777216)] := by
  rw [fourS, strOfNums_data]
  simp only [fourL, List.map_cons, List.map_nil]
  rw [show ((c : Int) % 256).toNat = c % 256 by omega, show ((c : Int) / 256 % 256).toNat = c / 256 % 256 by omega, show ((c : Int) / 65536 % 256).toNat = c / 65536 % 256 by omega, show ((c : Int) / 16777216).toNat = c / 16777216 by omega]
theorem ofNat_inj {a b : Nat} (ha : a < 256) (hb : b < 256) (h : UInt8.ofNat a = UInt8.ofNat b) : a = b := by
  have := congrArg UInt8.toNat h
  rw [UInt8.toNat_ofNat', UInt8.toNat_ofNat'] at this
  omega
theorem four_inj {c d : Nat} (hc : c < 4294967296) (hd : d < 4294967296) (h : (fourS c).data.toList = (fourS d).data.toList) : c = d := by
  rw [four_list, four_list] at h
  simp only [List.cons.injEq, and_true] at h
  have h0 := ofNat_inj (by omega) (by omega) h.1
  have h1 := ofNat_inj (by omega) (by omega) h.2.1
  have h2 := ofNat_inj (by omega) (by omega) h.2.2.1
  have h3 := ofNat_inj (by omega) (by omega) h.2.2.2
  omega
theorem four_len (c : Nat) : (fourS c).data.toList.length = 4 := by rw [four_list]; rfl

/-- Unseal of bytes a ++ f, f of four. -/
theorem unseal_split (a f : List UInt8) (hf : f.length = 4) (ha : a.length ≤ 19996) :
    unsealV (mkS (a ++ f)) = if (fourS (crcMoreN 0 a)).data.toList = f then tOut (mkS a) 0 0 else tOut ByteArray.empty 0 5 := by
  have hs : (mkS (a ++ f)).size = a.length + 4 := by rw [mkS_size, List.length_append, hf]
  have hh : headS (mkS (a ++ f)) = mkS a := by
    unfold headS; rw [hs]; unfold mkS
    rw [ByteArray.extract_mk]
    simp
  have ht : tailS (mkS (a ++ f)) = mkS f := by
    unfold tailS; rw [hs]; unfold mkS
    rw [ByteArray.extract_mk]
    simp
    exact List.take_of_length_le (by omega)
  unfold unsealV
  rw [if_neg (by omega), if_neg (by omega), hh, ht]
  have hc : crcOf (mkS a) = crcMoreN 0 a := by rw [crcOf_in _ (by rw [mkS_size]; omega), mkS_list]
  rw [hc, ByteArray.toList_eq, ByteArray.toList_eq, mkS_list]
  by_cases e : (fourS (crcMoreN 0 a)).data.toList = f
  · rw [if_pos (by simpa using e), if_pos e]
  · rw [if_neg (by simpa using e), if_neg e]
theorem seal_list (t : ByteArray) (h : t.size ≤ 19996) : sealS t = mkS (t.data.toList ++ (fourS (crcMoreN 0 t.data.toList)).data.toList) := by
  unfold sealS; rw [if_pos h, crcOf_in t (by omega)]
theorem seal_size (t : ByteArray) (h : t.size ≤ 19996) : (sealS t).size = t.size + 4 := by
  rw [seal_list t h, mkS_size, List.length_append, four_len, len_data]
theorem seal_none (t : ByteArray) (h : ¬ t.size ≤ 19996) : sealS t = ByteArray.empty := if_neg h
theorem unseal_seal (t : ByteArray) (h : t.size ≤ 19996) : unsealV (sealS t) = tOut t 0 0 := by
  rw [seal_list t h, unseal_split _ _ (four_len _) (by rw [len_data]; exact h), if_pos rfl, mkS_data]
theorem flip_core (a f : List UInt8) (hF : (fourS (crcMoreN 0 a)).data.toList = f) (hta : a.length ≤ 19996) (i : Nat) (hi : i < a.length + 4) (y : UInt8) (hy : (a ++ f)[i]? ≠ some y) :
    unsealV (mkS ((a ++ f).set i y)) = tOut ByteArray.empty 0 5 := by
  have h32 := crcMoreN_lt (c := 0) (by omega) a
  have hfl : f.length = 4 := by rw [← hF]; exact four_len _
  by_cases hin : i < a.length
  · rw [List.set_append_left _ _ hin, unseal_split _ _ hfl (by simpa using hta), if_neg]
    intro e
    rw [← hF] at e
    have e2 := four_inj (crcMoreN_lt (by omega) _) h32 e
    have hset : a.set i y = a.take i ++ y :: a.drop (i + 1) := by rw [List.set_eq_take_append_cons_drop, if_pos hin]
    have hsame : a.take i ++ a[i] :: a.drop (i + 1) = a := by rw [← List.drop_eq_getElem_cons hin, List.take_append_drop]
    rw [hset] at e2
    have hne : y ≠ a[i] := by
      intro e3; apply hy
      rw [List.getElem?_append_left hin, List.getElem?_eq_getElem hin, e3]
    refine crc_flip (a.take i) (a.drop (i + 1)) y a[i] hne ?_
    rw [e2, hsame]
  · have hge : a.length ≤ i := by omega
    rw [List.set_append_right _ _ hge, unseal_split _ _ (by simpa using hfl) hta, if_neg]
    intro e
    rw [hF] at e
    apply hy
    rw [List.getElem?_append_right hge, e, List.getElem?_set]
    simp; omega
theorem unseal_flip (t : ByteArray) (h : t.size ≤ 19996) (i : Nat) (hi : i < t.size + 4) (y : UInt8) (hy : (sealS t).data.toList[i]? ≠ some y) :
    unsealV (mkS ((sealS t).data.toList.set i y)) = tOut ByteArray.empty 0 5 := by
  have hl : (sealS t).data.toList = t.data.toList ++ (fourS (crcMoreN 0 t.data.toList)).data.toList := by rw [seal_list t h, mkS_list]
  rw [hl] at hy ⊢
  exact flip_core _ _ rfl (by rw [len_data]; exact h) i (by rw [len_data]; exact hi) y hy
end Go.Proofs.Ytbainombjfginaa
