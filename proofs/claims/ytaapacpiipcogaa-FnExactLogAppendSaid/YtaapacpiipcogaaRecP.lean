/-
  Records and their bytes: plain.
-/
import Derived.Test.YtaapacpiipcogaaSealC
import Derived.Test.YtaapacpiipcogaaGetBack
namespace Go.Proofs.Ytaapacpiipcogaa
open Go.RowKit
set_option maxRecDepth 100000

def seqOk (q : Int) : Bool := decide (1 ≤ q) && decide (q ≤ 1000000000)
def recRight (q : Int) (t : ByteArray) : Bool := seqOk q && decide (t.size ≤ 6000)
def numS (q : Int) : ByteArray := strOfNums (putL 9 (foldN q))
/-- What is sealed. -/
def recL (q : Int) (t : ByteArray) : List UInt8 := 76 :: ((numS q).data.toList ++ (putT t).data.toList)
def recS (q : Int) (t : ByteArray) : ByteArray := sealS (mkS (recL q t))
/-- The bytes of a record: none, where it is not right. -/
def recBytes (q : Int) (t : ByteArray) : ByteArray := if recRight q t = true then recS q t else ⟨#[]⟩
theorem recBytes_no {q : Int} {t : ByteArray} (h : recRight q t = false) : recBytes q t = ⟨#[]⟩ := by unfold recBytes; rw [h]; rfl
theorem recBytes_yes {q : Int} {t : ByteArray} (h : recRight q t = true) : recBytes q t = recS q t := by unfold recBytes; rw [h]; rfl
theorem recRight_iff (q : Int) (t : ByteArray) : recRight q t = true ↔ (1 ≤ q ∧ q ≤ 1000000000) ∧ t.size ≤ 6000 := by simp [recRight, seqOk]
theorem numS_len (q : Int) : (numS q).size ≤ 10 := num_size q
theorem numS_data (q : Int) : (numS q).data.toList = numB q := numS_list q
theorem putT_yes {t : ByteArray} (h : t.size ≤ 20000) : putT t = mkS ((numS t.size).data.toList ++ t.data.toList) := if_pos h
theorem putT_len (t : ByteArray) (h : t.size ≤ 6000) : (putT t).size ≤ 6010 := by
  rw [putT_yes (by omega), mkS_size, List.length_append]
  have h1 : (numS (t.size : Int)).data.toList.length ≤ 10 := numS_len _
  have h2 : t.data.toList.length = t.size := rfl
  omega
theorem recL_len (q : Int) (t : ByteArray) (h : t.size ≤ 6000) : (recL q t).length ≤ 6021 := by
  unfold recL
  have h1 : (numS q).data.toList.length ≤ 10 := numS_len _
  have h2 : (putT t).data.toList.length ≤ 6010 := putT_len t h
  simp only [List.length_cons, List.length_append]
  omega
theorem recS_eq {q : Int} {t : ByteArray} (h : t.size ≤ 6000) : recS q t = mkS (recL q t ++ (fourS (crcOf (mkS (recL q t)))).data.toList) := by
  unfold recS sealS
  have h1 := recL_len q t h
  have h2 := mkS_size (recL q t)
  rw [if_pos (by omega)]
  rfl
theorem recS_len {q : Int} {t : ByteArray} (h : t.size ≤ 6000) : (recS q t).size = (recL q t).length + 4 := by
  rw [recS_eq h, mkS_size, List.length_append]
  have h1 : (fourS (crcOf (mkS (recL q t)))).data.toList.length = 4 := fourS_size _
  omega
theorem recBytes_len (q : Int) (t : ByteArray) : (recBytes q t).size ≤ 6025 := by
  cases h : recRight q t with
  | false => rw [recBytes_no h]; decide
  | true =>
    have h2 := ((recRight_iff q t).1 h).2
    have := recL_len q t h2
    rw [recBytes_yes h, recS_len h2]; omega
end Go.Proofs.Ytaapacpiipcogaa
