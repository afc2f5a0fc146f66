/-
  Texts of bytes. Plain laws.
-/
import Derived.WalkKit
import Derived.Laws.BytesArg
namespace Go.Proofs.YtkhklfnhninkjaaGreat
open Go.RowKit

def mkS (l : List UInt8) : ByteArray := ⟨l.toArray⟩
def bCell (b : UInt8) : Value := .int .u8 (b.toNat : Int)
theorem mkS_list (l : List UInt8) : (mkS l).data.toList = l := by simp [mkS]
theorem mkS_size (l : List UInt8) : (mkS l).size = l.length := by simp [mkS, ByteArray.size]
theorem mkS_data (s : ByteArray) : mkS s.data.toList = s := by simp [mkS]
theorem strOfNums_bytes (l : List UInt8) : strOfNums (l.map fun b => (b.toNat : Int)) = mkS l := by
  simp [strOfNums, mkS, Function.comp_def]
end Go.Proofs.YtkhklfnhninkjaaGreat
