/-
  What is read of a disk. Plain facts.
-/
import Derived.Test.YtaapacpiipcogaaDkTxt
import Derived.Test.YtaapacpiipcogaaDkWrP
namespace Go.Proofs.Ytaapacpiipcogaa
open Go.RowKit
set_option maxRecDepth 100000

def rdFar (d : Dk) (a m : Int) : Prop := m < 0 ∨ 300 < m ∨ a < 0 ∨ (d.secs.length : Int) - m < a
instance (d : Dk) (a m : Int) : Decidable (rdFar d a m) := by unfold rdFar; infer_instance
/-- What a reading answers: no disk, a text, a code. -/
def dkRead (d : Dk) (a m : Int) : (Dk × Int) × ByteArray :=
  if dkRight d = false then ((⟨[], []⟩, 1), ⟨#[]⟩) else if rdFar d a m then ((⟨[], []⟩, 9), ⟨#[]⟩) else ((⟨[], []⟩, 0), mkS (secsT (flushL d.secs d.cache) a.toNat m.toNat))
theorem dkRead_1 {d : Dk} {a m : Int} (h : dkRight d = false) : dkRead d a m = ((⟨[], []⟩, 1), ⟨#[]⟩) := by unfold dkRead; rw [if_pos h]
theorem dkRead_9 {d : Dk} {a m : Int} (h : dkRight d = true) (h9 : rdFar d a m) : dkRead d a m = ((⟨[], []⟩, 9), ⟨#[]⟩) := by unfold dkRead; rw [if_neg (by rw [h]; simp), if_pos h9]
theorem dkRead_0 {d : Dk} {a m : Int} (h : dkRight d = true) (h9 : ¬ rdFar d a m) : dkRead d a m = ((⟨[], []⟩, 0), mkS (secsT (flushL d.secs d.cache) a.toNat m.toNat)) := by unfold dkRead; rw [if_neg (by rw [h]; simp), if_neg h9]
theorem dkRead_fits (d : Dk) (a m : Int) : dkFits (dkRead d a m).1.1 := by
  have h : dkFits ⟨[], []⟩ := ⟨by simp, by simp⟩
  unfold dkRead
  split
  · exact h
  · split <;> exact h
end Go.Proofs.Ytaapacpiipcogaa
