/-
  Is a disk right? Plain facts.
-/
import Derived.Test.YthglidcfbdigiaaDkSz
namespace Go.Proofs.Ythglidcfbdigiaa
open Go.RowKit
set_option maxRecDepth 100000

def secOk (d : Dk) (i : Nat) : Bool := decide ((d.secs.getD i ByteArray.empty).size = 64)
def wrOk (d : Dk) (i : Nat) : Bool := decide (0 ≤ (d.cache.getD i noWr).pos) && decide ((d.cache.getD i noWr).pos < (d.secs.length : Int)) && decide ((d.cache.getD i noWr).text.size = 64)
def dkRight (d : Dk) : Bool := decide (d.secs.length ≤ 700) && decide (d.cache.length ≤ 400) && upto (secOk d) d.secs.length && upto (wrOk d) d.cache.length
theorem dkRight_long {d : Dk} (h : 700 < d.secs.length ∨ 400 < d.cache.length) : dkRight d = false := by
  unfold dkRight
  rcases h with h | h
  · rw [show decide (d.secs.length ≤ 700) = false by simpa using h]; simp
  · rw [show decide (d.cache.length ≤ 400) = false by simpa using h]; simp
theorem dkRight_sec {d : Dk} {k : Nat} (hk : k < d.secs.length) (h : secOk d k = false) : dkRight d = false := by
  unfold dkRight; rw [upto_false hk h]; simp
theorem dkRight_wr {d : Dk} {k : Nat} (hk : k < d.cache.length) (h : wrOk d k = false) : dkRight d = false := by
  unfold dkRight; rw [upto_false hk h]; simp
theorem dkRight_yes {d : Dk} (h1 : d.secs.length ≤ 700) (h2 : d.cache.length ≤ 400) (h3 : upto (secOk d) d.secs.length = true) (h4 : upto (wrOk d) d.cache.length = true) : dkRight d = true := by
  unfold dkRight; rw [h3, h4]; simp [h1, h2]
theorem secOk_of {d : Dk} {i : Nat} {x : ByteArray} (hv : d.secs.getD i ByteArray.empty = x) : secOk d i = decide (x.size = 64) := by unfold secOk; rw [hv]
theorem wrOk_of {d : Dk} {i : Nat} {n : Int} {t : ByteArray} (hv : d.cache.getD i noWr = ⟨n, t⟩) : wrOk d i = (decide (0 ≤ n) && decide (n < (d.secs.length : Int)) && decide (t.size = 64)) := by unfold wrOk; rw [hv]
theorem upto_next {p : Nat → Bool} {k : Nat} (h : upto p k = true) (h' : p k = true) : upto p (k + 1) = true := by rw [upto_succ, h, h']; rfl

end Go.Proofs.Ythglidcfbdigiaa
