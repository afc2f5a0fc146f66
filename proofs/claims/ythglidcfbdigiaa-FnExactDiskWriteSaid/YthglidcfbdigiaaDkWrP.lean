/-
  What a write to a disk comes to. Plain facts.
-/
import Derived.Test.YthglidcfbdigiaaDkWr
import Derived.Test.YthglidcfbdigiaaDkCp
import Derived.Test.YthglidcfbdigiaaDkRight
namespace Go.Proofs.Ythglidcfbdigiaa
open Go.RowKit
set_option maxRecDepth 100000

def dkWrite (d : Dk) (a : Int) (t : ByteArray) : Dk × Int :=
  if 20000 < t.size then (⟨[], []⟩, 2) else if dkRight d = false then (⟨[], []⟩, 1) else if a < 0 ∨ (d.secs.length : Int) - (many t : Int) < a then (⟨[], []⟩, 9)
  else if 400 < d.cache.length + many t then (⟨[], []⟩, 11) else (⟨d.secs, d.cache ++ wrsOf a t (many t)⟩, 0)
theorem dkWrite_2 {d : Dk} {a : Int} {t : ByteArray} (h : 20000 < t.size) : dkWrite d a t = (⟨[], []⟩, 2) := if_pos h
theorem dkWrite_1 {d : Dk} {a : Int} {t : ByteArray} (h : ¬ 20000 < t.size) (hr : dkRight d = false) : dkWrite d a t = (⟨[], []⟩, 1) := by unfold dkWrite; rw [if_neg h, if_pos hr]
theorem dkWrite_9 {d : Dk} {a : Int} {t : ByteArray} (h : ¬ 20000 < t.size) (hr : dkRight d = true) (h9 : a < 0 ∨ (d.secs.length : Int) - (many t : Int) < a) : dkWrite d a t = (⟨[], []⟩, 9) := by unfold dkWrite; rw [if_neg h, if_neg (by rw [hr]; simp), if_pos h9]
theorem dkWrite_11 {d : Dk} {a : Int} {t : ByteArray} (h : ¬ 20000 < t.size) (hr : dkRight d = true) (h9 : ¬ (a < 0 ∨ (d.secs.length : Int) - (many t : Int) < a)) (hf : 400 < d.cache.length + many t) : dkWrite d a t = (⟨[], []⟩, 11) := by unfold dkWrite; rw [if_neg h, if_neg (by rw [hr]; simp), if_neg h9, if_pos hf]
theorem dkWrite_0 {d : Dk} {a : Int} {t : ByteArray} (h : ¬ 20000 < t.size) (hr : dkRight d = true) (h9 : ¬ (a < 0 ∨ (d.secs.length : Int) - (many t : Int) < a)) (hf : ¬ 400 < d.cache.length + many t) : dkWrite d a t = (⟨d.secs, d.cache ++ wrsOf a t (many t)⟩, 0) := by unfold dkWrite; rw [if_neg h, if_neg (by rw [hr]; simp), if_neg h9, if_neg hf]
theorem dkRight_bounds {d : Dk} (h : dkRight d = true) : d.secs.length ≤ 700 ∧ d.cache.length ≤ 400 := by
  unfold dkRight at h
  simp only [Bool.and_eq_true, decide_eq_true_eq] at h
  exact ⟨h.1.1.1, h.1.1.2⟩
theorem ownD_emp (base : Nat) (w : World) : OwnD base (.slice none 0 0) (.slice none 0 0) ⟨[], []⟩ w := ⟨ownS_nil _ _, ownW_nil _ _, .inl rfl⟩
theorem resOut {fn : Func} {p : Tmp} (h : fn.results = #[.cell p 30]) (tmps : Array Value) (w : World) (g : Nat) (a b c d : Value) (hp : tmps.getD p undef = .pointer (some ⟨g, 0, none⟩))
    (hg : w.heap[g]? = some (.cells #[a, b, c, d] 30 (0, 0))) : (results fn tmps).run Try.prog w = .ok (.agg #[a, b, c, d]) w :=
  results_cell_row h tmps w g 30 #[a, b, c, d] (0, 0) _ hp hg Try.underlying30 rfl (by kernel_rfl)
theorem set4w {W : World} {g : Nat} {a b c d x y z u : Value} {t : TypeId} (h : W.heap[g]? = some (.cells #[a, b, c, d] t (0, 0))) :
    ((((W.setCell ⟨g, 0, none⟩ x).setCell ⟨g, 1, none⟩ y).setCell ⟨g, 2, none⟩ z).setCell ⟨g, 3, none⟩ u).heap[g]? = some (.cells #[x, y, z, u] t (0, 0)) := by
  have h1 := heap_setCell_same W g 0 _ t x h
  have h2 := heap_setCell_same _ g 1 _ t y h1
  have h3 := heap_setCell_same _ g 2 _ t z h2
  have h4 := heap_setCell_same _ g 3 _ t u h3
  simpa using h4
end Go.Proofs.Ythglidcfbdigiaa
