/-
  Rows of cells that a call has made, or that can be read. Plain laws.
-/
import Derived.WalkKit
import Derived.Laws.AppendOwn
import Derived.Below
namespace Go.Proofs.YtkhklfnhninkjaaGreat
open Go.RowKit

/-- Cells that can be read one behind the other, below block B. -/
def CellRow (w : World) (B : Nat) (ao : Option Addr) (xs : List Value) : Prop :=
  xs.length = 0 ∨ ∃ b off, ao = some ⟨b, off, none⟩ ∧ b < B ∧ ∀ i (h : i < xs.length), w.cell? ⟨b, off + i, none⟩ = some xs[i]
theorem CellRow.kept {w w' : World} {B : Nat} {ao : Option Addr} {xs : List Value} (h : CellRow w B ao xs) (hb : Below B w w') : CellRow w' B ao xs := by
  rcases h with h0 | ⟨b, off, e, hB, hc⟩
  · exact .inl h0
  · exact .inr ⟨b, off, e, hB, fun i hi => (hb.cell (p := ⟨b, off + i, none⟩) hB).trans (hc i hi)⟩
theorem CellRow.mono {w : World} {B C : Nat} {ao : Option Addr} {xs : List Value} (h : CellRow w B ao xs) (hc : B ≤ C) : CellRow w C ao xs := by
  rcases h with h0 | ⟨b, off, e, hB, hc'⟩
  · exact .inl h0
  · exact .inr ⟨b, off, e, by omega, hc'⟩
theorem CellRow.at {w : World} {B : Nat} {ao : Option Addr} {xs : List Value} (h : CellRow w B ao xs) (k : Nat) (hk : k < xs.length) : ∃ b off, ao = some ⟨b, off, none⟩ ∧ b < B ∧ w.cell? ⟨b, off + k, none⟩ = some xs[k] := by
  rcases h with h0 | ⟨b, off, e, hB, hc⟩
  · omega
  · exact ⟨b, off, e, hB, hc k hk⟩
theorem cellRow_of_owns {w : World} {base n : Nat} {t : TypeId} {v : Value} {xs : List Value} (h : w.ownsRow base t 1 v n xs) : ∃ ao cap, v = .slice ao xs.length cap ∧ CellRow w w.heap.size ao xs := by
  have hx : xs.length = n := by simpa using h.1
  rcases h.2 with ⟨rfl, rfl⟩ | ⟨g, cap, cur, rfl, hb, hg, hn, hm, hs, ht⟩
  · obtain rfl : xs = [] := List.eq_nil_of_length_eq_zero hx
    exact ⟨none, 0, rfl, .inl rfl⟩
  · refine ⟨some ⟨g, 0, none⟩, cap, by rw [hx], .inr ⟨g, 0, rfl, (Array.getElem?_eq_some_iff.1 hg).1, fun i hi => ?_⟩⟩
    have hc := World.ownsRow.cellAt h i (by omega)
    rw [Nat.zero_add, hc, List.getElem?_eq_getElem hi]

theorem owns_below {w w' : World} {base n size : Nat} {t : TypeId} {v : Value} {xs : List Value} (h : w.ownsRow base t size v n xs) (hb : Below w.heap.size w w') : w'.ownsRow base t size v n xs := by
  refine ⟨h.1, ?_⟩
  rcases h.2 with h0 | ⟨g, cap, cur, rfl, hB, hg, hn, hm, hs, ht⟩
  · exact .inl h0
  · exact .inr ⟨g, cap, cur, rfl, hB, (hb.block _ (Array.getElem?_eq_some_iff.1 hg).1).trans hg, hn, hm, hs, ht⟩
theorem below_alloc {w w' : World} {o : Obj} (h : Below (w.alloc o).heap.size (w.alloc o) w') : Below w.heap.size w w' :=
  ((Below.refl _ _).alloc (Nat.le_refl _) o).trans (h.mono (by simp))
end Go.Proofs.YtkhklfnhninkjaaGreat
