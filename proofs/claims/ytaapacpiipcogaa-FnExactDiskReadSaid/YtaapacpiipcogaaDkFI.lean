/-
  A disk's texts being written one by one, in a row of their own. Plain facts.
-/
import Derived.Test.YtaapacpiipcogaaDkHas2
import Derived.Test.YtaapacpiipcogaaDkCp
import Derived.Laws.OwnMore
namespace Go.Proofs.Ytaapacpiipcogaa
open Go.RowKit
set_option maxRecDepth 100000

structure FI (w : World) (X : Array Value) (v c : Value) (g : Nat) (l : List ByteArray) (W : World) : Prop where
  below : Below w.heap.size w W
  par : W.heap[w.heap.size]? = some (.cells X 29 (0, 0))
  res : W.heap[w.heap.size + 1]? = some (.cells #[.slice none 0 0, .slice none 0 0] 29 (0, 0))
  var : W.heap[g]? = some (.cells #[v, c] 29 (0, 0))
  secs : OwnS (w.heap.size + 2) v l W
  gap : w.heap.size + 2 ≤ g ∧ v.ownBlock ≠ some g
section
variable {w W W' : World} {X : Array Value} {v c : Value} {g e cap n : Nat} {l : List ByteArray}
theorem FI.keep (h : FI w X v c g l W) (hb : Below W.heap.size W W') : FI w X v c g l W' :=
  ⟨h.below.trans (hb.mono h.below.size), (hb.block _ (blk_lt' h.par)).trans h.par, (hb.block _ (blk_lt' h.res)).trans h.res, (hb.block _ (blk_lt' h.var)).trans h.var, owns_below h.secs hb, h.gap⟩
theorem FI.drew (h : FI w X v c g l W) : FI w X v c g l W.drew := h.keep (Below.refl _ _).drew
theorem FI.start (hb : Below w.heap.size w W) (hp : W.heap[w.heap.size]? = some (.cells X 29 (0, 0))) (hr : W.heap[w.heap.size + 1]? = some (.cells #[.slice none 0 0, .slice none 0 0] 29 (0, 0))) (hs : OwnS (w.heap.size + 2) v l W) :
    FI w X v c W.heap.size l (((W.alloc (.cells #[.slice none 0 0, .slice none 0 0] 29)).setCell ⟨W.heap.size, 0, none⟩ v).setCell ⟨W.heap.size, 1, none⟩ c) := by
  have hl := blk_lt' hr
  have hb1 : Below w.heap.size w (((W.alloc (.cells #[.slice none 0 0, .slice none 0 0] 29)).setCell ⟨W.heap.size, 0, none⟩ v).setCell ⟨W.heap.size, 1, none⟩ c) := ((hb.alloc hb.size _).setCell (by simpa using hb.size) _).setCell (by simpa using hb.size) _
  have hne : v.ownBlock ≠ some W.heap.size := fun e => by have := (World.ownsRow.lt hs _ e).2; omega
  refine ⟨hb1, ?_, ?_, set2 (heap_alloc_new _ _), ?_, by omega, hne⟩
  · rw [heap_far _ _ _ _ _ (by omega), heap_far _ _ _ _ _ (by omega), heap_old _ _ _ (by omega)]; exact hp
  · rw [heap_far _ _ _ _ _ (by omega), heap_far _ _ _ _ _ (by omega), heap_old _ _ _ (by omega)]; exact hr
  · exact ownsRow_setCell_other (ownsRow_setCell_other (owns_below hs ((Below.refl _ _).alloc (Nat.le_refl _) _)) (a := ⟨W.heap.size, 0, none⟩) hne v) (a := ⟨W.heap.size, 1, none⟩) hne c
theorem FI.start2 (hb : Below w.heap.size w W) (hp : W.heap[w.heap.size]? = some (.cells X 29 (0, 0))) (hr : W.heap[w.heap.size + 1]? = some (.cells #[.slice none 0 0, .slice none 0 0] 29 (0, 0))) (hs : OwnS (w.heap.size + 2) v l W) :
    FI w X v c W.heap.size l (W.alloc (.cells #[v, c] 29)) := by
  have hl := blk_lt' hr
  have hne : v.ownBlock ≠ some W.heap.size := fun e => by have := (World.ownsRow.lt hs _ e).2; omega
  exact ⟨hb.alloc hb.size _, by rw [heap_old _ _ _ (by omega)]; exact hp, by rw [heap_old _ _ _ (by omega)]; exact hr, heap_alloc_new _ _, owns_below hs ((Below.refl _ _).alloc (Nat.le_refl _) _), by omega, hne⟩
theorem FI.cell {ao : Option Addr} (h : FI w X (.slice ao n cap) c g l W) (hl : 0 < l.length) :
    ∃ e, ao = some ⟨e, 0, none⟩ ∧ w.heap.size + 2 ≤ e ∧ e ≠ g ∧ (∀ j, W.frozen? ⟨e, j, none⟩ = false) ∧ ∀ i, i < l.length → W.cell? ⟨e, i, none⟩ = some (.string (l.getD i ByteArray.empty)) := by
  rcases h.secs.2 with ⟨_, h0⟩ | ⟨e, cap', cur, h1, h2, h3, h4, h5, h6, h7⟩
  · omega
  · injection h1 with h1 hn hc
    subst h1 hn hc
    refine ⟨e, rfl, h2, fun he => h.gap.2 (by rw [he]; rfl), fun j => frozen_of_row _ _ _ _ _ h3, fun i hi => ?_⟩
    rw [cell_of_row _ _ _ _ _ _ h3]
    have h8 : (cur.toList.take (l.length * 1))[i]? = (strsV l)[i]? := by rw [h7]
    rw [List.getElem?_take_of_lt (by omega)] at h8
    rw [← Array.getElem?_toList, h8]
    simp [strsV, List.getD_eq_getElem?_getD, List.getElem?_eq_getElem hi]
theorem FI.put (h : FI w X (.slice (some ⟨e, 0, none⟩) n cap) c g l W) (hn : n = l.length) (k : Nat) (x : ByteArray) (he : w.heap.size + 2 ≤ e) : FI w X (.slice (some ⟨e, 0, none⟩) n cap) c g (l.set k x) (W.setCell ⟨e, k, none⟩ (.string x)) := by
  have hg : e ≠ g := fun he => h.gap.2 (by rw [he]; rfl)
  refine ⟨h.below.setCell (by simp; omega) _, ?_, ?_, ?_, ?_, h.gap⟩
  · rw [heap_far _ _ _ _ _ (by omega)]; exact h.par
  · rw [heap_far _ _ _ _ _ (by omega)]; exact h.res
  · rw [heap_far _ _ _ _ _ (Ne.symm hg)]; exact h.var
  · subst hn
    have hs : strsV (l.set k x) = (strsV l).set k (.string x) := by simp [strsV, List.map_set]
    unfold OwnS
    rw [hs, List.length_set]
    exact (World.ownsRow.stored h.secs k _).1
theorem FI.out (h : FI w X v c g l W) {x y : Value} : OwnS w.heap.size v l ((W.setCell ⟨w.heap.size + 1, 0, none⟩ x).setCell ⟨w.heap.size + 1, 1, none⟩ y) ∧ Below w.heap.size w ((W.setCell ⟨w.heap.size + 1, 0, none⟩ x).setCell ⟨w.heap.size + 1, 1, none⟩ y) :=
  ⟨owns_base (own_set (own_set h.secs (by omega)) (by omega)) (by omega), (h.below.setCell (by simp) _).setCell (by simp) _⟩
end
end Go.Proofs.Ytaapacpiipcogaa
