/-
  Values that a call has made, in a row of their own. Plain laws.
-/
import Derived.Test.YtojfffdbddbakaaFlatV
import Derived.Test.YtojfffdbddbakaaInfoV
import Derived.Test.YtojfffdbddbakaaOwns
import Derived.Maps.AppendAt
namespace Go.Proofs.Ytojfffdbddbakaa
open Go.RowKit

/-- Values that the call has made, in a row of its own. -/
def OwnV (base : Nat) (v : Value) (vs : List Val) (w : World) : Prop := w.ownsRow base 99 3 v vs.length (flatV vs)
theorem ownV_of {base : Nat} {v : Value} {vs : List Val} {w : World} {n : Nat} {xs : List Value} (h : w.ownsRow base 99 3 v n xs) (hn : n = vs.length) (hx : xs = flatV vs) : OwnV base v vs w := by subst hn hx; exact h
theorem cell_val_new (w : World) (k n : Int) (x : ByteArray) (t : TypeId) : ∀ j u, [Value.int .i64 k, Value.int .i64 n, Value.string x][j]? = some u → (w.alloc (.cells #[.int .i64 k, .int .i64 n, .string x] t)).cell? ((⟨w.heap.size, 0, none⟩ : Addr).add j) = some u := by
  intro j u hj
  have hadd : (⟨w.heap.size, 0, none⟩ : Addr).add j = ⟨w.heap.size, j, none⟩ := by unfold Addr.add; split <;> simp_all
  rw [hadd, cell_of_row _ _ _ _ _ _ (heap_alloc_new w _)]
  simpa using hj
theorem one_val (k n : Int) (x : ByteArray) : ∀ u ∈ [Value.int .i64 k, Value.int .i64 n, Value.string x], u.oneCell' = true := fun u hu => by
  simp at hu
  rcases hu with rfl | rfl | rfl <;> rfl
theorem set2 {W : World} {g : Nat} {a b x y : Value} {t : TypeId} (h : W.heap[g]? = some (.cells #[a, b] t (0, 0))) :
    ((W.setCell ⟨g, 0, none⟩ x).setCell ⟨g, 1, none⟩ y).heap[g]? = some (.cells #[x, y] t (0, 0)) := by
  have h1 := heap_setCell_same W g 0 _ t x h
  have h2 := heap_setCell_same _ g 1 _ t y h1
  simpa using h2
theorem below2 {B g : Nat} {w W : World} {x y : Value} (h : Below B w W) (hg : B ≤ g) : Below B w ((W.setCell ⟨g, 0, none⟩ x).setCell ⟨g, 1, none⟩ y) := (h.setCell hg _).setCell hg _
theorem cells2 {W : World} {g : Nat} {a b : Value} {t : TypeId} (h : W.heap[g]? = some (.cells #[a, b] t (0, 0))) : W.cell? ⟨g, 0, none⟩ = some a ∧ W.cell? ⟨g, 1, none⟩ = some b ∧ (∀ j, W.frozen? ⟨g, j, none⟩ = false) :=
  ⟨by rw [cell_of_row _ _ _ _ _ _ h]; rfl, by rw [cell_of_row _ _ _ _ _ _ h]; rfl, fun j => frozen_of_row _ _ _ _ _ h⟩
theorem owns_set2 {W : World} {base g n : Nat} {v x y : Value} {xs : List Value} {t : TypeId} {size : Nat} (h : W.ownsRow base t size v n xs) (hg : g < base) : ((W.setCell ⟨g, 0, none⟩ x).setCell ⟨g, 1, none⟩ y).ownsRow base t size v n xs := by
  refine ⟨h.1, ?_⟩
  rcases h.2 with h0 | ⟨q, cap, cur, rfl, hB, hq, hn, hm, hs, ht⟩
  · exact .inl h0
  · exact .inr ⟨q, cap, cur, rfl, hB, by rw [heap_setCell_other _ _ _ _ (show q ≠ g by omega), heap_setCell_other _ _ _ _ (show q ≠ g by omega)]; exact hq, hn, hm, hs, ht⟩
theorem owns_base {W : World} {base base' n size : Nat} {v : Value} {xs : List Value} {t : TypeId} (h : W.ownsRow base t size v n xs) (hb : base' ≤ base) : W.ownsRow base' t size v n xs := by
  refine ⟨h.1, ?_⟩
  rcases h.2 with h0 | ⟨q, cap, cur, rfl, hB, hq, hn, hm, hs, ht⟩
  · exact .inl h0
  · exact .inr ⟨q, cap, cur, rfl, by omega, hq, hn, hm, hs, ht⟩
theorem ownV_shape {base : Nat} {v : Value} {vs : List Val} {w : World} (h : OwnV base v vs w) : ∃ ao cap, v = .slice ao vs.length cap := by
  rcases h.2 with ⟨h1, h2⟩ | ⟨g, cap, cur, h1, _⟩
  · exact ⟨none, 0, by rw [h1, h2]⟩
  · exact ⟨_, _, h1⟩
theorem valRow_own {base : Nat} {v : Value} {vs : List Val} {w : World} (h : OwnV base v vs w) (ho : ∀ x ∈ vs, x.ok) (ht : ∀ x ∈ vs, x.text.size ≤ maxLen) : ∃ ao cap, v = .slice ao vs.length cap ∧ ValRow w w.heap.size ao vs := by
  rcases h.2 with ⟨rfl, h0⟩ | ⟨g, cap, cur, rfl, hB, hq, hn', hm, hs, hc⟩
  · exact ⟨none, 0, by rw [h0], ho, ht, .inl h0⟩
  · exact ⟨_, _, rfl, valRow_of (cur := cur.toList) (by simpa using hq) hc ho ht⟩
end Go.Proofs.Ytojfffdbddbakaa
