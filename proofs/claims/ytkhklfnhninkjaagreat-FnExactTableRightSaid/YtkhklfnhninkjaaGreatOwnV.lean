/-
  Values that a call has made, in a row of their own. Plain laws.
-/
import Derived.Test.YtkhklfnhninkjaaGreatBase
import Derived.Test.YtkhklfnhninkjaaGreatFlatV
import Derived.Test.YtkhklfnhninkjaaGreatInfoV
import Derived.Test.YtkhklfnhninkjaaGreatOwns
import Derived.Maps.AppendAt
namespace Go.Proofs.YtkhklfnhninkjaaGreat
open Go.RowKit

/-- Values that the call has made, in a row of its own. -/
def OwnV (base : Nat) (v : Value) (vs : List Val) (w : World) : Prop := w.ownsRow base 72 3 v vs.length (flatV vs)
theorem ownV_of {base : Nat} {v : Value} {vs : List Val} {w : World} {n : Nat} {xs : List Value} (h : w.ownsRow base 72 3 v n xs) (hn : n = vs.length) (hx : xs = flatV vs) : OwnV base v vs w := by subst hn hx; exact h
theorem cell_val_new (w : World) (k n : Int) (x : ByteArray) (t : TypeId) : ∀ j u, [Value.int .i64 k, Value.int .i64 n, Value.string x][j]? = some u → (w.alloc (.cells #[.int .i64 k, .int .i64 n, .string x] t)).cell? ((⟨w.heap.size, 0, none⟩ : Addr).add j) = some u := by
  intro j u hj
  have hadd : (⟨w.heap.size, 0, none⟩ : Addr).add j = ⟨w.heap.size, j, none⟩ := by unfold Addr.add; split <;> simp_all
  rw [hadd, cell_of_row _ _ _ _ _ _ (heap_alloc_new w _)]
  simpa using hj
theorem one_val (k n : Int) (x : ByteArray) : ∀ u ∈ [Value.int .i64 k, Value.int .i64 n, Value.string x], u.oneCell' = true := fun u hu => by
  simp at hu
  rcases hu with rfl | rfl | rfl <;> rfl
theorem ownV_shape {base : Nat} {v : Value} {vs : List Val} {w : World} (h : OwnV base v vs w) : ∃ ao cap, v = .slice ao vs.length cap := by
  rcases h.2 with ⟨h1, h2⟩ | ⟨g, cap, cur, h1, _⟩
  · exact ⟨none, 0, by rw [h1, h2]⟩
  · exact ⟨_, _, h1⟩
theorem valRow_own {base : Nat} {v : Value} {vs : List Val} {w : World} (h : OwnV base v vs w) (ho : ∀ x ∈ vs, x.ok) (ht : ∀ x ∈ vs, x.text.size ≤ maxLen) : ∃ ao cap, v = .slice ao vs.length cap ∧ ValRow w w.heap.size ao vs := by
  rcases h.2 with ⟨rfl, h0⟩ | ⟨g, cap, cur, rfl, hB, hq, hn', hm, hs, hc⟩
  · exact ⟨none, 0, by rw [h0], ho, ht, .inl h0⟩
  · exact ⟨_, _, rfl, valRow_of (cur := cur.toList) (by simpa using hq) hc ho ht⟩
end Go.Proofs.YtkhklfnhninkjaaGreat
