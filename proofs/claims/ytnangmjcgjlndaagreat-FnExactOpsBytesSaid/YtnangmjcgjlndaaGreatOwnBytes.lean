/-
  A slice of bytes that the call has made.
-/
import Derived.Test.YtnangmjcgjlndaaGreatConv
import Derived.Test.YtnangmjcgjlndaaGreatMkS
import Derived.Test.YtnangmjcgjlndaaGreatOwns
import Derived.Maps.AppendAt
namespace Go.Proofs.YtnangmjcgjlndaaGreat
open Go.RowKit

def numsU (l : List UInt8) : List Int := l.map fun b => (b.toNat : Int)
theorem numsU_append (a b : List UInt8) : numsU (a ++ b) = numsU a ++ numsU b := by simp [numsU]
theorem numsU_len (l : List UInt8) : (numsU l).length = l.length := by simp [numsU]
/-- A slice of bytes that the call has made. -/
def OwnB (base : Nat) (v : Value) (l : List UInt8) (w : World) : Prop := w.ownsRow base 5 1 v l.length ((numsU l).map (Value.int .u8))
theorem OwnB.below {base : Nat} {v : Value} {l : List UInt8} {w w' : World} (h : OwnB base v l w) (hb : Below w.heap.size w w') : OwnB base v l w' := owns_below h hb
theorem ownB_of {base : Nat} {v : Value} {l : List UInt8} {w : World} {n : Nat} {xs : List Value} (h : w.ownsRow base 5 1 v n xs) (hn : n = l.length) (hx : xs = (numsU l).map (Value.int .u8)) : OwnB base v l w := by subst hn hx; exact h
theorem OwnB.conv {base : Nat} {v : Value} {l : List UInt8} {w : World} (h : OwnB base v l w) : (convert 52 9 v).run Tryz.prog w = .ok (.string (mkS l)) w := by
  have := convOwn h
  rwa [numsU, strOfNums_bytes] at this
theorem own_snoc {base : Nat} {v : Value} {l : List UInt8} {w : World} {x : Int} (c : UInt8) (h : w.ownsRow base 5 1 v (l.length + 1) ((numsU l).map (Value.int .u8) ++ [.int .u8 x])) (hx : x = (c.toNat : Int)) : OwnB base v (l ++ [c]) w := by
  subst hx
  exact ownB_of h (by simp) (by rw [numsU_append, List.map_append]; rfl)
theorem own_snoc2 {base : Nat} {v : Value} {l : List UInt8} {w : World} {x y : Int} (c d : UInt8) (h : w.ownsRow base 5 1 v (l.length + 2) ((numsU l).map (Value.int .u8) ++ [.int .u8 x, .int .u8 y])) (hx : x = (c.toNat : Int)) (hy : y = (d.toNat : Int)) : OwnB base v (l ++ [c, d]) w := by
  subst hx hy
  exact ownB_of h (by simp) (by rw [numsU_append, List.map_append]; rfl)
theorem cell_two_new (w : World) (x y : Value) (t : TypeId) : ∀ j u, [x, y][j]? = some u → (w.alloc (.cells #[x, y] t)).cell? ((⟨w.heap.size, 0, none⟩ : Addr).add j) = some u := by
  intro j u hj
  have hadd : (⟨w.heap.size, 0, none⟩ : Addr).add j = ⟨w.heap.size, j, none⟩ := by unfold Addr.add; split <;> simp_all
  rw [hadd, cell_of_row _ _ _ _ _ _ (heap_alloc_new w _)]
  simpa using hj
theorem one1 (k : IntKind) (x : Int) : ∀ u ∈ [Value.int k x], u.oneCell' = true := fun u hu => by simp at hu; subst hu; rfl
theorem one2 (k : IntKind) (x y : Int) : ∀ u ∈ [Value.int k x, Value.int k y], u.oneCell' = true := fun u hu => by
  simp at hu
  rcases hu with rfl | rfl <;> rfl
theorem size_alloc_le {B : Nat} {w : World} (o : Obj) (h : B ≤ w.heap.size) : B ≤ (w.alloc o).heap.size := by simp; omega
end Go.Proofs.YtnangmjcgjlndaaGreat
