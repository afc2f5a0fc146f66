/-
  What draws share: what a source of their own leaves; bytes that were made, as a text.
-/
import Derived.Test.YtkkggbbpaflieaaGreatDoorDraw2
import Derived.OwnWalk
namespace Go.Proofs.YtkkggbbpaflieaaGreatDoor
open Go.RowKit

theorem below_draw {w w1 w2 : World} {g : Nat} (h : Below w.heap.size w w1) (hg : w.heap.size ≤ g) (k : w1.grownBy w2 (some g)) : Below w.heap.size w w2 :=
  h.trans (below_of_grown k hg h.size)

theorem ownsStr {W : World} {base n : Nat} {g : Nat} {cs : List Value} (h : W.ownsRow base 5 1 (.slice (some ⟨g, 0, none⟩) n n) n cs) (hc : ∃ xs : List Int, cs = xs.map (Value.int .u8)) :
    ∃ t : ByteArray, t.size = n ∧ (convert 22 9 (.slice (some ⟨g, 0, none⟩) n n)).run Tryz.prog W = .ok (.string t) W := by
  obtain ⟨xs, rfl⟩ := hc
  exact ⟨strOfNums xs, by rw [strOfNums_size]; simpa using h.1, convOwn h⟩
theorem made_bytes (n : Nat) : ∃ xs : List Int, (madeCells (Value.int .u8 0).cells (n * 1)).toList = xs.map (Value.int .u8) := by
  refine ⟨(List.range (n * 1)).map (fun _ => 0), ?_⟩
  have hc : (Value.int .u8 0).cells = #[Value.int .u8 0] := rfl
  rw [hc]
  unfold madeCells
  rw [Array.toList_map, Array.toList_range, List.map_map]
  apply List.map_congr_left
  intro i _
  have : i % (#[Value.int .u8 0] : Array Value).size = 0 := Nat.mod_one i
  rw [this]; rfl

end Go.Proofs.YtkkggbbpaflieaaGreatDoor
