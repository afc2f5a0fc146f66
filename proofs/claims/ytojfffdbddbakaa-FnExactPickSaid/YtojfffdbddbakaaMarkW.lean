/-
  Contracts: marks on values that lie in a row of their own.
-/
import Derived.Test.YtojfffdbddbakaaHeldV
import Derived.Test.YtojfffdbddbakaaOwnV
namespace Go.Proofs.Ytojfffdbddbakaa
open Go.RowKit

/-- A slice of n values that is marked. -/
def Marked (v : Value) (n : Nat) (w : World) : Prop := (v = .slice none 0 0 ∧ n = 0) ∨ ∃ g cap, v = .slice (some ⟨g, 0, none⟩) n cap ∧ MarkAt g n n w
theorem Marked.kept {v : Value} {n : Nat} {w w' : World} (h : Marked v n w) (hb : Below w.heap.size w w') : Marked v n w' := by
  rcases h with h | ⟨g, cap, rfl, h⟩
  · exact .inl h
  · exact .inr ⟨g, cap, rfl, h.kept hb h.lt⟩
theorem markAt_of {g n : Nat} {vs : List Val} {cur : Array Value} {w : World} (hg : w.heap[g]? = some (.cells cur 99 (0, 0))) (hn : vs.length = n) (hl : n * 3 ≤ cur.size) (hc : cur.toList.take (n * 3) = flatV vs) : MarkAt g n 0 w := by
  refine ⟨cur.toList, by simpa using hg, by simpa using hl, by simp [marks, flatV], fun i hi => ?_⟩
  have hget : ∀ j, j < n * 3 → cur.toList[j]? = (flatV vs)[j]? := fun j hj => by rw [← hc, List.getElem?_take_of_lt hj]
  obtain ⟨h0, h1, h2⟩ := flatV_get vs i (by omega)
  exact ⟨_, _, _, (hget _ (by omega)).trans h0, (hget _ (by omega)).trans h1, (hget _ (by omega)).trans h2⟩
theorem markValueS_nil (w : World) : Calls Try.prog 36 #[.slice none 0 0, .int .i64 1] w fun e w' => e = .returned (.int .i64 1) ∧ w' = w := by
  go_enter Try.func36, Try.ntmps36
  go_wp2
  go_loop [1, 5] (fun q i => i = .int .i64 0 ∧ q = .int .i64 1) (fun _ _ => 0)
  case atStart => exact ⟨rfl, rfl⟩
  case round =>
    obtain ⟨rfl, rfl⟩ := hrel
    go_wp2
    go_ret
    exact ⟨rfl, rfl⟩
theorem heldValueS_nil (w : World) : Calls Try.prog 38 #[.slice none 0 0, .int .i64 1] w fun e w' => e = .returned (.int .i64 1) ∧ w' = w := by
  go_enter Try.func38, Try.ntmps38
  go_wp2
  go_loop [1, 5] (fun q i => i = .int .i64 0 ∧ q = .int .i64 1) (fun _ _ => 0)
  case atStart => exact ⟨rfl, rfl⟩
  case round =>
    obtain ⟨rfl, rfl⟩ := hrel
    go_wp2
    go_ret
    exact ⟨rfl, rfl⟩
theorem markValueS_own (base : Nat) (v : Value) (vs : List Val) (w : World) (hn : vs.length ≤ 1048576) (h : OwnV base v vs w) :
    Calls Try.prog 36 #[v, .int .i64 1] w fun e w' => e = .returned (.int .i64 ((1 + 3 * vs.length : Nat) : Int)) ∧ Marked v vs.length w' ∧ w.grownBy w' v.ownBlock := by
  rcases h.2 with ⟨rfl, h0⟩ | ⟨g, cap, cur, rfl, hB, hq, hn', hm, hs, ht⟩
  · refine (markValueS_nil w).mono ?_
    rintro e w' ⟨rfl, rfl⟩
    rw [h0]
    exact ⟨rfl, .inl ⟨rfl, rfl⟩, grown_refl _ _⟩
  · refine (markValueS_at g vs.length cap w hn (markAt_of hq rfl ?_ ht)).mono ?_
    · rw [hs]; exact Nat.mul_le_mul_right 3 hn'
    · rintro e w' ⟨rfl, hm', hb⟩
      exact ⟨rfl, .inr ⟨g, cap, rfl, hm'⟩, hb⟩
theorem heldValueS_own (v : Value) (n : Nat) (w : World) (hn : n ≤ 1048576) (h : Marked v n w) :
    Calls Try.prog 38 #[v, .int .i64 1] w fun e w' => e = .returned (.int .i64 ((1 + 3 * n : Nat) : Int)) ∧ Below w.heap.size w w' := by
  rcases h with ⟨rfl, rfl⟩ | ⟨g, cap, rfl, hm⟩
  · refine (heldValueS_nil w).mono ?_
    rintro e w' ⟨rfl, rfl⟩
    exact ⟨rfl, Below.refl _ _⟩
  · exact heldValueS_at g n cap w hn hm
end Go.Proofs.Ytojfffdbddbakaa
