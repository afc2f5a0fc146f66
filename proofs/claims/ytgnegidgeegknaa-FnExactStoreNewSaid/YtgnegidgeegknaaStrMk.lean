/-
  Contracts: texts in a row of their own are marked, and looked at again.
-/
import Derived.Test.YtgnegidgeegknaaTrMk
import Derived.Test.YtgnegidgeegknaaOwnStr
namespace Go.Proofs.Ytgnegidgeegknaa
open Go.RowKit
set_option maxRecDepth 100000

/-- A slice of n texts that is marked. -/
def MarkedS (v : Value) (n : Nat) (w : World) : Prop := (v = .slice none 0 0 ∧ n = 0) ∨ ∃ g cap, v = .slice (some ⟨g, 0, none⟩) n cap ∧ MkAt g n 1 n w
theorem MarkedS.kept {v : Value} {n : Nat} {w w' : World} (h : MarkedS v n w) (hb : Below w.heap.size w w') : MarkedS v n w' := by
  rcases h with h | ⟨g, cap, rfl, h⟩
  · exact .inl h
  · exact .inr ⟨g, cap, rfl, h.kept hb h.lt⟩
theorem markStringS_nil (w : World) : Calls Try.prog 45 #[.slice none 0 0, .int .i64 1] w fun e w' => e = .returned (.int .i64 1) ∧ w' = w := by
  go_enter Try.func45, Try.ntmps45
  go_wp2
  go_loop [1, 5] (fun q i => i = .int .i64 0 ∧ q = .int .i64 1) (fun _ _ => 0)
  case atStart => exact ⟨rfl, rfl⟩
  case round =>
    obtain ⟨rfl, rfl⟩ := hrel
    go_wp2
    go_ret
    exact ⟨rfl, rfl⟩
theorem heldStringS_nil (w : World) : Calls Try.prog 47 #[.slice none 0 0, .int .i64 1] w fun e w' => e = .returned (.int .i64 1) ∧ w' = w := by
  go_enter Try.func47, Try.ntmps47
  go_wp2
  go_loop [1, 5] (fun q i => i = .int .i64 0 ∧ q = .int .i64 1) (fun _ _ => 0)
  case atStart => exact ⟨rfl, rfl⟩
  case round =>
    obtain ⟨rfl, rfl⟩ := hrel
    go_wp2
    go_ret
    exact ⟨rfl, rfl⟩
theorem markStringS_own (base : Nat) (v : Value) (l : List ByteArray) (w : World) (hn : l.length ≤ 1048576) (h : OwnS base v l w) :
    Calls Try.prog 45 #[v, .int .i64 1] w fun e w' => e = .returned (.int .i64 ((1 + l.length : Nat) : Int)) ∧ MarkedS v l.length w' ∧ w.grownBy w' v.ownBlock := by
  rcases h.2 with ⟨rfl, h0⟩ | ⟨g, cap, cur, rfl, hB, hq, hn', hm, hs, ht⟩
  · refine (markStringS_nil w).mono ?_
    rintro e w' ⟨rfl, rfl⟩
    rw [h0]
    exact ⟨rfl, .inl ⟨rfl, rfl⟩, grown_refl _ _⟩
  · refine (markStringS_at g l.length cap 1 w hn (by omega) (by omega) ⟨cur.toList, by simpa using hq, by simp; omega, fun i hi => by omega⟩).mono ?_
    rintro e w' ⟨rfl, hm', hb⟩
    exact ⟨rfl, .inr ⟨g, cap, rfl, hm'⟩, hb⟩
theorem heldStringS_own (v : Value) (n : Nat) (w : World) (hn : n ≤ 1048576) (h : MarkedS v n w) :
    Calls Try.prog 47 #[v, .int .i64 1] w fun e w' => e = .returned (.int .i64 ((1 + n : Nat) : Int)) ∧ Below w.heap.size w w' := by
  rcases h with ⟨rfl, rfl⟩ | ⟨g, cap, rfl, hm⟩
  · refine (heldStringS_nil w).mono ?_
    rintro e w' ⟨rfl, rfl⟩
    exact ⟨rfl, Below.refl _ _⟩
  · exact heldStringS_at g n cap 1 w hn (by omega) (by omega) hm
end Go.Proofs.Ytgnegidgeegknaa
