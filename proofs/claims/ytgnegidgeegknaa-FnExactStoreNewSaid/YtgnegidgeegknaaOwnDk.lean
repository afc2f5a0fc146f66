/-
  Disks in rows of their own.
-/
import Derived.Test.YtgnegidgeegknaaDkRow
import Derived.Test.YtgnegidgeegknaaOwnStr
namespace Go.Proofs.Ytgnegidgeegknaa
open Go.RowKit
set_option maxRecDepth 100000

theorem Try.infoWr : (Try.prog.info? 75).map (fun i => (i.zero, i.size, i.bytes)) = some (some (.agg #[.int .i64 0, .string ⟨#[]⟩]), 2, 24) := by kernel_rfl
def OwnW (base : Nat) (v : Value) (l : List Wr) (w : World) : Prop := w.ownsRow base 75 2 v l.length (flatW l)
theorem ownS_nil (base : Nat) (w : World) : OwnS base (.slice none 0 0) [] w := ⟨rfl, .inl ⟨rfl, rfl⟩⟩
theorem ownW_nil (base : Nat) (w : World) : OwnW base (.slice none 0 0) [] w := ⟨rfl, .inl ⟨rfl, rfl⟩⟩
theorem ownW_shape {base : Nat} {v : Value} {l : List Wr} {w : World} (h : OwnW base v l w) : ∃ ao cap, v = .slice ao l.length cap := by
  rcases h.2 with ⟨h1, h2⟩ | ⟨g, cap, cur, h1, _⟩
  · exact ⟨none, 0, by rw [h1, h2]⟩
  · exact ⟨_, _, h1⟩
theorem ownS_str {base : Nat} {v : Value} {l : List ByteArray} {w : World} (h : OwnS base v l w) (ho : ∀ s ∈ l, s.size ≤ maxLen) : ∃ ao cap, v = .slice ao l.length cap ∧ (l.length ≤ cap ∧ cap ≤ maxLen) ∧ StrRow w base w.heap.size ao l := by
  rcases h.2 with ⟨rfl, h0⟩ | ⟨g, cap, cur, rfl, hB, hq, hn', hm, hs, hc⟩
  · exact ⟨none, 0, by rw [h0], ⟨by omega, Nat.zero_le _⟩, ho, .inl h0⟩
  · exact ⟨_, _, rfl, ⟨hn', hm⟩, (strRow_of (cur := cur.toList) (by simpa using hq) (by simpa using hc) ho).mono hB (Nat.le_refl _)⟩
theorem ownW_row {base : Nat} {v : Value} {l : List Wr} {w : World} (h : OwnW base v l w) (ho : ∀ x ∈ l, wI64 x.pos ∧ x.text.size ≤ maxLen) : ∃ ao cap, v = .slice ao l.length cap ∧ (l.length ≤ cap ∧ cap ≤ maxLen) ∧ WrRow w base w.heap.size ao l := by
  rcases h.2 with ⟨rfl, h0⟩ | ⟨g, cap, cur, rfl, hB, hq, hn', hm, hs, hc⟩
  · exact ⟨none, 0, by rw [h0], ⟨by omega, Nat.zero_le _⟩, ho, .inl h0⟩
  · exact ⟨_, _, rfl, ⟨hn', hm⟩, (wrRow_of (cur := cur.toList) (by simpa using hq) (by simpa using hc) ho).mono hB (Nat.le_refl _)⟩
/-- A disk's two lists, each in a row of its own. -/
structure OwnD (base : Nat) (s c : Value) (d : Dk) (w : World) : Prop where
  secs : OwnS base s d.secs w
  cache : OwnW base c d.cache w
  apart : s.ownBlock = none ∨ s.ownBlock ≠ c.ownBlock
theorem OwnD.below {base : Nat} {s c : Value} {d : Dk} {w w' : World} (h : OwnD base s c d w) (hb : Below w.heap.size w w') : OwnD base s c d w' := ⟨owns_below h.secs hb, owns_below h.cache hb, h.apart⟩
theorem OwnD.base {base base' : Nat} {s c : Value} {d : Dk} {w : World} (h : OwnD base s c d w) (hb : base' ≤ base) : OwnD base' s c d w := ⟨owns_base h.secs hb, owns_base h.cache hb, h.apart⟩
theorem OwnD.set {base g m : Nat} {s c x : Value} {d : Dk} {w : World} (h : OwnD base s c d w) (hg : g < base) : OwnD base s c d (w.setCell ⟨g, m, none⟩ x) := ⟨own_set h.secs hg, own_set h.cache hg, h.apart⟩
theorem OwnD.row {base : Nat} {s c : Value} {d : Dk} {w : World} (h : OwnD base s c d w) (ho : dkIn d) : ∃ so p co q, s = .slice so d.secs.length p ∧ c = .slice co d.cache.length q ∧ DkRow w base w.heap.size so co d := by
  obtain ⟨so, p, e1, h1, h2⟩ := ownS_str h.secs ho.1
  obtain ⟨co, q, e2, h3, h4⟩ := ownW_row h.cache ho.2
  exact ⟨so, p, co, q, e1, e2, ⟨Nat.le_trans h1.1 h1.2, Nat.le_trans h3.1 h3.2⟩, h2, h4⟩
theorem OwnD.shape {base : Nat} {s c : Value} {d : Dk} {w : World} (h : OwnD base s c d w) : ∃ so p co q, s = .slice so d.secs.length p ∧ c = .slice co d.cache.length q := by
  obtain ⟨so, p, e1⟩ := ownS_shape h.secs
  obtain ⟨co, q, e2⟩ := ownW_shape h.cache
  exact ⟨so, p, co, q, e1, e2⟩
theorem OwnD.lt {base : Nat} {s c : Value} {d : Dk} {w : World} (h : OwnD base s c d w) : (∀ b, s.ownBlock = some b → base ≤ b ∧ b < w.heap.size) ∧ (∀ b, c.ownBlock = some b → base ≤ b ∧ b < w.heap.size) :=
  ⟨fun b hb => World.ownsRow.lt h.secs b hb, fun b hb => World.ownsRow.lt h.cache b hb⟩
end Go.Proofs.Ytgnegidgeegknaa
