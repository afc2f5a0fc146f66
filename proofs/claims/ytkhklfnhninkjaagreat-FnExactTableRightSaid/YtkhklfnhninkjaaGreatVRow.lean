/-
  Values that lie one behind the other. Plain laws.
-/
import Derived.Test.YtkhklfnhninkjaaGreatPlain
import Derived.Test.YtkhklfnhninkjaaGreatKeyPlain
import Derived.WalkKit
namespace Go.Proofs.YtkhklfnhninkjaaGreat
open Go.RowKit

/-- Values that lie one behind the other, each in three cells, below block B. -/
def ValRow (w : World) (B : Nat) (ao : Option Addr) (vs : List Val) : Prop :=
  (∀ v ∈ vs, v.ok) ∧ (∀ v ∈ vs, v.text.size ≤ maxLen) ∧ (vs.length = 0 ∨ ∃ b off, ao = some ⟨b, off, none⟩ ∧ b < B ∧ ∀ i (h : i < vs.length),
    w.cell? ⟨b, off + i * 3, none⟩ = some (.int .i64 vs[i].kind) ∧ w.cell? ⟨b, off + i * 3 + 1, none⟩ = some (.int .i64 vs[i].num) ∧ w.cell? ⟨b, off + i * 3 + 2, none⟩ = some (.string vs[i].text))
theorem ValRow.kept {w w' : World} {B : Nat} {ao : Option Addr} {vs : List Val} (h : ValRow w B ao vs) (hb : Below B w w') : ValRow w' B ao vs := by
  refine ⟨h.1, h.2.1, ?_⟩
  rcases h.2.2 with h0 | ⟨b, off, e, hB, hc⟩
  · exact .inl h0
  · refine .inr ⟨b, off, e, hB, fun i hi => ?_⟩
    obtain ⟨c0, c1, c2⟩ := hc i hi
    exact ⟨(hb.cell (p := ⟨b, _, none⟩) hB).trans c0, (hb.cell (p := ⟨b, _, none⟩) hB).trans c1, (hb.cell (p := ⟨b, _, none⟩) hB).trans c2⟩
theorem ValRow.mono {w : World} {B C : Nat} {ao : Option Addr} {vs : List Val} (h : ValRow w B ao vs) (hc : B ≤ C) : ValRow w C ao vs := by
  refine ⟨h.1, h.2.1, ?_⟩
  rcases h.2.2 with h0 | ⟨b, off, e, hB, hc'⟩
  · exact .inl h0
  · exact .inr ⟨b, off, e, by omega, hc'⟩
theorem ValRow.at {w : World} {B : Nat} {ao : Option Addr} {vs : List Val} (h : ValRow w B ao vs) (k : Nat) (hk : k < vs.length) :
    ∃ b off kk nn tt, ao = some ⟨b, off, none⟩ ∧ b < B ∧ vs[k] = ⟨kk, nn, tt⟩ ∧ tt.size ≤ maxLen ∧ w.cell? ⟨b, off + k * 3, none⟩ = some (.int .i64 kk) ∧ w.cell? ⟨b, off + k * 3 + 1, none⟩ = some (.int .i64 nn) ∧ w.cell? ⟨b, off + k * 3 + 2, none⟩ = some (.string tt) := by
  rcases h.2.2 with h0 | ⟨b, off, e, hB, hc⟩
  · omega
  · obtain ⟨c0, c1, c2⟩ := hc k hk
    exact ⟨b, off, _, _, _, e, hB, rfl, h.2.1 _ (List.getElem_mem hk), c0, c1, c2⟩
end Go.Proofs.YtkhklfnhninkjaaGreat
