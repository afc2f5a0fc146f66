/-
  Items one behind the other. Plain laws.
-/
import Derived.Test.YteanieiphpehcaaFlatG
namespace Go.Proofs.Yteanieiphpehcaa
open Go.RowKit

structure Itm where
  agg : Int
  col : ByteArray
def noItm : Itm := ⟨0, ByteArray.empty⟩
def Itm.fits (x : Itm) : Prop := inI64 x.agg ∧ x.col.size ≤ maxLen
def Itm.small (x : Itm) : Prop := x.col.size ≤ 1048576
def itCells (x : Itm) : List Value := [.int .i64 x.agg, .string x.col]
theorem itCells_len (x : Itm) : (itCells x).length = 2 := rfl
/-- Items one behind the other. -/
def ItmRow (w : World) (A B : Nat) (ao : Option Addr) (l : List Itm) : Prop := FRow itCells noItm 2 Itm.fits w A B ao l
theorem ItmRow.at {w : World} {A B : Nat} {ao : Option Addr} {l : List Itm} (h : ItmRow w A B ao l) (k : Nat) (hk : k < l.length) :
    ∃ b off agg col, ao = some ⟨b, off, none⟩ ∧ b < B ∧ l.getD k noItm = ⟨agg, col⟩ ∧ (inI64 agg ∧ col.size ≤ maxLen) ∧ w.cell? ⟨b, off + k * 2, none⟩ = some (.int .i64 agg) ∧ w.cell? ⟨b, off + k * 2 + 1, none⟩ = some (.string col) := by
  obtain ⟨b, off, ⟨agg, col⟩, e, hB, hx, hf, hc⟩ := FRow.at h k hk
  exact ⟨b, off, agg, col, e, hB, hx, hf, hc 0 _ rfl, hc 1 _ rfl⟩
end Go.Proofs.Yteanieiphpehcaa
