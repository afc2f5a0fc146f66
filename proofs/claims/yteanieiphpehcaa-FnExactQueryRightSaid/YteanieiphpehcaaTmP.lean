/-
  Terms one behind the other. Plain laws.
-/
import Derived.Test.YteanieiphpehcaaFlatG
namespace Go.Proofs.Yteanieiphpehcaa
open Go.RowKit

structure Trm where
  col : ByteArray
  op : ByteArray
  kind : Int
  num : Int
  text : ByteArray
def noTrm : Trm := ⟨ByteArray.empty, ByteArray.empty, 0, 0, ByteArray.empty⟩
def Trm.fits (x : Trm) : Prop := x.col.size ≤ maxLen ∧ x.op.size ≤ maxLen ∧ inI64 x.kind ∧ inI64 x.num ∧ x.text.size ≤ maxLen
def Trm.small (x : Trm) : Prop := x.col.size ≤ 1048576 ∧ x.op.size ≤ 1048576 ∧ x.text.size ≤ 1048576
def tmCells (x : Trm) : List Value := [.string x.col, .string x.op, .int .i64 x.kind, .int .i64 x.num, .string x.text]
theorem tmCells_len (x : Trm) : (tmCells x).length = 5 := rfl
/-- Terms one behind the other. -/
def TrmRow (w : World) (A B : Nat) (ao : Option Addr) (l : List Trm) : Prop := FRow tmCells noTrm 5 Trm.fits w A B ao l
theorem TrmRow.at {w : World} {A B : Nat} {ao : Option Addr} {l : List Trm} (h : TrmRow w A B ao l) (k : Nat) (hk : k < l.length) :
    ∃ b off col op kind num text, ao = some ⟨b, off, none⟩ ∧ b < B ∧ l.getD k noTrm = ⟨col, op, kind, num, text⟩ ∧ (col.size ≤ maxLen ∧ op.size ≤ maxLen ∧ inI64 kind ∧ inI64 num ∧ text.size ≤ maxLen) ∧ w.cell? ⟨b, off + k * 5, none⟩ = some (.string col) ∧ w.cell? ⟨b, off + k * 5 + 1, none⟩ = some (.string op) ∧ w.cell? ⟨b, off + k * 5 + 2, none⟩ = some (.int .i64 kind) ∧ w.cell? ⟨b, off + k * 5 + 3, none⟩ = some (.int .i64 num) ∧ w.cell? ⟨b, off + k * 5 + 4, none⟩ = some (.string text) := by
  obtain ⟨b, off, ⟨col, op, kind, num, text⟩, e, hB, hx, hf, hc⟩ := FRow.at h k hk
  exact ⟨b, off, col, op, kind, num, text, e, hB, hx, hf, hc 0 _ rfl, hc 1 _ rfl, hc 2 _ rfl, hc 3 _ rfl, hc 4 _ rfl⟩
end Go.Proofs.Yteanieiphpehcaa
