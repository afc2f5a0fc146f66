/-
  No cell of these rows narrows 'for every input' (looked for: loops, veiled, ifaces, maps, wideKeys, modest, calm, conditions, laid).
  DERIVED. THE GIVEN ROWS OF THIS SEAT. 4 by the template 'for every input the law returns true; each argument reads behind the call as it read before'; 0 by the template 'total and deterministic' (their statements: YtpbbmmapbmgijaaTotals.lean).
  GIVEN WITH THE SEED: the statements are not yours to turn. If you find one false, say at which input.
  Laid BY PROGRAM, IN A SANDBOX (cutbox-rows.mjs): the forced cells as the released guide's own fill.sh prints them over the translation c30f23e6cb9137c9… (all of the seat's roots in one cut). By AI agents, Wed Nov 11 2026. No macro, syntax, notation, axiom, sorry.
-/
import Derived.Test.YtpbbmmapbmgijaaChecked
import GoSem.Claim
import GoSem.ClaimJoined
import GoSem.ClaimMapViews
import Derived.JoinedTies
import Derived.KernelRfl
namespace Go.Proofs.Ytpbbmmapbmgijaa
/- THE CELL 'sum', in the pinned program and in every row, IS THE sha256 OF THE DUMP (.gsa) THAT YtpbbmmapbmgijaaProg.lean LOADS. Nothing in Lean hashes anything: it is a label: what it is worth is what the hold of that sum in a sandbox is worth. -/
noncomputable def Try.pinned : Pinned := { name := "ytpbbmmapbmgijaa", sum := "c30f23e6cb9137c90293f62150144ee5ca0d4ccc74cc62c5fc6bf76dbf25bd4d", checked := Try.checked }
namespace Rows
def none {H : Type} : Left H := { results := [], args := [] }

/-- 'laws.FnExactOpsRight': WHATEVER THE INPUT: true; the input reads as it did. -/
def fnExactOpsRightSpec : ChangeSpec := { name := "fnExactOpsRight", fn := fun _ => fun
  | [d] => { results := [.lit (.bool true)], args := [d] }
  | _ => none }
def fnExactOpsRightRow : OpenClaim := { program := "ytpbbmmapbmgijaa", sum := "c30f23e6cb9137c90293f62150144ee5ca0d4ccc74cc62c5fc6bf76dbf25bd4d", func := "loop.example/g00271/laws.FnExactOpsRight", spec := "fnExactOpsRight", unfollowed := true, recurses := true, apart := false }
def FnExactOpsRightSaid : Prop := fnExactOpsRightRow.holds Try.pinned (OpenSpec.ofChange fnExactOpsRightSpec)

/-- ITS FALSE NEIGHBOUR: 'it returns false'. Refute it at one input. -/
def fnExactOpsRightWrong : ChangeSpec := { name := "fnExactOpsRight", fn := fun _ => fun
  | [d] => { results := [.lit (.bool false)], args := [d] }
  | _ => none }
def FnExactOpsRightWrongFalsely : Prop := fnExactOpsRightRow.holds Try.pinned (OpenSpec.ofChange fnExactOpsRightWrong)

/-- 'laws.FnExactSchemaRight': WHATEVER THE INPUT: true; the input reads as it did. -/
def fnExactSchemaRightSpec : ChangeSpec := { name := "fnExactSchemaRight", fn := fun _ => fun
  | [d] => { results := [.lit (.bool true)], args := [d] }
  | _ => none }
def fnExactSchemaRightRow : OpenClaim := { program := "ytpbbmmapbmgijaa", sum := "c30f23e6cb9137c90293f62150144ee5ca0d4ccc74cc62c5fc6bf76dbf25bd4d", func := "loop.example/g00271/laws.FnExactSchemaRight", spec := "fnExactSchemaRight", apart := false }
def FnExactSchemaRightSaid : Prop := fnExactSchemaRightRow.holds Try.pinned (OpenSpec.ofChange fnExactSchemaRightSpec)

/-- ITS FALSE NEIGHBOUR: 'it returns false'. Refute it at one input. -/
def fnExactSchemaRightWrong : ChangeSpec := { name := "fnExactSchemaRight", fn := fun _ => fun
  | [d] => { results := [.lit (.bool false)], args := [d] }
  | _ => none }
def FnExactSchemaRightWrongFalsely : Prop := fnExactSchemaRightRow.holds Try.pinned (OpenSpec.ofChange fnExactSchemaRightWrong)

/-- 'laws.FnExactValuesRight': WHATEVER THE INPUT: true; the input reads as it did. -/
def fnExactValuesRightSpec : ChangeSpec := { name := "fnExactValuesRight", fn := fun _ => fun
  | [d] => { results := [.lit (.bool true)], args := [d] }
  | _ => none }
def fnExactValuesRightRow : OpenClaim := { program := "ytpbbmmapbmgijaa", sum := "c30f23e6cb9137c90293f62150144ee5ca0d4ccc74cc62c5fc6bf76dbf25bd4d", func := "loop.example/g00271/laws.FnExactValuesRight", spec := "fnExactValuesRight", unfollowed := true, recurses := true, apart := false }
def FnExactValuesRightSaid : Prop := fnExactValuesRightRow.holds Try.pinned (OpenSpec.ofChange fnExactValuesRightSpec)

/-- ITS FALSE NEIGHBOUR: 'it returns false'. Refute it at one input. -/
def fnExactValuesRightWrong : ChangeSpec := { name := "fnExactValuesRight", fn := fun _ => fun
  | [d] => { results := [.lit (.bool false)], args := [d] }
  | _ => none }
def FnExactValuesRightWrongFalsely : Prop := fnExactValuesRightRow.holds Try.pinned (OpenSpec.ofChange fnExactValuesRightWrong)

/-- 'laws.FnExactRowRight': WHATEVER THE INPUT: true; the input reads as it did. -/
def fnExactRowRightSpec : ChangeSpec := { name := "fnExactRowRight", fn := fun _ => fun
  | [d1, d2] => { results := [.lit (.bool true)], args := [d1, d2] }
  | _ => none }
def fnExactRowRightRow : OpenClaim := { program := "ytpbbmmapbmgijaa", sum := "c30f23e6cb9137c90293f62150144ee5ca0d4ccc74cc62c5fc6bf76dbf25bd4d", func := "loop.example/g00271/laws.FnExactRowRight", spec := "fnExactRowRight", unfollowed := true, recurses := true, apart := false }
def FnExactRowRightSaid : Prop := fnExactRowRightRow.holds Try.pinned (OpenSpec.ofChange fnExactRowRightSpec)

/-- ITS FALSE NEIGHBOUR: 'it returns false'. Refute it at one input. -/
def fnExactRowRightWrong : ChangeSpec := { name := "fnExactRowRight", fn := fun _ => fun
  | [d1, d2] => { results := [.lit (.bool false)], args := [d1, d2] }
  | _ => none }
def FnExactRowRightWrongFalsely : Prop := fnExactRowRightRow.holds Try.pinned (OpenSpec.ofChange fnExactRowRightWrong)

/- THE SECOND FORM. 'bulk': how many values and letters a reading holds, each counted each time it is reached (what is shared counts as often as it is met; a slice's spare places count too). A statement '..UptoSaid' is the law's where the arguments, and the package variables that the reading takes, are together of bulk at most 1048576: NARROWER than '..Said'. Prove '..Said' where nothing that the law and all that it calls make is longer than what came in: it says more and counts as full. Else prove '..UptoSaid'. A law counts once. -/
mutual
def uptoBulk {H : Type} : DataW H → Nat
  | .lit (.string bytes) => bytes.length + 1
  | .lit _ => 1
  | .nil => 1
  | .ptr d => uptoBulk d + 1
  | .slice elems spare => uptoBulkAll elems + uptoBulkAll spare + 1
  | .agg parts => uptoBulkAll parts + 1
  | .iface _ d => uptoBulk d + 1
  | .map entries => uptoBulkEntries entries + 1
  | .held _ => 1
def uptoBulkAll {H : Type} : List (DataW H) → Nat
  | [] => 0
  | d :: r => uptoBulk d + uptoBulkAll r
def uptoBulkEntries {H : Type} : List (Lit × DataW H) → Nat
  | [] => 0
  | x :: r => uptoBulkEntry x + uptoBulkEntries r
def uptoBulkEntry {H : Type} : Lit × DataW H → Nat
  | (.string bytes, d) => bytes.length + uptoBulk d + 1
  | (_, d) => uptoBulk d + 1
 end
def uptoSmall : (H : Type) → List (DataW H) → Bool := fun _ ds => decide (uptoBulkAll ds ≤ 1048576)
def OpenSpec.upto (s : _root_.Go.ChangeSpec) : _root_.Go.OpenSpec := { _root_.Go.OpenSpec.ofChange s with cond := some uptoSmall }

/-- 'laws.FnExactOpsRight', WHERE WHAT IT READS IS OF BULK AT MOST 1048576: true; the input reads as it did. -/
def fnExactOpsRightUptoRow : OpenClaim := { program := "ytpbbmmapbmgijaa", sum := "c30f23e6cb9137c90293f62150144ee5ca0d4ccc74cc62c5fc6bf76dbf25bd4d", func := "loop.example/g00271/laws.FnExactOpsRight", spec := "fnExactOpsRight", unfollowed := true, recurses := true, apart := false, narrowed := true }
def FnExactOpsRightUptoSaid : Prop := fnExactOpsRightUptoRow.holds Try.pinned (OpenSpec.upto fnExactOpsRightSpec)

/-- 'laws.FnExactSchemaRight', WHERE WHAT IT READS IS OF BULK AT MOST 1048576: true; the input reads as it did. -/
def fnExactSchemaRightUptoRow : OpenClaim := { program := "ytpbbmmapbmgijaa", sum := "c30f23e6cb9137c90293f62150144ee5ca0d4ccc74cc62c5fc6bf76dbf25bd4d", func := "loop.example/g00271/laws.FnExactSchemaRight", spec := "fnExactSchemaRight", apart := false, narrowed := true }
def FnExactSchemaRightUptoSaid : Prop := fnExactSchemaRightUptoRow.holds Try.pinned (OpenSpec.upto fnExactSchemaRightSpec)

/-- 'laws.FnExactValuesRight', WHERE WHAT IT READS IS OF BULK AT MOST 1048576: true; the input reads as it did. -/
def fnExactValuesRightUptoRow : OpenClaim := { program := "ytpbbmmapbmgijaa", sum := "c30f23e6cb9137c90293f62150144ee5ca0d4ccc74cc62c5fc6bf76dbf25bd4d", func := "loop.example/g00271/laws.FnExactValuesRight", spec := "fnExactValuesRight", unfollowed := true, recurses := true, apart := false, narrowed := true }
def FnExactValuesRightUptoSaid : Prop := fnExactValuesRightUptoRow.holds Try.pinned (OpenSpec.upto fnExactValuesRightSpec)

/-- 'laws.FnExactRowRight', WHERE WHAT IT READS IS OF BULK AT MOST 1048576: true; the input reads as it did. -/
def fnExactRowRightUptoRow : OpenClaim := { program := "ytpbbmmapbmgijaa", sum := "c30f23e6cb9137c90293f62150144ee5ca0d4ccc74cc62c5fc6bf76dbf25bd4d", func := "loop.example/g00271/laws.FnExactRowRight", spec := "fnExactRowRight", unfollowed := true, recurses := true, apart := false, narrowed := true }
def FnExactRowRightUptoSaid : Prop := fnExactRowRightUptoRow.holds Try.pinned (OpenSpec.upto fnExactRowRightSpec)

end Rows
end Go.Proofs.Ytpbbmmapbmgijaa
