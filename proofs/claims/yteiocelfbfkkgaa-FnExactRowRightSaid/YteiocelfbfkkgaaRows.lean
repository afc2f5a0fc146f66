/-
  NARROWER THAN 'FOR EVERY INPUT', by the rows' own cells (each row's printed sentence says how): FnExactTreeRight: loops · FnExactTreeSize: loops · FnExactTreeHeight: loops · FnExactTreeGet: loops · FnExactTreePut: loops · FnExactTreeDel: loops · FnExactTreeRange: loops.
  DERIVED. THE GIVEN ROWS OF THIS SEAT. 17 by the template 'for every input the law returns true; each argument reads behind the call as it read before'; 0 by the template 'total and deterministic' (their statements: YteiocelfbfkkgaaTotals.lean).
  GIVEN WITH THE SEED: the statements are not yours to turn. If you find one false, say at which input.
  Laid BY PROGRAM, IN A SANDBOX (cutbox-rows.mjs): the forced cells as the released guide's own fill.sh prints them over the translation d0653066e8351a57… (all of the seat's roots in one cut). By AI agents, Wed Nov 11 2026. No macro, syntax, notation, axiom, sorry.
-/
import Derived.Test.YteiocelfbfkkgaaChecked
import GoSem.Claim
import GoSem.ClaimJoined
import GoSem.ClaimMapViews
import Derived.JoinedTies
import Derived.KernelRfl
namespace Go.Proofs.Yteiocelfbfkkgaa
/- THE CELL 'sum', in the pinned program and in every row, IS THE sha256 OF THE DUMP (.gsa) THAT YteiocelfbfkkgaaProg.lean LOADS. Nothing in Lean hashes anything: it is a label: what it is worth is what the hold of that sum in a sandbox is worth. -/
noncomputable def Try.pinned : Pinned := { name := "yteiocelfbfkkgaa", sum := "d0653066e8351a57ccefd9c8d0ca608afc4afcb2badfbb666307ddf144cd8635", checked := Try.checked }
namespace Rows
def none {H : Type} : Left H := { results := [], args := [] }

/-- 'laws.FnSchema': WHATEVER THE INPUT: true; the input reads as it did. -/
def fnSchemaSpec : ChangeSpec := { name := "fnSchema", fn := fun _ => fun
  | [d1, d2] => { results := [.lit (.bool true)], args := [d1, d2] }
  | _ => none }
def fnSchemaRow : OpenClaim := { program := "yteiocelfbfkkgaa", sum := "d0653066e8351a57ccefd9c8d0ca608afc4afcb2badfbb666307ddf144cd8635", func := "loop.example/g00271/laws.FnSchema", spec := "fnSchema", inPlace := ["internal/abi.NoEscape"], unfollowed := true, recurses := true, apart := false }
def FnSchemaSaid : Prop := fnSchemaRow.holds Try.pinned (OpenSpec.ofChange fnSchemaSpec)

/-- ITS FALSE NEIGHBOUR: 'it returns false'. Refute it at one input. -/
def fnSchemaWrong : ChangeSpec := { name := "fnSchema", fn := fun _ => fun
  | [d1, d2] => { results := [.lit (.bool false)], args := [d1, d2] }
  | _ => none }
def FnSchemaWrongFalsely : Prop := fnSchemaRow.holds Try.pinned (OpenSpec.ofChange fnSchemaWrong)

/-- 'laws.FnTree': WHATEVER THE INPUT: true; the input reads as it did. -/
def fnTreeSpec : ChangeSpec := { name := "fnTree", fn := fun _ => fun
  | [d1, d2] => { results := [.lit (.bool true)], args := [d1, d2] }
  | _ => none }
def fnTreeRow : OpenClaim := { program := "yteiocelfbfkkgaa", sum := "d0653066e8351a57ccefd9c8d0ca608afc4afcb2badfbb666307ddf144cd8635", func := "loop.example/g00271/laws.FnTree", spec := "fnTree", inPlace := ["slices.overlaps[string]", "slices.overlaps[loop.example/g00271/impl.Tree]"], unfollowed := true, recurses := true, apart := false }
def FnTreeSaid : Prop := fnTreeRow.holds Try.pinned (OpenSpec.ofChange fnTreeSpec)

/-- ITS FALSE NEIGHBOUR: 'it returns false'. Refute it at one input. -/
def fnTreeWrong : ChangeSpec := { name := "fnTree", fn := fun _ => fun
  | [d1, d2] => { results := [.lit (.bool false)], args := [d1, d2] }
  | _ => none }
def FnTreeWrongFalsely : Prop := fnTreeRow.holds Try.pinned (OpenSpec.ofChange fnTreeWrong)

/-- 'laws.FnRange': WHATEVER THE INPUT: true; the input reads as it did. -/
def fnRangeSpec : ChangeSpec := { name := "fnRange", fn := fun _ => fun
  | [d] => { results := [.lit (.bool true)], args := [d] }
  | _ => none }
def fnRangeRow : OpenClaim := { program := "yteiocelfbfkkgaa", sum := "d0653066e8351a57ccefd9c8d0ca608afc4afcb2badfbb666307ddf144cd8635", func := "loop.example/g00271/laws.FnRange", spec := "fnRange", unfollowed := true, recurses := true, apart := false }
def FnRangeSaid : Prop := fnRangeRow.holds Try.pinned (OpenSpec.ofChange fnRangeSpec)

/-- ITS FALSE NEIGHBOUR: 'it returns false'. Refute it at one input. -/
def fnRangeWrong : ChangeSpec := { name := "fnRange", fn := fun _ => fun
  | [d] => { results := [.lit (.bool false)], args := [d] }
  | _ => none }
def FnRangeWrongFalsely : Prop := fnRangeRow.holds Try.pinned (OpenSpec.ofChange fnRangeWrong)

/-- 'laws.FnExactSchemaRight': WHATEVER THE INPUT: true; the input reads as it did. -/
def fnExactSchemaRightSpec : ChangeSpec := { name := "fnExactSchemaRight", fn := fun _ => fun
  | [d] => { results := [.lit (.bool true)], args := [d] }
  | _ => none }
def fnExactSchemaRightRow : OpenClaim := { program := "yteiocelfbfkkgaa", sum := "d0653066e8351a57ccefd9c8d0ca608afc4afcb2badfbb666307ddf144cd8635", func := "loop.example/g00271/laws.FnExactSchemaRight", spec := "fnExactSchemaRight", apart := false }
def FnExactSchemaRightSaid : Prop := fnExactSchemaRightRow.holds Try.pinned (OpenSpec.ofChange fnExactSchemaRightSpec)

/-- ITS FALSE NEIGHBOUR: 'it returns false'. Refute it at one input. -/
def fnExactSchemaRightWrong : ChangeSpec := { name := "fnExactSchemaRight", fn := fun _ => fun
  | [d] => { results := [.lit (.bool false)], args := [d] }
  | _ => none }
def FnExactSchemaRightWrongFalsely : Prop := fnExactSchemaRightRow.holds Try.pinned (OpenSpec.ofChange fnExactSchemaRightWrong)

/-- 'laws.FnExactSchemaBytes': WHATEVER THE INPUT: true; the input reads as it did. -/
def fnExactSchemaBytesSpec : ChangeSpec := { name := "fnExactSchemaBytes", fn := fun _ => fun
  | [d] => { results := [.lit (.bool true)], args := [d] }
  | _ => none }
def fnExactSchemaBytesRow : OpenClaim := { program := "yteiocelfbfkkgaa", sum := "d0653066e8351a57ccefd9c8d0ca608afc4afcb2badfbb666307ddf144cd8635", func := "loop.example/g00271/laws.FnExactSchemaBytes", spec := "fnExactSchemaBytes", inPlace := ["internal/abi.NoEscape"], apart := false }
def FnExactSchemaBytesSaid : Prop := fnExactSchemaBytesRow.holds Try.pinned (OpenSpec.ofChange fnExactSchemaBytesSpec)

/-- ITS FALSE NEIGHBOUR: 'it returns false'. Refute it at one input. -/
def fnExactSchemaBytesWrong : ChangeSpec := { name := "fnExactSchemaBytes", fn := fun _ => fun
  | [d] => { results := [.lit (.bool false)], args := [d] }
  | _ => none }
def FnExactSchemaBytesWrongFalsely : Prop := fnExactSchemaBytesRow.holds Try.pinned (OpenSpec.ofChange fnExactSchemaBytesWrong)

/-- 'laws.FnExactSchemaRead': WHATEVER THE INPUT: true; the input reads as it did. -/
def fnExactSchemaReadSpec : ChangeSpec := { name := "fnExactSchemaRead", fn := fun _ => fun
  | [d] => { results := [.lit (.bool true)], args := [d] }
  | _ => none }
def fnExactSchemaReadRow : OpenClaim := { program := "yteiocelfbfkkgaa", sum := "d0653066e8351a57ccefd9c8d0ca608afc4afcb2badfbb666307ddf144cd8635", func := "loop.example/g00271/laws.FnExactSchemaRead", spec := "fnExactSchemaRead", apart := false }
def FnExactSchemaReadSaid : Prop := fnExactSchemaReadRow.holds Try.pinned (OpenSpec.ofChange fnExactSchemaReadSpec)

/-- ITS FALSE NEIGHBOUR: 'it returns false'. Refute it at one input. -/
def fnExactSchemaReadWrong : ChangeSpec := { name := "fnExactSchemaRead", fn := fun _ => fun
  | [d] => { results := [.lit (.bool false)], args := [d] }
  | _ => none }
def FnExactSchemaReadWrongFalsely : Prop := fnExactSchemaReadRow.holds Try.pinned (OpenSpec.ofChange fnExactSchemaReadWrong)

/-- 'laws.FnExactColumnOf': WHATEVER THE INPUT: true; the input reads as it did. -/
def fnExactColumnOfSpec : ChangeSpec := { name := "fnExactColumnOf", fn := fun _ => fun
  | [d1, d2] => { results := [.lit (.bool true)], args := [d1, d2] }
  | _ => none }
def fnExactColumnOfRow : OpenClaim := { program := "yteiocelfbfkkgaa", sum := "d0653066e8351a57ccefd9c8d0ca608afc4afcb2badfbb666307ddf144cd8635", func := "loop.example/g00271/laws.FnExactColumnOf", spec := "fnExactColumnOf", apart := false }
def FnExactColumnOfSaid : Prop := fnExactColumnOfRow.holds Try.pinned (OpenSpec.ofChange fnExactColumnOfSpec)

/-- ITS FALSE NEIGHBOUR: 'it returns false'. Refute it at one input. -/
def fnExactColumnOfWrong : ChangeSpec := { name := "fnExactColumnOf", fn := fun _ => fun
  | [d1, d2] => { results := [.lit (.bool false)], args := [d1, d2] }
  | _ => none }
def FnExactColumnOfWrongFalsely : Prop := fnExactColumnOfRow.holds Try.pinned (OpenSpec.ofChange fnExactColumnOfWrong)

/-- 'laws.FnExactRowRight': WHATEVER THE INPUT: true; the input reads as it did. -/
def fnExactRowRightSpec : ChangeSpec := { name := "fnExactRowRight", fn := fun _ => fun
  | [d1, d2] => { results := [.lit (.bool true)], args := [d1, d2] }
  | _ => none }
def fnExactRowRightRow : OpenClaim := { program := "yteiocelfbfkkgaa", sum := "d0653066e8351a57ccefd9c8d0ca608afc4afcb2badfbb666307ddf144cd8635", func := "loop.example/g00271/laws.FnExactRowRight", spec := "fnExactRowRight", unfollowed := true, recurses := true, apart := false }
def FnExactRowRightSaid : Prop := fnExactRowRightRow.holds Try.pinned (OpenSpec.ofChange fnExactRowRightSpec)

/-- ITS FALSE NEIGHBOUR: 'it returns false'. Refute it at one input. -/
def fnExactRowRightWrong : ChangeSpec := { name := "fnExactRowRight", fn := fun _ => fun
  | [d1, d2] => { results := [.lit (.bool false)], args := [d1, d2] }
  | _ => none }
def FnExactRowRightWrongFalsely : Prop := fnExactRowRightRow.holds Try.pinned (OpenSpec.ofChange fnExactRowRightWrong)

/-- 'laws.FnExactPick': WHATEVER THE INPUT: true; the input reads as it did. -/
def fnExactPickSpec : ChangeSpec := { name := "fnExactPick", fn := fun _ => fun
  | [d1, d2] => { results := [.lit (.bool true)], args := [d1, d2] }
  | _ => none }
def fnExactPickRow : OpenClaim := { program := "yteiocelfbfkkgaa", sum := "d0653066e8351a57ccefd9c8d0ca608afc4afcb2badfbb666307ddf144cd8635", func := "loop.example/g00271/laws.FnExactPick", spec := "fnExactPick", unfollowed := true, recurses := true, apart := false }
def FnExactPickSaid : Prop := fnExactPickRow.holds Try.pinned (OpenSpec.ofChange fnExactPickSpec)

/-- ITS FALSE NEIGHBOUR: 'it returns false'. Refute it at one input. -/
def fnExactPickWrong : ChangeSpec := { name := "fnExactPick", fn := fun _ => fun
  | [d1, d2] => { results := [.lit (.bool false)], args := [d1, d2] }
  | _ => none }
def FnExactPickWrongFalsely : Prop := fnExactPickRow.holds Try.pinned (OpenSpec.ofChange fnExactPickWrong)

/-- 'laws.FnExactTreeRight': WHATEVER THE INPUT: true; the input reads as it did. -/
def fnExactTreeRightSpec : ChangeSpec := { name := "fnExactTreeRight", fn := fun _ => fun
  | [d] => { results := [.lit (.bool true)], args := [d] }
  | _ => none }
def fnExactTreeRightRow : OpenClaim := { program := "yteiocelfbfkkgaa", sum := "d0653066e8351a57ccefd9c8d0ca608afc4afcb2badfbb666307ddf144cd8635", func := "loop.example/g00271/laws.FnExactTreeRight", spec := "fnExactTreeRight", unfollowed := true, recurses := true, loops := true, apart := false }
def FnExactTreeRightSaid : Prop := fnExactTreeRightRow.holds Try.pinned (OpenSpec.ofChange fnExactTreeRightSpec)

/-- ITS FALSE NEIGHBOUR: 'it returns false'. Refute it at one input. -/
def fnExactTreeRightWrong : ChangeSpec := { name := "fnExactTreeRight", fn := fun _ => fun
  | [d] => { results := [.lit (.bool false)], args := [d] }
  | _ => none }
def FnExactTreeRightWrongFalsely : Prop := fnExactTreeRightRow.holds Try.pinned (OpenSpec.ofChange fnExactTreeRightWrong)

/-- 'laws.FnExactTreeSize': WHATEVER THE INPUT: true; the input reads as it did. -/
def fnExactTreeSizeSpec : ChangeSpec := { name := "fnExactTreeSize", fn := fun _ => fun
  | [d] => { results := [.lit (.bool true)], args := [d] }
  | _ => none }
def fnExactTreeSizeRow : OpenClaim := { program := "yteiocelfbfkkgaa", sum := "d0653066e8351a57ccefd9c8d0ca608afc4afcb2badfbb666307ddf144cd8635", func := "loop.example/g00271/laws.FnExactTreeSize", spec := "fnExactTreeSize", unfollowed := true, recurses := true, loops := true, apart := false }
def FnExactTreeSizeSaid : Prop := fnExactTreeSizeRow.holds Try.pinned (OpenSpec.ofChange fnExactTreeSizeSpec)

/-- ITS FALSE NEIGHBOUR: 'it returns false'. Refute it at one input. -/
def fnExactTreeSizeWrong : ChangeSpec := { name := "fnExactTreeSize", fn := fun _ => fun
  | [d] => { results := [.lit (.bool false)], args := [d] }
  | _ => none }
def FnExactTreeSizeWrongFalsely : Prop := fnExactTreeSizeRow.holds Try.pinned (OpenSpec.ofChange fnExactTreeSizeWrong)

/-- 'laws.FnExactTreeHeight': WHATEVER THE INPUT: true; the input reads as it did. -/
def fnExactTreeHeightSpec : ChangeSpec := { name := "fnExactTreeHeight", fn := fun _ => fun
  | [d] => { results := [.lit (.bool true)], args := [d] }
  | _ => none }
def fnExactTreeHeightRow : OpenClaim := { program := "yteiocelfbfkkgaa", sum := "d0653066e8351a57ccefd9c8d0ca608afc4afcb2badfbb666307ddf144cd8635", func := "loop.example/g00271/laws.FnExactTreeHeight", spec := "fnExactTreeHeight", unfollowed := true, recurses := true, loops := true, apart := false }
def FnExactTreeHeightSaid : Prop := fnExactTreeHeightRow.holds Try.pinned (OpenSpec.ofChange fnExactTreeHeightSpec)

/-- ITS FALSE NEIGHBOUR: 'it returns false'. Refute it at one input. -/
def fnExactTreeHeightWrong : ChangeSpec := { name := "fnExactTreeHeight", fn := fun _ => fun
  | [d] => { results := [.lit (.bool false)], args := [d] }
  | _ => none }
def FnExactTreeHeightWrongFalsely : Prop := fnExactTreeHeightRow.holds Try.pinned (OpenSpec.ofChange fnExactTreeHeightWrong)

/-- 'laws.FnExactTreeGet': WHATEVER THE INPUT: true; the input reads as it did. -/
def fnExactTreeGetSpec : ChangeSpec := { name := "fnExactTreeGet", fn := fun _ => fun
  | [d1, d2] => { results := [.lit (.bool true)], args := [d1, d2] }
  | _ => none }
def fnExactTreeGetRow : OpenClaim := { program := "yteiocelfbfkkgaa", sum := "d0653066e8351a57ccefd9c8d0ca608afc4afcb2badfbb666307ddf144cd8635", func := "loop.example/g00271/laws.FnExactTreeGet", spec := "fnExactTreeGet", unfollowed := true, recurses := true, loops := true, apart := false }
def FnExactTreeGetSaid : Prop := fnExactTreeGetRow.holds Try.pinned (OpenSpec.ofChange fnExactTreeGetSpec)

/-- ITS FALSE NEIGHBOUR: 'it returns false'. Refute it at one input. -/
def fnExactTreeGetWrong : ChangeSpec := { name := "fnExactTreeGet", fn := fun _ => fun
  | [d1, d2] => { results := [.lit (.bool false)], args := [d1, d2] }
  | _ => none }
def FnExactTreeGetWrongFalsely : Prop := fnExactTreeGetRow.holds Try.pinned (OpenSpec.ofChange fnExactTreeGetWrong)

/-- 'laws.FnExactTreePut': WHATEVER THE INPUT: true; the input reads as it did. -/
def fnExactTreePutSpec : ChangeSpec := { name := "fnExactTreePut", fn := fun _ => fun
  | [d1, d2, d3] => { results := [.lit (.bool true)], args := [d1, d2, d3] }
  | _ => none }
def fnExactTreePutRow : OpenClaim := { program := "yteiocelfbfkkgaa", sum := "d0653066e8351a57ccefd9c8d0ca608afc4afcb2badfbb666307ddf144cd8635", func := "loop.example/g00271/laws.FnExactTreePut", spec := "fnExactTreePut", inPlace := ["slices.overlaps[string]", "slices.overlaps[loop.example/g00271/impl.Tree]"], unfollowed := true, recurses := true, loops := true, apart := false }
def FnExactTreePutSaid : Prop := fnExactTreePutRow.holds Try.pinned (OpenSpec.ofChange fnExactTreePutSpec)

/-- ITS FALSE NEIGHBOUR: 'it returns false'. Refute it at one input. -/
def fnExactTreePutWrong : ChangeSpec := { name := "fnExactTreePut", fn := fun _ => fun
  | [d1, d2, d3] => { results := [.lit (.bool false)], args := [d1, d2, d3] }
  | _ => none }
def FnExactTreePutWrongFalsely : Prop := fnExactTreePutRow.holds Try.pinned (OpenSpec.ofChange fnExactTreePutWrong)

/-- 'laws.FnExactTreeDel': WHATEVER THE INPUT: true; the input reads as it did. -/
def fnExactTreeDelSpec : ChangeSpec := { name := "fnExactTreeDel", fn := fun _ => fun
  | [d1, d2] => { results := [.lit (.bool true)], args := [d1, d2] }
  | _ => none }
def fnExactTreeDelRow : OpenClaim := { program := "yteiocelfbfkkgaa", sum := "d0653066e8351a57ccefd9c8d0ca608afc4afcb2badfbb666307ddf144cd8635", func := "loop.example/g00271/laws.FnExactTreeDel", spec := "fnExactTreeDel", inPlace := ["slices.overlaps[string]", "slices.overlaps[loop.example/g00271/impl.Tree]"], unfollowed := true, recurses := true, loops := true, apart := false }
def FnExactTreeDelSaid : Prop := fnExactTreeDelRow.holds Try.pinned (OpenSpec.ofChange fnExactTreeDelSpec)

/-- ITS FALSE NEIGHBOUR: 'it returns false'. Refute it at one input. -/
def fnExactTreeDelWrong : ChangeSpec := { name := "fnExactTreeDel", fn := fun _ => fun
  | [d1, d2] => { results := [.lit (.bool false)], args := [d1, d2] }
  | _ => none }
def FnExactTreeDelWrongFalsely : Prop := fnExactTreeDelRow.holds Try.pinned (OpenSpec.ofChange fnExactTreeDelWrong)

/-- 'laws.FnExactTreeRange': WHATEVER THE INPUT: true; the input reads as it did. -/
def fnExactTreeRangeSpec : ChangeSpec := { name := "fnExactTreeRange", fn := fun _ => fun
  | [d1, d2, d3] => { results := [.lit (.bool true)], args := [d1, d2, d3] }
  | _ => none }
def fnExactTreeRangeRow : OpenClaim := { program := "yteiocelfbfkkgaa", sum := "d0653066e8351a57ccefd9c8d0ca608afc4afcb2badfbb666307ddf144cd8635", func := "loop.example/g00271/laws.FnExactTreeRange", spec := "fnExactTreeRange", unfollowed := true, recurses := true, loops := true, apart := false }
def FnExactTreeRangeSaid : Prop := fnExactTreeRangeRow.holds Try.pinned (OpenSpec.ofChange fnExactTreeRangeSpec)

/-- ITS FALSE NEIGHBOUR: 'it returns false'. Refute it at one input. -/
def fnExactTreeRangeWrong : ChangeSpec := { name := "fnExactTreeRange", fn := fun _ => fun
  | [d1, d2, d3] => { results := [.lit (.bool false)], args := [d1, d2, d3] }
  | _ => none }
def FnExactTreeRangeWrongFalsely : Prop := fnExactTreeRangeRow.holds Try.pinned (OpenSpec.ofChange fnExactTreeRangeWrong)

/-- 'laws.FnExactTableNew': WHATEVER THE INPUT: true; the input reads as it did. -/
def fnExactTableNewSpec : ChangeSpec := { name := "fnExactTableNew", fn := fun _ => fun
  | [d] => { results := [.lit (.bool true)], args := [d] }
  | _ => none }
def fnExactTableNewRow : OpenClaim := { program := "yteiocelfbfkkgaa", sum := "d0653066e8351a57ccefd9c8d0ca608afc4afcb2badfbb666307ddf144cd8635", func := "loop.example/g00271/laws.FnExactTableNew", spec := "fnExactTableNew", apart := false }
def FnExactTableNewSaid : Prop := fnExactTableNewRow.holds Try.pinned (OpenSpec.ofChange fnExactTableNewSpec)

/-- ITS FALSE NEIGHBOUR: 'it returns false'. Refute it at one input. -/
def fnExactTableNewWrong : ChangeSpec := { name := "fnExactTableNew", fn := fun _ => fun
  | [d] => { results := [.lit (.bool false)], args := [d] }
  | _ => none }
def FnExactTableNewWrongFalsely : Prop := fnExactTableNewRow.holds Try.pinned (OpenSpec.ofChange fnExactTableNewWrong)

/- THE SECOND FORM. 'bulk': how many values and letters a reading holds, each counted each time it is reached (what is shared counts as often as it is met; a slice's spare places count too). A statement '..UptoSaid' is the law's where the arguments, and the package variables that the reading takes, are together of bulk at most 1048576: NARROWER than '..Said'. Prove '..Said' where nothing that the law and all that it calls make is longer than what came in: it says more and counts as full. Else prove '..UptoSaid'. A law counts once. -/
mutual
def uptoBulk {H : Type} : DataW H → Nat
  | .lit (.string bytes) => bytes.length + 1
  | .lit _ => 1
  | .nil => 1
  | .ptr d => uptoBulk d + 1
  | .slice elems spare => uptoBulkAll elems + uptoBulkAll spare + 1
  | .agg parts => uptoBulkAll parts + 1
  | .iface _ d => uptoBulk d + 1
  | .map entries => uptoBulkEntries entries + 1
  | .held _ => 1
def uptoBulkAll {H : Type} : List (DataW H) → Nat
  | [] => 0
  | d :: r => uptoBulk d + uptoBulkAll r
def uptoBulkEntries {H : Type} : List (Lit × DataW H) → Nat
  | [] => 0
  | x :: r => uptoBulkEntry x + uptoBulkEntries r
def uptoBulkEntry {H : Type} : Lit × DataW H → Nat
  | (.string bytes, d) => bytes.length + uptoBulk d + 1
  | (_, d) => uptoBulk d + 1
 end
def uptoSmall : (H : Type) → List (DataW H) → Bool := fun _ ds => decide (uptoBulkAll ds ≤ 1048576)
def OpenSpec.upto (s : _root_.Go.ChangeSpec) : _root_.Go.OpenSpec := { _root_.Go.OpenSpec.ofChange s with cond := some uptoSmall }

/-- 'laws.FnSchema', WHERE WHAT IT READS IS OF BULK AT MOST 1048576: true; the input reads as it did. -/
def fnSchemaUptoRow : OpenClaim := { program := "yteiocelfbfkkgaa", sum := "d0653066e8351a57ccefd9c8d0ca608afc4afcb2badfbb666307ddf144cd8635", func := "loop.example/g00271/laws.FnSchema", spec := "fnSchema", inPlace := ["internal/abi.NoEscape"], unfollowed := true, recurses := true, apart := false, narrowed := true }
def FnSchemaUptoSaid : Prop := fnSchemaUptoRow.holds Try.pinned (OpenSpec.upto fnSchemaSpec)

/-- 'laws.FnTree', WHERE WHAT IT READS IS OF BULK AT MOST 1048576: true; the input reads as it did. -/
def fnTreeUptoRow : OpenClaim := { program := "yteiocelfbfkkgaa", sum := "d0653066e8351a57ccefd9c8d0ca608afc4afcb2badfbb666307ddf144cd8635", func := "loop.example/g00271/laws.FnTree", spec := "fnTree", inPlace := ["slices.overlaps[string]", "slices.overlaps[loop.example/g00271/impl.Tree]"], unfollowed := true, recurses := true, apart := false, narrowed := true }
def FnTreeUptoSaid : Prop := fnTreeUptoRow.holds Try.pinned (OpenSpec.upto fnTreeSpec)

/-- 'laws.FnRange', WHERE WHAT IT READS IS OF BULK AT MOST 1048576: true; the input reads as it did. -/
def fnRangeUptoRow : OpenClaim := { program := "yteiocelfbfkkgaa", sum := "d0653066e8351a57ccefd9c8d0ca608afc4afcb2badfbb666307ddf144cd8635", func := "loop.example/g00271/laws.FnRange", spec := "fnRange", unfollowed := true, recurses := true, apart := false, narrowed := true }
def FnRangeUptoSaid : Prop := fnRangeUptoRow.holds Try.pinned (OpenSpec.upto fnRangeSpec)

/-- 'laws.FnExactSchemaRight', WHERE WHAT IT READS IS OF BULK AT MOST 1048576: true; the input reads as it did. -/
def fnExactSchemaRightUptoRow : OpenClaim := { program := "yteiocelfbfkkgaa", sum := "d0653066e8351a57ccefd9c8d0ca608afc4afcb2badfbb666307ddf144cd8635", func := "loop.example/g00271/laws.FnExactSchemaRight", spec := "fnExactSchemaRight", apart := false, narrowed := true }
def FnExactSchemaRightUptoSaid : Prop := fnExactSchemaRightUptoRow.holds Try.pinned (OpenSpec.upto fnExactSchemaRightSpec)

/-- 'laws.FnExactSchemaBytes', WHERE WHAT IT READS IS OF BULK AT MOST 1048576: true; the input reads as it did. -/
def fnExactSchemaBytesUptoRow : OpenClaim := { program := "yteiocelfbfkkgaa", sum := "d0653066e8351a57ccefd9c8d0ca608afc4afcb2badfbb666307ddf144cd8635", func := "loop.example/g00271/laws.FnExactSchemaBytes", spec := "fnExactSchemaBytes", inPlace := ["internal/abi.NoEscape"], apart := false, narrowed := true }
def FnExactSchemaBytesUptoSaid : Prop := fnExactSchemaBytesUptoRow.holds Try.pinned (OpenSpec.upto fnExactSchemaBytesSpec)

/-- 'laws.FnExactSchemaRead', WHERE WHAT IT READS IS OF BULK AT MOST 1048576: true; the input reads as it did. -/
def fnExactSchemaReadUptoRow : OpenClaim := { program := "yteiocelfbfkkgaa", sum := "d0653066e8351a57ccefd9c8d0ca608afc4afcb2badfbb666307ddf144cd8635", func := "loop.example/g00271/laws.FnExactSchemaRead", spec := "fnExactSchemaRead", apart := false, narrowed := true }
def FnExactSchemaReadUptoSaid : Prop := fnExactSchemaReadUptoRow.holds Try.pinned (OpenSpec.upto fnExactSchemaReadSpec)

/-- 'laws.FnExactColumnOf', WHERE WHAT IT READS IS OF BULK AT MOST 1048576: true; the input reads as it did. -/
def fnExactColumnOfUptoRow : OpenClaim := { program := "yteiocelfbfkkgaa", sum := "d0653066e8351a57ccefd9c8d0ca608afc4afcb2badfbb666307ddf144cd8635", func := "loop.example/g00271/laws.FnExactColumnOf", spec := "fnExactColumnOf", apart := false, narrowed := true }
def FnExactColumnOfUptoSaid : Prop := fnExactColumnOfUptoRow.holds Try.pinned (OpenSpec.upto fnExactColumnOfSpec)

/-- 'laws.FnExactRowRight', WHERE WHAT IT READS IS OF BULK AT MOST 1048576: true; the input reads as it did. -/
def fnExactRowRightUptoRow : OpenClaim := { program := "yteiocelfbfkkgaa", sum := "d0653066e8351a57ccefd9c8d0ca608afc4afcb2badfbb666307ddf144cd8635", func := "loop.example/g00271/laws.FnExactRowRight", spec := "fnExactRowRight", unfollowed := true, recurses := true, apart := false, narrowed := true }
def FnExactRowRightUptoSaid : Prop := fnExactRowRightUptoRow.holds Try.pinned (OpenSpec.upto fnExactRowRightSpec)

/-- 'laws.FnExactPick', WHERE WHAT IT READS IS OF BULK AT MOST 1048576: true; the input reads as it did. -/
def fnExactPickUptoRow : OpenClaim := { program := "yteiocelfbfkkgaa", sum := "d0653066e8351a57ccefd9c8d0ca608afc4afcb2badfbb666307ddf144cd8635", func := "loop.example/g00271/laws.FnExactPick", spec := "fnExactPick", unfollowed := true, recurses := true, apart := false, narrowed := true }
def FnExactPickUptoSaid : Prop := fnExactPickUptoRow.holds Try.pinned (OpenSpec.upto fnExactPickSpec)

/-- 'laws.FnExactTreeRight', WHERE WHAT IT READS IS OF BULK AT MOST 1048576: true; the input reads as it did. -/
def fnExactTreeRightUptoRow : OpenClaim := { program := "yteiocelfbfkkgaa", sum := "d0653066e8351a57ccefd9c8d0ca608afc4afcb2badfbb666307ddf144cd8635", func := "loop.example/g00271/laws.FnExactTreeRight", spec := "fnExactTreeRight", unfollowed := true, recurses := true, loops := true, apart := false, narrowed := true }
def FnExactTreeRightUptoSaid : Prop := fnExactTreeRightUptoRow.holds Try.pinned (OpenSpec.upto fnExactTreeRightSpec)

/-- 'laws.FnExactTreeSize', WHERE WHAT IT READS IS OF BULK AT MOST 1048576: true; the input reads as it did. -/
def fnExactTreeSizeUptoRow : OpenClaim := { program := "yteiocelfbfkkgaa", sum := "d0653066e8351a57ccefd9c8d0ca608afc4afcb2badfbb666307ddf144cd8635", func := "loop.example/g00271/laws.FnExactTreeSize", spec := "fnExactTreeSize", unfollowed := true, recurses := true, loops := true, apart := false, narrowed := true }
def FnExactTreeSizeUptoSaid : Prop := fnExactTreeSizeUptoRow.holds Try.pinned (OpenSpec.upto fnExactTreeSizeSpec)

/-- 'laws.FnExactTreeHeight', WHERE WHAT IT READS IS OF BULK AT MOST 1048576: true; the input reads as it did. -/
def fnExactTreeHeightUptoRow : OpenClaim := { program := "yteiocelfbfkkgaa", sum := "d0653066e8351a57ccefd9c8d0ca608afc4afcb2badfbb666307ddf144cd8635", func := "loop.example/g00271/laws.FnExactTreeHeight", spec := "fnExactTreeHeight", unfollowed := true, recurses := true, loops := true, apart := false, narrowed := true }
def FnExactTreeHeightUptoSaid : Prop := fnExactTreeHeightUptoRow.holds Try.pinned (OpenSpec.upto fnExactTreeHeightSpec)

/-- 'laws.FnExactTreeGet', WHERE WHAT IT READS IS OF BULK AT MOST 1048576: true; the input reads as it did. -/
def fnExactTreeGetUptoRow : OpenClaim := { program := "yteiocelfbfkkgaa", sum := "d0653066e8351a57ccefd9c8d0ca608afc4afcb2badfbb666307ddf144cd8635", func := "loop.example/g00271/laws.FnExactTreeGet", spec := "fnExactTreeGet", unfollowed := true, recurses := true, loops := true, apart := false, narrowed := true }
def FnExactTreeGetUptoSaid : Prop := fnExactTreeGetUptoRow.holds Try.pinned (OpenSpec.upto fnExactTreeGetSpec)

/-- 'laws.FnExactTreePut', WHERE WHAT IT READS IS OF BULK AT MOST 1048576: true; the input reads as it did. -/
def fnExactTreePutUptoRow : OpenClaim := { program := "yteiocelfbfkkgaa", sum := "d0653066e8351a57ccefd9c8d0ca608afc4afcb2badfbb666307ddf144cd8635", func := "loop.example/g00271/laws.FnExactTreePut", spec := "fnExactTreePut", inPlace := ["slices.overlaps[string]", "slices.overlaps[loop.example/g00271/impl.Tree]"], unfollowed := true, recurses := true, loops := true, apart := false, narrowed := true }
def FnExactTreePutUptoSaid : Prop := fnExactTreePutUptoRow.holds Try.pinned (OpenSpec.upto fnExactTreePutSpec)

/-- 'laws.FnExactTreeDel', WHERE WHAT IT READS IS OF BULK AT MOST 1048576: true; the input reads as it did. -/
def fnExactTreeDelUptoRow : OpenClaim := { program := "yteiocelfbfkkgaa", sum := "d0653066e8351a57ccefd9c8d0ca608afc4afcb2badfbb666307ddf144cd8635", func := "loop.example/g00271/laws.FnExactTreeDel", spec := "fnExactTreeDel", inPlace := ["slices.overlaps[string]", "slices.overlaps[loop.example/g00271/impl.Tree]"], unfollowed := true, recurses := true, loops := true, apart := false, narrowed := true }
def FnExactTreeDelUptoSaid : Prop := fnExactTreeDelUptoRow.holds Try.pinned (OpenSpec.upto fnExactTreeDelSpec)

/-- 'laws.FnExactTreeRange', WHERE WHAT IT READS IS OF BULK AT MOST 1048576: true; the input reads as it did. -/
def fnExactTreeRangeUptoRow : OpenClaim := { program := "yteiocelfbfkkgaa", sum := "d0653066e8351a57ccefd9c8d0ca608afc4afcb2badfbb666307ddf144cd8635", func := "loop.example/g00271/laws.FnExactTreeRange", spec := "fnExactTreeRange", unfollowed := true, recurses := true, loops := true, apart := false, narrowed := true }
def FnExactTreeRangeUptoSaid : Prop := fnExactTreeRangeUptoRow.holds Try.pinned (OpenSpec.upto fnExactTreeRangeSpec)

/-- 'laws.FnExactTableNew', WHERE WHAT IT READS IS OF BULK AT MOST 1048576: true; the input reads as it did. -/
def fnExactTableNewUptoRow : OpenClaim := { program := "yteiocelfbfkkgaa", sum := "d0653066e8351a57ccefd9c8d0ca608afc4afcb2badfbb666307ddf144cd8635", func := "loop.example/g00271/laws.FnExactTableNew", spec := "fnExactTableNew", apart := false, narrowed := true }
def FnExactTableNewUptoSaid : Prop := fnExactTableNewUptoRow.holds Try.pinned (OpenSpec.upto fnExactTableNewSpec)

end Rows
end Go.Proofs.Yteiocelfbfkkgaa
