/-
  DERIVED. GIVEN WITH THE SEED: THE CARDS: each row of YtffpjklceekijaaDoorRows.lean that lists a variable, with what it lists TIED to the program's text (the seventh form; the later family's looks); each row that meets fmt, with fmt's text TOLD by the authors' own Lean function (tested against real Go, not proved from fmt's source: count such statements apart). THE CARD IS WHAT COUNTS. Prove the row's statement (the work); the ties are given (YtffpjklceekijaaDoorTie.lean); close each card by the builder's one call (the guide's Derived/Test/ToyasCard.lean, 'card_holds'). Laid BY PROGRAM, IN A SANDBOX (cutbox-door.mjs). By AI agents, Wed Nov 11 2026. No macro, syntax, notation, axiom, sorry.
-/
import Derived.Test.YtffpjklceekijaaDoorRows
import GoSem.ClaimSeven
namespace Go.Proofs.YtffpjklceekijaaDoor
namespace Rows

/-- THE TIED CARD OF 'laws.FnExactKeyRead'. -/
def fnExactKeyReadCard : Claim7 := { stood := { row := fnExactKeyReadRow, standIns := [], harness := (true, "af6cade0daff1a8a60b4ba3b2d74a449106f55ce667f6913e528604a098b2da0"), looks := true }, kinds := [], alts := [], laidByText := true, laidKinds := [.handle], laidTests := true, laidLooks := .later }
def FnExactKeyReadCardSaid : Prop := Claim7.holds Tryd.pinned (.plain (OpenSpec.ofChange fnExactKeyReadSpec)) fnExactKeyReadCard

/-- THE SECOND FORM's CARD OF 'laws.FnExactKeyRead'. -/
def fnExactKeyReadUptoCard : Claim7 := { stood := { row := fnExactKeyReadUptoRow, standIns := [], harness := (true, "af6cade0daff1a8a60b4ba3b2d74a449106f55ce667f6913e528604a098b2da0"), looks := true }, kinds := [], alts := [], laidByText := true, laidKinds := [.handle], laidTests := true, laidLooks := .later }
def FnExactKeyReadUptoCardSaid : Prop := Claim7.holds Tryd.pinned (.plain (OpenSpec.upto fnExactKeyReadSpec)) fnExactKeyReadUptoCard
end Rows
end Go.Proofs.YtffpjklceekijaaDoor
