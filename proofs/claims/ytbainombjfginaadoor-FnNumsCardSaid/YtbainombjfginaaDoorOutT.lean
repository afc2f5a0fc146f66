/-
  TextOut as a value, and as a result in its block.
-/
import Derived.Test.YtbainombjfginaaDoorRows
import Derived.Test.YtbainombjfginaaDoorOut3
namespace Go.Proofs.YtbainombjfginaaDoor
open Go.RowKit

def tOut (t : ByteArray) (at' code : Int) : Value := .agg #[.string t, .int .i64 at', .int .i64 code]
theorem resOut {fn : Func} {p : Tmp} (h : fn.results = #[.cell p 31]) (tmps : Array Value) (w : World) (g : Nat) (x y z : Value) (hp : tmps.getD p undef = .pointer (some ⟨g, 0, none⟩))
    (hg : w.heap[g]? = some (.cells #[x, y, z] 31 (0, 0))) : (results fn tmps).run Tryd.prog w = .ok (.agg #[x, y, z]) w :=
  results_cell_row h tmps w g 31 #[x, y, z] (0, 0) _ hp hg Tryd.underlying31 rfl (by kernel_rfl)
end Go.Proofs.YtbainombjfginaaDoor
