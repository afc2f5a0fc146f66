/-
  TextOut as a value, and as a result in its block.
-/
import Derived.Test.YtbainombjfginaaRows
import Derived.Test.YtbainombjfginaaOut3
namespace Go.Proofs.Ytbainombjfginaa
open Go.RowKit

def tOut (t : ByteArray) (at' code : Int) : Value := .agg #[.string t, .int .i64 at', .int .i64 code]
theorem resOut {fn : Func} {p : Tmp} (h : fn.results = #[.cell p 27]) (tmps : Array Value) (w : World) (g : Nat) (x y z : Value) (hp : tmps.getD p undef = .pointer (some ⟨g, 0, none⟩))
    (hg : w.heap[g]? = some (.cells #[x, y, z] 27 (0, 0))) : (results fn tmps).run Try.prog w = .ok (.agg #[x, y, z]) w :=
  results_cell_row h tmps w g 27 #[x, y, z] (0, 0) _ hp hg Try.underlying27 rfl (by kernel_rfl)
end Go.Proofs.Ytbainombjfginaa
