/-
  NumOut as a value, and as a result in its block.
-/
import Derived.Test.YtbainombjfginaaDoorRows
import Derived.Test.YtbainombjfginaaDoorOut3
namespace Go.Proofs.YtbainombjfginaaDoor
open Go.RowKit

def nOut (n a c : Int) : Value := .agg #[.int .i64 n, .int .i64 a, .int .i64 c]
theorem resNum {fn : Func} {p : Tmp} (h : fn.results = #[.cell p 26]) (tmps : Array Value) (w : World) (g : Nat) (x y z : Value) (hp : tmps.getD p undef = .pointer (some ⟨g, 0, none⟩))
    (hg : w.heap[g]? = some (.cells #[x, y, z] 26 (0, 0))) : (results fn tmps).run Tryd.prog w = .ok (.agg #[x, y, z]) w :=
  results_cell_row h tmps w g 26 #[x, y, z] (0, 0) _ hp hg Tryd.underlying26 rfl (by kernel_rfl)
end Go.Proofs.YtbainombjfginaaDoor
