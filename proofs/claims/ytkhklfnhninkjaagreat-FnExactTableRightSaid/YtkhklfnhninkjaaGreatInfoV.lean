/-
  What a value's type is laid as.
-/
import Derived.Test.YtkhklfnhninkjaaGreatRows
import Derived.WalkKit
namespace Go.Proofs.YtkhklfnhninkjaaGreat
open Go.RowKit
theorem Tryz.infoVal : (Tryz.prog.info? 72).map (fun i => (i.zero, i.size, i.bytes)) = some (some (.agg #[.int .i64 0, .int .i64 0, .string ⟨#[]⟩]), 3, 32) := by kernel_rfl
end Go.Proofs.YtkhklfnhninkjaaGreat
