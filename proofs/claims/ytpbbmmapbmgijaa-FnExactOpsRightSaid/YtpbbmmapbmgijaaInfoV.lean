/-
  What a value's type is laid as.
-/
import Derived.Test.YtpbbmmapbmgijaaRows
import Derived.WalkKit
namespace Go.Proofs.Ytpbbmmapbmgijaa
open Go.RowKit
theorem Try.infoVal : (Try.prog.info? 82).map (fun i => (i.zero, i.size, i.bytes)) = some (some (.agg #[.int .i64 0, .int .i64 0, .string ⟨#[]⟩]), 3, 32) := by kernel_rfl
end Go.Proofs.Ytpbbmmapbmgijaa
