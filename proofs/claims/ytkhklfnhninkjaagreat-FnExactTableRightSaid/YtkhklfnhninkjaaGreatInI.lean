/-
  A number of 64 bits.
-/
import Derived.Test.YtkhklfnhninkjaaGreatBase
namespace Go.Proofs.YtkhklfnhninkjaaGreat
open Go.RowKit
def inI64 (x : Int) : Prop := -9223372036854775808 ≤ x ∧ x ≤ 9223372036854775807
end Go.Proofs.YtkhklfnhninkjaaGreat
