/-
  A law's argument that is a number.
-/
import Derived.Test.YthglidcfbdigiaaDkRead
import Derived.Test.YthglidcfbdigiaaDkSec
import Derived.Test.YthglidcfbdigiaaDkTo2
import Derived.Test.YthglidcfbdigiaaDkMark5
namespace Go.Proofs.Ythglidcfbdigiaa
open Go.RowKit
set_option maxRecDepth 100000

theorem rdInt {H : Type} {enc : TypeId × Value → H} {W : World} {base : Nat} {v : Value} {d : DataW H} {p : List MemPlace} (hv : Value.okWide Try.prog W .any base 2 v) (h : DataW.Trod enc Try.prog W 0 (fun _ => true) true 2 v d p) : ∃ n : Int, v = .int .i64 n ∧ wI64 n := by
  obtain ⟨n, e, _, _, hw⟩ := Go.ChangeShapes.open_int Try.underlying2 hv h
  exact ⟨n, e, bounds_i64 hw⟩
end Go.Proofs.Ythglidcfbdigiaa
