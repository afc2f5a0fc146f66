/-
  Bytes that a call itself made, turned into a text.
-/
import Derived.Test.YtkhklfnhninkjaaGreatRows
import Derived.Test.YtkhklfnhninkjaaGreatPlain
import Derived.WalkKit
import Derived.WalkLawsBesides
import Derived.Laws.BytesArg
import Derived.Maps.AppendAt
namespace Go.Proofs.YtkhklfnhninkjaaGreat
open Go.RowKit

theorem Tryz.infoU8 : (Tryz.prog.info? 5).map (fun i => (i.zero, i.size, i.bytes)) = some (some (.int .u8 0), 1, 1) := by kernel_rfl

theorem convOwn {W : World} {base n : Nat} {v : Value} {xs : List Int} (h : W.ownsRow base 5 1 v n (xs.map (Value.int .u8))) :
    (convert 109 9 v).run Tryz.prog W = .ok (.string (strOfNums xs)) W := by
  have hx : xs.length = n := by simpa using h.1
  rcases h.2 with ⟨rfl, rfl⟩ | ⟨g, cap, cur, rfl, hb, hg, hn, hm, hs, ht⟩
  · obtain rfl : xs = [] := List.eq_nil_of_length_eq_zero hx
    exact run_convert_bytes_nil _ 109 5 Tryz.underlying109 Tryz.underlying5 0 0 9 Tryz.underlying9
  · refine run_convert_bytes_arg _ 109 5 Tryz.underlying109 Tryz.underlying5 g 0 n cap xs hx (fun i hi => ?_) 9 Tryz.underlying9
    have hc := World.ownsRow.cellAt h i (by omega)
    rw [Nat.zero_add, hc]
    simp [List.getElem?_eq_getElem (show i < xs.length by omega)]
end Go.Proofs.YtkhklfnhninkjaaGreat
