/-
  Queries as they lie in memory. Plain laws.
-/
import Derived.Test.YteanieiphpehcaaItP
import Derived.Test.YteanieiphpehcaaTmP
namespace Go.Proofs.Yteanieiphpehcaa
open Go.RowKit
set_option maxRecDepth 100000

structure Qry where
  items : List Itm
  table : ByteArray
  join : ByteArray
  left : ByteArray
  right : ByteArray
  wh : List Trm
  group : ByteArray
  order : ByteArray
  down : Bool
  limit : Int
def Qry.fits (q : Qry) : Prop := q.items.length ≤ maxLen ∧ q.wh.length ≤ maxLen ∧ q.table.size ≤ maxLen ∧ q.join.size ≤ maxLen ∧ q.left.size ≤ maxLen ∧ q.right.size ≤ maxLen ∧ q.group.size ≤ maxLen ∧ q.order.size ≤ maxLen ∧ inI64 q.limit
def Qry.small (q : Qry) : Prop := q.items.length ≤ 1048576 ∧ q.wh.length ≤ 1048576 ∧ q.table.size ≤ 1048576 ∧ q.join.size ≤ 1048576 ∧ q.left.size ≤ 1048576 ∧ q.right.size ≤ 1048576 ∧ q.group.size ≤ 1048576 ∧ q.order.size ≤ 1048576 ∧ (∀ i, i < q.items.length → (q.items.getD i noItm).small) ∧ ∀ i, i < q.wh.length → (q.wh.getD i noTrm).small
def IsQry (w : World) (v : Value) : Prop := ∃ a1 c1 a2 c2, ∃ q : Qry, v = .agg #[.slice a1 q.items.length c1, .string q.table, .string q.join, .string q.left, .string q.right, .slice a2 q.wh.length c2, .string q.group, .string q.order, .bool q.down, .int .i64 q.limit] ∧ q.fits ∧ ItmRow w 0 w.heap.size a1 q.items ∧ TrmRow w 0 w.heap.size a2 q.wh
end Go.Proofs.Yteanieiphpehcaa
