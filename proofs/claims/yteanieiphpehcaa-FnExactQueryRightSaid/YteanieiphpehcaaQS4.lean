/-
  Contract: is a query right? The specification's answer.
-/
import Derived.Test.YteanieiphpehcaaQS4e
import Derived.Test.YteanieiphpehcaaQS4n
namespace Go.Proofs.Yteanieiphpehcaa
open Go.RowKit
set_option maxRecDepth 100000

theorem specQuery_any (A B : Nat) (q : Qry) (a1 : Option Addr) (c1 : Nat) (a2 : Option Addr) (c2 : Nat) (w : World) (hB : B ≤ w.heap.size) (hs : q.small) (h1 : ItmRow w A B a1 q.items) (h2 : TrmRow w A B a2 q.wh) :
    Calls Try.prog 13 #[.agg #[.slice a1 q.items.length c1, .string q.table, .string q.join, .string q.left, .string q.right, .slice a2 q.wh.length c2, .string q.group, .string q.order, .bool q.down, .int .i64 q.limit]] w fun e w' => e = .returned (.bool (qOk q)) ∧ Below w.heap.size w w' := by
  by_cases hj : q.join.size = 0
  · exact specQuery_e A B q a1 c1 a2 c2 w hB hs h1 h2 hj
  · exact specQuery_n A B q a1 c1 a2 c2 w hB hs h1 h2 hj
end Go.Proofs.Yteanieiphpehcaa
