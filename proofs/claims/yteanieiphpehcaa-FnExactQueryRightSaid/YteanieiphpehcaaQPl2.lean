/-
  When a query is right, as the specification asks. Plain laws.
-/
import Derived.Test.YteanieiphpehcaaQPl
namespace Go.Proofs.Yteanieiphpehcaa
open Go.RowKit
set_option maxRecDepth 100000

/-- An item of a query, as the specification asks of it. -/
def itemSp (g : ByteArray) (xg : Bool) (x : Itm) : Bool := itemOk x && !(decide (x.agg = 0) && (xg && decide (x.col ≠ g)))
def itemsSp (q : Qry) : Bool := decide (1 ≤ q.items.length) && decide (q.items.length ≤ 10) && upto (fun i => itemSp q.group (groupedB q) (q.items.getD i noItm)) q.items.length
def qSp (q : Qry) : Bool :=
  itemsSp q && (nameOk q.table.data.toList && (decide (q.wh.length ≤ 20) && limitOk q.limit)) && (joinOk q && (upto (fun i => termOk (q.wh.getD i noTrm)) q.wh.length &&
    ((colNone q.group && (colNone q.order && (decide (q.order.size ≠ 0) || !q.down))) && (!groupedB q || (decide (q.order.size = 0) || decide (q.order = q.group))))))
theorem upto_and (p r : Nat → Bool) (n : Nat) : upto (fun i => p i && r i) n = (upto p n && upto r n) := by
  induction n with
  | zero => rfl
  | succ k ih => rw [upto_succ, upto_succ, upto_succ, ih]; cases upto p k <;> cases upto r k <;> cases p k <;> cases r k <;> rfl
theorem upto_true (n : Nat) : upto (fun _ => true) n = true := (upto_iff _ _).2 fun _ _ => rfl
theorem upto_congr {p r : Nat → Bool} (h : ∀ i, p i = r i) (n : Nat) : upto p n = upto r n := by rw [show p = r from funext h]
theorem itemsSp_eq (q : Qry) : itemsSp q = (itemsOk q.items && (!groupedB q || upto (fun i => itemIn q.group (q.items.getD i noItm)) q.items.length)) := by
  unfold itemsSp itemsOk
  cases hg : groupedB q with
  | false =>
    rw [upto_congr (r := fun i => itemOk (q.items.getD i noItm)) (fun i => by simp [itemSp])]
    simp
  | true =>
    rw [upto_congr (r := fun i => itemOk (q.items.getD i noItm) && itemIn q.group (q.items.getD i noItm)) (fun i => by simp [itemSp, itemIn]), upto_and]
    cases decide (1 ≤ q.items.length) <;> cases decide (q.items.length ≤ 10) <;> cases upto (fun i => itemOk (q.items.getD i noItm)) q.items.length <;> cases upto (fun i => itemIn q.group (q.items.getD i noItm)) q.items.length <;> rfl
theorem qSp_eq (q : Qry) : qSp q = qOk q := by
  unfold qSp qOk groupOk orderOk whereOk
  rw [itemsSp_eq]
  generalize itemsOk q.items = x1
  generalize groupedB q = x2
  generalize upto (fun i => itemIn q.group (q.items.getD i noItm)) q.items.length = x3
  generalize nameOk q.table.data.toList = x4
  generalize decide (q.wh.length ≤ 20) = x5
  generalize limitOk q.limit = x6
  generalize joinOk q = x7
  generalize upto (fun i => termOk (q.wh.getD i noTrm)) q.wh.length = x8
  generalize colNone q.group = x9
  generalize colNone q.order = xa
  generalize (decide (q.order.size ≠ 0) || !q.down) = xb
  generalize (decide (q.order.size = 0) || decide (q.order = q.group)) = xc
  revert x1 x2 x3 x4 x5 x6 x7 x8 x9 xa xb xc
  decide
theorem emp_tlS {s : ByteArray} (h : s.size = 0) : s.toList.isEmpty = true := by
  have : s.toList = [] := by rw [ByteArray.toList_eq]; exact List.eq_nil_of_length_eq_zero h
  rw [this]; rfl
theorem emp_neS {s : ByteArray} (h : ¬ s.size = 0) : s.toList.isEmpty = false := by
  rw [Bool.eq_false_iff]
  intro e
  rw [List.isEmpty_iff, ByteArray.toList_eq] at e
  exact h (by rw [ba_size, e]; rfl)
theorem str_neS {s t : ByteArray} (h : ¬ s = t) : (s.toList == t.toList) = false := by
  rw [beq_eq_false_iff_ne]
  intro e
  rw [ByteArray.toList_eq, ByteArray.toList_eq] at e
  exact h (ba_ext e)
end Go.Proofs.Yteanieiphpehcaa
