/-
  Values in a block of their own, three cells each. Plain laws.
-/
import Derived.Test.YtkhklfnhninkjaaGreatVRow
namespace Go.Proofs.YtkhklfnhninkjaaGreat
open Go.RowKit

def vCells (v : Val) : List Value := [.int .i64 v.kind, .int .i64 v.num, .string v.text]
def flatV (vs : List Val) : List Value := vs.flatMap vCells
theorem flatV_cons (v : Val) (vs : List Val) : flatV (v :: vs) = .int .i64 v.kind :: .int .i64 v.num :: .string v.text :: flatV vs := rfl
theorem flatV_append (a b : List Val) : flatV (a ++ b) = flatV a ++ flatV b := by simp [flatV]
theorem flatV_len (vs : List Val) : (flatV vs).length = vs.length * 3 := by
  induction vs with
  | nil => rfl
  | cons v r ih => rw [flatV_cons]; simp [ih]; omega
theorem flatV_get (vs : List Val) : ∀ i (h : i < vs.length), (flatV vs)[i * 3]? = some (.int .i64 vs[i].kind) ∧ (flatV vs)[i * 3 + 1]? = some (.int .i64 vs[i].num) ∧ (flatV vs)[i * 3 + 2]? = some (.string vs[i].text) := by
  induction vs with
  | nil => intro i h; simp at h
  | cons v r ih =>
    intro i h
    rw [flatV_cons]
    match i, h with
    | 0, _ => exact ⟨rfl, rfl, rfl⟩
    | i + 1, h =>
      obtain ⟨h0, h1, h2⟩ := ih i (by simpa using h)
      have e : (i + 1) * 3 = i * 3 + 1 + 1 + 1 := by omega
      rw [e]
      simp only [List.getElem?_cons_succ, List.getElem_cons_succ]
      exact ⟨h0, h1, h2⟩
/-- A block whose first cells are those of values, read as a slice of them. -/
theorem valRow_of {w : World} {g : Nat} {cur : List Value} {t : TypeId} {f : Nat × Nat} {vs : List Val} (hg : w.heap[g]? = some (.cells cur.toArray t f)) (hc : cur.take (vs.length * 3) = flatV vs) (ho : ∀ v ∈ vs, v.ok) (ht : ∀ v ∈ vs, v.text.size ≤ maxLen) :
    ValRow w w.heap.size (some ⟨g, 0, none⟩) vs := by
  have hlt : g < w.heap.size := (Array.getElem?_eq_some_iff.1 hg).1
  refine ⟨ho, ht, .inr ⟨g, 0, rfl, hlt, fun i hi => ?_⟩⟩
  have hget : ∀ j, j < vs.length * 3 → cur[j]? = (flatV vs)[j]? := fun j hj => by rw [← hc, List.getElem?_take_of_lt hj]
  obtain ⟨h0, h1, h2⟩ := flatV_get vs i hi
  refine ⟨?_, ?_, ?_⟩
  · rw [cell_of_row _ _ _ _ _ _ hg, List.getElem?_toArray, Nat.zero_add, hget _ (by omega), h0]
  · rw [cell_of_row _ _ _ _ _ _ hg, List.getElem?_toArray, Nat.zero_add, hget _ (by omega), h1]
  · rw [cell_of_row _ _ _ _ _ _ hg, List.getElem?_toArray, Nat.zero_add, hget _ (by omega), h2]
theorem set_mid (p : List Value) (x a : Value) (q : List Value) : (p ++ x :: q).set p.length a = p ++ a :: q := by
  rw [List.set_append_right _ _ (Nat.le_refl _), Nat.sub_self]; rfl
theorem set3_take (cur : List Value) (m : Nat) (a b c : Value) (h : m + 3 ≤ cur.length) : (((cur.set m a).set (m + 1) b).set (m + 2) c).take (m + 3) = cur.take m ++ [a, b, c] ∧ (((cur.set m a).set (m + 1) b).set (m + 2) c).length = cur.length := by
  refine ⟨?_, by simp⟩
  obtain ⟨p, q, rfl, hp⟩ : ∃ p q, cur = p ++ q ∧ p.length = m := ⟨cur.take m, cur.drop m, (List.take_append_drop _ _).symm, by rw [List.length_take]; omega⟩
  subst hp
  match q, h with
  | x :: y :: z :: r, _ =>
    have e1 : (p ++ a :: y :: z :: r).set (p.length + 1) b = p ++ a :: b :: z :: r := by simp
    have e2 : (p ++ a :: b :: z :: r).set (p.length + 2) c = p ++ a :: b :: c :: r := by simp
    rw [set_mid, e1, e2, List.take_left]
    have : p ++ a :: b :: c :: r = (p ++ [a, b, c]) ++ r := by simp
    rw [this, List.take_left' (by simp)]
  | [], h => exact absurd h (by simp)
  | [_], h => exact absurd h (by simp)
  | [_, _], h => exact absurd h (by simp)
theorem flatV_step (cur : List Value) (vs : List Val) (k : Nat) (hk : k < vs.length) (hl : cur.length = vs.length * 3) (hc : cur.take (k * 3) = flatV (vs.take k)) (a : Int) (b : Int) (t : ByteArray) (hv : vs[k] = ⟨a, b, t⟩) :
    (((cur.set (k * 3) (.int .i64 a)).set (k * 3 + 1) (.int .i64 b)).set (k * 3 + 2) (.string t)).take ((k + 1) * 3) = flatV (vs.take (k + 1)) ∧ (((cur.set (k * 3) (.int .i64 a)).set (k * 3 + 1) (.int .i64 b)).set (k * 3 + 2) (.string t)).length = vs.length * 3 := by
  obtain ⟨h1, h2⟩ := set3_take cur (k * 3) (.int .i64 a) (.int .i64 b) (.string t) (by omega)
  have e : (k + 1) * 3 = k * 3 + 3 := by omega
  rw [e, h1, h2, hl, hc, List.take_succ_eq_append_getElem hk, flatV_append, hv]
  exact ⟨rfl, rfl⟩
theorem set3_heap {W : World} {g m : Nat} {cur : List Value} {t : TypeId} {x y z : Value} (h : W.heap[g]? = some (.cells cur.toArray t (0, 0))) :
    (((W.setCell ⟨g, m, none⟩ x).setCell ⟨g, m + 1, none⟩ y).setCell ⟨g, m + 2, none⟩ z).heap[g]? = some (.cells (((cur.set m x).set (m + 1) y).set (m + 2) z).toArray t (0, 0)) := by
  have h1 := heap_setCell_same W g m _ t x h
  have h2 := heap_setCell_same _ g (m + 1) _ t y h1
  have h3 := heap_setCell_same _ g (m + 2) _ t z h2
  rw [h3]; simp
end Go.Proofs.YtkhklfnhninkjaaGreat
