/-
  Plain facts that many texts share.
-/
import Derived.WalkKit
import Derived.Below
import Derived.Laws.AppendOwn
import Derived.Maps.AppendAt
namespace Go.Proofs.YtkhklfnhninkjaaGreat
open Go.RowKit

theorem hide {p : Prop} (h : p) : Hid p := h
/-- Does it hold at each place below n? -/
def upto (p : Nat → Bool) (n : Nat) : Bool := (List.range n).all p
theorem upto_zero (p : Nat → Bool) : upto p 0 = true := rfl
theorem upto_succ (p : Nat → Bool) (k : Nat) : upto p (k + 1) = (upto p k && p k) := by
  unfold upto; rw [List.range_succ, List.all_append]; simp
theorem upto_iff (p : Nat → Bool) (n : Nat) : upto p n = true ↔ ∀ i, i < n → p i = true := by
  unfold upto; simp
theorem upto_false {p : Nat → Bool} {k n : Nat} (hk : k < n) (h : p k = false) : upto p n = false := by
  rw [Bool.eq_false_iff]
  intro e
  have := (upto_iff p n).1 e k hk
  rw [h] at this; cases this
theorem getD_mem {α : Type} (l : List α) (d : α) (k : Nat) (hk : k < l.length) : l.getD k d ∈ l := by
  rw [List.getD_eq_getElem?_getD, List.getElem?_eq_getElem hk]; exact List.getElem_mem hk
theorem heap_far (W : World) (g m b : Nat) (v : Value) (h : b ≠ g) : (W.setCell ⟨g, m, none⟩ v).heap[b]? = W.heap[b]? := heap_setCell_other W ⟨g, m, none⟩ b v (by simpa using h)
theorem heap_old (w : World) (o : Obj) (k : Nat) (h : k < w.heap.size) : (w.alloc o).heap[k]? = w.heap[k]? := by
  unfold World.alloc; simp only [Array.getElem?_push]; rw [if_neg (by omega)]
theorem alloc3 (w : World) (o1 o2 o3 : Obj) : (((w.alloc o1).alloc o2).alloc o3).heap[w.heap.size]? = some o1 ∧ (((w.alloc o1).alloc o2).alloc o3).heap[w.heap.size + 1]? = some o2 ∧ (((w.alloc o1).alloc o2).alloc o3).heap[w.heap.size + 1 + 1]? = some o3 := by
  have s1 : (w.alloc o1).heap.size = w.heap.size + 1 := by simp
  have s2 : ((w.alloc o1).alloc o2).heap.size = w.heap.size + 1 + 1 := by simp
  refine ⟨?_, ?_, ?_⟩
  · rw [heap_old _ _ _ (by omega), heap_old _ _ _ (by omega), heap_alloc_new]
  · rw [heap_old _ _ _ (by omega), ← s1, heap_alloc_new]
  · rw [← s2, heap_alloc_new]
theorem two_allocs (w : World) (o1 o2 : Obj) : ((w.alloc o1).alloc o2).heap[w.heap.size]? = some o1 ∧ ((w.alloc o1).alloc o2).heap[w.heap.size + 1]? = some o2 ∧ ((w.alloc o1).alloc o2).heap.size = w.heap.size + 2 := by
  have s1 : (w.alloc o1).heap.size = w.heap.size + 1 := by simp
  refine ⟨?_, ?_, by simp⟩
  · rw [heap_old _ _ _ (by omega), heap_alloc_new]
  · rw [← s1, heap_alloc_new]
theorem setL_heap {W : World} {g m : Nat} {cur : List Value} {t : TypeId} {x : Value} (h : W.heap[g]? = some (.cells cur.toArray t (0, 0))) :
    (W.setCell ⟨g, m, none⟩ x).heap[g]? = some (.cells (cur.set m x).toArray t (0, 0)) := by
  have h1 := heap_setCell_same W g m _ t x h
  rw [h1]; simp
theorem take_set1 (cur : List Value) (k : Nat) (x : Value) (h : k < cur.length) : (cur.set k x).take (k + 1) = cur.take k ++ [x] := by
  have h' : k < (cur.set k x).length := by simpa using h
  rw [List.take_succ_eq_append_getElem h', List.take_set_of_le (Nat.le_refl _), List.getElem_set_self]
theorem cells4 {w : World} {g : Nat} {a b c d : Value} {t : TypeId} (h : w.heap[g]? = some (.cells #[a, b, c, d] t (0, 0))) :
    w.cell? ⟨g, 0, none⟩ = some a ∧ w.cell? ⟨g, 1, none⟩ = some b ∧ w.cell? ⟨g, 2, none⟩ = some c ∧ w.cell? ⟨g, 3, none⟩ = some d ∧ ∀ j, w.frozen? ⟨g, j, none⟩ = false :=
  ⟨by rw [cell_of_row _ _ _ _ _ _ h]; rfl, by rw [cell_of_row _ _ _ _ _ _ h]; rfl, by rw [cell_of_row _ _ _ _ _ _ h]; rfl, by rw [cell_of_row _ _ _ _ _ _ h]; rfl, fun j => frozen_of_row _ _ _ _ _ h⟩
theorem set2 {W : World} {g : Nat} {a b x y : Value} {t : TypeId} (h : W.heap[g]? = some (.cells #[a, b] t (0, 0))) :
    ((W.setCell ⟨g, 0, none⟩ x).setCell ⟨g, 1, none⟩ y).heap[g]? = some (.cells #[x, y] t (0, 0)) := by
  have h1 := heap_setCell_same W g 0 _ t x h
  have h2 := heap_setCell_same _ g 1 _ t y h1
  simpa using h2
theorem below2 {B g : Nat} {w W : World} {x y : Value} (h : Below B w W) (hg : B ≤ g) : Below B w ((W.setCell ⟨g, 0, none⟩ x).setCell ⟨g, 1, none⟩ y) := (h.setCell hg _).setCell hg _
theorem cells2 {W : World} {g : Nat} {a b : Value} {t : TypeId} (h : W.heap[g]? = some (.cells #[a, b] t (0, 0))) : W.cell? ⟨g, 0, none⟩ = some a ∧ W.cell? ⟨g, 1, none⟩ = some b ∧ (∀ j, W.frozen? ⟨g, j, none⟩ = false) :=
  ⟨by rw [cell_of_row _ _ _ _ _ _ h]; rfl, by rw [cell_of_row _ _ _ _ _ _ h]; rfl, fun j => frozen_of_row _ _ _ _ _ h⟩
theorem owns_set2 {W : World} {base g n : Nat} {v x y : Value} {xs : List Value} {t : TypeId} {size : Nat} (h : W.ownsRow base t size v n xs) (hg : g < base) : ((W.setCell ⟨g, 0, none⟩ x).setCell ⟨g, 1, none⟩ y).ownsRow base t size v n xs := by
  refine ⟨h.1, ?_⟩
  rcases h.2 with h0 | ⟨q, cap, cur, rfl, hB, hq, hn, hm, hs, ht⟩
  · exact .inl h0
  · exact .inr ⟨q, cap, cur, rfl, hB, by rw [heap_setCell_other _ _ _ _ (show q ≠ g by omega), heap_setCell_other _ _ _ _ (show q ≠ g by omega)]; exact hq, hn, hm, hs, ht⟩
theorem owns_base {W : World} {base base' n size : Nat} {v : Value} {xs : List Value} {t : TypeId} (h : W.ownsRow base t size v n xs) (hb : base' ≤ base) : W.ownsRow base' t size v n xs := by
  refine ⟨h.1, ?_⟩
  rcases h.2 with h0 | ⟨q, cap, cur, rfl, hB, hq, hn, hm, hs, ht⟩
  · exact .inl h0
  · exact .inr ⟨q, cap, cur, rfl, by omega, hq, hn, hm, hs, ht⟩
theorem own_set {W : World} {base g m n size : Nat} {v x : Value} {xs : List Value} {t : TypeId} (h : W.ownsRow base t size v n xs) (hg : g < base) : (W.setCell ⟨g, m, none⟩ x).ownsRow base t size v n xs := by
  refine ⟨h.1, ?_⟩
  rcases h.2 with h0 | ⟨q, cap, cur, rfl, hB, hq, hn, hm, hs, ht⟩
  · exact .inl h0
  · exact .inr ⟨q, cap, cur, rfl, hB, by rw [heap_setCell_other _ _ _ _ (show q ≠ g by omega)]; exact hq, hn, hm, hs, ht⟩
theorem own_far {base n size g : Nat} {t : TypeId} {v : Value} {xs : List Value} {w w' : World} (h : w.ownsRow base t size v n xs) (hg : w.grownBy w' (some g)) (hl : g < base) : w'.ownsRow base t size v n xs :=
  World.ownsRow.kept h hg (by
    cases hv : v.ownBlock with
    | none => exact .inl rfl
    | some k =>
      refine .inr (fun e => ?_)
      have h1 := (World.ownsRow.lt h k hv).1
      have : k = g := by simpa using e
      omega)
theorem cells5 {w : World} {g : Nat} {a b c d e : Value} {t : TypeId} (h : w.heap[g]? = some (.cells #[a, b, c, d, e] t (0, 0))) :
    w.cell? ⟨g, 0, none⟩ = some a ∧ w.cell? ⟨g, 1, none⟩ = some b ∧ w.cell? ⟨g, 2, none⟩ = some c ∧ w.cell? ⟨g, 3, none⟩ = some d ∧ w.cell? ⟨g, 4, none⟩ = some e ∧ ∀ j, w.frozen? ⟨g, j, none⟩ = false :=
  ⟨by rw [cell_of_row _ _ _ _ _ _ h]; rfl, by rw [cell_of_row _ _ _ _ _ _ h]; rfl, by rw [cell_of_row _ _ _ _ _ _ h]; rfl, by rw [cell_of_row _ _ _ _ _ _ h]; rfl, by rw [cell_of_row _ _ _ _ _ _ h]; rfl, fun j => frozen_of_row _ _ _ _ _ h⟩
/-- Only the blocks of these values may have been written. -/
structure GL (l : List Value) (w w' : World) : Prop where
  os : w'.os = w.os
  tape : w'.tape = w.tape
  output : w'.output = w.output
  size : w.heap.size ≤ w'.heap.size
  block : ∀ b, b < w.heap.size → (∀ v ∈ l, v.ownBlock ≠ some b) → w'.heap[b]? = w.heap[b]?
theorem GL.refl (l : List Value) (w : World) : GL l w w := ⟨rfl, rfl, rfl, Nat.le_refl _, fun _ _ _ => rfl⟩
theorem GL.trans {l : List Value} {a b c : World} (h : GL l a b) (k : GL l b c) : GL l a c :=
  ⟨k.os.trans h.os, k.tape.trans h.tape, k.output.trans h.output, Nat.le_trans h.size k.size, fun i hi hv => (k.block i (Nat.lt_of_lt_of_le hi h.size) hv).trans (h.block i hi hv)⟩
theorem GL.mono {l l' : List Value} {w w' : World} (h : GL l w w') (hs : ∀ v ∈ l, v ∈ l') : GL l' w w' := ⟨h.os, h.tape, h.output, h.size, fun b hb hv => h.block b hb (fun v hv' => hv v (hs v hv'))⟩
theorem GL.of {l : List Value} {v : Value} {w w' : World} (h : w.grownBy w' v.ownBlock) (hv : v ∈ l) : GL l w w' := ⟨h.os, h.tape, h.output, h.size, fun b hb hn => h.block b hb (fun e => hn v hv e.symm)⟩
theorem GL.alloc (l : List Value) (w : World) (o : Obj) : GL l w (w.alloc o) := ⟨rfl, rfl, rfl, by simp, fun b hb _ => heap_old _ _ _ hb⟩
theorem GL.below {l : List Value} {B : Nat} {w w' : World} (h : GL l w w') (hb : ∀ v ∈ l, ∀ b, v.ownBlock = some b → B ≤ b) (hB : B ≤ w.heap.size) : Below B w w' :=
  ⟨h.os, h.tape, h.output, h.size, fun k hk => h.block k (Nat.lt_of_lt_of_le hk hB) (fun v hv e => by have := hb v hv k e; omega)⟩
theorem GL.own {l : List Value} {w w' : World} {base n size : Nat} {t : TypeId} {u : Value} {xs : List Value} (h : GL l w w') (ho : w.ownsRow base t size u n xs) (hne : ∀ v ∈ l, u.ownBlock = none ∨ u.ownBlock ≠ v.ownBlock) : w'.ownsRow base t size u n xs := by
  refine ⟨ho.1, ?_⟩
  rcases ho.2 with h0 | ⟨q, cap, cur, rfl, hB, hq, rest⟩
  · exact .inl h0
  · refine .inr ⟨q, cap, cur, rfl, hB, (h.block q (Array.getElem?_eq_some_iff.1 hq).1 (fun v hv e => ?_)).trans hq, rest⟩
    rcases hne v hv with h1 | h1
    · simp [Value.ownBlock] at h1
    · exact h1 (by rw [e]; rfl)
end Go.Proofs.YtkhklfnhninkjaaGreat
