/-
  Things that lie one behind the other, each in as many cells: whatever they are. Plain laws.
-/
import Derived.Test.YteanieiphpehcaaBase
import Derived.Test.YteanieiphpehcaaInI
import Derived.WalkKit
import Derived.Below
namespace Go.Proofs.Yteanieiphpehcaa
open Go.RowKit

/-- Values stored one behind the other. -/
def setL (w : World) (g m : Nat) : List Value → World
  | [] => w
  | x :: xs => setL (w.setCell ⟨g, m, none⟩ x) g (m + 1) xs
def lsetL (cur : List Value) (m : Nat) : List Value → List Value
  | [] => cur
  | x :: xs => lsetL (cur.set m x) (m + 1) xs
theorem lsetL_len : ∀ (xs : List Value) (cur : List Value) (m : Nat), (lsetL cur m xs).length = cur.length
  | [], _, _ => rfl
  | x :: xs, cur, m => by rw [lsetL, lsetL_len xs]; simp
theorem lsetL_out : ∀ (xs : List Value) (cur : List Value) (m i : Nat), (i < m ∨ m + xs.length ≤ i) → (lsetL cur m xs)[i]? = cur[i]?
  | [], _, _, _, _ => rfl
  | x :: xs, cur, m, i, h => by
    simp only [List.length_cons] at h
    rw [lsetL, lsetL_out xs _ _ _ (by omega), List.getElem?_set_ne (by omega)]
theorem lsetL_in : ∀ (xs : List Value) (cur : List Value) (m : Nat), m + xs.length ≤ cur.length → ∀ j u, xs[j]? = some u → (lsetL cur m xs)[m + j]? = some u
  | [], _, _, _, _, _, hu => by simp at hu
  | x :: xs, cur, m, h, j, u, hu => by
    simp only [List.length_cons] at h
    match j, hu with
    | 0, hu =>
      simp at hu
      subst hu
      rw [lsetL, lsetL_out xs _ _ _ (by omega), Nat.add_zero, List.getElem?_set_self (by omega)]
    | j + 1, hu =>
      have := lsetL_in xs (cur.set m x) (m + 1) (by simp; omega) j u (by simpa using hu)
      rw [lsetL, show m + (j + 1) = m + 1 + j by omega]
      exact this
theorem setL_heapL : ∀ (xs : List Value) {W : World} {g m : Nat} {cur : List Value} {t : TypeId}, W.heap[g]? = some (.cells cur.toArray t (0, 0)) → (setL W g m xs).heap[g]? = some (.cells (lsetL cur m xs).toArray t (0, 0))
  | [], _, _, _, _, _, h => h
  | x :: xs, W, g, m, cur, t, h => by
    rw [setL, lsetL]
    exact setL_heapL xs (setL_heap h)
theorem setL_size : ∀ (xs : List Value) (W : World) (g m : Nat), (setL W g m xs).heap.size = W.heap.size
  | [], _, _, _ => rfl
  | x :: xs, W, g, m => by rw [setL, setL_size xs]; simp
theorem setL_below : ∀ (xs : List Value) {W w : World} {g m B : Nat}, Below B w W → B ≤ g → Below B w (setL W g m xs)
  | [], _, _, _, _, _, h, _ => h
  | x :: xs, W, w, g, m, B, h, hg => by rw [setL]; exact setL_below xs (h.setCell (p := ⟨g, m, none⟩) hg x) hg
theorem blkG {W : World} {g : Nat} {o : Obj} (h : W.heap[g]? = some o) : g < W.heap.size := (Array.getElem?_eq_some_iff.1 h).1
theorem cells_of_heap {w : World} {g : Nat} {cs : List Value} {t : TypeId} (h : w.heap[g]? = some (.cells cs.toArray t (0, 0))) (j : Nat) (u : Value) (hu : cs[j]? = some u) : w.cell? ⟨g, j, none⟩ = some u := by
  rw [cell_of_row _ _ _ _ _ _ h, List.getElem?_toArray, hu]
section
variable {α : Type}
/-- Things one behind the other. -/
def FRow (cells : α → List Value) (d : α) (n : Nat) (fits : α → Prop) (w : World) (A B : Nat) (ao : Option Addr) (l : List α) : Prop :=
  (∀ i, i < l.length → fits (l.getD i d)) ∧ (l.length = 0 ∨ ∃ b off, ao = some ⟨b, off, none⟩ ∧ A ≤ b ∧ b < B ∧ ∀ i, i < l.length → ∀ j u, (cells (l.getD i d))[j]? = some u → w.cell? ⟨b, off + i * n + j, none⟩ = some u)
variable {cells : α → List Value} {d : α} {n : Nat} {fits : α → Prop}
theorem FRow.kept {w w' : World} {A B : Nat} {ao : Option Addr} {l : List α} (h : FRow cells d n fits w A B ao l) (hb : Below B w w') : FRow cells d n fits w' A B ao l := by
  refine ⟨h.1, ?_⟩
  rcases h.2 with h0 | ⟨b, off, e, hA, hB, hc⟩
  · exact .inl h0
  · exact .inr ⟨b, off, e, hA, hB, fun i hi j u hu => (hb.cell (p := ⟨b, _, none⟩) hB).trans (hc i hi j u hu)⟩
theorem FRow.mono {w : World} {A B A' C : Nat} {ao : Option Addr} {l : List α} (h : FRow cells d n fits w A B ao l) (ha : A' ≤ A) (hc : B ≤ C) : FRow cells d n fits w A' C ao l := by
  refine ⟨h.1, ?_⟩
  rcases h.2 with h0 | ⟨b, off, e, hA, hB, hc'⟩
  · exact .inl h0
  · exact .inr ⟨b, off, e, Nat.le_trans ha hA, Nat.lt_of_lt_of_le hB hc, hc'⟩
theorem FRow.other {w : World} {A B : Nat} {ao : Option Addr} {l : List α} (h : FRow cells d n fits w A B ao l) (g m : Nat) (v : Value) (hg : g < A) : FRow cells d n fits (w.setCell ⟨g, m, none⟩ v) A B ao l := by
  refine ⟨h.1, ?_⟩
  rcases h.2 with h0 | ⟨b, off, e, hA, hB, hc⟩
  · exact .inl h0
  · exact .inr ⟨b, off, e, hA, hB, fun i hi j u hu => (World.cell?_setCell_other w ⟨g, m, none⟩ ⟨b, _, none⟩ v (fun e' => by have : g = b := congrArg Addr.block e'; omega)).trans (hc i hi j u hu)⟩
theorem FRow.setL : ∀ (xs : List Value) {w : World} {A B g m : Nat} {ao : Option Addr} {l : List α}, FRow cells d n fits w A B ao l → g < A → FRow cells d n fits (setL w g m xs) A B ao l
  | [], _, _, _, _, _, _, _, h, _ => h
  | x :: xs, w, A, B, g, m, ao, l, h, hg => by rw [Go.Proofs.Yteanieiphpehcaa.setL]; exact FRow.setL xs (h.other g m x hg) hg
theorem FRow.at {w : World} {A B : Nat} {ao : Option Addr} {l : List α} (h : FRow cells d n fits w A B ao l) (k : Nat) (hk : k < l.length) :
    ∃ b off x, ao = some ⟨b, off, none⟩ ∧ b < B ∧ l.getD k d = x ∧ fits x ∧ ∀ j u, (cells x)[j]? = some u → w.cell? ⟨b, off + k * n + j, none⟩ = some u := by
  rcases h.2 with h0 | ⟨b, off, e, hA, hB, hc⟩
  · omega
  · exact ⟨b, off, _, e, hB, rfl, h.1 k hk, hc k hk⟩
/-- The first k things stand in a block's cells. -/
def FCur (cells : α → List Value) (d : α) (n : Nat) (cur : List Value) (l : List α) (k : Nat) : Prop := ∀ i, i < k → ∀ j u, (cells (l.getD i d))[j]? = some u → cur[i * n + j]? = some u
theorem FCur.zero (cur : List Value) (l : List α) : FCur cells d n cur l 0 := fun _ h => absurd h (Nat.not_lt_zero _)
theorem FCur.step {cur : List Value} {l : List α} {k : Nat} (hn : ∀ x, (cells x).length = n) (h : FCur cells d n cur l k) (hl : k * n + n ≤ cur.length) {xs : List Value} (hx : cells (l.getD k d) = xs) :
    FCur cells d n (lsetL cur (k * n) xs) l (k + 1) := by
  have hxl : xs.length = n := by rw [← hx]; exact hn _
  intro i hi j u hu
  by_cases hik : i = k
  · subst hik
    rw [hx] at hu
    exact lsetL_in xs cur _ (by omega) j u hu
  · have hj : j < n := by rw [← hn (l.getD i d)]; exact (List.getElem?_eq_some_iff.1 hu).1
    have h1 : (i + 1) * n ≤ k * n := Nat.mul_le_mul_right n (by omega)
    rw [Nat.add_mul, Nat.one_mul] at h1
    rw [lsetL_out xs cur _ _ (.inl (by omega))]
    exact h i (by omega) j u hu
theorem fRow_of {w : World} {g : Nat} {cur : List Value} {t : TypeId} {l : List α} (hg : w.heap[g]? = some (.cells cur.toArray t (0, 0))) (hf : ∀ i, i < l.length → fits (l.getD i d)) (hc : FCur cells d n cur l l.length) : FRow cells d n fits w g w.heap.size (some ⟨g, 0, none⟩) l := by
  have hlt : g < w.heap.size := (Array.getElem?_eq_some_iff.1 hg).1
  refine ⟨hf, .inr ⟨g, 0, rfl, Nat.le_refl _, hlt, fun i hi j u hu => ?_⟩⟩
  rw [cell_of_row _ _ _ _ _ _ hg, List.getElem?_toArray, Nat.zero_add, hc i hi j u hu]
end
end Go.Proofs.Yteanieiphpehcaa
