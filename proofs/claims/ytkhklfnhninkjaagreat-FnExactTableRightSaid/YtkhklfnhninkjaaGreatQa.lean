/-
  Contracts and plain laws: TbC, FlatG, ERow, VRowA, TbIS, TbCl, TbMp
-/
import Derived.Test.YtkhklfnhninkjaaGreatPickC
import Derived.Test.YtkhklfnhninkjaaGreatSchLen
import Derived.Test.YtkhklfnhninkjaaGreatBase
import Derived.Test.YtkhklfnhninkjaaGreatInI
import Derived.WalkKit
import Derived.Below
import Derived.Test.YtkhklfnhninkjaaGreatVRow
import Derived.BigQuiet
import Derived.Maps.RangeWalk
import Derived.Maps.OwnSet
import Derived.Maps.Views
import Derived.Sort.MapsRangeIn
import Derived.Deep.CutRange

/-
  Keys and clashes of rows; when a table is right. Plain laws.
-/
namespace Go.Proofs.YtkhklfnhninkjaaGreat
open Go.RowKit
set_option maxRecDepth 100000

def eqV (a b : Val) : Bool := decide (a.kind = b.kind ∧ a.num = b.num ∧ a.text = b.text)
theorem eqV_iff (a b : Val) : eqV a b = true ↔ a = b := by
  obtain ⟨k, n, t⟩ := a
  obtain ⟨k', n', t'⟩ := b
  unfold eqV
  rw [decide_eq_true_eq, Val.mk.injEq]
/-- Have two rows the same value at a place, which is no null? -/
def sameAt (a b : List Val) (n : Int) : Bool := decide ((a.getD n.toNat noVal).kind ≠ 0) && eqV (a.getD n.toNat noVal) (b.getD n.toNat noVal)
def sameB (cols : List Int) (a b : List Val) : Bool := upto (fun i => sameAt a b (cols.getD i 0)) cols.length
def clashAt (s : Sch) (a b : List Val) (i : Nat) : Bool := (s.idx.getD i noIdx).uniq && sameB (s.idx.getD i noIdx).cols a b
/-- Do two rows clash in a Unique index? -/
def clashB (s : Sch) (a b : List Val) : Bool := !upto (fun i => !clashAt s a b i) s.idx.length
def keyL' (s : Sch) (r : List Val) : List Val := pickL r s.key s.key.length
def rowAt (s : Sch) (l : List (List Val)) (i : Nat) : Bool :=
  rowOk s.cols (l.getD i []) && ((decide (i = 0) || decide (cmpL (keyL' s (l.getD (i - 1) [])) (keyL' s (l.getD i [])) < 0)) && upto (fun k => !clashB s (l.getD i []) (l.getD k [])) i)
/-- Is a table right? -/
def tblB (s : Sch) (l : List (List Val)) : Bool := schRight s && (decide (l.length ≤ 60) && upto (rowAt s l) l.length)
theorem cmpL_iff : ∀ x y : List Val, cmpL x y = 0 ↔ x = y
  | [], [] => by simp [cmpL]
  | [], _ :: _ => by simp [cmpL]
  | _ :: _, [] => by simp [cmpL]
  | a :: x, b :: y => by
    rw [cmpL]
    by_cases h : cmpV a b = 0
    · rw [if_pos h, cmpL_iff x y]
      have := cmpV_zero a b h
      subst this
      simp
    · rw [if_neg h]
      refine ⟨fun e => absurd e h, fun e => ?_⟩
      injection e with e1 e2
      subst e1
      exact absurd (cmpV_self a) h
theorem pickL_get (vs : List Val) (ns : List Int) (n k : Nat) (hn : n ≤ ns.length) (hk : k < n) : (pickL vs ns n).getD k noVal = vs.getD (ns.getD k 0).toNat noVal := by
  unfold pickL
  rw [List.getD_eq_getElem?_getD, List.getElem?_map, List.getElem?_take_of_lt hk, List.getD_eq_getElem?_getD (l := ns), List.getElem?_eq_getElem (by omega)]
  rfl
theorem list_eqD {x y : List Val} (hl : x.length = y.length) (h : ∀ k, k < x.length → x.getD k noVal = y.getD k noVal) : x = y := by
  refine List.ext_getElem hl (fun k h1 h2 => ?_)
  have := h k h1
  rw [List.getD_eq_getElem?_getD, List.getElem?_eq_getElem h1, List.getD_eq_getElem?_getD, List.getElem?_eq_getElem h2] at this
  simpa using this
/-- How the specification asks. -/
theorem same_eq (cols : List Int) (a b : List Val) : sameB cols a b = (upto (fun k => decide (((pickL a cols cols.length).getD k noVal).kind ≠ 0)) cols.length && decide (cmpL (pickL a cols cols.length) (pickL b cols cols.length) = 0)) := by
  rw [Bool.eq_iff_iff, Bool.and_eq_true, decide_eq_true_eq, cmpL_iff]
  unfold sameB
  rw [upto_iff, upto_iff]
  have hla := pickL_len a cols cols.length (Nat.le_refl _)
  have hlb := pickL_len b cols cols.length (Nat.le_refl _)
  constructor
  · intro h
    refine ⟨fun k hk => ?_, list_eqD (by rw [hla, hlb]) (fun k hk => ?_)⟩
    · have := h k hk
      unfold sameAt at this
      rw [Bool.and_eq_true] at this
      rw [pickL_get a cols _ k (Nat.le_refl _) hk]
      exact this.1
    · rw [hla] at hk
      have := h k hk
      unfold sameAt at this
      rw [Bool.and_eq_true, eqV_iff] at this
      rw [pickL_get a cols _ k (Nat.le_refl _) hk, pickL_get b cols _ k (Nat.le_refl _) hk]
      exact this.2
  · rintro ⟨h1, h2⟩ k hk
    unfold sameAt
    rw [Bool.and_eq_true, eqV_iff]
    have e1 := h1 k hk
    rw [pickL_get a cols _ k (Nat.le_refl _) hk] at e1
    refine ⟨e1, ?_⟩
    have : (pickL a cols cols.length).getD k noVal = (pickL b cols cols.length).getD k noVal := by rw [h2]
    rw [pickL_get a cols _ k (Nat.le_refl _) hk, pickL_get b cols _ k (Nat.le_refl _) hk] at this
    exact this
/-- A right schema's places lie within a row that fits. -/
theorem cols_in {m : Nat} {l : List Int} (h : isCols m l = true) {vs : List Val} (hv : vs.length = m) : upto (inAt vs l) l.length = true := by
  unfold isCols at h
  rw [Bool.and_eq_true, upto_iff] at h
  rw [upto_iff]
  intro i hi
  have := h.2 i hi
  unfold plOk at this
  unfold inAt
  simp only [Bool.and_eq_true, decide_eq_true_eq] at this ⊢
  rw [hv]
  exact this.1
theorem right_key {s : Sch} (h : schRight s = true) : isCols s.cols.length s.key = true := by
  unfold schRight at h
  simp only [Bool.and_eq_true] at h
  exact h.1.1.1.1.2
theorem right_idx {s : Sch} (h : schRight s = true) : s.idx.length ≤ 4 ∧ ∀ i, i < s.idx.length → isCols s.cols.length (s.idx.getD i noIdx).cols = true := by
  unfold schRight at h
  simp only [Bool.and_eq_true, decide_eq_true_eq] at h
  exact ⟨h.1.1.1.2, fun i hi => (upto_iff _ _).1 h.2 i hi⟩
theorem row_len {cs : List Col} {vs : List Val} (h : rowOk cs vs = true) : vs.length = cs.length := by
  unfold rowOk at h
  rw [Bool.and_eq_true, decide_eq_true_eq] at h
  exact h.1
theorem row_vals {cs : List Col} {vs : List Val} (h : rowOk cs vs = true) : vs.all vRight = true := by
  unfold rowOk at h
  rw [Bool.and_eq_true, upto_iff] at h
  rw [List.all_eq_true]
  intro v hv
  obtain ⟨i, hi, rfl⟩ := List.getElem_of_mem hv
  have := h.2 i hi
  unfold fitAt fitV at this
  rw [Bool.and_eq_true, List.getD_eq_getElem?_getD (l := vs), List.getElem?_eq_getElem hi] at this
  exact this.1
theorem pick_mem {vs : List Val} {ns : List Int} {n : Nat} (h : upto (inAt vs ns) ns.length = true) (hn : n ≤ ns.length) : ∀ v ∈ pickL vs ns n, v ∈ vs := by
  intro v hv
  unfold pickL at hv
  obtain ⟨x, hx, rfl⟩ := List.mem_map.1 hv
  obtain ⟨k, hk, rfl⟩ := List.getElem_of_mem hx
  have hk' : k < ns.length := by simp at hk; omega
  have := (upto_iff _ _).1 h k hk'
  unfold inAt at this
  rw [List.getD_eq_getElem?_getD, List.getElem?_eq_getElem hk'] at this
  simp only [Option.getD_some, Bool.and_eq_true, decide_eq_true_eq] at this
  rw [List.getElem_take]
  have hb : (ns[k]).toNat < vs.length := by omega
  rw [List.getD_eq_getElem?_getD, List.getElem?_eq_getElem hb]
  exact List.getElem_mem hb
theorem key_right {s : Sch} {r : List Val} (hs : schRight s = true) (hr : rowOk s.cols r = true) : (keyL' s r).all vRight = true := by
  rw [List.all_eq_true]
  intro v hv
  exact List.all_eq_true.1 (row_vals hr) v (pick_mem (cols_in (right_key hs) (row_len hr)) (Nat.le_refl _) v hv)
theorem key_pick {s : Sch} {r : List Val} (hs : schRight s = true) (hr : rowOk s.cols r = true) : pickV r s.key = keyL' s r := by
  refine pickV_yes ?_
  unfold pickOk vsRight
  have h1 := schRight_len hs
  have h2 := row_len hr
  have h3 := isCols_len (right_key hs)
  rw [row_vals hr, cols_in (right_key hs) h2, decide_eq_true (show r.length ≤ 12 by omega), decide_eq_true (show s.key.length ≤ 10 by omega)]
  rfl
end Go.Proofs.YtkhklfnhninkjaaGreat

/-
  Things that lie one behind the other, each in as many cells: whatever they are. Plain laws.
-/
namespace Go.Proofs.YtkhklfnhninkjaaGreat
open Go.RowKit

/-- Values stored one behind the other. -/
def setL (w : World) (g m : Nat) : List Value → World
  | [] => w
  | x :: xs => setL (w.setCell ⟨g, m, none⟩ x) g (m + 1) xs
def lsetL (cur : List Value) (m : Nat) : List Value → List Value
  | [] => cur
  | x :: xs => lsetL (cur.set m x) (m + 1) xs
theorem lsetL_len : ∀ (xs : List Value) (cur : List Value) (m : Nat), (lsetL cur m xs).length = cur.length
  | [], _, _ => rfl
  | x :: xs, cur, m => by rw [lsetL, lsetL_len xs]; simp
theorem lsetL_out : ∀ (xs : List Value) (cur : List Value) (m i : Nat), (i < m ∨ m + xs.length ≤ i) → (lsetL cur m xs)[i]? = cur[i]?
  | [], _, _, _, _ => rfl
  | x :: xs, cur, m, i, h => by
    simp only [List.length_cons] at h
    rw [lsetL, lsetL_out xs _ _ _ (by omega), List.getElem?_set_ne (by omega)]
theorem lsetL_in : ∀ (xs : List Value) (cur : List Value) (m : Nat), m + xs.length ≤ cur.length → ∀ j u, xs[j]? = some u → (lsetL cur m xs)[m + j]? = some u
  | [], _, _, _, _, _, hu => by simp at hu
  | x :: xs, cur, m, h, j, u, hu => by
    simp only [List.length_cons] at h
    match j, hu with
    | 0, hu =>
      simp at hu
      subst hu
      rw [lsetL, lsetL_out xs _ _ _ (by omega), Nat.add_zero, List.getElem?_set_self (by omega)]
    | j + 1, hu =>
      have := lsetL_in xs (cur.set m x) (m + 1) (by simp; omega) j u (by simpa using hu)
      rw [lsetL, show m + (j + 1) = m + 1 + j by omega]
      exact this
theorem setL_heapL : ∀ (xs : List Value) {W : World} {g m : Nat} {cur : List Value} {t : TypeId}, W.heap[g]? = some (.cells cur.toArray t (0, 0)) → (setL W g m xs).heap[g]? = some (.cells (lsetL cur m xs).toArray t (0, 0))
  | [], _, _, _, _, _, h => h
  | x :: xs, W, g, m, cur, t, h => by
    rw [setL, lsetL]
    exact setL_heapL xs (setL_heap h)
theorem setL_size : ∀ (xs : List Value) (W : World) (g m : Nat), (setL W g m xs).heap.size = W.heap.size
  | [], _, _, _ => rfl
  | x :: xs, W, g, m => by rw [setL, setL_size xs]; simp
theorem setL_below : ∀ (xs : List Value) {W w : World} {g m B : Nat}, Below B w W → B ≤ g → Below B w (setL W g m xs)
  | [], _, _, _, _, _, h, _ => h
  | x :: xs, W, w, g, m, B, h, hg => by rw [setL]; exact setL_below xs (h.setCell (p := ⟨g, m, none⟩) hg x) hg
theorem blkG {W : World} {g : Nat} {o : Obj} (h : W.heap[g]? = some o) : g < W.heap.size := (Array.getElem?_eq_some_iff.1 h).1
theorem cells_of_heap {w : World} {g : Nat} {cs : List Value} {t : TypeId} (h : w.heap[g]? = some (.cells cs.toArray t (0, 0))) (j : Nat) (u : Value) (hu : cs[j]? = some u) : w.cell? ⟨g, j, none⟩ = some u := by
  rw [cell_of_row _ _ _ _ _ _ h, List.getElem?_toArray, hu]
section
variable {α : Type}
/-- Things one behind the other. -/
def FRow (cells : α → List Value) (d : α) (n : Nat) (fits : α → Prop) (w : World) (A B : Nat) (ao : Option Addr) (l : List α) : Prop :=
  (∀ i, i < l.length → fits (l.getD i d)) ∧ (l.length = 0 ∨ ∃ b off, ao = some ⟨b, off, none⟩ ∧ A ≤ b ∧ b < B ∧ ∀ i, i < l.length → ∀ j u, (cells (l.getD i d))[j]? = some u → w.cell? ⟨b, off + i * n + j, none⟩ = some u)
variable {cells : α → List Value} {d : α} {n : Nat} {fits : α → Prop}
theorem FRow.kept {w w' : World} {A B : Nat} {ao : Option Addr} {l : List α} (h : FRow cells d n fits w A B ao l) (hb : Below B w w') : FRow cells d n fits w' A B ao l := by
  refine ⟨h.1, ?_⟩
  rcases h.2 with h0 | ⟨b, off, e, hA, hB, hc⟩
  · exact .inl h0
  · exact .inr ⟨b, off, e, hA, hB, fun i hi j u hu => (hb.cell (p := ⟨b, _, none⟩) hB).trans (hc i hi j u hu)⟩
theorem FRow.mono {w : World} {A B A' C : Nat} {ao : Option Addr} {l : List α} (h : FRow cells d n fits w A B ao l) (ha : A' ≤ A) (hc : B ≤ C) : FRow cells d n fits w A' C ao l := by
  refine ⟨h.1, ?_⟩
  rcases h.2 with h0 | ⟨b, off, e, hA, hB, hc'⟩
  · exact .inl h0
  · exact .inr ⟨b, off, e, Nat.le_trans ha hA, Nat.lt_of_lt_of_le hB hc, hc'⟩
theorem FRow.other {w : World} {A B : Nat} {ao : Option Addr} {l : List α} (h : FRow cells d n fits w A B ao l) (g m : Nat) (v : Value) (hg : g < A) : FRow cells d n fits (w.setCell ⟨g, m, none⟩ v) A B ao l := by
  refine ⟨h.1, ?_⟩
  rcases h.2 with h0 | ⟨b, off, e, hA, hB, hc⟩
  · exact .inl h0
  · exact .inr ⟨b, off, e, hA, hB, fun i hi j u hu => (World.cell?_setCell_other w ⟨g, m, none⟩ ⟨b, _, none⟩ v (fun e' => by have : g = b := congrArg Addr.block e'; omega)).trans (hc i hi j u hu)⟩
theorem FRow.setL : ∀ (xs : List Value) {w : World} {A B g m : Nat} {ao : Option Addr} {l : List α}, FRow cells d n fits w A B ao l → g < A → FRow cells d n fits (setL w g m xs) A B ao l
  | [], _, _, _, _, _, _, _, h, _ => h
  | x :: xs, w, A, B, g, m, ao, l, h, hg => by rw [Go.Proofs.YtkhklfnhninkjaaGreat.setL]; exact FRow.setL xs (h.other g m x hg) hg
theorem FRow.at {w : World} {A B : Nat} {ao : Option Addr} {l : List α} (h : FRow cells d n fits w A B ao l) (k : Nat) (hk : k < l.length) :
    ∃ b off x, ao = some ⟨b, off, none⟩ ∧ b < B ∧ l.getD k d = x ∧ fits x ∧ ∀ j u, (cells x)[j]? = some u → w.cell? ⟨b, off + k * n + j, none⟩ = some u := by
  rcases h.2 with h0 | ⟨b, off, e, hA, hB, hc⟩
  · omega
  · exact ⟨b, off, _, e, hB, rfl, h.1 k hk, hc k hk⟩
/-- The first k things stand in a block's cells. -/
def FCur (cells : α → List Value) (d : α) (n : Nat) (cur : List Value) (l : List α) (k : Nat) : Prop := ∀ i, i < k → ∀ j u, (cells (l.getD i d))[j]? = some u → cur[i * n + j]? = some u
theorem FCur.zero (cur : List Value) (l : List α) : FCur cells d n cur l 0 := fun _ h => absurd h (Nat.not_lt_zero _)
theorem FCur.step {cur : List Value} {l : List α} {k : Nat} (hn : ∀ x, (cells x).length = n) (h : FCur cells d n cur l k) (hl : k * n + n ≤ cur.length) {xs : List Value} (hx : cells (l.getD k d) = xs) :
    FCur cells d n (lsetL cur (k * n) xs) l (k + 1) := by
  have hxl : xs.length = n := by rw [← hx]; exact hn _
  intro i hi j u hu
  by_cases hik : i = k
  · subst hik
    rw [hx] at hu
    exact lsetL_in xs cur _ (by omega) j u hu
  · have hj : j < n := by rw [← hn (l.getD i d)]; exact (List.getElem?_eq_some_iff.1 hu).1
    have h1 : (i + 1) * n ≤ k * n := Nat.mul_le_mul_right n (by omega)
    rw [Nat.add_mul, Nat.one_mul] at h1
    rw [lsetL_out xs cur _ _ (.inl (by omega))]
    exact h i (by omega) j u hu
theorem fRow_of {w : World} {g : Nat} {cur : List Value} {t : TypeId} {l : List α} (hg : w.heap[g]? = some (.cells cur.toArray t (0, 0))) (hf : ∀ i, i < l.length → fits (l.getD i d)) (hc : FCur cells d n cur l l.length) : FRow cells d n fits w g w.heap.size (some ⟨g, 0, none⟩) l := by
  have hlt : g < w.heap.size := (Array.getElem?_eq_some_iff.1 hg).1
  refine ⟨hf, .inr ⟨g, 0, rfl, Nat.le_refl _, hlt, fun i hi j u hu => ?_⟩⟩
  rw [cell_of_row _ _ _ _ _ _ hg, List.getElem?_toArray, Nat.zero_add, hc i hi j u hu]
end
end Go.Proofs.YtkhklfnhninkjaaGreat

/-
  Things one behind the other whose cells lead on to memory. Plain laws.
-/
namespace Go.Proofs.YtkhklfnhninkjaaGreat
open Go.RowKit

/-- How a thing lies in memory: within blocks A to B. -/
structure Elem {α : Type} (n : Nat) (El : World → Nat → Nat → α → List Value → Prop) : Prop where
  kept : ∀ {w w' : World} {A B : Nat} {x : α} {cs : List Value}, El w A B x cs → Below B w w' → El w' A B x cs
  mono : ∀ {w : World} {A B A' C : Nat} {x : α} {cs : List Value}, El w A B x cs → A' ≤ A → B ≤ C → El w A' C x cs
  other : ∀ {w : World} {A B : Nat} {x : α} {cs : List Value} (g m : Nat) (v : Value), El w A B x cs → g < A → El (w.setCell ⟨g, m, none⟩ v) A B x cs
  len : ∀ {w : World} {A B : Nat} {x : α} {cs : List Value}, El w A B x cs → cs.length = n
section
variable {α : Type} {El : World → Nat → Nat → α → List Value → Prop} {d : α} {n : Nat}
def ERow (El : World → Nat → Nat → α → List Value → Prop) (d : α) (n : Nat) (w : World) (A B : Nat) (ao : Option Addr) (l : List α) : Prop :=
  l.length = 0 ∨ ∃ b off, ao = some ⟨b, off, none⟩ ∧ A ≤ b ∧ b < B ∧ ∀ i, i < l.length → ∃ cs, El w A B (l.getD i d) cs ∧ ∀ j u, cs[j]? = some u → w.cell? ⟨b, off + i * n + j, none⟩ = some u
theorem ERow.kept (E : Elem n El) {w w' : World} {A B : Nat} {ao : Option Addr} {l : List α} (h : ERow El d n w A B ao l) (hb : Below B w w') : ERow El d n w' A B ao l := by
  rcases h with h0 | ⟨b, off, e, hA, hB, hc⟩
  · exact .inl h0
  · refine .inr ⟨b, off, e, hA, hB, fun i hi => ?_⟩
    obtain ⟨cs, he, hj⟩ := hc i hi
    exact ⟨cs, E.kept he hb, fun j u hu => (hb.cell (p := ⟨b, _, none⟩) hB).trans (hj j u hu)⟩
theorem ERow.mono (E : Elem n El) {w : World} {A B A' C : Nat} {ao : Option Addr} {l : List α} (h : ERow El d n w A B ao l) (ha : A' ≤ A) (hc : B ≤ C) : ERow El d n w A' C ao l := by
  rcases h with h0 | ⟨b, off, e, hA, hB, hc'⟩
  · exact .inl h0
  · refine .inr ⟨b, off, e, Nat.le_trans ha hA, Nat.lt_of_lt_of_le hB hc, fun i hi => ?_⟩
    obtain ⟨cs, he, hj⟩ := hc' i hi
    exact ⟨cs, E.mono he ha hc, hj⟩
theorem ERow.other (E : Elem n El) {w : World} {A B : Nat} {ao : Option Addr} {l : List α} (h : ERow El d n w A B ao l) (g m : Nat) (v : Value) (hg : g < A) : ERow El d n (w.setCell ⟨g, m, none⟩ v) A B ao l := by
  rcases h with h0 | ⟨b, off, e, hA, hB, hc⟩
  · exact .inl h0
  · refine .inr ⟨b, off, e, hA, hB, fun i hi => ?_⟩
    obtain ⟨cs, he, hj⟩ := hc i hi
    exact ⟨cs, E.other g m v he hg, fun j u hu => (World.cell?_setCell_other w ⟨g, m, none⟩ ⟨b, _, none⟩ v (fun e' => by have : g = b := congrArg Addr.block e'; omega)).trans (hj j u hu)⟩
theorem ERow.setL (E : Elem n El) : ∀ (xs : List Value) {w : World} {A B g m : Nat} {ao : Option Addr} {l : List α}, ERow El d n w A B ao l → g < A → ERow El d n (setL w g m xs) A B ao l
  | [], _, _, _, _, _, _, _, h, _ => h
  | x :: xs, w, A, B, g, m, ao, l, h, hg => by rw [Go.Proofs.YtkhklfnhninkjaaGreat.setL]; exact ERow.setL E xs (ERow.other E h g m x hg) hg
theorem ERow.at {w : World} {A B : Nat} {ao : Option Addr} {l : List α} (h : ERow El d n w A B ao l) (k : Nat) (hk : k < l.length) :
    ∃ b off x cs, ao = some ⟨b, off, none⟩ ∧ b < B ∧ l.getD k d = x ∧ El w A B x cs ∧ ∀ j u, cs[j]? = some u → w.cell? ⟨b, off + k * n + j, none⟩ = some u := by
  rcases h with h0 | ⟨b, off, e, hA, hB, hc⟩
  · omega
  · obtain ⟨cs, he, hj⟩ := hc k hk
    exact ⟨b, off, _, cs, e, hB, rfl, he, hj⟩
/-- The first k things stand in a block's cells; what they lead to lies above it. -/
def ECur (El : World → Nat → Nat → α → List Value → Prop) (d : α) (n : Nat) (w : World) (g : Nat) (cur : List Value) (l : List α) (k : Nat) : Prop :=
  ∀ i, i < k → ∃ cs, El w (g + 1) w.heap.size (l.getD i d) cs ∧ ∀ j u, cs[j]? = some u → cur[i * n + j]? = some u
theorem ECur.zero (w : World) (g : Nat) (cur : List Value) (l : List α) : ECur El d n w g cur l 0 := fun _ h => absurd h (Nat.not_lt_zero _)
theorem Elem.setL (E : Elem n El) : ∀ (xs : List Value) {w : World} {A B g m : Nat} {x : α} {cs : List Value}, El w A B x cs → g < A → El (Go.Proofs.YtkhklfnhninkjaaGreat.setL w g m xs) A B x cs
  | [], _, _, _, _, _, _, _, h, _ => h
  | x :: xs, w, A, B, g, m, y, cs, h, hg => by rw [Go.Proofs.YtkhklfnhninkjaaGreat.setL]; exact Elem.setL E xs (E.other g m x h hg) hg
theorem ECur.step (E : Elem n El) {w w' : World} {g : Nat} {cur : List Value} {l : List α} {k : Nat} (h : ECur El d n w g cur l k) (hb : Below w.heap.size w w') (hl : k * n + n ≤ cur.length) {xs : List Value} (he : El w' (g + 1) w'.heap.size (l.getD k d) xs) :
    ECur El d n (setL w' g (k * n) xs) g (lsetL cur (k * n) xs) l (k + 1) := by
  have hxl := E.len he
  intro i hi
  rw [setL_size]
  by_cases hik : i = k
  · subst hik
    exact ⟨xs, E.setL xs he (Nat.lt_succ_self _), lsetL_in xs cur _ (by omega)⟩
  · obtain ⟨cs, h1, h2⟩ := h i (by omega)
    refine ⟨cs, E.setL xs (E.mono (E.kept h1 hb) (Nat.le_refl _) hb.size) (Nat.lt_succ_self _), fun j u hu => ?_⟩
    have hj : j < n := by rw [← E.len h1]; exact (List.getElem?_eq_some_iff.1 hu).1
    have h3 : (i + 1) * n ≤ k * n := Nat.mul_le_mul_right n (by omega)
    rw [Nat.add_mul, Nat.one_mul] at h3
    rw [lsetL_out xs cur _ _ (.inl (by omega))]
    exact h2 j u hu
theorem eRow_of (E : Elem n El) {w : World} {g : Nat} {cur : List Value} {t : TypeId} {l : List α} (hg : w.heap[g]? = some (.cells cur.toArray t (0, 0))) (hc : ECur El d n w g cur l l.length) : ERow El d n w g w.heap.size (some ⟨g, 0, none⟩) l := by
  have hlt : g < w.heap.size := (Array.getElem?_eq_some_iff.1 hg).1
  refine .inr ⟨g, 0, rfl, Nat.le_refl _, hlt, fun i hi => ?_⟩
  obtain ⟨cs, he, hj⟩ := hc i hi
  refine ⟨cs, E.mono he (Nat.le_succ _) (Nat.le_refl _), fun j u hu => ?_⟩
  rw [cell_of_row _ _ _ _ _ _ hg, List.getElem?_toArray, Nat.zero_add, hj j u hu]
end
end Go.Proofs.YtkhklfnhninkjaaGreat

/-
  Values whose block is not below A; rows of values. Plain laws.
-/
namespace Go.Proofs.YtkhklfnhninkjaaGreat
open Go.RowKit

/-- Values whose block is not below A. -/
def VAt (w : World) (A B : Nat) (vo : Option Addr) (vs : List Val) : Prop := ValRow w B vo vs ∧ (vs.length = 0 ∨ ∃ b off, vo = some ⟨b, off, none⟩ ∧ A ≤ b)
theorem VAt.kept {w w' : World} {A B : Nat} {vo : Option Addr} {vs : List Val} (h : VAt w A B vo vs) (hb : Below B w w') : VAt w' A B vo vs := ⟨h.1.kept hb, h.2⟩
theorem VAt.mono {w : World} {A B A' C : Nat} {vo : Option Addr} {vs : List Val} (h : VAt w A B vo vs) (ha : A' ≤ A) (hc : B ≤ C) : VAt w A' C vo vs :=
  ⟨h.1.mono hc, h.2.imp id (fun ⟨b, off, e, hA⟩ => ⟨b, off, e, Nat.le_trans ha hA⟩)⟩
theorem VAt.other {w : World} {A B : Nat} {vo : Option Addr} {vs : List Val} (h : VAt w A B vo vs) (g m : Nat) (v : Value) (hg : g < A) : VAt (w.setCell ⟨g, m, none⟩ v) A B vo vs := by
  refine ⟨⟨h.1.1, h.1.2.1, ?_⟩, h.2⟩
  rcases h.1.2.2 with h0 | ⟨b, off, e, hB, hc⟩
  · exact .inl h0
  · rcases h.2 with h0 | ⟨b', off', e', hA⟩
    · exact .inl h0
    · rw [e] at e'
      obtain ⟨rfl, rfl⟩ : b = b' ∧ off = off' := by simpa using e'
      refine .inr ⟨b, off, e, hB, fun i hi => ?_⟩
      obtain ⟨d0, d1, d2⟩ := hc i hi
      have hne : ∀ k, (⟨g, m, none⟩ : Addr) ≠ ⟨b, k, none⟩ := fun k e' => by have : g = b := congrArg Addr.block e'; omega
      exact ⟨(World.cell?_setCell_other w _ _ v (hne _)).trans d0, (World.cell?_setCell_other w _ _ v (hne _)).trans d1, (World.cell?_setCell_other w _ _ v (hne _)).trans d2⟩
/-- A row of values: one cell. -/
def VEl (w : World) (A B : Nat) (vs : List Val) (cs : List Value) : Prop := ∃ vo c, cs = [.slice vo vs.length c] ∧ (vs.length ≤ c ∧ c ≤ maxLen) ∧ VAt w A B vo vs
theorem vElem : Elem 1 VEl where
  kept := fun ⟨vo, c, e, hc, h⟩ hb => ⟨vo, c, e, hc, h.kept hb⟩
  mono := fun ⟨vo, c, e, hc, h⟩ ha hb => ⟨vo, c, e, hc, h.mono ha hb⟩
  other := fun g m v ⟨vo, c, e, hc, h⟩ hg => ⟨vo, c, e, hc, h.other g m v hg⟩
  len := fun ⟨_, _, e, _⟩ => by rw [e]; rfl
/-- Rows of values one behind the other. -/
def RwRow (w : World) (A B : Nat) (ao : Option Addr) (l : List (List Val)) : Prop := ERow VEl [] 1 w A B ao l
theorem RwRow.kept {w w' : World} {A B : Nat} {ao : Option Addr} {l : List (List Val)} (h : RwRow w A B ao l) (hb : Below B w w') : RwRow w' A B ao l := ERow.kept vElem h hb
theorem RwRow.mono {w : World} {A B A' C : Nat} {ao : Option Addr} {l : List (List Val)} (h : RwRow w A B ao l) (ha : A' ≤ A) (hc : B ≤ C) : RwRow w A' C ao l := ERow.mono vElem h ha hc
theorem RwRow.other {w : World} {A B : Nat} {ao : Option Addr} {l : List (List Val)} (h : RwRow w A B ao l) (g m : Nat) (v : Value) (hg : g < A) : RwRow (w.setCell ⟨g, m, none⟩ v) A B ao l := ERow.other vElem h g m v hg
theorem RwRow.at {w : World} {A B : Nat} {ao : Option Addr} {l : List (List Val)} (h : RwRow w A B ao l) (k : Nat) (hk : k < l.length) :
    ∃ b off vs vo c, ao = some ⟨b, off, none⟩ ∧ b < B ∧ l.getD k [] = vs ∧ (vs.length ≤ c ∧ c ≤ maxLen) ∧ VAt w A B vo vs ∧ w.cell? ⟨b, off + k, none⟩ = some (.slice vo vs.length c) := by
  obtain ⟨b, off, vs, cs, e, hB, hx, ⟨vo, c, rfl, hc, hv⟩, hj⟩ := ERow.at h k hk
  refine ⟨b, off, vs, vo, c, e, hB, hx, hc, hv, ?_⟩
  have := hj 0 _ rfl
  simpa using this
end Go.Proofs.YtkhklfnhninkjaaGreat

/-
  Contracts: have two rows the same values in columns? The program's answer.
-/
namespace Go.Proofs.YtkhklfnhninkjaaGreat
open Go.RowKit
set_option maxRecDepth 100000

theorem val_neq (a b : Val) (W : World) : (binOp .neq 72 (.agg #[.int .i64 a.kind, .int .i64 a.num, .string a.text]) (.agg #[.int .i64 b.kind, .int .i64 b.num, .string b.text])).run Tryz.prog W = .ok (.bool (!eqV a b)) W := by
  obtain ⟨k, n, t⟩ := a
  obtain ⟨k', n', t'⟩ := b
  unfold eqV
  simp only
  by_cases h1 : k = k'
  · by_cases h2 : n = n'
    · by_cases h3 : t = t'
      · subst h1 h2 h3
        go_simp
      · have h4 : (t.toList == t'.toList) = false := by
          rw [beq_eq_false_iff_ne]
          intro e
          rw [ByteArray.toList_eq, ByteArray.toList_eq] at e
          exact h3 (ba_ext e)
        rw [decide_eq_false (fun h => h3 h.2.2)]
        subst h1 h2
        go_simp
    · rw [decide_eq_false (fun h => h2 h.2.1)]
      go_simp
  · rw [decide_eq_false (fun h => h1 h.1)]
    go_simp
theorem below_drewNQ (n : Nat) (w : World) : Below w.heap.size w (w.drewN n) := ⟨rfl, rfl, rfl, Nat.le_refl _, fun _ _ => rfl⟩
set_option maxHeartbeats 4000000 in
theorem implSame_any (A B Ba Bb : Nat) (no : Option Addr) (c1 : Nat) (ns : List Int) (va : Option Addr) (c2 : Nat) (a : List Val) (vb : Option Addr) (c3 : Nat) (b : List Val) (w : World) (hB : B ≤ w.heap.size) (ha : Ba ≤ w.heap.size) (hb : Bb ≤ w.heap.size) (hl : ns.length ≤ 10) (hin : upto (inAt a ns) ns.length = true) (hin' : upto (inAt b ns) ns.length = true) (hn : IntRow w A B no ns) (hra : ValRow w Ba va a) (hrb : ValRow w Bb vb b) :
    Calls Tryz.prog 67 #[.slice no ns.length c1, .slice va a.length c2, .slice vb b.length c3] w fun e w' => e = .returned (.bool (sameB ns a b)) ∧ Below w.heap.size w w' := by
  have HQ : Hid (sameB ns a b = upto (fun i => sameAt a b (ns.getD i 0)) ns.length) := rfl
  have HN := hide hn
  have HA := hide hra
  have HB := hide hrb
  have HI := hide ((upto_iff _ _).1 hin)
  have HJ := hide ((upto_iff _ _).1 hin')
  clear hn hra hrb hin hin'
  generalize sameB ns a b = q at *
  go_enter Tryz.func67, Tryz.ntmps67
  go_wp2
  go_loopw [11] (fun i wr => ∃ k : Nat, k ≤ ns.length ∧ i = .int .i64 k ∧ Hid (upto (fun i => sameAt a b (ns.getD i 0)) k = true) ∧ Below w.heap.size w wr) (fun i _ => ns.length - (intOf i).toNat)
  case atStart => exact ⟨0, Nat.zero_le _, rfl, rfl, Below.refl _ _⟩
  case round =>
    obtain ⟨k, hk, rfl, HU, hbw⟩ := hrel
    by_cases hlt : k < ns.length
    · obtain ⟨b0, o0, x, rfl, hb0, hx, hxi, d0⟩ := (HN.out.kept (hbw.mono hB)).at k hlt
      have i1 := HI.out k hlt
      have i2 := HJ.out k hlt
      unfold inAt at i1 i2
      rw [hx, Bool.and_eq_true, decide_eq_true_eq, decide_eq_true_eq] at i1 i2
      obtain ⟨m, rfl⟩ : ∃ m : Nat, x = (m : Int) := ⟨x.toNat, by omega⟩
      have hma : m < a.length := by omega
      have hmb : m < b.length := by omega
      obtain ⟨ba, oa, k1, n1, t1, rfl, hba, e1, ht1, a0, a1, a2⟩ := (HA.out.kept (hbw.mono ha)).at m hma
      obtain ⟨bb, ob, k2, n2, t2, rfl, hbb, e2, ht2, b0', b1, b2⟩ := (HB.out.kept (hbw.mono hb)).at m hmb
      have HE : Hid (sameAt a b (ns.getD k 0) = (decide (k1 ≠ 0) && eqV ⟨k1, n1, t1⟩ ⟨k2, n2, t2⟩)) := by
        show _ = _
        unfold sameAt
        rw [hx, Int.toNat_natCast, List.getD_eq_getElem?_getD, List.getElem?_eq_getElem hma, List.getD_eq_getElem?_getD, List.getElem?_eq_getElem hmb, Option.getD_some, Option.getD_some, e1, e2]
      have HP := hide (upto_succ (fun i => sameAt a b (ns.getD i 0)) k)
      have HNF : Hid (sameAt a b (ns.getD k 0) = false → q = false) := fun h => by rw [HQ.out]; exact upto_false hlt h
      have HNT : Hid (sameAt a b (ns.getD k 0) = true → upto (fun i => sameAt a b (ns.getD i 0)) (k + 1) = true) := fun h => by rw [HP.out, HU.out]; exact h
      have hne := val_neq ⟨k1, n1, t1⟩ ⟨k2, n2, t2⟩
      simp only at hne
      clear hx hxi i1 i2 e1 e2 ht1 ht2 HP HU
      generalize eqV ⟨k1, n1, t1⟩ ⟨k2, n2, t2⟩ = xe at *
      have hi0 : (0 : Int) ≤ (m : Int) := by omega
      have ht := Int.toNat_natCast m
      by_cases h0 : k1 = 0
      · subst h0
        have HF := hide (HNF.out HE.out)
        clear HNF HNT HE hne
        go_wp2
        go_quiet (fail)
        have HB2 := hide (hbw.trans ((below_drewNQ nq wr).mono hbw.size))
        go_wp2
        go_ret
        exact ⟨ret_bool HF.out.symm, HB2.out⟩
      · have hkb : (k1 == 0) = false := by simp; exact h0
        cases xe with
        | false =>
          have HF := hide (HNF.out (by rw [HE.out]; simp))
          clear HNF HNT HE
          go_wp2
          go_quiet (fail)
          have HB2 := hide (hbw.trans ((below_drewNQ nq wr).mono hbw.size))
          go_wp2
          go_ret
          exact ⟨ret_bool HF.out.symm, HB2.out⟩
        | true =>
          have HU2 := hide (HNT.out (by rw [HE.out, decide_eq_true h0]; rfl))
          clear HNF HNT HE
          go_wp2
          go_quiet (fail)
          have HB2 := hide (hbw.trans ((below_drewNQ nq wr).mono hbw.size))
          clear hbw a0 a1 a2 b0' b1 b2 d0 hne
          go_wp2
          go_roundw
          case rel => exact ⟨k + 1, by omega, by go_num, HU2, HB2.out⟩
          case measure => simp [intOf]; omega
    · obtain rfl : k = ns.length := by omega
      have HF : Hid (q = true) := by show _ = _; rw [HQ.out]; exact HU.out
      go_wp2
      go_ret
      exact ⟨ret_bool HF.out.symm, hbw⟩
end Go.Proofs.YtkhklfnhninkjaaGreat

/-
  Contracts: the closure that asks for clashes.
-/
namespace Go.Proofs.YtkhklfnhninkjaaGreat
open Go.RowKit
set_option maxRecDepth 100000

set_option maxHeartbeats 1000000 in
theorem clashWith_any (nm : ByteArray) (ao : Option Addr) (n1 c1 : Nat) (ko : Option Addr) (n2 c2 : Nat) (xo : Option Addr) (n3 c3 : Nat) (vo : Option Addr) (n4 c4 : Nat) (w : World) :
    Calls Tryz.prog 52 #[.agg #[.string nm, .slice ao n1 c1, .slice ko n2 c2, .slice xo n3 c3], .slice vo n4 c4] w fun e w' => e = .returned (.func (.func 66) #[] #[.pointer (some ⟨w.heap.size, 0, none⟩), .pointer (some ⟨w.heap.size + 1, 0, none⟩)]) ∧ w' = (w.alloc (.cells #[.string nm, .slice ao n1 c1, .slice ko n2 c2, .slice xo n3 c3] 35)).alloc (.cells #[.slice vo n4 c4] 46) := by
  go_enter Tryz.func52, Tryz.ntmps52
  go_wp2
  go_ret
  exact ⟨rfl, rfl⟩
theorem blkC {W : World} {g : Nat} {o : Obj} (h : W.heap[g]? = some o) : g < W.heap.size := (Array.getElem?_eq_some_iff.1 h).1
set_option maxHeartbeats 4000000 in
theorem clash1_any (A B Ba Bb : Nat) (ao : Option Addr) (c1 : Nat) (ko : Option Addr) (c2 : Nat) (xo : Option Addr) (c3 : Nat) (s : Sch) (va : Option Addr) (c4 : Nat) (a : List Val) (vb : Option Addr) (c5 : Nat) (b : List Val) (g0 g1 : Nat) (w : World) (hB : B ≤ w.heap.size) (ha : Ba ≤ w.heap.size) (hb : Bb ≤ w.heap.size) (hs : schRight s = true) (hla : rowOk s.cols a = true) (hlb : rowOk s.cols b = true) (hr : SchRow w A B ao ko xo c2 s) (hra : ValRow w Ba va a) (hrb : ValRow w Bb vb b)
    (h0 : w.heap[g0]? = some (.cells #[.string s.name, .slice ao s.cols.length c1, .slice ko s.key.length c2, .slice xo s.idx.length c3] 35 (0, 0))) (h1 : w.heap[g1]? = some (.cells #[.slice va a.length c4] 46 (0, 0))) :
    Calls Tryz.prog 66 #[.slice vb b.length c5, .pointer (some ⟨g0, 0, none⟩), .pointer (some ⟨g1, 0, none⟩)] w fun e w' => e = .returned (.bool (clashB s a b)) ∧ Below w.heap.size w w' := by
  have HQ : Hid (clashB s a b = !upto (fun i => !clashAt s a b i) s.idx.length) := rfl
  obtain ⟨hx4, hxi⟩ := right_idx hs
  have h10 := schRight_len hs
  have HR : Hid (IdxRow w A B xo s.idx) := hr.2.2.2
  have HSM : Hid (∀ (W : World) (io : Option Addr) (cp : Nat) (k : Nat), k < s.idx.length → Below w.heap.size w W → IntRow W A B io (s.idx.getD k noIdx).cols → Calls Tryz.prog 67 #[.slice io (s.idx.getD k noIdx).cols.length cp, .slice va a.length c4, .slice vb b.length c5] W fun e w' => e = .returned (.bool (sameB (s.idx.getD k noIdx).cols a b)) ∧ Below W.heap.size W w') := fun W io cp k hk hW hio =>
    implSame_any A B Ba Bb io cp _ va c4 a vb c5 b W (Nat.le_trans hB hW.size) (Nat.le_trans ha hW.size) (Nat.le_trans hb hW.size) (by have := isCols_len (hxi k hk); omega) (cols_in (hxi k hk) (row_len hla)) (cols_in (hxi k hk) (row_len hlb)) hio (hra.kept (hW.mono ha)) (hrb.kept (hW.mono hb))
  have H0 := hide h0
  have H1 := hide h1
  clear hr hra hrb hs hla hlb hxi h10 h0 h1
  have HCA : Hid (∀ k, clashAt s a b k = ((s.idx.getD k noIdx).uniq && sameB (s.idx.getD k noIdx).cols a b)) := fun _ => rfl
  generalize clashB s a b = q at *
  generalize clashAt s a b = CA at *
  generalize s.idx = xs at *
  generalize s.name = nm at *
  generalize s.cols.length = n1 at *
  generalize s.key.length = n2 at *
  generalize a.length = na at *
  generalize b.length = nb at *
  obtain ⟨z0, z1, z2, z3⟩ := (show w.cell? ⟨g0, 0, none⟩ = some _ ∧ w.cell? ⟨g0, 1, none⟩ = some _ ∧ w.cell? ⟨g0, 2, none⟩ = some _ ∧ w.cell? ⟨g0, 3, none⟩ = some _ from ⟨(cells4 H0.out).1, (cells4 H0.out).2.1, (cells4 H0.out).2.2.1, (cells4 H0.out).2.2.2.1⟩)
  go_enter Tryz.func66, Tryz.ntmps66
  go_wp2
  go_loopw [10] (fun i wr => ∃ k : Nat, k ≤ xs.length ∧ i = .int .i64 k ∧ Hid (upto (fun i => !CA i) k = true) ∧ Below w.heap.size w wr) (fun i _ => xs.length - (intOf i).toNat)
  case atStart => exact ⟨0, Nat.zero_le _, rfl, rfl, Below.refl _ _⟩
  case round =>
    obtain ⟨k, hk, rfl, HU, hbw⟩ := hrel
    clear z0 z1 z2 z3
    by_cases hlt : k < xs.length
    · obtain ⟨b0, o0, io, cp, l, u, rfl, hb0, hx, hcp, hio, d0, d1⟩ := (HR.out.kept (hbw.mono hB)).at k hlt
      have hz := hbw.size
      have y1 : wr.cell? ⟨g1, 0, none⟩ = some (.slice va na c4) := by
        have e := (hbw.block _ (blkC H1.out)).trans H1.out
        rw [cell_of_row _ _ _ _ _ _ e]; rfl
      have hg1 : g1 < wr.heap.size := Nat.lt_of_lt_of_le (blkC H1.out) hz
      have HC := hide (fun (W : World) (hW : Below wr.heap.size wr W) => HSM.out W io cp k hlt (hbw.trans (hW.mono hz)) (by rw [hx]; exact hio.kept (hW.mono (Nat.le_trans hB hz))))
      have HE : Hid (CA k = (u && sameB l a b)) := by show _ = _; rw [HCA.out, hx]
      rw [hx] at HC
      have HP := hide (upto_succ (fun i => !CA i) k)
      have HNF : Hid (CA k = true → q = true) := fun h => by rw [HQ.out, upto_false hlt (by show (!CA k) = false; rw [h]; rfl)]; rfl
      have HNT : Hid (CA k = false → upto (fun i => !CA i) (k + 1) = true) := fun h => by rw [HP.out, HU.out]; show (true && !CA k) = true; rw [h]; rfl
      have HA := hide ((Below.refl wr.heap.size wr).alloc (Nat.le_refl _) (.cells #[.slice io l.length cp, .bool u] 69))
      have HBX : Hid (∀ W, Below wr.heap.size wr W → Below w.heap.size w W) := fun W h => hbw.trans (h.mono hz)
      clear hx hio hcp HP HU HCA HSM
      simp only at HC
      generalize sameB l a b = xs1 at *
      generalize l.length = nl at *
      cases u with
      | false =>
        have HU2 := hide (HNT.out HE.out)
        clear HNF HNT HE HC
        go_wp2
        have BX := hide (HBX.out _ HA.out)
        clear hbw hz d0 d1 y1 HBX
        go_roundw
        case rel => exact ⟨k + 1, by omega, by go_num, HU2, BX.out⟩
        case measure => simp [intOf]; omega
      | true =>
        cases xs1 with
        | true =>
          have HF := hide (HNF.out HE.out)
          clear HNF HNT HE
          go_wp2_with (go_at_call 67; refine (HC.out _ HA.out).mono ?_; rintro e w1 ⟨rfl, hb1⟩; have B1 := hide (HBX.out _ (HA.out.trans (hb1.mono HA.out.size))); clear hb1)
          go_ret
          exact ⟨ret_bool HF.out.symm, B1.out⟩
        | false =>
          have HU2 := hide (HNT.out HE.out)
          clear HNF HNT HE
          go_wp2_with (go_at_call 67; refine (HC.out _ HA.out).mono ?_; rintro e w1 ⟨rfl, hb1⟩; have B1 := hide (HBX.out _ (HA.out.trans (hb1.mono HA.out.size))); clear hb1)
          clear hbw hz d0 d1 y1 HBX HC
          go_roundw
          case rel => exact ⟨k + 1, by omega, by go_num, HU2, B1.out⟩
          case measure => simp [intOf]; omega
    · obtain rfl : k = xs.length := by omega
      have HF : Hid (q = false) := by show _ = _; rw [HQ.out, HU.out]; rfl
      go_wp2
      go_ret
      exact ⟨ret_bool HF.out.symm, hbw⟩
end Go.Proofs.YtkhklfnhninkjaaGreat

/-
  Contract: does a row clash with one of those in the map? The program's answer.
-/
namespace Go.Proofs.YtkhklfnhninkjaaGreat
open Go.RowKit Go.Maps
set_option maxRecDepth 100000

/-- A keyed row as a value, and how it reads: as itself. -/
def mkR (p : Option Addr × Nat × Nat) : Value := .agg #[.slice p.1 p.2.1 p.2.2]
open Classical in
noncomputable def rwR (v : Value) : Option (DataW Value × List MemPlace) := if ∃ p, v = mkR p then some (.held v, []) else none
theorem rwR_mk (p : Option Addr × Nat × Nat) : rwR (mkR p) = some (.held (mkR p), []) := by
  unfold rwR
  rw [if_pos ⟨p, rfl⟩]
theorem rwR_inv {v : Value} {y : DataW Value × List MemPlace} (h : rwR v = some y) : ∃ c, v = mkR c := by
  unfold rwR at h
  split at h
  · rename_i hx; exact hx
  · cases h
theorem lawStr : Keyed Tryz.prog 9 := string_keyed Tryz.underlying9
/-- The map holds the first k rows by their keys. -/
structure MapOk (D : DataW Value) (KL : Nat → Lit) (V : Nat → Option Addr × Nat × Nat) (k : Nat) : Prop where
  inn : ∀ kl, has D kl = true → ∃ j, j < k ∧ KL j = kl
  out : ∀ j, j < k → has D (KL j) = true ∧ ∀ z, D.atKey (KL j) z = .held (mkR (V j))
  inj : ∀ i j, i < k → j < k → KL i = KL j → i = j
theorem mkR_inj {p q : Option Addr × Nat × Nat} (h : mkR p = mkR q) : p = q := by
  obtain ⟨a, b, c⟩ := p
  obtain ⟨a', b', c'⟩ := q
  unfold mkR at h
  simp at h
  obtain ⟨rfl, rfl, rfl⟩ := h
  rfl
theorem cellsN5' {w : World} {g : Nat} {x0 x1 x2 x3 x4 : Value} {t : TypeId} (h : w.heap[g]? = some (.cells #[x0, x1, x2, x3, x4] t (0, 0))) :
    w.cell? ⟨g, 0, none⟩ = some x0 ∧ w.cell? ⟨g, 1, none⟩ = some x1 ∧ w.cell? ⟨g, 2, none⟩ = some x2 ∧ w.cell? ⟨g, 3, none⟩ = some x3 ∧ w.cell? ⟨g, 4, none⟩ = some x4 ∧ ∀ j, w.frozen? ⟨g, j, none⟩ = false := by
  refine ⟨?_, ?_, ?_, ?_, ?_, fun j => frozen_of_row _ _ _ _ _ h⟩ <;> (rw [cell_of_row _ _ _ _ _ _ h]; rfl)
theorem grown_of_below' {w w' : World} (r : Option Nat) (h : Below w.heap.size w w') : w.grownBy w' r := ⟨h.os, h.tape, h.output, h.size, fun k hk _ => h.block k hk⟩
set_option maxHeartbeats 1500000 in
theorem implClashes_any (A B Ba : Nat) (ao : Option Addr) (c1 : Nat) (ko : Option Addr) (c2 : Nat) (xo : Option Addr) (c3 : Nat) (s : Sch) (va : Option Addr) (c4 : Nat) (a : List Val) (mb n : Nat) (D : DataW Value) (KL : Nat → Lit) (V : Nat → Option Addr × Nat × Nat) (l : List (List Val)) (k : Nat) (Bv : Nat) (w : World) (hB : B ≤ w.heap.size) (ha : Ba ≤ w.heap.size) (hBv : Bv ≤ w.heap.size) (hs : schRight s = true) (hla : rowOk s.cols a = true) (hr : SchRow w A B ao ko xo c2 s) (hra : ValRow w Ba va a)
    (hown : w.ownsMap Tryz.prog 9 rwR mb n D) (hD : MapOk D KL V k) (hv : ∀ j, j < k → (V j).2.1 = (l.getD j []).length ∧ rowOk s.cols (l.getD j []) = true ∧ ValRow w Bv (V j).1 (l.getD j [])) :
    Calls Tryz.prog 37 #[.agg #[.string s.name, .slice ao s.cols.length c1, .slice ko s.key.length c2, .slice xo s.idx.length c3, .map (some mb)], .slice va a.length c4] w fun e w' => e = .returned (.bool (!upto (fun j => !clashB s a (l.getD j [])) k)) ∧ Below w.heap.size w w' := by
  have HCL := hide (fun (W : World) (hW : Below w.heap.size w W) (g0 g1 : Nat) (h0 : W.heap[g0]? = some (.cells #[.string s.name, .slice ao s.cols.length c1, .slice ko s.key.length c2, .slice xo s.idx.length c3] 35 (0, 0))) (h1 : W.heap[g1]? = some (.cells #[.slice va a.length c4] 46 (0, 0))) (j : Nat) (hj : j < k) =>
    clash1_any A B Ba Bv ao c1 ko c2 xo c3 s va c4 a (V j).1 (V j).2.2 (l.getD j []) g0 g1 W (Nat.le_trans hB hW.size) (Nat.le_trans ha hW.size) (Nat.le_trans hBv hW.size) hs hla (hv j hj).2.1 (hr.kept (hW.mono hB)) (hra.kept (hW.mono ha)) ((hv j hj).2.2.kept (hW.mono hBv)) h0 h1)
  have HVL : Hid (∀ j, j < k → (V j).2.1 = (l.getD j []).length) := fun j hj => (hv j hj).1
  have HCW := hide (fun (W : World) => clashWith_any s.name ao s.cols.length c1 ko s.key.length c2 xo s.idx.length c3 va a.length c4 W)
  have HOWN := hide hown
  have HD := hide hD
  obtain ⟨q, hq⟩ : ∃ q, (!upto (fun j => !clashB s a (l.getD j [])) k) = q := ⟨_, rfl⟩
  rw [hq]
  clear hr hra hown hD hv hs hla
  obtain ⟨CB, hcb⟩ : ∃ CB : Nat → Bool, CB = fun j => clashB s a (l.getD j []) := ⟨_, rfl⟩
  have HCB : Hid (∀ j, clashB s a (l.getD j []) = CB j) := fun j => by rw [hcb]
  have HQ2 : Hid (q = !upto (fun j => !CB j) k) := by show _ = _; rw [← hq, hcb]
  clear hcb hq
  generalize s.name = nm at *
  generalize s.cols.length = n1 at *
  generalize s.key.length = n2 at *
  generalize s.idx.length = n3 at *
  generalize a.length = na at *
  have X0 := hide (heap_alloc_new w (.cells #[.string nm, .slice ao n1 c1, .slice ko n2 c2, .slice xo n3 c3, .map (some mb)] 54))
  have B0 := hide ((Below.refl w.heap.size w).alloc (Nat.le_refl _) (.cells #[.string nm, .slice ao n1 c1, .slice ko n2 c2, .slice xo n3 c3, .map (some mb)] 54))
  go_enter Tryz.func37, Tryz.ntmps37
  go_upto_region 1 with fail
  generalize w.alloc (.cells #[.string nm, .slice ao n1 c1, .slice ko n2 c2, .slice xo n3 c3, .map (some mb)] 54) = W0 at *
  obtain ⟨x0, x1, x2, x3, x4, xf⟩ := cellsN5' X0.out
  go_wp2_with fail
  refine (HCW.out _).mono ?_
  rintro e w1 ⟨rfl, hw1⟩
  have S0 : Hid (w1.heap[W0.heap.size]? = some (.cells #[.string nm, .slice ao n1 c1, .slice ko n2 c2, .slice xo n3 c3] 35 (0, 0))) := by
    show _ = _
    rw [hw1, heap_old _ _ _ (by simp), heap_alloc_new]
  have S1 : Hid (w1.heap[W0.heap.size + 1]? = some (.cells #[.slice va na c4] 46 (0, 0))) := by
    show _ = _
    rw [hw1]
    have := heap_alloc_new (W0.alloc (.cells #[.string nm, .slice ao n1 c1, .slice ko n2 c2, .slice xo n3 c3] 35)) (.cells #[.slice va na c4] 46)
    simpa using this
  have k1 : Below W0.heap.size W0 w1 := by rw [hw1]; exact ((Below.refl _ _).alloc (Nat.le_refl _) _).alloc (by simp) _
  have X1 := hide ((k1.block _ (blkG X0.out)).trans X0.out)
  have B1 := hide (B0.out.trans (k1.mono B0.out.size))
  have O1 := hide (HOWN.out.kept (grown_of_below' none B1.out) (by simp))
  clear hw1 k1 X0 B0 HOWN HCW x0 x1 x2 x3 x4 xf
  obtain ⟨x0, x1, x2, x3, x4, xf⟩ := cellsN5' X1.out
  go_wp2_with (first
    | (at_range; refine wpList_range_own _ rfl _ 52 rfl 9 82 lawStr Tryz.underlying52 rwR mb n D rfl O1.out ?_; intro w2 hrg0 hgr0 hsz0)
    | go_in)
  have B20 : Below w1.heap.size w1 w2 := (Below.refl _ _).grown hgr0 (Nat.le_refl _) (fun j hj => by simp at hj)
  clear hgr0 hsz0 x0 x1 x2 x3 x4 xf
  go_frame
  go_loopw [16] (fun _ wr => ∃ (left : Lit → Bool) (cnt : Nat), wr.ranges Tryz.prog 9 rwR mb w1.heap.size n D left cnt ∧ Hid (∀ kl, left kl = true → has D kl = true) ∧ Hid (∀ j, j < k → left (KL j) = false → CB j = false) ∧ Hid (Below w1.heap.size w1 wr)) (fun _ wr => wr.rangeLeft mb w1.heap.size)
  case atStart => exact ⟨_, _, hrg0, hide (fun kl h => h), hide (fun j hj h => by rw [(HD.out.out j hj).1] at h; cases h), hide B20⟩
  case round =>
    clear hrg0 B20
    obtain ⟨left, cnt, hrg, HL1, HL2, HBW⟩ := hrel
    go_wp2_with (first
      | (at_next; refine wpList_next_ranges _ rfl _ rfl 9 lawStr rwR Value.string mkR (fun key kl h => Maps.keyOf_string_inv Tryz.underlying9 h) (fun v y h => rwR_inv h) mb w1.heap.size n D left cnt rfl hrg ?_ ?_)
      | go_in)
    · intro _ hl0
      have HF : Hid (q = false) := by
        show _ = _
        rw [HQ2.out, show upto (fun j => !CB j) k = true from (upto_iff _ _).2 (fun j hj => by rw [HL2.out j hj (hl0 _)]; rfl)]
        rfl
      go_wp2
      go_ret
      exact ⟨ret_bool HF.out.symm, B1.out.trans (HBW.out.mono B1.out.size)⟩
    · intro x vo nb cb kl y0 ys w3 cnt1 hkey hlk hRy hat hrg1 hlt1 hg1 hs1 hen
      obtain ⟨j, hj, hjk⟩ := HD.out.inn kl (HL1.out kl hlk)
      have hjz := (HD.out.out j hj).2
      rw [hjk] at hjz
      have hcj : (vo, nb, cb) = V j := by
        rw [rwR_mk] at hRy
        injection hRy with hRy
        injection hRy with hRy _
        have h1 := (hat .nil).symm.trans (hjz .nil)
        rw [← hRy] at h1
        injection h1 with h1
        exact mkR_inj h1
      have hb13 : Below w1.heap.size w1 w3 := HBW.out.trans ((Below.refl _ _).grown hg1 (by exact HBW.out.size) (fun i hi => by injection hi with hi; omega))
      have hmk : mkR (vo, nb, cb) = .agg #[.slice vo nb cb] := rfl
      rw [hmk] at hen ⊢
      have hb3 : Below w1.heap.size w1 (w3.alloc (.cells #[.slice vo nb cb] 82)) := hb13.alloc hb13.size _
      have T0 := hide ((hb3.block _ (blkC S0.out)).trans S0.out)
      have T1 := hide ((hb3.block _ (blkC S1.out)).trans S1.out)
      have BA := hide (B1.out.trans (hb3.mono B1.out.size))
      have HCALL := hide (HCL.out _ BA.out _ _ T0.out T1.out j hj)
      rw [HCB.out, ← HVL.out j hj, ← hcj] at HCALL
      simp only at HCALL
      have HK1 : Hid (∀ z : Lit, (left z && !z.sameKey kl) = true → has D z = true) := fun z h => HL1.out z (by rw [Bool.and_eq_true] at h; exact h.1)
      have HK2 : Hid (CB j = false → ∀ i, i < k → (left (KL i) && !(KL i).sameKey kl) = false → CB i = false) := fun hcb i hi h => by
        cases hl : left (KL i) with
        | false => exact HL2.out i hi hl
        | true =>
          rw [hl] at h
          have h2 : (KL i).sameKey kl = true := by simpa using h
          have h3 : KL i = kl := WideAt.sameKey_eq h2
          rw [HD.out.inj i j hi hj (h3.trans hjk.symm)]
          exact hcb
      clear T0 T1 hkey hRy hat hjz hcj hmk hjk
      cases hcb : CB j with
      | true =>
        have HF : Hid (q = true) := by
          show _ = _
          rw [HQ2.out, upto_false hj (by show (!CB j) = false; rw [hcb]; rfl)]
          rfl
        rw [hcb] at HCALL
        clear HK2
        go_wp2_with (first | (go_at_call 66; refine HCALL.out.mono ?_; rintro e w4 ⟨rfl, hb4⟩; have B4 := hide (BA.out.trans (hb4.mono BA.out.size)); clear hb4) | go_in)
        go_ret
        exact ⟨ret_bool HF.out.symm, B4.out⟩
      | false =>
        rw [hcb] at HCALL
        have HK3 := hide (HK2.out hcb)
        clear HK2 hcb
        have hgA : w3.grownBy (w3.alloc (.cells #[.slice vo nb cb] 82)) none := World.grownBy_alloc w3 _ none
        have hrg2 := hrg1.alloc (.cells #[.slice vo nb cb] 82)
        go_wp2_with (first | (go_at_call 66; refine HCALL.out.mono ?_; rintro e w4 ⟨rfl, hb4⟩; have hb5 := hide (hb3.trans (hb4.mono hb3.size)); have hrg3 := hrg2.kept (grown_of_below' none hb4) (by simp) (by simp); clear hb4) | go_in)
        clear hb3 hb13 BA HCALL hrg2 hgA hen
        go_roundw
        case rel => exact ⟨_, cnt1, hrg3, HK1, HK3, hb5⟩
        case measure => rw [hrg3.left_eq, hrg.left_eq]; exact hlt1
end Go.Proofs.YtkhklfnhninkjaaGreat
