/-
  Disks as they lie in memory. Plain laws.
-/
import Derived.Test.YtgnegidgeegknaaTrRow
namespace Go.Proofs.Ytgnegidgeegknaa
open Go.RowKit
set_option maxRecDepth 100000

structure Wr where
  pos : Int
  text : ByteArray
structure Dk where
  secs : List ByteArray
  cache : List Wr
def noWr : Wr := ⟨0, ByteArray.empty⟩
def wI64 (x : Int) : Prop := -9223372036854775808 ≤ x ∧ x ≤ 9223372036854775807
/-- Writes that lie one behind the other, two cells each. -/
def WrRow (w : World) (A B : Nat) (ao : Option Addr) (l : List Wr) : Prop :=
  (∀ x ∈ l, wI64 x.pos ∧ x.text.size ≤ maxLen) ∧ (l.length = 0 ∨ ∃ b off, ao = some ⟨b, off, none⟩ ∧ A ≤ b ∧ b < B ∧ ∀ i, i < l.length →
    w.cell? ⟨b, off + i * 2, none⟩ = some (.int .i64 (l.getD i noWr).pos) ∧ w.cell? ⟨b, off + i * 2 + 1, none⟩ = some (.string (l.getD i noWr).text))
theorem WrRow.kept {w w' : World} {A B : Nat} {ao : Option Addr} {l : List Wr} (h : WrRow w A B ao l) (hb : Below B w w') : WrRow w' A B ao l := by
  refine ⟨h.1, ?_⟩
  rcases h.2 with h0 | ⟨b, off, e, hA, hB, hc⟩
  · exact .inl h0
  · refine .inr ⟨b, off, e, hA, hB, fun i hi => ?_⟩
    obtain ⟨c0, c1⟩ := hc i hi
    exact ⟨(hb.cell (p := ⟨b, _, none⟩) hB).trans c0, (hb.cell (p := ⟨b, _, none⟩) hB).trans c1⟩
theorem WrRow.mono {w : World} {A B A' C : Nat} {ao : Option Addr} {l : List Wr} (h : WrRow w A B ao l) (ha : A' ≤ A) (hc : B ≤ C) : WrRow w A' C ao l := by
  refine ⟨h.1, ?_⟩
  rcases h.2 with h0 | ⟨b, off, e, hA, hB, hc'⟩
  · exact .inl h0
  · exact .inr ⟨b, off, e, by omega, by omega, hc'⟩
theorem WrRow.at {w : World} {A B : Nat} {ao : Option Addr} {l : List Wr} (h : WrRow w A B ao l) (k : Nat) (hk : k < l.length) :
    ∃ b off n t, ao = some ⟨b, off, none⟩ ∧ b < B ∧ l.getD k noWr = ⟨n, t⟩ ∧ t.size ≤ maxLen ∧ wI64 n ∧ w.cell? ⟨b, off + k * 2, none⟩ = some (.int .i64 n) ∧ w.cell? ⟨b, off + k * 2 + 1, none⟩ = some (.string t) := by
  rcases h.2 with h0 | ⟨b, off, e, hA, hB, hc⟩
  · omega
  · obtain ⟨c0, c1⟩ := hc k hk
    have hm := h.1 _ (getD_mem l noWr k hk)
    exact ⟨b, off, _, _, e, hB, rfl, hm.2, hm.1, c0, c1⟩
theorem WrRow.other {w : World} {A B : Nat} {ao : Option Addr} {l : List Wr} (h : WrRow w A B ao l) (g m : Nat) (v : Value) (hg : g < A) : WrRow (w.setCell ⟨g, m, none⟩ v) A B ao l := by
  refine ⟨h.1, ?_⟩
  rcases h.2 with h0 | ⟨b, off, e, hA, hB, hc⟩
  · exact .inl h0
  · refine .inr ⟨b, off, e, hA, hB, fun i hi => ?_⟩
    obtain ⟨c0, c1⟩ := hc i hi
    have ho := fun o => World.cell?_setCell_other w ⟨g, m, none⟩ ⟨b, o, none⟩ v (fun e' => by have : g = b := congrArg Addr.block e'; omega)
    exact ⟨(ho _).trans c0, (ho _).trans c1⟩
/-- A disk whose lists lie in blocks from A on and below B. -/
def DkRow (w : World) (A B : Nat) (so co : Option Addr) (d : Dk) : Prop :=
  (d.secs.length ≤ maxLen ∧ d.cache.length ≤ maxLen) ∧ StrRow w A B so d.secs ∧ WrRow w A B co d.cache
theorem DkRow.kept {w w' : World} {A B : Nat} {so co : Option Addr} {d : Dk} (h : DkRow w A B so co d) (hb : Below B w w') : DkRow w' A B so co d := ⟨h.1, h.2.1.kept hb, h.2.2.kept hb⟩
theorem DkRow.mono {w : World} {A B A' C : Nat} {so co : Option Addr} {d : Dk} (h : DkRow w A B so co d) (ha : A' ≤ A) (hc : B ≤ C) : DkRow w A' C so co d := ⟨h.1, h.2.1.mono ha hc, h.2.2.mono ha hc⟩
theorem DkRow.other {w : World} {A B : Nat} {so co : Option Addr} {d : Dk} (h : DkRow w A B so co d) (g m : Nat) (v : Value) (hg : g < A) : DkRow (w.setCell ⟨g, m, none⟩ v) A B so co d := ⟨h.1, h.2.1.other g m v hg, h.2.2.other g m v hg⟩
/-- A disk whose texts and numbers are in their bounds. -/
def dkIn (d : Dk) : Prop := (∀ s ∈ d.secs, s.size ≤ maxLen) ∧ (∀ x ∈ d.cache, wI64 x.pos ∧ x.text.size ≤ maxLen)
theorem DkRow.inn {w : World} {A B : Nat} {so co : Option Addr} {d : Dk} (h : DkRow w A B so co d) : dkIn d := ⟨h.2.1.1, h.2.2.1⟩
def dkFits (d : Dk) : Prop := d.secs.length ≤ 1048576 ∧ d.cache.length ≤ 1048576

def flatW (l : List Wr) : List Value := l.flatMap fun x => [.int .i64 x.pos, .string x.text]
theorem flatW_cons (x : Wr) (l : List Wr) : flatW (x :: l) = .int .i64 x.pos :: .string x.text :: flatW l := rfl
theorem flatW_append (a b : List Wr) : flatW (a ++ b) = flatW a ++ flatW b := by simp [flatW]
theorem flatW_snoc (l : List Wr) (x : Wr) : flatW (l ++ [x]) = flatW l ++ [.int .i64 x.pos, .string x.text] := by rw [flatW_append]; rfl
theorem flatW_len (l : List Wr) : (flatW l).length = l.length * 2 := by
  induction l with
  | nil => rfl
  | cons v r ih => rw [flatW_cons]; simp [ih]; omega
theorem flatW_get (l : List Wr) : ∀ i, i < l.length → (flatW l)[i * 2]? = some (.int .i64 (l.getD i noWr).pos) ∧ (flatW l)[i * 2 + 1]? = some (.string (l.getD i noWr).text) := by
  induction l with
  | nil => intro i h; simp at h
  | cons v r ih =>
    intro i h
    rw [flatW_cons]
    match i, h with
    | 0, _ => exact ⟨rfl, rfl⟩
    | i + 1, h =>
      obtain ⟨h0, h1⟩ := ih i (by simpa using h)
      have e : (i + 1) * 2 = i * 2 + 1 + 1 := by omega
      rw [e, List.getD_cons_succ]
      simp only [List.getElem?_cons_succ]
      exact ⟨h0, h1⟩
theorem flatW_at (l : List Wr) (j : Nat) (u : Value) (h : (flatW l)[j]? = some u) : ∃ i, i < l.length ∧ (j = i * 2 ∧ u = .int .i64 (l.getD i noWr).pos ∨ j = i * 2 + 1 ∧ u = .string (l.getD i noWr).text) := by
  have hl : j < (flatW l).length := (List.getElem?_eq_some_iff.1 h).1
  rw [flatW_len] at hl
  have hi : j / 2 < l.length := by omega
  obtain ⟨h0, h1⟩ := flatW_get l (j / 2) hi
  refine ⟨j / 2, hi, ?_⟩
  rcases (by omega : j % 2 = 0 ∨ j % 2 = 1) with e | e
  · have ej : j = j / 2 * 2 := by omega
    rw [← ej, h] at h0
    exact .inl ⟨ej, Option.some.inj h0⟩
  · have ej : j = j / 2 * 2 + 1 := by omega
    rw [← ej, h] at h1
    exact .inr ⟨ej, Option.some.inj h1⟩
theorem flatW_one (l : List Wr) : ∀ u ∈ flatW l, u.oneCell' = true := by
  intro u hu
  obtain ⟨j, hj⟩ := List.mem_iff_getElem?.1 hu
  obtain ⟨i, _, h⟩ := flatW_at l j u hj
  rcases h with ⟨_, rfl⟩ | ⟨_, rfl⟩ <;> rfl
theorem take_set2w (cur : List Value) (k : Nat) (x y : Value) (h : k + 2 ≤ cur.length) : ((cur.set k x).set (k + 1) y).take (k + 2) = cur.take k ++ [x, y] := by
  have h1 : k + 1 < (cur.set k x).length := by simp; omega
  rw [take_set1 (cur.set k x) (k + 1) y h1, take_set1 cur k x (by omega)]; simp
theorem flatW_step (cur : List Value) (l : List Wr) (k : Nat) (hk : k < l.length) (hl : cur.length = l.length * 2) (hc : cur.take (k * 2) = flatW (l.take k)) (a : Int) (t : ByteArray) (hv : l.getD k noWr = ⟨a, t⟩) :
    ((cur.set (k * 2) (.int .i64 a)).set (k * 2 + 1) (.string t)).take ((k + 1) * 2) = flatW (l.take (k + 1)) ∧ ((cur.set (k * 2) (.int .i64 a)).set (k * 2 + 1) (.string t)).length = l.length * 2 := by
  have e : (k + 1) * 2 = k * 2 + 2 := by omega
  rw [List.getD_eq_getElem?_getD, List.getElem?_eq_getElem hk] at hv
  simp only [Option.getD_some] at hv
  refine ⟨?_, by simpa using hl⟩
  rw [e, take_set2w _ _ _ _ (by omega), hc, List.take_succ_eq_append_getElem hk, flatW_append, hv]
  rfl
theorem wrRow_of {w : World} {g : Nat} {cur : List Value} {t : TypeId} {f : Nat × Nat} {l : List Wr} (hg : w.heap[g]? = some (.cells cur.toArray t f)) (hc : cur.take (l.length * 2) = flatW l) (ho : ∀ x ∈ l, wI64 x.pos ∧ x.text.size ≤ maxLen) :
    WrRow w g w.heap.size (some ⟨g, 0, none⟩) l := by
  have hlt : g < w.heap.size := (Array.getElem?_eq_some_iff.1 hg).1
  refine ⟨ho, .inr ⟨g, 0, rfl, Nat.le_refl _, hlt, fun i hi => ?_⟩⟩
  have hget : ∀ j, j < l.length * 2 → cur[j]? = (flatW l)[j]? := fun j hj => by rw [← hc, List.getElem?_take_of_lt hj]
  obtain ⟨h0, h1⟩ := flatW_get l i hi
  refine ⟨?_, ?_⟩
  · rw [cell_of_row _ _ _ _ _ _ hg, List.getElem?_toArray, Nat.zero_add, hget _ (by omega), h0]
  · rw [cell_of_row _ _ _ _ _ _ hg, List.getElem?_toArray, Nat.zero_add, hget _ (by omega), h1]
theorem wrRow_news {w : World} {A B : Nat} {ad : Addr} {l : List Wr} (h : WrRow w A B (some ad) l) : ∀ j u, (flatW l)[j]? = some u → w.cell? (ad.add j) = some u := by
  intro j u hj
  obtain ⟨i, hi, hu⟩ := flatW_at l j u hj
  rcases h.2 with h0 | ⟨b, off, e, _, _, hc⟩
  · omega
  · obtain rfl := Option.some.inj e
    obtain ⟨c0, c1⟩ := hc i hi
    have ha : ∀ j, (⟨b, off, none⟩ : Addr).add j = ⟨b, off + j, none⟩ := fun j => by unfold Addr.add; split <;> simp_all
    rcases hu with ⟨rfl, rfl⟩ | ⟨rfl, rfl⟩
    · rw [ha]; exact c0
    · rw [ha]; exact c1
theorem strRow_news {w : World} {A B : Nat} {ad : Addr} {l : List ByteArray} (h : StrRow w A B (some ad) l) : ∀ j u, (strsV l)[j]? = some u → w.cell? (ad.add j) = some u := by
  intro j u hj
  have hlt : j < l.length := by have := (List.getElem?_eq_some_iff.1 hj).1; simpa [strsV] using this
  obtain ⟨b, off, x, e, _, hx, _, hc⟩ := h.at j hlt
  obtain rfl := Option.some.inj e
  have ha : ∀ j, (⟨b, off, none⟩ : Addr).add j = ⟨b, off + j, none⟩ := fun j => by unfold Addr.add; split <;> simp_all
  rw [ha, hc, ← hx]
  rw [strsV, List.getElem?_map, List.getElem?_eq_getElem hlt] at hj
  rw [← hj, List.getD_eq_getElem?_getD, List.getElem?_eq_getElem hlt]; rfl
theorem strsV_one (l : List ByteArray) : ∀ u ∈ strsV l, u.oneCell' = true := by
  intro u hu
  unfold strsV at hu
  rw [List.mem_map] at hu
  obtain ⟨x, _, rfl⟩ := hu
  rfl
end Go.Proofs.Ytgnegidgeegknaa
