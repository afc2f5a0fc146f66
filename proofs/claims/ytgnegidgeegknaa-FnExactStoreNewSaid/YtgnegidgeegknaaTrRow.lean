/-
  Trees as they lie in memory. Plain laws.
-/
import Derived.Test.YtgnegidgeegknaaBase
import Derived.Test.YtgnegidgeegknaaTrPlain
import Derived.Test.YtgnegidgeegknaaPlain
import Derived.Test.YtgnegidgeegknaaOut3
import Derived.Test.YtgnegidgeegknaaGrowG
namespace Go.Proofs.Ytgnegidgeegknaa
open Go.RowKit

/-- Texts that lie one behind the other, in blocks from A on and below B. -/
def StrRow (w : World) (A B : Nat) (ao : Option Addr) (l : List ByteArray) : Prop :=
  (∀ s ∈ l, s.size ≤ maxLen) ∧ (l.length = 0 ∨ ∃ b off, ao = some ⟨b, off, none⟩ ∧ A ≤ b ∧ b < B ∧ ∀ i, i < l.length → w.cell? ⟨b, off + i, none⟩ = some (.string (l.getD i ByteArray.empty)))
theorem StrRow.kept {w w' : World} {A B : Nat} {ao : Option Addr} {l : List ByteArray} (h : StrRow w A B ao l) (hb : Below B w w') : StrRow w' A B ao l := by
  refine ⟨h.1, ?_⟩
  rcases h.2 with h0 | ⟨b, off, e, hA, hB, hc⟩
  · exact .inl h0
  · exact .inr ⟨b, off, e, hA, hB, fun i hi => (hb.cell (p := ⟨b, _, none⟩) hB).trans (hc i hi)⟩
theorem StrRow.mono {w : World} {A B A' C : Nat} {ao : Option Addr} {l : List ByteArray} (h : StrRow w A B ao l) (ha : A' ≤ A) (hc : B ≤ C) : StrRow w A' C ao l := by
  refine ⟨h.1, ?_⟩
  rcases h.2 with h0 | ⟨b, off, e, hA, hB, hc'⟩
  · exact .inl h0
  · exact .inr ⟨b, off, e, by omega, by omega, hc'⟩
theorem StrRow.at {w : World} {A B : Nat} {ao : Option Addr} {l : List ByteArray} (h : StrRow w A B ao l) (k : Nat) (hk : k < l.length) :
    ∃ b off x, ao = some ⟨b, off, none⟩ ∧ b < B ∧ l.getD k ByteArray.empty = x ∧ x.size ≤ maxLen ∧ w.cell? ⟨b, off + k, none⟩ = some (.string x) := by
  rcases h.2 with h0 | ⟨b, off, e, hA, hB, hc⟩
  · omega
  · exact ⟨b, off, _, e, hB, rfl, h.1 _ (getD_mem l _ k hk), hc k hk⟩
theorem StrRow.other {w : World} {A B : Nat} {ao : Option Addr} {l : List ByteArray} (h : StrRow w A B ao l) (g m : Nat) (v : Value) (hg : g < A) : StrRow (w.setCell ⟨g, m, none⟩ v) A B ao l := by
  refine ⟨h.1, ?_⟩
  rcases h.2 with h0 | ⟨b, off, e, hA, hB, hc⟩
  · exact .inl h0
  · refine .inr ⟨b, off, e, hA, hB, fun i hi => ?_⟩
    exact (World.cell?_setCell_other w ⟨g, m, none⟩ ⟨b, off + i, none⟩ v (fun e' => by have : g = b := congrArg Addr.block e'; omega)).trans (hc i hi)
def strsV (l : List ByteArray) : List Value := l.map Value.string
theorem strRow_of {w : World} {g : Nat} {cur : List Value} {t : TypeId} {f : Nat × Nat} {l : List ByteArray} (hg : w.heap[g]? = some (.cells cur.toArray t f)) (hc : cur.take l.length = strsV l) (ho : ∀ x ∈ l, x.size ≤ maxLen) :
    StrRow w g w.heap.size (some ⟨g, 0, none⟩) l := by
  have hlt : g < w.heap.size := (Array.getElem?_eq_some_iff.1 hg).1
  refine ⟨ho, .inr ⟨g, 0, rfl, Nat.le_refl _, hlt, fun i hi => ?_⟩⟩
  rw [cell_of_row _ _ _ _ _ _ hg, List.getElem?_toArray, Nat.zero_add]
  have : (cur.take l.length)[i]? = cur[i]? := List.getElem?_take_of_lt hi
  rw [← this, hc, strsV, List.getElem?_map, List.getD_eq_getElem?_getD, List.getElem?_eq_getElem hi]; rfl
theorem strs_step (cur : List Value) (l : List ByteArray) (k : Nat) (hk : k < l.length) (hl : cur.length = l.length) (hc : cur.take k = strsV (l.take k)) (x : ByteArray) (hx : l.getD k ByteArray.empty = x) :
    (cur.set k (.string x)).take (k + 1) = strsV (l.take (k + 1)) ∧ (cur.set k (.string x)).length = l.length := by
  refine ⟨?_, by simpa using hl⟩
  rw [take_set1 _ _ _ (by omega), hc, List.take_succ_eq_append_getElem hk]
  rw [List.getD_eq_getElem?_getD, List.getElem?_eq_getElem hk] at hx
  simp only [Option.getD_some] at hx
  unfold strsV
  rw [List.map_append, hx]; rfl
/-- Kids that lie one behind the other, three cells each. -/
def KidRow (w : World) (A B : Nat) (P : Tr → Option Addr → Option Addr → Option Addr → Prop) (xo : Option Addr) (cs : List Tr) : Prop :=
  cs.length = 0 ∨ ∃ b off, xo = some ⟨b, off, none⟩ ∧ A ≤ b ∧ b < B ∧ ∀ i, i < cs.length → ∃ ko kc vo vc yo yc,
    w.cell? ⟨b, off + i * 3, none⟩ = some (.slice ko (cs.getD i noTr).keys.length kc) ∧ w.cell? ⟨b, off + i * 3 + 1, none⟩ = some (.slice vo (cs.getD i noTr).vals.length vc) ∧ w.cell? ⟨b, off + i * 3 + 2, none⟩ = some (.slice yo (cs.getD i noTr).kids.length yc) ∧ P (cs.getD i noTr) ko vo yo
/-- A tree of at most n levels, all of it in blocks from A on and below B. -/
def TrRow (w : World) (A B : Nat) : Nat → Tr → Option Addr → Option Addr → Option Addr → Prop
  | 0, _, _, _, _ => False
  | n + 1, t, ko, vo, xo => (t.keys.length ≤ maxLen ∧ t.vals.length ≤ maxLen ∧ t.kids.length ≤ maxLen) ∧ StrRow w A B ko t.keys ∧ StrRow w A B vo t.vals ∧ KidRow w A B (TrRow w A B n) xo t.kids
theorem KidRow.kept {w w' : World} {A B : Nat} {P P' : Tr → Option Addr → Option Addr → Option Addr → Prop} {xo : Option Addr} {cs : List Tr} (h : KidRow w A B P xo cs) (hb : Below B w w') (hP : ∀ t a b c, P t a b c → P' t a b c) : KidRow w' A B P' xo cs := by
  rcases h with h0 | ⟨b, off, e, hA, hB, hc⟩
  · exact .inl h0
  · refine .inr ⟨b, off, e, hA, hB, fun i hi => ?_⟩
    obtain ⟨ko, kc, vo, vc, yo, yc, c0, c1, c2, hp⟩ := hc i hi
    exact ⟨ko, kc, vo, vc, yo, yc, (hb.cell (p := ⟨b, _, none⟩) hB).trans c0, (hb.cell (p := ⟨b, _, none⟩) hB).trans c1, (hb.cell (p := ⟨b, _, none⟩) hB).trans c2, hP _ _ _ _ hp⟩
theorem TrRow.kept {w w' : World} {A B : Nat} (hb : Below B w w') : ∀ (n : Nat) (t : Tr) (ko vo xo : Option Addr), TrRow w A B n t ko vo xo → TrRow w' A B n t ko vo xo
  | 0, _, _, _, _, h => h.elim
  | n + 1, _, _, _, _, ⟨hl, hk, hv, hx⟩ => ⟨hl, hk.kept hb, hv.kept hb, hx.kept hb (TrRow.kept hb n)⟩
theorem KidRow.mono {w : World} {A B A' C : Nat} {P P' : Tr → Option Addr → Option Addr → Option Addr → Prop} {xo : Option Addr} {cs : List Tr} (h : KidRow w A B P xo cs) (ha : A' ≤ A) (hc : B ≤ C) (hP : ∀ t a b c, P t a b c → P' t a b c) : KidRow w A' C P' xo cs := by
  rcases h with h0 | ⟨b, off, e, hA, hB, hc'⟩
  · exact .inl h0
  · refine .inr ⟨b, off, e, by omega, by omega, fun i hi => ?_⟩
    obtain ⟨ko, kc, vo, vc, yo, yc, c0, c1, c2, hp⟩ := hc' i hi
    exact ⟨ko, kc, vo, vc, yo, yc, c0, c1, c2, hP _ _ _ _ hp⟩
theorem TrRow.mono {w : World} {A B A' C : Nat} (ha : A' ≤ A) (hc : B ≤ C) : ∀ (n : Nat) (t : Tr) (ko vo xo : Option Addr), TrRow w A B n t ko vo xo → TrRow w A' C n t ko vo xo
  | 0, _, _, _, _, h => h.elim
  | n + 1, _, _, _, _, ⟨hl, hk, hv, hx⟩ => ⟨hl, hk.mono ha hc, hv.mono ha hc, hx.mono ha hc (TrRow.mono ha hc n)⟩
theorem KidRow.other {w : World} {A B : Nat} {P P' : Tr → Option Addr → Option Addr → Option Addr → Prop} {xo : Option Addr} {cs : List Tr} (h : KidRow w A B P xo cs) (g m : Nat) (v : Value) (hg : g < A) (hP : ∀ t a b c, P t a b c → P' t a b c) : KidRow (w.setCell ⟨g, m, none⟩ v) A B P' xo cs := by
  rcases h with h0 | ⟨b, off, e, hA, hB, hc⟩
  · exact .inl h0
  · refine .inr ⟨b, off, e, hA, hB, fun i hi => ?_⟩
    obtain ⟨ko, kc, vo, vc, yo, yc, c0, c1, c2, hp⟩ := hc i hi
    have ho := fun o => World.cell?_setCell_other w ⟨g, m, none⟩ ⟨b, o, none⟩ v (fun e' => by have : g = b := congrArg Addr.block e'; omega)
    exact ⟨ko, kc, vo, vc, yo, yc, (ho _).trans c0, (ho _).trans c1, (ho _).trans c2, hP _ _ _ _ hp⟩
theorem TrRow.other {w : World} {A B : Nat} (g m : Nat) (v : Value) (hg : g < A) : ∀ (n : Nat) (t : Tr) (ko vo xo : Option Addr), TrRow w A B n t ko vo xo → TrRow (w.setCell ⟨g, m, none⟩ v) A B n t ko vo xo
  | 0, _, _, _, _, h => h.elim
  | n + 1, _, _, _, _, ⟨hl, hk, hv, hx⟩ => ⟨hl, hk.other g m v hg, hv.other g m v hg, hx.other g m v hg (TrRow.other g m v hg n)⟩
theorem KidRow.at {w : World} {A B : Nat} {P : Tr → Option Addr → Option Addr → Option Addr → Prop} {xo : Option Addr} {cs : List Tr} (h : KidRow w A B P xo cs) (k : Nat) (hk : k < cs.length) :
    ∃ b off ko kc vo vc yo yc ks vs ds, xo = some ⟨b, off, none⟩ ∧ b < B ∧ cs.getD k noTr = .node ks vs ds ∧ P (.node ks vs ds) ko vo yo ∧ w.cell? ⟨b, off + k * 3, none⟩ = some (.slice ko ks.length kc) ∧ w.cell? ⟨b, off + k * 3 + 1, none⟩ = some (.slice vo vs.length vc) ∧ w.cell? ⟨b, off + k * 3 + 2, none⟩ = some (.slice yo ds.length yc) := by
  rcases h with h0 | ⟨b, off, e, hA, hB, hc⟩
  · omega
  · obtain ⟨ko, kc, vo, vc, yo, yc, c0, c1, c2, hp⟩ := hc k hk
    cases ht : cs.getD k noTr with
    | node ks vs ds =>
      rw [ht] at c0 c1 c2 hp
      exact ⟨b, off, ko, kc, vo, vc, yo, yc, ks, vs, ds, e, hB, rfl, hp, c0, c1, c2⟩
/-- A tree whose lists can be copied. -/
def trFits : Nat → Tr → Prop
  | 0, _ => True
  | n + 1, t => (t.keys.length ≤ 1048576 ∧ t.vals.length ≤ 1048576 ∧ t.kids.length ≤ 1048576) ∧ ∀ i, i < t.kids.length → trFits n (t.kids.getD i noTr)
end Go.Proofs.Ytgnegidgeegknaa
