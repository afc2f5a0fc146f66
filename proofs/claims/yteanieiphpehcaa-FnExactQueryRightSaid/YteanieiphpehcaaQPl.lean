/-
  Columns' names, words, and when a query is right. Plain laws.
-/
import Derived.Test.YteanieiphpehcaaQyP
import Derived.Test.YteanieiphpehcaaName
import Derived.Test.YteanieiphpehcaaKeyPlain
import Derived.Lib.CutLaws
import Derived.Lib.IndexBytes
namespace Go.Proofs.Yteanieiphpehcaa
open Go.RowKit
set_option maxRecDepth 100000

/-- Is it a column's name? -/
def colOk (s : ByteArray) : Bool := (Lib.cut s.data.toList [46]).2.2 && (nameOk (Lib.cut s.data.toList [46]).1 && nameOk (Lib.cut s.data.toList [46]).2.1)
/-- What lies between the bytes b, up to place k; and where the last piece begins. -/
def spl (b : UInt8) (s : ByteArray) : Nat → List ByteArray × Nat
  | 0 => ([], 0)
  | k + 1 => if s.data.toList[k]? = some b then ((spl b s k).1 ++ [s.extract (spl b s k).2 k], k + 1) else spl b s k
def splitB (b : UInt8) (s : ByteArray) : List ByteArray := (spl b s s.size).1 ++ [s.extract (spl b s s.size).2 s.size]
def colSp (s : ByteArray) : Bool := decide ((splitB 46 s).length = 2) && (nameOk ((splitB 46 s).getD 0 ByteArray.empty).data.toList && nameOk ((splitB 46 s).getD 1 ByteArray.empty).data.toList)
theorem spl_hit {b : UInt8} {s : ByteArray} {k : Nat} (h : s.data.toList[k]? = some b) : spl b s (k + 1) = ((spl b s k).1 ++ [s.extract (spl b s k).2 k], k + 1) := by rw [spl, if_pos h]
theorem spl_miss {b : UInt8} {s : ByteArray} {k : Nat} (h : ¬ s.data.toList[k]? = some b) : spl b s (k + 1) = spl b s k := by rw [spl, if_neg h]
theorem spl_same {b : UInt8} {s : ByteArray} {i : Nat} : ∀ k, (∀ j, i ≤ j → j < i + k → ¬ s.data.toList[j]? = some b) → spl b s (i + k) = spl b s i
  | 0, _ => rfl
  | k + 1, h => by rw [← Nat.add_assoc, spl_miss (h (i + k) (by omega) (by omega)), spl_same k (fun j h1 h2 => h j h1 (by omega))]
theorem spl_len (b : UInt8) (s : ByteArray) (k : Nat) : (spl b s k).1.length ≤ k ∧ (spl b s k).2 ≤ k := by
  induction k with
  | zero => exact ⟨Nat.le_refl _, Nat.le_refl _⟩
  | succ k ih =>
    by_cases h : s.data.toList[k]? = some b
    · rw [spl_hit h]; simp; omega
    · rw [spl_miss h]; omega
theorem spl_more (b : UInt8) (s : ByteArray) (i : Nat) : ∀ k, (spl b s i).1.length ≤ (spl b s (i + k)).1.length
  | 0 => Nat.le_refl _
  | k + 1 => by
    have ih := spl_more b s i k
    rw [← Nat.add_assoc]
    by_cases h : s.data.toList[i + k]? = some b
    · rw [spl_hit h]; simp; omega
    · rw [spl_miss h]; exact ih
theorem name_noDot {l : List UInt8} (h : nameOk l = true) (k : Nat) : ¬ l[k]? = some 46 := by
  intro e
  unfold nameOk nameTo at h
  simp only [List.take_length, Bool.and_eq_true] at h
  have h2 := h.2.1
  rw [List.all_eq_true] at h2
  have := h2 46 (List.mem_of_getElem? e)
  revert this
  decide
theorem ext_list (s : ByteArray) (a b : Nat) : (s.extract a b).data.toList = (s.data.toList.drop a).take (b - a) := by rw [Lib.extract_eq]
theorem col_same (s : ByteArray) : colSp s = colOk s := by
  rcases Lib.indexB_cases s ⟨#[46]⟩ with h | ⟨o, h, hr⟩
  · have hi : Lib.indexByte s.data.toList 46 = -1 := by rw [← Lib.index_one]; exact h
    have hn := Lib.indexByte_none hi
    have hs : spl 46 s s.size = ([], 0) := by
      have := spl_same (b := 46) (s := s) (i := 0) s.size (fun j _ _ => hn j)
      rw [Nat.zero_add] at this
      exact this
    obtain ⟨_, _, e3⟩ := Lib.cutB_miss s ⟨#[46]⟩ h
    have e3' : (Lib.cut s.data.toList [46]).2.2 = false := e3
    unfold colSp colOk splitB
    rw [hs, e3']
    rfl
  · have hi : Lib.indexByte s.data.toList 46 = o := by rw [← Lib.index_one]; exact h
    obtain ⟨h1, h2⟩ := Lib.indexByte_some hi
    obtain ⟨e1, e2, e3⟩ := Lib.cutB_hit s ⟨#[46]⟩ o h
    have hr' : o + 1 ≤ s.size := hr
    have e1' : (Lib.cut s.data.toList [46]).1 = s.data.toList.take o := by
      have := congrArg (fun (b : ByteArray) => b.data.toList) e1
      rw [ext_list] at this
      simpa using this
    have e2' : (Lib.cut s.data.toList [46]).2.1 = s.data.toList.drop (o + 1) := by
      have := congrArg (fun (b : ByteArray) => b.data.toList) e2
      rw [ext_list] at this
      have ht : (s.data.toList.drop (o + 1)).take (s.size - (o + 1)) = s.data.toList.drop (o + 1) := List.take_of_length_le (by rw [List.length_drop]; exact Nat.le_refl _)
      exact this.trans ht
    have e3' : (Lib.cut s.data.toList [46]).2.2 = true := e3
    have s1 : spl 46 s o = ([], 0) := by
      have := spl_same (b := 46) (s := s) (i := 0) o (fun j _ hj => h2 j (by omega))
      rw [Nat.zero_add] at this
      exact this
    have s2 : spl 46 s (o + 1) = ([s.extract 0 o], o + 1) := by rw [spl_hit h1, s1]; rfl
    by_cases hd : ∃ p, o + 1 ≤ p ∧ p < s.size ∧ s.data.toList[p]? = some 46
    · obtain ⟨p, hp1, hp2, hp3⟩ := hd
      have hl : 2 ≤ (spl 46 s s.size).1.length := by
        have h4 := spl_more 46 s (o + 1) (p - (o + 1))
        rw [show o + 1 + (p - (o + 1)) = p by omega, s2] at h4
        have h5 : (spl 46 s (p + 1)).1.length = (spl 46 s p).1.length + 1 := by rw [spl_hit hp3]; simp
        have h6 := spl_more 46 s (p + 1) (s.size - (p + 1))
        rw [show p + 1 + (s.size - (p + 1)) = s.size by omega] at h6
        simp at h4
        omega
      have hf : nameOk (s.data.toList.drop (o + 1)) = false := by
        rw [Bool.eq_false_iff]
        intro e
        refine name_noDot e (p - (o + 1)) ?_
        rw [List.getElem?_drop, show o + 1 + (p - (o + 1)) = p by omega]
        exact hp3
      unfold colSp colOk
      rw [e1', e2', e3', hf, decide_eq_false (by unfold splitB; rw [List.length_append]; simp; omega)]
      simp
    · have s3 : spl 46 s s.size = ([s.extract 0 o], o + 1) := by
        have := spl_same (b := 46) (s := s) (i := o + 1) (s.size - (o + 1)) (fun j h4 h5 e => hd ⟨j, h4, by omega, e⟩)
        rw [show o + 1 + (s.size - (o + 1)) = s.size by omega, s2] at this
        exact this
      have hsp : splitB 46 s = [s.extract 0 o, s.extract (o + 1) s.size] := by unfold splitB; rw [s3]; rfl
      unfold colSp colOk
      rw [hsp, e1', e2', e3']
      have g1 : (s.extract 0 o).data.toList = s.data.toList.take o := by rw [ext_list]; simp
      have g2 : (s.extract (o + 1) s.size).data.toList = s.data.toList.drop (o + 1) := by
        rw [ext_list]
        exact List.take_of_length_le (by rw [List.length_drop]; exact Nat.le_refl _)
      show (decide (2 = 2) && (nameOk (s.extract 0 o).data.toList && nameOk (s.extract (o + 1) s.size).data.toList)) = _
      rw [g1, g2]
      rfl
/-- Is it a byte of a text between quotes? -/
def isW (b : Nat) : Bool := isLet b || isDig b || decide (b = 95) || decide (b = 45)
def wordTo (s : ByteArray) (k : Nat) : Bool := upto (fun i => isW ((s.data.toList.getD i 0).toNat)) k
def wordOk (s : ByteArray) : Bool := decide (s.size ≤ 40) && wordTo s s.size
/-- Is it an Op, but 'is'? -/
def op6 (s : ByteArray) : Bool := decide (s = ⟨#[61]⟩ ∨ s = ⟨#[33, 61]⟩ ∨ s = ⟨#[60]⟩ ∨ s = ⟨#[60, 61]⟩ ∨ s = ⟨#[62]⟩ ∨ s = ⟨#[62, 61]⟩)
def isIs (s : ByteArray) : Bool := decide (s = ⟨#[105, 115]⟩)
/-- Can a value stand behind an Op but 'is'? -/
def valOk (v : Val) : Bool := vRight v && (decide (v.kind ≠ 0) && (decide (v.kind ≠ 3) || wordOk v.text) && (decide (v.num < 1000000000000000000) && decide (v.num > -1000000000000000000)))
def noVal (v : Val) : Bool := decide (v.kind = 0 ∧ v.num = 0 ∧ v.text.size = 0)
def takesB (op : ByteArray) (v : Val) : Bool := if isIs op then noVal v else valOk v
def termOk (t : Trm) : Bool := colOk t.col && (if isIs t.op then noVal ⟨t.kind, t.num, t.text⟩ else op6 t.op && valOk ⟨t.kind, t.num, t.text⟩)
/-- Is an item right by itself? -/
def itemOk (x : Itm) : Bool := decide (0 ≤ x.agg) && decide (x.agg ≤ 4) && (if x.agg = 1 then decide (x.col.size = 0) else colOk x.col)
/-- Is it of the group, or no column by itself? -/
def itemIn (g : ByteArray) (x : Itm) : Bool := !(decide (x.agg = 0) && decide (x.col ≠ g))
def plainB (q : Qry) : Bool := upto (fun i => decide ((q.items.getD i noItm).agg = 0)) q.items.length
def groupedB (q : Qry) : Bool := decide (q.group.size ≠ 0) || !plainB q
def colNone (s : ByteArray) : Bool := decide (s.size = 0) || colOk s
def joinOk (q : Qry) : Bool := if q.join.size = 0 then decide (q.left.size = 0) && decide (q.right.size = 0) else decide (q.join ≠ q.table) && (nameOk q.join.data.toList && (colOk q.left && colOk q.right))
def whereOk (l : List Trm) : Bool := decide (l.length ≤ 20) && upto (fun i => termOk (l.getD i noTrm)) l.length
def itemsOk (l : List Itm) : Bool := decide (1 ≤ l.length) && decide (l.length ≤ 10) && upto (fun i => itemOk (l.getD i noItm)) l.length
def groupOk (q : Qry) : Bool := colNone q.group && (!groupedB q || (upto (fun i => itemIn q.group (q.items.getD i noItm)) q.items.length && (decide (q.order.size = 0) || decide (q.order = q.group))))
def orderOk (q : Qry) : Bool := colNone q.order && (decide (q.order.size ≠ 0) || !q.down)
def limitOk (n : Int) : Bool := decide (-1 ≤ n) && decide (n ≤ 1000)
/-- Is a query right? -/
def qOk (q : Qry) : Bool := itemsOk q.items && (nameOk q.table.data.toList && (joinOk q && (whereOk q.wh && (groupOk q && (orderOk q && limitOk q.limit)))))
end Go.Proofs.Yteanieiphpehcaa
