/-
  Schemas: plain facts.
-/
import Derived.Test.YtkhklfnhninkjaaGreatBase
import Derived.Test.YtkhklfnhninkjaaGreatName
namespace Go.Proofs.YtkhklfnhninkjaaGreat
open Go.RowKit

structure Col where
  name : ByteArray
  kind : Int
  nul : Bool
structure Idx where
  cols : List Int
  uniq : Bool
structure Sch where
  name : ByteArray
  cols : List Col
  key : List Int
  idx : List Idx
def noCol : Col := ⟨ByteArray.empty, 0, false⟩
def noIdx : Idx := ⟨[], false⟩

/-- Is the number at place i one of m columns, and none ahead of it the same? -/
def plOk (m : Nat) (l : List Int) (i : Nat) : Bool := decide (0 ≤ l.getD i 0) && decide (l.getD i 0 < (m : Int)) && !decide (l.getD i 0 ∈ l.take i)
def isCols (m : Nat) (l : List Int) : Bool := decide (1 ≤ l.length) && upto (plOk m l) l.length
def colOk (cs : List Col) (i : Nat) : Bool := nameOk (cs.getD i noCol).name.data.toList && decide (1 ≤ (cs.getD i noCol).kind) && decide ((cs.getD i noCol).kind ≤ 3) && !(cs.take i).any (fun c => decide (c.name = (cs.getD i noCol).name))
def keyAt (s : Sch) (i : Nat) : Bool := !(s.cols.getD (s.key.getD i 0).toNat noCol).nul
def idxAt (s : Sch) (i : Nat) : Bool := isCols s.cols.length (s.idx.getD i noIdx).cols
def manyOk (n : Nat) : Bool := decide (1 ≤ n) && decide (n ≤ 10)
/-- Is a schema right? -/
def schRight (s : Sch) : Bool :=
  nameOk s.name.data.toList && manyOk s.cols.length && isCols s.cols.length s.key && decide (s.idx.length ≤ 4) && upto (colOk s.cols) s.cols.length && upto (keyAt s) s.key.length && upto (idxAt s) s.idx.length

theorem mem_take_succ (l : List Int) (x : Int) (k : Nat) (h : k < l.length) : x ∈ l.take (k + 1) ↔ x ∈ l.take k ∨ x = l.getD k 0 := by
  rw [List.take_succ_eq_append_getElem h, List.mem_append, List.mem_singleton, List.getD_eq_getElem?_getD, List.getElem?_eq_getElem h]; rfl
theorem seen_succ (cs : List Col) (x : ByteArray) (k : Nat) (h : k < cs.length) : (cs.take (k + 1)).any (fun c => decide (c.name = x)) = ((cs.take k).any (fun c => decide (c.name = x)) || decide ((cs.getD k noCol).name = x)) := by
  rw [List.take_succ_eq_append_getElem h, List.any_append, List.getD_eq_getElem?_getD, List.getElem?_eq_getElem h]; simp

/-- No more different numbers below m than m. -/
theorem few (m : Nat) : ∀ l : List Int, l.Nodup → (∀ x ∈ l, 0 ≤ x ∧ x < (m : Int)) → l.length ≤ m := by
  induction m with
  | zero =>
    intro l _ h
    match l, h with
    | [], _ => simp
    | x :: r, h => have := h x (by simp); omega
  | succ m ih =>
    intro l hn h
    by_cases hm : (m : Int) ∈ l
    · have h1 := ih (l.erase (m : Int)) (hn.erase _) (fun x hx => by
        have h2 := (List.Nodup.mem_erase_iff hn).1 hx
        have h3 := h x h2.2
        have : x ≠ (m : Int) := h2.1
        omega)
      rw [List.length_erase_of_mem hm] at h1
      omega
    · have := ih l hn (fun x hx => by
        have h3 := h x hx
        have : x ≠ (m : Int) := fun e => hm (e ▸ hx)
        omega)
      omega
theorem nodup_of (l : List Int) (h : ∀ i, i < l.length → l.getD i 0 ∉ l.take i) : l.Nodup := by
  have : ∀ k, k ≤ l.length → (l.take k).Nodup := by
    intro k
    induction k with
    | zero => intro _; simp
    | succ k ih =>
      intro hk
      have hlt : k < l.length := by omega
      rw [List.take_succ_eq_append_getElem hlt, List.nodup_append]
      refine ⟨ih (by omega), by simp, ?_⟩
      intro a ha b hb e
      rw [List.mem_singleton] at hb
      subst hb e
      have h1 := h k hlt
      rw [List.getD_eq_getElem?_getD, List.getElem?_eq_getElem hlt] at h1
      exact h1 ha
  have h2 := this l.length (Nat.le_refl _)
  rwa [List.take_length] at h2
theorem isCols_len {m : Nat} {l : List Int} (h : isCols m l = true) : 1 ≤ l.length ∧ l.length ≤ m := by
  unfold isCols at h
  rw [Bool.and_eq_true, decide_eq_true_eq, upto_iff] at h
  refine ⟨h.1, few m l (nodup_of l fun i hi => ?_) (fun x hx => ?_)⟩
  · have := h.2 i hi
    unfold plOk at this
    simp only [Bool.and_eq_true, Bool.not_eq_true', decide_eq_false_iff_not] at this
    exact this.2
  · obtain ⟨i, hi, rfl⟩ := List.getElem_of_mem hx
    have := h.2 i hi
    unfold plOk at this
    simp only [Bool.and_eq_true, decide_eq_true_eq, List.getD_eq_getElem?_getD, List.getElem?_eq_getElem hi, Option.getD_some] at this
    exact this.1
theorem isCols_at {m : Nat} {l : List Int} (h : isCols m l = true) (i : Nat) (hi : i < l.length) : 0 ≤ l.getD i 0 ∧ l.getD i 0 < (m : Int) := by
  unfold isCols at h
  rw [Bool.and_eq_true, decide_eq_true_eq, upto_iff] at h
  have := h.2 i hi
  unfold plOk at this
  simp only [Bool.and_eq_true, decide_eq_true_eq] at this
  exact this.1
theorem isCols_not {m : Nat} {l : List Int} (h : l.length < 1 ∨ m < l.length) : isCols m l = false := by
  rw [Bool.eq_false_iff]
  intro e
  have := isCols_len e
  omega
end Go.Proofs.YtkhklfnhninkjaaGreat
