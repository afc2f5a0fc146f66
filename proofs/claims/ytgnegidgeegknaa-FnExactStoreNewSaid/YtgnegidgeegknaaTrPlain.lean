/-
  Trees of keys: plain facts.
-/
import Derived.Test.YtgnegidgeegknaaBase
import Derived.WalkKit
import Derived.Below
namespace Go.Proofs.Ytgnegidgeegknaa
open Go.RowKit

/-- A text stands ahead of another. -/
def lt' (a b : ByteArray) : Bool := Go.Op.bytesLess a.toList b.toList
theorem bl_trans : ∀ (a b c : List UInt8), Go.Op.bytesLess a b = true → Go.Op.bytesLess b c = true → Go.Op.bytesLess a c = true
  | _, [], _, h, _ => by simp [Go.Op.bytesLess] at h
  | _, _ :: _, [], _, h => by simp [Go.Op.bytesLess] at h
  | [], _ :: _, _ :: _, _, _ => by simp [Go.Op.bytesLess]
  | a :: x, b :: y, c :: z, h1, h2 => by
    simp only [Go.Op.bytesLess, Bool.or_eq_true, decide_eq_true_eq, Bool.and_eq_true, beq_iff_eq] at h1 h2 ⊢
    rcases h1 with h1 | ⟨rfl, h1⟩
    · rcases h2 with h2 | ⟨rfl, h2⟩
      · exact .inl (UInt8.lt_trans h1 h2)
      · exact .inl h1
    · rcases h2 with h2 | ⟨rfl, h2⟩
      · exact .inl h2
      · exact .inr ⟨rfl, bl_trans x y z h1 h2⟩
theorem bl_irr : ∀ a : List UInt8, Go.Op.bytesLess a a = false
  | [] => by simp [Go.Op.bytesLess]
  | a :: x => by simp [Go.Op.bytesLess, bl_irr x, UInt8.lt_irrefl]
theorem bl_tri : ∀ a b : List UInt8, Go.Op.bytesLess a b = false → Go.Op.bytesLess b a = false → a = b
  | [], [], _, _ => rfl
  | [], _ :: _, h, _ => by simp [Go.Op.bytesLess] at h
  | _ :: _, [], _, h => by simp [Go.Op.bytesLess] at h
  | a :: x, b :: y, h1, h2 => by
    simp only [Go.Op.bytesLess, Bool.or_eq_false_iff, decide_eq_false_iff_not, Bool.and_eq_false_iff, beq_eq_false_iff_ne] at h1 h2
    have hab : a = b := UInt8.le_antisymm (UInt8.not_lt.1 h2.1) (UInt8.not_lt.1 h1.1)
    subst hab
    rcases h1.2 with h | h
    · exact absurd rfl h
    · rcases h2.2 with h' | h'
      · exact absurd rfl h'
      · rw [bl_tri x y h h']
theorem lt_trans' {a b c : ByteArray} (h1 : lt' a b = true) (h2 : lt' b c = true) : lt' a c = true := bl_trans _ _ _ h1 h2
theorem lt_irr' (a : ByteArray) : lt' a a = false := bl_irr _
/-- Ahead of or the same: as the program asks it. -/
theorem le_not_lt (a b : ByteArray) : (Go.Op.bytesLess a.toList b.toList || a.toList == b.toList) = !lt' b a := by
  unfold lt'
  by_cases h : Go.Op.bytesLess b.toList a.toList = true
  · rw [h]
    have h1 : Go.Op.bytesLess a.toList b.toList = false := by
      rw [Bool.eq_false_iff]; intro e
      have := bl_trans _ _ _ h e
      rw [bl_irr] at this; cases this
    have h2 : (a.toList == b.toList) = false := by
      rw [Bool.eq_false_iff]; intro e
      rw [beq_iff_eq] at e
      rw [e, bl_irr] at h; cases h
    rw [h1, h2]; rfl
  · rw [Bool.not_eq_true] at h
    rw [h]
    by_cases h1 : Go.Op.bytesLess a.toList b.toList = true
    · rw [h1]; rfl
    · rw [Bool.not_eq_true] at h1
      have := bl_tri _ _ h1 h
      rw [h1, this]; simp

inductive Tr where
  | node (keys vals : List ByteArray) (kids : List Tr)
def Tr.keys : Tr → List ByteArray | .node k _ _ => k
def Tr.vals : Tr → List ByteArray | .node _ v _ => v
def Tr.kids : Tr → List Tr | .node _ _ c => c
def noTr : Tr := .node [] [] []

theorem upto_shift (p : Nat → Bool) (n : Nat) : upto p (n + 1) = (p 0 && upto (fun i => p (i + 1)) n) := by
  rw [Bool.eq_iff_iff, Bool.and_eq_true, upto_iff, upto_iff]
  constructor
  · intro h; exact ⟨h 0 (by omega), fun i hi => h (i + 1) (by omega)⟩
  · rintro ⟨h0, h1⟩ i hi
    cases i with
    | zero => exact h0
    | succ i => exact h1 i (by omega)

/-! What is right of one node: the program's look, and the specification's. -/
def short (s : ByteArray) : Bool := decide (s.size ≤ 20000)
def nodeOk (t : Tr) : Bool :=
  decide (1 ≤ t.keys.length) && decide (t.keys.length ≤ 3) && decide (t.vals.length = t.keys.length) && (decide (t.kids.length = 0) || decide (t.kids.length = t.keys.length + 1)) && t.keys.all short && t.vals.all short
def nodeS (root : Bool) (t : Tr) : Bool :=
  decide (t.keys.length ≤ 3) && (root || decide (1 ≤ t.keys.length)) && decide (t.vals.length = t.keys.length) && (decide (t.kids.length = 0) || (decide (t.kids.length = t.keys.length + 1) && decide (1 ≤ t.keys.length)))
/-- Kids that are all equally deep: how deep. -/
def sameL : List (Option Nat) → Option Nat
  | [] => some 0
  | none :: _ => none
  | some a :: r => if r.all (fun x => decide (x = some a)) then some a else none
/-- How many levels there are from a node on, if its shape is right and there are at most so many. -/
def lev : Nat → Tr → Option Nat
  | 0, _ => none
  | r + 1, t => if nodeOk t then (sameL (t.kids.map (lev r))).map (· + 1) else none
def weave : List ByteArray → List (List ByteArray) → List ByteArray
  | ks, [] => ks
  | [], c :: _ => c
  | k :: ks, c :: cs => c ++ k :: weave ks cs
def inord : Nat → Tr → List ByteArray
  | 0, _ => []
  | r + 1, t => weave t.keys (t.kids.map (inord r))
def rises : List ByteArray → Bool
  | a :: b :: l => lt' a b && rises (b :: l)
  | _ => true
/-- How many levels a right tree has (none: it is not right). -/
def trLev (t : Tr) : Option Nat :=
  if t.keys.length = 0 then (if t.vals.length = 0 ∧ t.kids.length = 0 then some 0 else none)
  else (lev 12 t).bind fun L => if rises (inord 12 t) then some L else none
/-- The way down by the first kids. -/
def dp : Nat → Tr → Nat
  | 0, _ => 1
  | f + 1, t => match t.kids with | [] => 1 | c :: _ => 1 + dp f c
def above (lo : Option ByteArray) (k : ByteArray) : Bool := match lo with | none => true | some a => lt' a k
def under (k : ByteArray) (hi : Option ByteArray) : Bool := match hi with | none => true | some a => lt' k a
def keyS (t : Tr) (lo hi : Option ByteArray) (i : Nat) : Bool :=
  short (t.keys.getD i ByteArray.empty) && short (t.vals.getD i ByteArray.empty) && (decide (i = 0) || lt' (t.keys.getD (i - 1) ByteArray.empty) (t.keys.getD i ByteArray.empty)) && above lo (t.keys.getD i ByteArray.empty) && under (t.keys.getD i ByteArray.empty) hi
def loB (lo : Option ByteArray) (ks : List ByteArray) (i : Nat) : Option ByteArray := if i = 0 then lo else some (ks.getD (i - 1) ByteArray.empty)
def hiB (hi : Option ByteArray) (ks : List ByteArray) (i : Nat) : Option ByteArray := if i < ks.length then some (ks.getD i ByteArray.empty) else hi
/-- The specification's look. -/
def okS : Nat → Bool → Tr → Option ByteArray → Option ByteArray → Bool
  | 0, _, _, _, _ => false
  | d + 1, root, t, lo, hi => nodeS root t && (decide (t.kids.length = 0) == decide (d = 0)) && upto (keyS t lo hi) t.keys.length && upto (fun i => okS d false (t.kids.getD i noTr) (loB lo t.keys i) (hiB hi t.keys i)) t.kids.length

/-! Both looks are one. -/
def srt (lo hi : Option ByteArray) : List ByteArray → Bool
  | [] => true
  | a :: l => above lo a && under a hi && srt (some a) hi l
theorem rises_srt : ∀ l : List ByteArray, rises l = srt none none l
  | [] => rfl
  | [a] => rfl
  | a :: b :: l => by
    have ih := rises_srt (b :: l)
    simp only [rises, srt, above, under, Bool.true_and] at ih ⊢
    rw [ih]
    simp
theorem above_trans {lo : Option ByteArray} {a k : ByteArray} (h : above lo a = true) (h2 : lt' a k = true) : above lo k = true := by
  cases lo with
  | none => rfl
  | some x => exact lt_trans' h h2
theorem under_trans {hi : Option ByteArray} {a k : ByteArray} (h : lt' a k = true) (h2 : under k hi = true) : under a hi = true := by
  cases hi with
  | none => rfl
  | some x => exact lt_trans' h h2
theorem srt_mid : ∀ (c : List ByteArray) (lo hi : Option ByteArray) (k : ByteArray) (r : List ByteArray), srt lo hi (c ++ k :: r) = true ↔ (srt lo (some k) c = true ∧ above lo k = true ∧ under k hi = true ∧ srt (some k) hi r = true)
  | [], lo, hi, k, r => by simp [srt, and_assoc]
  | a :: c, lo, hi, k, r => by
    have ih := srt_mid c (some a) hi k r
    simp only [List.cons_append, srt, Bool.and_eq_true] at ih ⊢
    rw [ih]
    constructor
    · rintro ⟨⟨h1, h2⟩, h3, h4, h5, h6⟩
      exact ⟨⟨⟨h1, h4⟩, h3⟩, above_trans h1 h4, h5, h6⟩
    · rintro ⟨⟨⟨h1, h4⟩, h3⟩, _, h5, h6⟩
      exact ⟨⟨h1, under_trans h4 h5⟩, h3, h4, h5, h6⟩
/-- Keys in order, each within the bounds: as the specification asks it, place by place. -/
def krow (lo hi : Option ByteArray) (ks : List ByteArray) (i : Nat) : Bool := (decide (i = 0) || lt' (ks.getD (i - 1) ByteArray.empty) (ks.getD i ByteArray.empty)) && above lo (ks.getD i ByteArray.empty) && under (ks.getD i ByteArray.empty) hi
theorem krow_srt : ∀ (ks : List ByteArray) (lo hi : Option ByteArray), upto (krow lo hi ks) ks.length = true ↔ srt lo hi ks = true
  | [], lo, hi => by simp [upto, srt]
  | k :: ks, lo, hi => by
    rw [List.length_cons, upto_shift]
    have ih := krow_srt ks (some k) hi
    simp only [srt, Bool.and_eq_true]
    rw [← ih]
    constructor
    · rintro ⟨h0, h1⟩
      have h0' : above lo k = true ∧ under k hi = true := by simpa [krow] using h0
      refine ⟨h0', ?_⟩
      rw [upto_iff] at h1 ⊢
      have hk : ∀ i, i < ks.length → lt' k (ks.getD i ByteArray.empty) = true := by
        intro i
        induction i with
        | zero => intro hi0; have := h1 0 hi0; simp only [krow, Bool.and_eq_true] at this; simpa using this.1.1
        | succ i ihk =>
          intro hi1
          have h2 := ihk (by omega)
          have h3 := h1 (i + 1) hi1
          simp only [krow, Bool.and_eq_true] at h3
          have h4 : lt' (ks.getD i ByteArray.empty) (ks.getD (i + 1) ByteArray.empty) = true := by simpa using h3.1.1
          exact lt_trans' h2 h4
      intro i hi'
      have h2 := h1 i hi'
      simp only [krow, Bool.and_eq_true] at h2 ⊢
      refine ⟨⟨?_, hk i hi'⟩, by simpa using h2.2⟩
      cases i with
      | zero => simp
      | succ i => simpa using h2.1.1
    · rintro ⟨⟨ha, hu⟩, h1⟩
      refine ⟨by simp [krow, ha, hu], ?_⟩
      rw [upto_iff] at h1 ⊢
      intro i hi'
      have h2 := h1 i hi'
      simp only [krow, Bool.and_eq_true] at h2 ⊢
      have hka : lt' k (ks.getD i ByteArray.empty) = true := h2.1.2
      refine ⟨⟨?_, ?_⟩, by simpa using h2.2⟩
      · cases i with
        | zero => simpa using hka
        | succ i => simpa using h2.1.1
      · have := above_trans (lo := lo) ha hka
        simpa using this
theorem srt_weave : ∀ (ks : List ByteArray) (cs : List (List ByteArray)) (lo hi : Option ByteArray), cs.length = ks.length + 1 →
    (srt lo hi (weave ks cs) = true ↔ (srt lo hi ks = true ∧ ∀ i, i < cs.length → srt (loB lo ks i) (hiB hi ks i) (cs.getD i []) = true))
  | [], [c], lo, hi, _ => by
    simp only [weave, srt, true_and, List.length_singleton]
    constructor
    · intro h i hi'
      obtain rfl : i = 0 := by omega
      simpa [loB, hiB] using h
    · intro h
      simpa [loB, hiB] using h 0 (by omega)
  | [], [], _, _, h => by simp at h
  | [], _ :: _ :: _, _, _, h => by simp at h
  | _ :: _, [], _, _, h => by simp at h
  | k :: ks, c :: cs, lo, hi, h => by
    have ih := srt_weave ks cs (some k) hi (by simpa using h)
    rw [weave, srt_mid, ih]
    simp only [srt, Bool.and_eq_true]
    constructor
    · rintro ⟨h1, h2, h3, h4, h5⟩
      refine ⟨⟨⟨h2, h3⟩, h4⟩, fun i hi' => ?_⟩
      cases i with
      | zero => simpa [loB, hiB] using h1
      | succ i =>
        have := h5 i (by simpa using hi')
        simp only [loB, hiB, List.length_cons, List.getD_cons_succ, Nat.add_sub_cancel, Nat.add_lt_add_iff_right] at this ⊢
        cases i with
        | zero => simpa using this
        | succ i => simpa using this
    · rintro ⟨⟨⟨h2, h3⟩, h4⟩, h5⟩
      refine ⟨by simpa [loB, hiB] using h5 0 (by simp), h2, h3, h4, fun i hi' => ?_⟩
      have := h5 (i + 1) (by simpa using hi')
      simp only [loB, hiB, List.length_cons, List.getD_cons_succ, Nat.add_sub_cancel, Nat.add_lt_add_iff_right] at this ⊢
      cases i with
      | zero => simpa using this
      | succ i => simpa using this
theorem all_getD {α : Type} (l : List α) (d : α) (p : α → Bool) : l.all p = true ↔ ∀ i, i < l.length → p (l.getD i d) = true := by
  rw [List.all_eq_true]
  constructor
  · intro h i hi
    rw [List.getD_eq_getElem?_getD, List.getElem?_eq_getElem hi]
    exact h _ (List.getElem_mem hi)
  · intro h x hx
    obtain ⟨i, hi, rfl⟩ := List.getElem_of_mem hx
    have := h i hi
    rw [List.getD_eq_getElem?_getD, List.getElem?_eq_getElem hi] at this
    exact this
theorem sameL_some {l : List (Option Nat)} {a : Nat} (hl : l ≠ []) : sameL l = some a ↔ ∀ x ∈ l, x = some a := by
  cases l with
  | nil => exact absurd rfl hl
  | cons x r =>
    cases x with
    | none => simp [sameL]
    | some b =>
      simp only [sameL]
      by_cases h : (r.all fun x => decide (x = some b)) = true
      · rw [if_pos h]
        rw [List.all_eq_true] at h
        simp only [decide_eq_true_eq] at h
        constructor
        · intro e y hy
          obtain rfl := Option.some.inj e
          rcases List.mem_cons.1 hy with rfl | hy
          · rfl
          · exact h y hy
        · intro h2; exact h2 _ (by simp)
      · rw [if_neg h]
        constructor
        · intro e; cases e
        · intro h2
          refine absurd ?_ h
          rw [List.all_eq_true]
          intro y hy
          have e1 := h2 (some b) (by simp)
          have e2 := h2 y (by simp [hy])
          rw [e2, ← e1]; simp
theorem nodeOk_nodeS {t : Tr} (h : nodeOk t = true) (root : Bool) : nodeS root t = true ∧ (∀ i, i < t.keys.length → short (t.keys.getD i ByteArray.empty) = true ∧ short (t.vals.getD i ByteArray.empty) = true) := by
  unfold nodeOk at h
  simp only [Bool.and_eq_true, decide_eq_true_eq, Bool.or_eq_true] at h
  obtain ⟨⟨⟨⟨⟨h1, h2⟩, h3⟩, h4⟩, h5⟩, h6⟩ := h
  refine ⟨?_, fun i hi => ⟨(all_getD _ ByteArray.empty _).1 h5 i hi, (all_getD _ ByteArray.empty _).1 h6 i (by omega)⟩⟩
  unfold nodeS
  simp only [Bool.and_eq_true, decide_eq_true_eq, Bool.or_eq_true]
  exact ⟨⟨⟨h2, .inr h1⟩, h3⟩, h4.imp id (fun e => ⟨e, h1⟩)⟩
theorem nodeS_nodeOk {t : Tr} {root : Bool} (h : nodeS root t = true) (h1 : 1 ≤ t.keys.length) (hs : ∀ i, i < t.keys.length → short (t.keys.getD i ByteArray.empty) = true ∧ short (t.vals.getD i ByteArray.empty) = true) : nodeOk t = true := by
  unfold nodeS at h
  simp only [Bool.and_eq_true, decide_eq_true_eq, Bool.or_eq_true] at h
  obtain ⟨⟨⟨h2, _⟩, h3⟩, h4⟩ := h
  unfold nodeOk
  simp only [Bool.and_eq_true, decide_eq_true_eq, Bool.or_eq_true]
  exact ⟨⟨⟨⟨⟨h1, h2⟩, h3⟩, h4.imp id And.left⟩, (all_getD _ ByteArray.empty _).2 fun i hi => (hs i hi).1⟩, (all_getD _ ByteArray.empty _).2 fun i hi => (hs i (by omega)).2⟩
theorem map_getD {α β : Type} (l : List α) (f : α → β) (i : Nat) (d : α) (e : β) (h : i < l.length) : (l.map f).getD i e = f (l.getD i d) := by
  simp [List.getD_eq_getElem?_getD, h]
/-- Of a right shape with d levels below so much room: both looks are one. -/
theorem ok_iff : ∀ (d r : Nat) (root : Bool) (t : Tr) (lo hi : Option ByteArray), d ≤ r → 1 ≤ t.keys.length →
    (okS d root t lo hi = true ↔ (lev r t = some d ∧ srt lo hi (inord r t) = true))
  | 0, r, root, t, lo, hi, _, _ => by
    constructor
    · intro h; simp [okS] at h
    · rintro ⟨h, _⟩
      cases r with
      | zero => simp [lev] at h
      | succ r =>
        simp only [lev] at h
        split at h
        · cases hs : sameL (t.kids.map (lev r)) <;> rw [hs] at h <;> simp at h
        · cases h
  | d + 1, 0, _, _, _, _, h, _ => by omega
  | d + 1, r + 1, root, t, lo, hi, hd, hk => by
    have hkeys : upto (keyS t lo hi) t.keys.length = true ↔ ((∀ i, i < t.keys.length → short (t.keys.getD i ByteArray.empty) = true ∧ short (t.vals.getD i ByteArray.empty) = true) ∧ srt lo hi t.keys = true) := by
      rw [← krow_srt, upto_iff, upto_iff]
      simp only [keyS, krow, Bool.and_eq_true]
      constructor
      · intro h; exact ⟨fun i hi' => ⟨(h i hi').1.1.1.1, (h i hi').1.1.1.2⟩, fun i hi' => ⟨⟨(h i hi').1.1.2, (h i hi').1.2⟩, (h i hi').2⟩⟩
      · rintro ⟨h1, h2⟩ i hi'; exact ⟨⟨⟨⟨(h1 i hi').1, (h1 i hi').2⟩, (h2 i hi').1.1⟩, (h2 i hi').1.2⟩, (h2 i hi').2⟩
    simp only [okS, Bool.and_eq_true, hkeys, lev, inord]
    constructor
    · rintro ⟨⟨⟨hn, hdd⟩, hs, hsrt⟩, hkid⟩
      have hok := nodeS_nodeOk hn hk hs
      rw [if_pos hok]
      have hn' := hn
      unfold nodeS at hn'
      simp only [Bool.and_eq_true, decide_eq_true_eq, Bool.or_eq_true] at hn'
      rw [beq_iff_eq, decide_eq_decide] at hdd
      rw [upto_iff] at hkid
      by_cases hc : t.kids.length = 0
      · obtain hc' := List.eq_nil_of_length_eq_zero hc
        have hd0 := hdd.1 hc
        subst hd0
        rw [hc']
        exact ⟨rfl, by simpa [weave] using hsrt⟩
      · have hcl : t.kids.length = t.keys.length + 1 := by
          rcases hn'.2 with h | h
          · exact absurd h hc
          · exact h.1
        have hkn : ∀ i, i < t.kids.length → 1 ≤ (t.kids.getD i noTr).keys.length := fun i hi' => by
          have := hkid i hi'
          cases d with
          | zero => simp [okS] at this
          | succ d =>
            simp only [okS, Bool.and_eq_true] at this
            have h2 := this.1.1.1
            unfold nodeS at h2
            simp only [Bool.and_eq_true, decide_eq_true_eq, Bool.or_eq_true] at h2
            rcases h2.1.1.2 with h3 | h3
            · cases h3
            · exact h3
        have hrec := fun i hi' => (ok_iff d r false (t.kids.getD i noTr) (loB lo t.keys i) (hiB hi t.keys i) (by omega) (hkn i hi')).1 (hkid i hi')
        refine ⟨?_, ?_⟩
        · have : sameL (t.kids.map (lev r)) = some d := by
            rw [sameL_some (by simp; intro e; rw [e] at hc; exact hc rfl)]
            intro x hx
            rw [List.mem_map] at hx
            obtain ⟨c, hc1, rfl⟩ := hx
            obtain ⟨i, hi', rfl⟩ := List.getElem_of_mem hc1
            have := (hrec i hi').1
            rw [List.getD_eq_getElem?_getD, List.getElem?_eq_getElem hi'] at this
            exact this
          rw [this]; rfl
        · rw [srt_weave _ _ _ _ (by simpa using hcl)]
          refine ⟨hsrt, fun i hi' => ?_⟩
          have hi2 : i < t.kids.length := by simpa using hi'
          rw [map_getD _ _ _ noTr _ hi2]
          exact (hrec i hi2).2
    · rintro ⟨hl, hs⟩
      by_cases hok : nodeOk t = true
      · rw [if_pos hok] at hl
        obtain ⟨hn, hsz⟩ := nodeOk_nodeS hok root
        have hn' := hok
        unfold nodeOk at hn'
        simp only [Bool.and_eq_true, decide_eq_true_eq, Bool.or_eq_true] at hn'
        by_cases hc : t.kids.length = 0
        · obtain hc' := List.eq_nil_of_length_eq_zero hc
          rw [hc'] at hl hs ⊢
          simp only [List.map_nil, sameL, Option.map_some, Option.some.injEq] at hl
          obtain rfl : d = 0 := by omega
          exact ⟨⟨⟨hn, by simp⟩, hsz, by simpa [weave] using hs⟩, by simp [upto]⟩
        · have hcl : t.kids.length = t.keys.length + 1 := by
            rcases hn'.1.1.2 with h | h
            · exact absurd h hc
            · exact h
          rw [srt_weave _ _ _ _ (by simpa using hcl)] at hs
          have hsm : sameL (t.kids.map (lev r)) = some d := by
            cases h : sameL (t.kids.map (lev r)) with
            | none => rw [h] at hl; cases hl
            | some a => rw [h] at hl; simp at hl; rw [hl]
          rw [sameL_some (by simp; intro e; rw [e] at hc; exact hc rfl)] at hsm
          have hlev : ∀ i, i < t.kids.length → lev r (t.kids.getD i noTr) = some d := fun i hi' => by
            rw [List.getD_eq_getElem?_getD, List.getElem?_eq_getElem hi']
            exact hsm _ (List.mem_map.2 ⟨_, List.getElem_mem hi', rfl⟩)
          have hkn : ∀ i, i < t.kids.length → 1 ≤ (t.kids.getD i noTr).keys.length := fun i hi' => by
            have := hlev i hi'
            cases r with
            | zero => simp [lev] at this
            | succ r =>
              simp only [lev] at this
              split at this
              · rename_i h2
                unfold nodeOk at h2
                simp only [Bool.and_eq_true, decide_eq_true_eq] at h2
                exact h2.1.1.1.1.1
              · cases this
          have hd0 : d ≠ 0 := fun e => by
            subst e
            have := (ok_iff 0 r false (t.kids.getD 0 noTr) none none (by omega) (hkn 0 (by omega)))
            have h3 := hlev 0 (by omega)
            cases r with
            | zero => simp [lev] at h3
            | succ r =>
              simp only [lev] at h3
              split at h3
              · cases hs2 : sameL ((t.kids.getD 0 noTr).kids.map (lev r)) <;> rw [hs2] at h3 <;> simp at h3
              · cases h3
          refine ⟨⟨⟨hn, by simp [hc, hd0]⟩, hsz, hs.1⟩, ?_⟩
          rw [upto_iff]
          intro i hi'
          refine (ok_iff d r false (t.kids.getD i noTr) (loB lo t.keys i) (hiB hi t.keys i) (by omega) (hkn i hi')).2 ⟨hlev i hi', ?_⟩
          have := hs.2 i (by simpa using hi')
          rw [map_getD _ _ _ noTr _ hi'] at this
          exact this
      · rw [if_neg hok] at hl; cases hl
theorem lev_dp : ∀ (r f : Nat) (t : Tr) (L : Nat), lev r t = some L → L ≤ f + 1 → 1 ≤ L ∧ L ≤ r ∧ dp f t = L
  | 0, _, _, _, h, _ => by simp [lev] at h
  | r + 1, f, t, L, h, hf => by
    simp only [lev] at h
    split at h
    · cases hs : sameL (t.kids.map (lev r)) with
      | none => rw [hs] at h; cases h
      | some a =>
        rw [hs] at h
        simp only [Option.map_some, Option.some.injEq] at h
        cases hk : t.kids with
        | nil =>
          rw [hk] at hs
          simp only [List.map_nil, sameL, Option.some.injEq] at hs
          refine ⟨by omega, by omega, ?_⟩
          cases f with
          | zero => simp [dp]; omega
          | succ f => simp [dp, hk]; omega
        | cons c cs =>
          rw [hk, sameL_some (by simp)] at hs
          have hc := hs (lev r c) (by simp)
          cases f with
          | zero =>
            obtain ⟨h1, _, _⟩ := lev_dp r a c a hc (by omega)
            omega
          | succ f =>
            obtain ⟨h1, h2, h3⟩ := lev_dp r f c a hc (by omega)
            refine ⟨by omega, by omega, ?_⟩
            simp only [dp, hk]
            omega
    · cases h
/-- What the specification's TreeRight tells: the program's levels. -/
theorem right_same (t : Tr) : (decide (dp 12 t ≤ 12) && okS (dp 12 t) true t none none) = (trLev t).isSome := by
  unfold trLev
  by_cases hk : t.keys.length = 0
  · rw [if_pos hk]
    by_cases hv : t.vals.length = 0 ∧ t.kids.length = 0
    · rw [if_pos hv]
      have hc := List.eq_nil_of_length_eq_zero hv.2
      have h1 : dp 12 t = 1 := by simp [dp, hc]
      rw [h1]
      simp [okS, nodeS, hk, hv.1, hc, upto]
    · rw [if_neg hv]
      have h0 : okS (dp 12 t) true t none none = false := by
        rw [Bool.eq_false_iff]
        intro h
        cases hd : dp 12 t with
        | zero => rw [hd] at h; simp [okS] at h
        | succ d =>
          rw [hd] at h
          simp only [okS, Bool.and_eq_true] at h
          have h2 := h.1.1.1
          unfold nodeS at h2
          simp only [Bool.and_eq_true, decide_eq_true_eq, Bool.or_eq_true] at h2
          refine hv ⟨by omega, ?_⟩
          rcases h2.2 with h3 | h3
          · exact h3
          · omega
      rw [h0]; simp
  · rw [if_neg hk]
    have hk1 : 1 ≤ t.keys.length := by omega
    rw [Bool.eq_iff_iff, Bool.and_eq_true, decide_eq_true_eq]
    constructor
    · rintro ⟨hd, ho⟩
      obtain ⟨h1, h2⟩ := (ok_iff (dp 12 t) 12 true t none none hd hk1).1 ho
      rw [h1, ← rises_srt] at *
      simp [h2]
    · intro h
      cases hl : lev 12 t with
      | none => rw [hl] at h; cases h
      | some L =>
        obtain ⟨h1, h2, h3⟩ := lev_dp 12 12 t L hl (by
          by_cases hL : L ≤ 13
          · exact hL
          · obtain ⟨_, h4, _⟩ := lev_dp 12 L t L hl (by omega)
            omega)
        rw [hl] at h
        by_cases hr : rises (inord 12 t) = true
        · rw [h3]
          refine ⟨by omega, (ok_iff L 12 true t none none (by omega) hk1).2 ⟨hl, ?_⟩⟩
          rw [← rises_srt]; exact hr
        · simp [hr] at h
theorem lev_deep (t : Tr) (L : Nat) (h : trLev t = some L) (hk : t.keys.length ≠ 0) : dp 12 t = L := by
  unfold trLev at h
  rw [if_neg hk] at h
  cases hl : lev 12 t with
  | none => rw [hl] at h; cases h
  | some M =>
    rw [hl] at h
    simp only [Option.bind_some] at h
    split at h
    · obtain rfl := Option.some.inj h
      by_cases hL : M ≤ 13
      · exact (lev_dp 12 12 t M hl hL).2.2
      · obtain ⟨_, h4, _⟩ := lev_dp 12 M t M hl (by omega)
        omega
    · cases h
end Go.Proofs.Ytgnegidgeegknaa
