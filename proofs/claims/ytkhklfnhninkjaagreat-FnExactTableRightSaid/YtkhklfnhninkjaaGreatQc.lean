/-
  Contracts and plain laws: TbKo, TrPlain, CmpP, TbOl, TvP, Skips
-/
import Derived.Test.YtkhklfnhninkjaaGreatQa
import Derived.Test.YtkhklfnhninkjaaGreatQb
import Derived.Deep.CutRange
import Derived.Test.YtkhklfnhninkjaaGreatBase
import Derived.WalkKit
import Derived.Below
import Derived.Test.YtkhklfnhninkjaaGreatVRow
import Derived.WalkLawsBesides
import Derived.Test.YtkhklfnhninkjaaGreatSCopy3
import Derived.Test.YtkhklfnhninkjaaGreatRows
import Derived.Deep.RegionHeld3

/-
  Contract: the bytes of a row's key. The program's answer.
-/
namespace Go.Proofs.YtkhklfnhninkjaaGreat
open Go.RowKit
set_option maxRecDepth 100000

def rowKey (s : Sch) (r : List Val) : ByteArray := mkS (keyL (keyL' s r))
theorem cellsN5k {w : World} {g : Nat} {x0 x1 x2 x3 x4 : Value} {t : TypeId} (h : w.heap[g]? = some (.cells #[x0, x1, x2, x3, x4] t (0, 0))) :
    w.cell? ⟨g, 0, none⟩ = some x0 ∧ w.cell? ⟨g, 1, none⟩ = some x1 ∧ w.cell? ⟨g, 2, none⟩ = some x2 ∧ w.cell? ⟨g, 3, none⟩ = some x3 ∧ w.cell? ⟨g, 4, none⟩ = some x4 ∧ ∀ j, w.frozen? ⟨g, j, none⟩ = false := by
  refine ⟨?_, ?_, ?_, ?_, ?_, fun j => frozen_of_row _ _ _ _ _ h⟩ <;> (rw [cell_of_row _ _ _ _ _ _ h]; rfl)
set_option maxHeartbeats 4000000 in
theorem implKeyOf_any (A B B' : Nat) (ao : Option Addr) (c1 : Nat) (ko : Option Addr) (c2 : Nat) (xo : Option Addr) (c3 : Nat) (mv : Value) (vo : Option Addr) (c4 : Nat) (s : Sch) (vs : List Val) (m : Int) (w : World) (hB : B ≤ w.heap.size) (hB' : B' ≤ w.heap.size) (hl : vs.length ≤ maxLen) (hs : schRight s = true) (hv : rowOk s.cols vs = true) (hr : SchRow w A B ao ko xo c2 s) (hvr : ValRow w B' vo vs) (hm : w.cell? ⟨0, 0, none⟩ = some (.int .i64 m)) :
    Calls Tryz.prog 36 #[.agg #[.string s.name, .slice ao s.cols.length c1, .slice ko s.key.length c2, .slice xo s.idx.length c3, mv], .slice vo vs.length c4] w fun e w' => e = .returned (.string (rowKey s vs)) ∧ Below w.heap.size w w' := by
  have h1 := schRight_len hs
  have h3 := isCols_len (right_key hs)
  have HP := hide (fun (W : World) (hb : Below w.heap.size w W) => implPick_any A B B' vo c4 ko c2 vs s.key W (Nat.le_trans hB hb.size) (Nat.le_trans hB' hb.size) hl (by unfold maxLen; omega) (hr.2.2.1.kept (hb.mono hB)) (hvr.kept (hb.mono hB')))
  have hpk := key_pick hs hv
  have hkr := key_right hs hv
  have hlen : (keyL' s vs).length = s.key.length := pickL_len _ _ _ (Nat.le_refl _)
  have hkl : vsRight (keyL' s vs) = true := by
    unfold vsRight
    rw [hkr, decide_eq_true (by omega)]; rfl
  have HK : Hid (keyOf (keyL' s vs) = rowKey s vs) := if_pos hkl
  have HMM : Hid (∀ W, Below w.heap.size w W → W.cell? ⟨0, 0, none⟩ = some (.int .i64 m)) := fun W hb => (hb.cell (p := ⟨0, 0, none⟩) (block_lt_of_cell hm)).trans hm
  have HMO : Hid ((∀ x ∈ keyL' s vs, x.ok) ∧ ∀ x ∈ keyL' s vs, x.text.size ≤ maxLen) := ⟨fun x hx => hvr.1 x (pick_mem (cols_in (right_key hs) (row_len hv)) (Nat.le_refl _) x hx), fun x hx => hvr.2.1 x (pick_mem (cols_in (right_key hs) (row_len hv)) (Nat.le_refl _) x hx)⟩
  have HLL : Hid ((keyL' s vs).length ≤ maxLen) := by show _ ≤ _; unfold maxLen; omega
  rw [hpk] at HP
  clear hr hvr hs hv hl h1 h3 hpk hkr hkl hlen hm
  generalize keyL' s vs = kl at *
  generalize rowKey s vs = ks at *
  generalize s.name = nm at *
  generalize s.cols.length = n1 at *
  generalize s.key.length = n2 at *
  generalize s.idx.length = n3 at *
  generalize vs.length = n4 at *
  have B0 := hide ((Below.refl w.heap.size w).alloc (Nat.le_refl _) (.cells #[.string nm, .slice ao n1 c1, .slice ko n2 c2, .slice xo n3 c3, mv] 54))
  have X0 := hide (heap_alloc_new w (.cells #[.string nm, .slice ao n1 c1, .slice ko n2 c2, .slice xo n3 c3, mv] 54))
  go_enter Tryz.func36, Tryz.ntmps36
  go_upto_region 1 with fail
  generalize w.alloc (.cells #[.string nm, .slice ao n1 c1, .slice ko n2 c2, .slice xo n3 c3, mv] 54) = W0 at *
  obtain ⟨x0, x1, x2, x3, x4, xf⟩ := cellsN5k X0.out
  go_wp2_with fail
  refine (HP.out _ B0.out).mono ?_
  rintro e w1 ⟨v, rfl, ho, hb1⟩
  have B1 := hide (B0.out.trans (hb1.mono B0.out.size))
  obtain ⟨po, pc, rfl, hpr⟩ := valRow_own ho HMO.out.1 HMO.out.2
  have HKB := hide (implKeyBytes_any po pc kl w1 HLL.out hpr m (HMM.out _ B1.out))
  rw [HK.out] at HKB
  clear ho hb1 hpr HP B0 X0 HMM HMO HLL HK x0 x1 x2 x3 x4 xf
  generalize kl.length = nk at *
  go_wp2_with fail
  refine HKB.out.mono ?_
  rintro e w2 ⟨rfl, hb2⟩
  have B2 := hide (B1.out.trans (hb2.mono B1.out.size))
  go_wp2
  go_ret
  exact ⟨rfl, B2.out⟩
end Go.Proofs.YtkhklfnhninkjaaGreat

/-
  Trees of keys: plain facts.
-/
namespace Go.Proofs.YtkhklfnhninkjaaGreat
open Go.RowKit

/-- A text stands ahead of another. -/
def lt' (a b : ByteArray) : Bool := Go.Op.bytesLess a.toList b.toList
theorem bl_trans : ∀ (a b c : List UInt8), Go.Op.bytesLess a b = true → Go.Op.bytesLess b c = true → Go.Op.bytesLess a c = true
  | _, [], _, h, _ => by simp [Go.Op.bytesLess] at h
  | _, _ :: _, [], _, h => by simp [Go.Op.bytesLess] at h
  | [], _ :: _, _ :: _, _, _ => by simp [Go.Op.bytesLess]
  | a :: x, b :: y, c :: z, h1, h2 => by
    simp only [Go.Op.bytesLess, Bool.or_eq_true, decide_eq_true_eq, Bool.and_eq_true, beq_iff_eq] at h1 h2 ⊢
    rcases h1 with h1 | ⟨rfl, h1⟩
    · rcases h2 with h2 | ⟨rfl, h2⟩
      · exact .inl (UInt8.lt_trans h1 h2)
      · exact .inl h1
    · rcases h2 with h2 | ⟨rfl, h2⟩
      · exact .inl h2
      · exact .inr ⟨rfl, bl_trans x y z h1 h2⟩
theorem bl_irr : ∀ a : List UInt8, Go.Op.bytesLess a a = false
  | [] => by simp [Go.Op.bytesLess]
  | a :: x => by simp [Go.Op.bytesLess, bl_irr x, UInt8.lt_irrefl]
theorem bl_tri : ∀ a b : List UInt8, Go.Op.bytesLess a b = false → Go.Op.bytesLess b a = false → a = b
  | [], [], _, _ => rfl
  | [], _ :: _, h, _ => by simp [Go.Op.bytesLess] at h
  | _ :: _, [], _, h => by simp [Go.Op.bytesLess] at h
  | a :: x, b :: y, h1, h2 => by
    simp only [Go.Op.bytesLess, Bool.or_eq_false_iff, decide_eq_false_iff_not, Bool.and_eq_false_iff, beq_eq_false_iff_ne] at h1 h2
    have hab : a = b := UInt8.le_antisymm (UInt8.not_lt.1 h2.1) (UInt8.not_lt.1 h1.1)
    subst hab
    rcases h1.2 with h | h
    · exact absurd rfl h
    · rcases h2.2 with h' | h'
      · exact absurd rfl h'
      · rw [bl_tri x y h h']
theorem lt_trans' {a b c : ByteArray} (h1 : lt' a b = true) (h2 : lt' b c = true) : lt' a c = true := bl_trans _ _ _ h1 h2
theorem lt_irr' (a : ByteArray) : lt' a a = false := bl_irr _
/-- Ahead of or the same: as the program asks it. -/
theorem le_not_lt (a b : ByteArray) : (Go.Op.bytesLess a.toList b.toList || a.toList == b.toList) = !lt' b a := by
  unfold lt'
  by_cases h : Go.Op.bytesLess b.toList a.toList = true
  · rw [h]
    have h1 : Go.Op.bytesLess a.toList b.toList = false := by
      rw [Bool.eq_false_iff]; intro e
      have := bl_trans _ _ _ h e
      rw [bl_irr] at this; cases this
    have h2 : (a.toList == b.toList) = false := by
      rw [Bool.eq_false_iff]; intro e
      rw [beq_iff_eq] at e
      rw [e, bl_irr] at h; cases h
    rw [h1, h2]; rfl
  · rw [Bool.not_eq_true] at h
    rw [h]
    by_cases h1 : Go.Op.bytesLess a.toList b.toList = true
    · rw [h1]; rfl
    · rw [Bool.not_eq_true] at h1
      have := bl_tri _ _ h1 h
      rw [h1, this]; simp

inductive Tr where
  | node (keys vals : List ByteArray) (kids : List Tr)
def Tr.keys : Tr → List ByteArray | .node k _ _ => k
def Tr.vals : Tr → List ByteArray | .node _ v _ => v
def Tr.kids : Tr → List Tr | .node _ _ c => c
def noTr : Tr := .node [] [] []

theorem upto_shift (p : Nat → Bool) (n : Nat) : upto p (n + 1) = (p 0 && upto (fun i => p (i + 1)) n) := by
  rw [Bool.eq_iff_iff, Bool.and_eq_true, upto_iff, upto_iff]
  constructor
  · intro h; exact ⟨h 0 (by omega), fun i hi => h (i + 1) (by omega)⟩
  · rintro ⟨h0, h1⟩ i hi
    cases i with
    | zero => exact h0
    | succ i => exact h1 i (by omega)

/-! What is right of one node: the program's look, and the specification's. -/
def short (s : ByteArray) : Bool := decide (s.size ≤ 20000)
def nodeOk (t : Tr) : Bool :=
  decide (1 ≤ t.keys.length) && decide (t.keys.length ≤ 3) && decide (t.vals.length = t.keys.length) && (decide (t.kids.length = 0) || decide (t.kids.length = t.keys.length + 1)) && t.keys.all short && t.vals.all short
def nodeS (root : Bool) (t : Tr) : Bool :=
  decide (t.keys.length ≤ 3) && (root || decide (1 ≤ t.keys.length)) && decide (t.vals.length = t.keys.length) && (decide (t.kids.length = 0) || (decide (t.kids.length = t.keys.length + 1) && decide (1 ≤ t.keys.length)))
/-- Kids that are all equally deep: how deep. -/
def sameL : List (Option Nat) → Option Nat
  | [] => some 0
  | none :: _ => none
  | some a :: r => if r.all (fun x => decide (x = some a)) then some a else none
/-- How many levels there are from a node on, if its shape is right and there are at most so many. -/
def lev : Nat → Tr → Option Nat
  | 0, _ => none
  | r + 1, t => if nodeOk t then (sameL (t.kids.map (lev r))).map (· + 1) else none
def weave : List ByteArray → List (List ByteArray) → List ByteArray
  | ks, [] => ks
  | [], c :: _ => c
  | k :: ks, c :: cs => c ++ k :: weave ks cs
def inord : Nat → Tr → List ByteArray
  | 0, _ => []
  | r + 1, t => weave t.keys (t.kids.map (inord r))
def rises : List ByteArray → Bool
  | a :: b :: l => lt' a b && rises (b :: l)
  | _ => true
/-- How many levels a right tree has (none: it is not right). -/
def trLev (t : Tr) : Option Nat :=
  if t.keys.length = 0 then (if t.vals.length = 0 ∧ t.kids.length = 0 then some 0 else none)
  else (lev 12 t).bind fun L => if rises (inord 12 t) then some L else none
/-- The way down by the first kids. -/
def dp : Nat → Tr → Nat
  | 0, _ => 1
  | f + 1, t => match t.kids with | [] => 1 | c :: _ => 1 + dp f c
def above (lo : Option ByteArray) (k : ByteArray) : Bool := match lo with | none => true | some a => lt' a k
def under (k : ByteArray) (hi : Option ByteArray) : Bool := match hi with | none => true | some a => lt' k a
def keyS (t : Tr) (lo hi : Option ByteArray) (i : Nat) : Bool :=
  short (t.keys.getD i ByteArray.empty) && short (t.vals.getD i ByteArray.empty) && (decide (i = 0) || lt' (t.keys.getD (i - 1) ByteArray.empty) (t.keys.getD i ByteArray.empty)) && above lo (t.keys.getD i ByteArray.empty) && under (t.keys.getD i ByteArray.empty) hi
def loB (lo : Option ByteArray) (ks : List ByteArray) (i : Nat) : Option ByteArray := if i = 0 then lo else some (ks.getD (i - 1) ByteArray.empty)
def hiB (hi : Option ByteArray) (ks : List ByteArray) (i : Nat) : Option ByteArray := if i < ks.length then some (ks.getD i ByteArray.empty) else hi
/-- The specification's look. -/
def okS : Nat → Bool → Tr → Option ByteArray → Option ByteArray → Bool
  | 0, _, _, _, _ => false
  | d + 1, root, t, lo, hi => nodeS root t && (decide (t.kids.length = 0) == decide (d = 0)) && upto (keyS t lo hi) t.keys.length && upto (fun i => okS d false (t.kids.getD i noTr) (loB lo t.keys i) (hiB hi t.keys i)) t.kids.length

/-! Both looks are one. -/
def srt (lo hi : Option ByteArray) : List ByteArray → Bool
  | [] => true
  | a :: l => above lo a && under a hi && srt (some a) hi l
theorem rises_srt : ∀ l : List ByteArray, rises l = srt none none l
  | [] => rfl
  | [a] => rfl
  | a :: b :: l => by
    have ih := rises_srt (b :: l)
    simp only [rises, srt, above, under, Bool.true_and] at ih ⊢
    rw [ih]
    simp
theorem above_trans {lo : Option ByteArray} {a k : ByteArray} (h : above lo a = true) (h2 : lt' a k = true) : above lo k = true := by
  cases lo with
  | none => rfl
  | some x => exact lt_trans' h h2
theorem under_trans {hi : Option ByteArray} {a k : ByteArray} (h : lt' a k = true) (h2 : under k hi = true) : under a hi = true := by
  cases hi with
  | none => rfl
  | some x => exact lt_trans' h h2
theorem srt_mid : ∀ (c : List ByteArray) (lo hi : Option ByteArray) (k : ByteArray) (r : List ByteArray), srt lo hi (c ++ k :: r) = true ↔ (srt lo (some k) c = true ∧ above lo k = true ∧ under k hi = true ∧ srt (some k) hi r = true)
  | [], lo, hi, k, r => by simp [srt, and_assoc]
  | a :: c, lo, hi, k, r => by
    have ih := srt_mid c (some a) hi k r
    simp only [List.cons_append, srt, Bool.and_eq_true] at ih ⊢
    rw [ih]
    constructor
    · rintro ⟨⟨h1, h2⟩, h3, h4, h5, h6⟩
      exact ⟨⟨⟨h1, h4⟩, h3⟩, above_trans h1 h4, h5, h6⟩
    · rintro ⟨⟨⟨h1, h4⟩, h3⟩, _, h5, h6⟩
      exact ⟨⟨h1, under_trans h4 h5⟩, h3, h4, h5, h6⟩
/-- Keys in order, each within the bounds: as the specification asks it, place by place. -/
def krow (lo hi : Option ByteArray) (ks : List ByteArray) (i : Nat) : Bool := (decide (i = 0) || lt' (ks.getD (i - 1) ByteArray.empty) (ks.getD i ByteArray.empty)) && above lo (ks.getD i ByteArray.empty) && under (ks.getD i ByteArray.empty) hi
theorem krow_srt : ∀ (ks : List ByteArray) (lo hi : Option ByteArray), upto (krow lo hi ks) ks.length = true ↔ srt lo hi ks = true
  | [], lo, hi => by simp [upto, srt]
  | k :: ks, lo, hi => by
    rw [List.length_cons, upto_shift]
    have ih := krow_srt ks (some k) hi
    simp only [srt, Bool.and_eq_true]
    rw [← ih]
    constructor
    · rintro ⟨h0, h1⟩
      have h0' : above lo k = true ∧ under k hi = true := by simpa [krow] using h0
      refine ⟨h0', ?_⟩
      rw [upto_iff] at h1 ⊢
      have hk : ∀ i, i < ks.length → lt' k (ks.getD i ByteArray.empty) = true := by
        intro i
        induction i with
        | zero => intro hi0; have := h1 0 hi0; simp only [krow, Bool.and_eq_true] at this; simpa using this.1.1
        | succ i ihk =>
          intro hi1
          have h2 := ihk (by omega)
          have h3 := h1 (i + 1) hi1
          simp only [krow, Bool.and_eq_true] at h3
          have h4 : lt' (ks.getD i ByteArray.empty) (ks.getD (i + 1) ByteArray.empty) = true := by simpa using h3.1.1
          exact lt_trans' h2 h4
      intro i hi'
      have h2 := h1 i hi'
      simp only [krow, Bool.and_eq_true] at h2 ⊢
      refine ⟨⟨?_, hk i hi'⟩, by simpa using h2.2⟩
      cases i with
      | zero => simp
      | succ i => simpa using h2.1.1
    · rintro ⟨⟨ha, hu⟩, h1⟩
      refine ⟨by simp [krow, ha, hu], ?_⟩
      rw [upto_iff] at h1 ⊢
      intro i hi'
      have h2 := h1 i hi'
      simp only [krow, Bool.and_eq_true] at h2 ⊢
      have hka : lt' k (ks.getD i ByteArray.empty) = true := h2.1.2
      refine ⟨⟨?_, ?_⟩, by simpa using h2.2⟩
      · cases i with
        | zero => simpa using hka
        | succ i => simpa using h2.1.1
      · have := above_trans (lo := lo) ha hka
        simpa using this
theorem srt_weave : ∀ (ks : List ByteArray) (cs : List (List ByteArray)) (lo hi : Option ByteArray), cs.length = ks.length + 1 →
    (srt lo hi (weave ks cs) = true ↔ (srt lo hi ks = true ∧ ∀ i, i < cs.length → srt (loB lo ks i) (hiB hi ks i) (cs.getD i []) = true))
  | [], [c], lo, hi, _ => by
    simp only [weave, srt, true_and, List.length_singleton]
    constructor
    · intro h i hi'
      obtain rfl : i = 0 := by omega
      simpa [loB, hiB] using h
    · intro h
      simpa [loB, hiB] using h 0 (by omega)
  | [], [], _, _, h => by simp at h
  | [], _ :: _ :: _, _, _, h => by simp at h
  | _ :: _, [], _, _, h => by simp at h
  | k :: ks, c :: cs, lo, hi, h => by
    have ih := srt_weave ks cs (some k) hi (by simpa using h)
    rw [weave, srt_mid, ih]
    simp only [srt, Bool.and_eq_true]
    constructor
    · rintro ⟨h1, h2, h3, h4, h5⟩
      refine ⟨⟨⟨h2, h3⟩, h4⟩, fun i hi' => ?_⟩
      cases i with
      | zero => simpa [loB, hiB] using h1
      | succ i =>
        have := h5 i (by simpa using hi')
        simp only [loB, hiB, List.length_cons, List.getD_cons_succ, Nat.add_sub_cancel, Nat.add_lt_add_iff_right] at this ⊢
        cases i with
        | zero => simpa using this
        | succ i => simpa using this
    · rintro ⟨⟨⟨h2, h3⟩, h4⟩, h5⟩
      refine ⟨by simpa [loB, hiB] using h5 0 (by simp), h2, h3, h4, fun i hi' => ?_⟩
      have := h5 (i + 1) (by simpa using hi')
      simp only [loB, hiB, List.length_cons, List.getD_cons_succ, Nat.add_sub_cancel, Nat.add_lt_add_iff_right] at this ⊢
      cases i with
      | zero => simpa using this
      | succ i => simpa using this
theorem all_getD {α : Type} (l : List α) (d : α) (p : α → Bool) : l.all p = true ↔ ∀ i, i < l.length → p (l.getD i d) = true := by
  rw [List.all_eq_true]
  constructor
  · intro h i hi
    rw [List.getD_eq_getElem?_getD, List.getElem?_eq_getElem hi]
    exact h _ (List.getElem_mem hi)
  · intro h x hx
    obtain ⟨i, hi, rfl⟩ := List.getElem_of_mem hx
    have := h i hi
    rw [List.getD_eq_getElem?_getD, List.getElem?_eq_getElem hi] at this
    exact this
theorem sameL_some {l : List (Option Nat)} {a : Nat} (hl : l ≠ []) : sameL l = some a ↔ ∀ x ∈ l, x = some a := by
  cases l with
  | nil => exact absurd rfl hl
  | cons x r =>
    cases x with
    | none => simp [sameL]
    | some b =>
      simp only [sameL]
      by_cases h : (r.all fun x => decide (x = some b)) = true
      · rw [if_pos h]
        rw [List.all_eq_true] at h
        simp only [decide_eq_true_eq] at h
        constructor
        · intro e y hy
          obtain rfl := Option.some.inj e
          rcases List.mem_cons.1 hy with rfl | hy
          · rfl
          · exact h y hy
        · intro h2; exact h2 _ (by simp)
      · rw [if_neg h]
        constructor
        · intro e; cases e
        · intro h2
          refine absurd ?_ h
          rw [List.all_eq_true]
          intro y hy
          have e1 := h2 (some b) (by simp)
          have e2 := h2 y (by simp [hy])
          rw [e2, ← e1]; simp
theorem nodeOk_nodeS {t : Tr} (h : nodeOk t = true) (root : Bool) : nodeS root t = true ∧ (∀ i, i < t.keys.length → short (t.keys.getD i ByteArray.empty) = true ∧ short (t.vals.getD i ByteArray.empty) = true) := by
  unfold nodeOk at h
  simp only [Bool.and_eq_true, decide_eq_true_eq, Bool.or_eq_true] at h
  obtain ⟨⟨⟨⟨⟨h1, h2⟩, h3⟩, h4⟩, h5⟩, h6⟩ := h
  refine ⟨?_, fun i hi => ⟨(all_getD _ ByteArray.empty _).1 h5 i hi, (all_getD _ ByteArray.empty _).1 h6 i (by omega)⟩⟩
  unfold nodeS
  simp only [Bool.and_eq_true, decide_eq_true_eq, Bool.or_eq_true]
  exact ⟨⟨⟨h2, .inr h1⟩, h3⟩, h4.imp id (fun e => ⟨e, h1⟩)⟩
theorem nodeS_nodeOk {t : Tr} {root : Bool} (h : nodeS root t = true) (h1 : 1 ≤ t.keys.length) (hs : ∀ i, i < t.keys.length → short (t.keys.getD i ByteArray.empty) = true ∧ short (t.vals.getD i ByteArray.empty) = true) : nodeOk t = true := by
  unfold nodeS at h
  simp only [Bool.and_eq_true, decide_eq_true_eq, Bool.or_eq_true] at h
  obtain ⟨⟨⟨h2, _⟩, h3⟩, h4⟩ := h
  unfold nodeOk
  simp only [Bool.and_eq_true, decide_eq_true_eq, Bool.or_eq_true]
  exact ⟨⟨⟨⟨⟨h1, h2⟩, h3⟩, h4.imp id And.left⟩, (all_getD _ ByteArray.empty _).2 fun i hi => (hs i hi).1⟩, (all_getD _ ByteArray.empty _).2 fun i hi => (hs i (by omega)).2⟩
theorem map_getD {α β : Type} (l : List α) (f : α → β) (i : Nat) (d : α) (e : β) (h : i < l.length) : (l.map f).getD i e = f (l.getD i d) := by
  simp [List.getD_eq_getElem?_getD, h]
/-- Of a right shape with d levels below so much room: both looks are one. -/
theorem ok_iff : ∀ (d r : Nat) (root : Bool) (t : Tr) (lo hi : Option ByteArray), d ≤ r → 1 ≤ t.keys.length →
    (okS d root t lo hi = true ↔ (lev r t = some d ∧ srt lo hi (inord r t) = true))
  | 0, r, root, t, lo, hi, _, _ => by
    constructor
    · intro h; simp [okS] at h
    · rintro ⟨h, _⟩
      cases r with
      | zero => simp [lev] at h
      | succ r =>
        simp only [lev] at h
        split at h
        · cases hs : sameL (t.kids.map (lev r)) <;> rw [hs] at h <;> simp at h
        · cases h
  | d + 1, 0, _, _, _, _, h, _ => by omega
  | d + 1, r + 1, root, t, lo, hi, hd, hk => by
    have hkeys : upto (keyS t lo hi) t.keys.length = true ↔ ((∀ i, i < t.keys.length → short (t.keys.getD i ByteArray.empty) = true ∧ short (t.vals.getD i ByteArray.empty) = true) ∧ srt lo hi t.keys = true) := by
      rw [← krow_srt, upto_iff, upto_iff]
      simp only [keyS, krow, Bool.and_eq_true]
      constructor
      · intro h; exact ⟨fun i hi' => ⟨(h i hi').1.1.1.1, (h i hi').1.1.1.2⟩, fun i hi' => ⟨⟨(h i hi').1.1.2, (h i hi').1.2⟩, (h i hi').2⟩⟩
      · rintro ⟨h1, h2⟩ i hi'; exact ⟨⟨⟨⟨(h1 i hi').1, (h1 i hi').2⟩, (h2 i hi').1.1⟩, (h2 i hi').1.2⟩, (h2 i hi').2⟩
    simp only [okS, Bool.and_eq_true, hkeys, lev, inord]
    constructor
    · rintro ⟨⟨⟨hn, hdd⟩, hs, hsrt⟩, hkid⟩
      have hok := nodeS_nodeOk hn hk hs
      rw [if_pos hok]
      have hn' := hn
      unfold nodeS at hn'
      simp only [Bool.and_eq_true, decide_eq_true_eq, Bool.or_eq_true] at hn'
      rw [beq_iff_eq, decide_eq_decide] at hdd
      rw [upto_iff] at hkid
      by_cases hc : t.kids.length = 0
      · obtain hc' := List.eq_nil_of_length_eq_zero hc
        have hd0 := hdd.1 hc
        subst hd0
        rw [hc']
        exact ⟨rfl, by simpa [weave] using hsrt⟩
      · have hcl : t.kids.length = t.keys.length + 1 := by
          rcases hn'.2 with h | h
          · exact absurd h hc
          · exact h.1
        have hkn : ∀ i, i < t.kids.length → 1 ≤ (t.kids.getD i noTr).keys.length := fun i hi' => by
          have := hkid i hi'
          cases d with
          | zero => simp [okS] at this
          | succ d =>
            simp only [okS, Bool.and_eq_true] at this
            have h2 := this.1.1.1
            unfold nodeS at h2
            simp only [Bool.and_eq_true, decide_eq_true_eq, Bool.or_eq_true] at h2
            rcases h2.1.1.2 with h3 | h3
            · cases h3
            · exact h3
        have hrec := fun i hi' => (ok_iff d r false (t.kids.getD i noTr) (loB lo t.keys i) (hiB hi t.keys i) (by omega) (hkn i hi')).1 (hkid i hi')
        refine ⟨?_, ?_⟩
        · have : sameL (t.kids.map (lev r)) = some d := by
            rw [sameL_some (by simp; intro e; rw [e] at hc; exact hc rfl)]
            intro x hx
            rw [List.mem_map] at hx
            obtain ⟨c, hc1, rfl⟩ := hx
            obtain ⟨i, hi', rfl⟩ := List.getElem_of_mem hc1
            have := (hrec i hi').1
            rw [List.getD_eq_getElem?_getD, List.getElem?_eq_getElem hi'] at this
            exact this
          rw [this]; rfl
        · rw [srt_weave _ _ _ _ (by simpa using hcl)]
          refine ⟨hsrt, fun i hi' => ?_⟩
          have hi2 : i < t.kids.length := by simpa using hi'
          rw [map_getD _ _ _ noTr _ hi2]
          exact (hrec i hi2).2
    · rintro ⟨hl, hs⟩
      by_cases hok : nodeOk t = true
      · rw [if_pos hok] at hl
        obtain ⟨hn, hsz⟩ := nodeOk_nodeS hok root
        have hn' := hok
        unfold nodeOk at hn'
        simp only [Bool.and_eq_true, decide_eq_true_eq, Bool.or_eq_true] at hn'
        by_cases hc : t.kids.length = 0
        · obtain hc' := List.eq_nil_of_length_eq_zero hc
          rw [hc'] at hl hs ⊢
          simp only [List.map_nil, sameL, Option.map_some, Option.some.injEq] at hl
          obtain rfl : d = 0 := by omega
          exact ⟨⟨⟨hn, by simp⟩, hsz, by simpa [weave] using hs⟩, by simp [upto]⟩
        · have hcl : t.kids.length = t.keys.length + 1 := by
            rcases hn'.1.1.2 with h | h
            · exact absurd h hc
            · exact h
          rw [srt_weave _ _ _ _ (by simpa using hcl)] at hs
          have hsm : sameL (t.kids.map (lev r)) = some d := by
            cases h : sameL (t.kids.map (lev r)) with
            | none => rw [h] at hl; cases hl
            | some a => rw [h] at hl; simp at hl; rw [hl]
          rw [sameL_some (by simp; intro e; rw [e] at hc; exact hc rfl)] at hsm
          have hlev : ∀ i, i < t.kids.length → lev r (t.kids.getD i noTr) = some d := fun i hi' => by
            rw [List.getD_eq_getElem?_getD, List.getElem?_eq_getElem hi']
            exact hsm _ (List.mem_map.2 ⟨_, List.getElem_mem hi', rfl⟩)
          have hkn : ∀ i, i < t.kids.length → 1 ≤ (t.kids.getD i noTr).keys.length := fun i hi' => by
            have := hlev i hi'
            cases r with
            | zero => simp [lev] at this
            | succ r =>
              simp only [lev] at this
              split at this
              · rename_i h2
                unfold nodeOk at h2
                simp only [Bool.and_eq_true, decide_eq_true_eq] at h2
                exact h2.1.1.1.1.1
              · cases this
          have hd0 : d ≠ 0 := fun e => by
            subst e
            have := (ok_iff 0 r false (t.kids.getD 0 noTr) none none (by omega) (hkn 0 (by omega)))
            have h3 := hlev 0 (by omega)
            cases r with
            | zero => simp [lev] at h3
            | succ r =>
              simp only [lev] at h3
              split at h3
              · cases hs2 : sameL ((t.kids.getD 0 noTr).kids.map (lev r)) <;> rw [hs2] at h3 <;> simp at h3
              · cases h3
          refine ⟨⟨⟨hn, by simp [hc, hd0]⟩, hsz, hs.1⟩, ?_⟩
          rw [upto_iff]
          intro i hi'
          refine (ok_iff d r false (t.kids.getD i noTr) (loB lo t.keys i) (hiB hi t.keys i) (by omega) (hkn i hi')).2 ⟨hlev i hi', ?_⟩
          have := hs.2 i (by simpa using hi')
          rw [map_getD _ _ _ noTr _ hi'] at this
          exact this
      · rw [if_neg hok] at hl; cases hl
theorem lev_dp : ∀ (r f : Nat) (t : Tr) (L : Nat), lev r t = some L → L ≤ f + 1 → 1 ≤ L ∧ L ≤ r ∧ dp f t = L
  | 0, _, _, _, h, _ => by simp [lev] at h
  | r + 1, f, t, L, h, hf => by
    simp only [lev] at h
    split at h
    · cases hs : sameL (t.kids.map (lev r)) with
      | none => rw [hs] at h; cases h
      | some a =>
        rw [hs] at h
        simp only [Option.map_some, Option.some.injEq] at h
        cases hk : t.kids with
        | nil =>
          rw [hk] at hs
          simp only [List.map_nil, sameL, Option.some.injEq] at hs
          refine ⟨by omega, by omega, ?_⟩
          cases f with
          | zero => simp [dp]; omega
          | succ f => simp [dp, hk]; omega
        | cons c cs =>
          rw [hk, sameL_some (by simp)] at hs
          have hc := hs (lev r c) (by simp)
          cases f with
          | zero =>
            obtain ⟨h1, _, _⟩ := lev_dp r a c a hc (by omega)
            omega
          | succ f =>
            obtain ⟨h1, h2, h3⟩ := lev_dp r f c a hc (by omega)
            refine ⟨by omega, by omega, ?_⟩
            simp only [dp, hk]
            omega
    · cases h
/-- What the specification's TreeRight tells: the program's levels. -/
theorem right_same (t : Tr) : (decide (dp 12 t ≤ 12) && okS (dp 12 t) true t none none) = (trLev t).isSome := by
  unfold trLev
  by_cases hk : t.keys.length = 0
  · rw [if_pos hk]
    by_cases hv : t.vals.length = 0 ∧ t.kids.length = 0
    · rw [if_pos hv]
      have hc := List.eq_nil_of_length_eq_zero hv.2
      have h1 : dp 12 t = 1 := by simp [dp, hc]
      rw [h1]
      simp [okS, nodeS, hk, hv.1, hc, upto]
    · rw [if_neg hv]
      have h0 : okS (dp 12 t) true t none none = false := by
        rw [Bool.eq_false_iff]
        intro h
        cases hd : dp 12 t with
        | zero => rw [hd] at h; simp [okS] at h
        | succ d =>
          rw [hd] at h
          simp only [okS, Bool.and_eq_true] at h
          have h2 := h.1.1.1
          unfold nodeS at h2
          simp only [Bool.and_eq_true, decide_eq_true_eq, Bool.or_eq_true] at h2
          refine hv ⟨by omega, ?_⟩
          rcases h2.2 with h3 | h3
          · exact h3
          · omega
      rw [h0]; simp
  · rw [if_neg hk]
    have hk1 : 1 ≤ t.keys.length := by omega
    rw [Bool.eq_iff_iff, Bool.and_eq_true, decide_eq_true_eq]
    constructor
    · rintro ⟨hd, ho⟩
      obtain ⟨h1, h2⟩ := (ok_iff (dp 12 t) 12 true t none none hd hk1).1 ho
      rw [h1, ← rises_srt] at *
      simp [h2]
    · intro h
      cases hl : lev 12 t with
      | none => rw [hl] at h; cases h
      | some L =>
        obtain ⟨h1, h2, h3⟩ := lev_dp 12 12 t L hl (by
          by_cases hL : L ≤ 13
          · exact hL
          · obtain ⟨_, h4, _⟩ := lev_dp 12 L t L hl (by omega)
            omega)
        rw [hl] at h
        by_cases hr : rises (inord 12 t) = true
        · rw [h3]
          refine ⟨by omega, (ok_iff L 12 true t none none (by omega) hk1).2 ⟨hl, ?_⟩⟩
          rw [← rises_srt]; exact hr
        · simp [hr] at h
theorem lev_deep (t : Tr) (L : Nat) (h : trLev t = some L) (hk : t.keys.length ≠ 0) : dp 12 t = L := by
  unfold trLev at h
  rw [if_neg hk] at h
  cases hl : lev 12 t with
  | none => rw [hl] at h; cases h
  | some M =>
    rw [hl] at h
    simp only [Option.bind_some] at h
    split at h
    · obtain rfl := Option.some.inj h
      by_cases hL : M ≤ 13
      · exact (lev_dp 12 12 t M hl hL).2.2
      · obtain ⟨_, h4, _⟩ := lev_dp 12 M t M hl (by omega)
        omega
    · cases h
end Go.Proofs.YtkhklfnhninkjaaGreat

/-
  The order of numbers and texts. Plain laws.
-/
namespace Go.Proofs.YtkhklfnhninkjaaGreat
open Go.RowKit

def cmpI (x y : Int) : Int := if x < y then -1 else if y < x then 1 else 0
theorem cmpI_three (x y : Int) : cmpI x y = 0 ∨ cmpI x y = -1 ∨ cmpI x y = 1 := by
  unfold cmpI
  by_cases h : x < y
  · rw [if_pos h]; omega
  · rw [if_neg h]
    by_cases h' : y < x
    · rw [if_pos h']; omega
    · rw [if_neg h']; omega
theorem less_iff (s t : ByteArray) : Op.bytesLess s.toList t.toList = decide (cmpB s.data.toList t.data.toList = -1) := by
  rw [ByteArray.toList_eq, ByteArray.toList_eq, cmpB_less]
theorem eq_iff (s t : ByteArray) : (s.toList == t.toList) = decide (cmpB s.data.toList t.data.toList = 0) := by
  rw [ByteArray.toList_eq, ByteArray.toList_eq, Bool.eq_iff_iff, beq_iff_eq, decide_eq_true_iff]
  exact ⟨fun h => by rw [h, cmpB_self], cmpB_zero _ _⟩
end Go.Proofs.YtkhklfnhninkjaaGreat

/-
  Rows taken into a map one by one: their keys rise. Plain laws.
-/
namespace Go.Proofs.YtkhklfnhninkjaaGreat
open Go.RowKit Go.Maps
set_option maxRecDepth 100000

def lastS (s : Sch) (l : List (List Val)) (k : Nat) : ByteArray := if k = 0 then ByteArray.empty else rowKey s (l.getD (k - 1) [])
def riseB (s : Sch) (l : List (List Val)) (k : Nat) : Bool := lt' (lastS s l k) (rowKey s (l.getD k []))
theorem rowKey_list (s : Sch) (r : List Val) : (rowKey s r).data.toList = keyL (keyL' s r) := by simp [rowKey, mkS]
theorem lt_cmp (a b : ByteArray) : lt' a b = decide (cmpB a.data.toList b.data.toList = -1) := less_iff a b
theorem key_some {s : Sch} (hs : schRight s = true) (r : List Val) : ∃ x t, keyL (keyL' s r) = x :: t := by
  have h3 := isCols_len (right_key hs)
  have hl : (keyL' s r).length = s.key.length := pickL_len _ _ _ (Nat.le_refl _)
  cases hk : keyL' s r with
  | nil => rw [hk] at hl; simp at hl; omega
  | cons v t =>
    rw [keyL_cons]
    have := keyV_pos v
    cases hv : keyV v with
    | nil => rw [hv] at this; simp at this
    | cons x u => exact ⟨x, _, rfl⟩
theorem rise_eq {s : Sch} {l : List (List Val)} {k : Nat} (hs : schRight s = true) (h1 : rowOk s.cols (l.getD k []) = true) (h0 : k ≠ 0 → rowOk s.cols (l.getD (k - 1) []) = true) (hok : ∀ j, ∀ v ∈ l.getD j [], v.ok) :
    riseB s l k = (decide (k = 0) || decide (cmpL (keyL' s (l.getD (k - 1) [])) (keyL' s (l.getD k [])) < 0)) := by
  unfold riseB
  rw [lt_cmp, rowKey_list]
  unfold lastS
  by_cases hk : k = 0
  · subst hk
    rw [if_pos rfl]
    obtain ⟨x, t, e⟩ := key_some hs (l.getD 0 [])
    rw [e]
    rfl
  · have hin := fun (r : List Val) (hr : rowOk s.cols r = true) => cols_in (right_key hs) (row_len hr)
    rw [if_neg hk, rowKey_list, cmpB_keyL _ _ (key_right hs (h0 hk)) (key_right hs h1) (fun v hv => hok _ v (pick_mem (hin _ (h0 hk)) (Nat.le_refl _) v hv)) (fun v hv => hok _ v (pick_mem (hin _ h1) (Nat.le_refl _) v hv)), decide_eq_false hk, Bool.false_or]
    have := cmpL_three (keyL' s (l.getD (k - 1) [])) (keyL' s (l.getD k []))
    exact decide_eq_decide.2 (by omega)
theorem key_lt {s : Sch} {l : List (List Val)} {i : Nat} : ∀ d, (∀ m, m ≤ i + d + 1 → riseB s l m = true) → lt' (rowKey s (l.getD i [])) (rowKey s (l.getD (i + d + 1) [])) = true
  | 0, h => by
    have := h (i + 1) (Nat.le_refl _)
    unfold riseB lastS at this
    rw [if_neg (by omega)] at this
    exact this
  | d + 1, h => by
    have h1 := key_lt (s := s) (l := l) (i := i) d (fun m hm => h m (by omega))
    have h2 := h (i + d + 1 + 1) (by omega)
    unfold riseB lastS at h2
    rw [if_neg (by omega)] at h2
    exact lt_trans' h1 h2
theorem key_ne {s : Sch} {l : List (List Val)} {i k : Nat} (hi : i < k) (h : ∀ m, m ≤ k → riseB s l m = true) : rowKey s (l.getD i []) ≠ rowKey s (l.getD k []) := by
  intro e
  have := key_lt (s := s) (l := l) (i := i) (k - i - 1) (fun m hm => h m (by omega))
  rw [show i + (k - i - 1) + 1 = k by omega, e] at this
  unfold lt' at this
  rw [bl_irr] at this
  cases this
def klOf (s : Sch) (l : List (List Val)) (j : Nat) : Lit := .string (rowKey s (l.getD j [])).data.toList
theorem klOf_ne {s : Sch} {l : List (List Val)} {i k : Nat} (hi : i < k) (h : ∀ m, m ≤ k → riseB s l m = true) : klOf s l i ≠ klOf s l k := by
  intro e
  unfold klOf at e
  injection e with e
  exact key_ne hi h (ba_ext e)
theorem keyLit' (s : Sch) (l : List (List Val)) (j : Nat) : WideAt.IsKeyLit (klOf s l j) := by unfold klOf WideAt.IsKeyLit; trivial
theorem MapOk.zero (KL : Nat → Lit) (V : Nat → Option Addr × Nat × Nat) : MapOk (.map []) KL V 0 :=
  ⟨fun kl h => by simp [has] at h, fun j hj => absurd hj (Nat.not_lt_zero _), fun i j hi => absurd hi (Nat.not_lt_zero _)⟩
theorem MapOk.step {D : DataW Value} {KL : Nat → Lit} {V : Nat → Option Addr × Nat × Nat} {k : Nat} (h : MapOk D KL V k) (hD : IsMap D) (hk : WideAt.IsKeyLit (KL k)) (hne : ∀ j, j < k → KL j ≠ KL k) : MapOk (D.put (KL k) (.held (mkR (V k)))) KL V (k + 1) := by
  refine ⟨fun kl hkl => ?_, fun j hj => ?_, fun i j hi hj e => ?_⟩
  · by_cases e : kl = KL k
    · exact ⟨k, Nat.lt_succ_self _, e.symm⟩
    · rw [has_put_other e] at hkl
      obtain ⟨j, hj, hjk⟩ := h.inn kl hkl
      exact ⟨j, Nat.lt_succ_of_lt hj, hjk⟩
  · by_cases e : j = k
    · subst e
      exact ⟨has_put_same hD hk _, fun z => atKey_put_same hD hk _ z⟩
    · have hj' : j < k := by omega
      rw [has_put_other (hne j hj')]
      exact ⟨(h.out j hj').1, fun z => by rw [atKey_put_other (hne j hj')]; exact (h.out j hj').2 z⟩
  · by_cases ei : i = k
    · subst ei
      by_cases ej : j = i
      · exact ej.symm
      · exact absurd e.symm (hne j (by omega))
    · by_cases ej : j = k
      · subst ej
        exact absurd e (hne i (by omega))
      · exact h.inj i j (by omega) (by omega) e
end Go.Proofs.YtkhklfnhninkjaaGreat

/-
  Tables as they lie in memory. Plain laws.
-/
namespace Go.Proofs.YtkhklfnhninkjaaGreat
open Go.RowKit
set_option maxRecDepth 100000

/-- A table's parts fit. -/
def tFits (s : Sch) (l : List (List Val)) : Prop := schFits s ∧ l.length ≤ 1048576 ∧ ∀ i, i < l.length → (l.getD i []).length ≤ 1048576
def IsTbl (w : World) (v : Value) : Prop := ∃ a1 c1 a2 c2 a3 c3 a4 c4, ∃ s : Sch, ∃ l : List (List Val), v = .agg #[.string s.name, .slice a1 s.cols.length c1, .slice a2 s.key.length c2, .slice a3 s.idx.length c3, .slice a4 l.length c4] ∧ SchRow w 0 w.heap.size a1 a2 a3 c2 s ∧ l.length ≤ maxLen ∧ RwRow w 0 w.heap.size a4 l
end Go.Proofs.YtkhklfnhninkjaaGreat

/-
  Regions that draw their order: an operation taken first, its slot named; a row of operations passed over whose guards say no.
-/
namespace Go.Proofs.YtkhklfnhninkjaaGreat
open Go.RowKit

section
variable {P : Program} {ops : Array Oper} {Q : Exit → Act → World → Prop} {md : Region.Mode} {S : World → Prop}

theorem takeD (i d : Nat) {oi : Oper} {v : Value} {fuel : Nat} {listed : Array Bool} {a : Act} {w : World} (hi : ops[i]? = some oi) (hd : oi.dst = some d)
    (hs : Region.noSelect ops = true) (hf : Region.free md ops listed i = true) (hr : (Region.ready md ops listed).contains i = true)
    (hQ : ∀ c a w, Q (.panic c) (a.put oi.dst v) w → Q (.panic c) a w) (hw : Region.wanted oi (yielded ops a.tmps) = true) (hy : ∀ w, S w → (execOp a.eval oi).run P w = .ok (.value v) w) (hS : S w)
    (h : wpAnyH P md ops Q S fuel (listed.setIfInBounds i true) (a.put (some d) v) w) : wpAnyH P md ops Q S (fuel + 1) listed a w :=
  wpAnyH_take hi hs hf hr hQ (.inl ⟨hw, hy⟩) hS (by rw [hd]; exact h)
def putAll (a : Act) (l : List (Nat × Nat)) : Act := l.foldl (fun a p => a.put (some p.2) undef) a
def listAll (b : Array Bool) (l : List (Nat × Nat)) : Array Bool := l.foldl (fun b p => b.setIfInBounds p.1 true) b
/-- May these come up one behind the other, and do their guards all say no? -/
def skipOk (md : Region.Mode) (ops : Array Oper) : List (Nat × Nat) → Array Bool → Act → Bool
  | [], _, _ => true
  | (i, d) :: r, b, a => (match ops[i]? with | some o => (o.dst == some d) && !(Region.wanted o (yielded ops a.tmps)) | none => false) && Region.free md ops b i && (Region.ready md ops b).contains i && skipOk md ops r (b.setIfInBounds i true) (a.put (some d) undef)
theorem skipAll (l : List (Nat × Nat)) (hs : Region.noSelect ops = true) (hQ : ∀ c d v a w, Q (.panic c) (Act.put a d v) w → Q (.panic c) a w) {w : World} (hS : S w) :
    ∀ {fuel : Nat} {listed : Array Bool} {a : Act}, skipOk md ops l listed a = true → wpAnyH P md ops Q S fuel (listAll listed l) (putAll a l) w → wpAnyH P md ops Q S (fuel + l.length) listed a w := by
  induction l with
  | nil => intro fuel listed a _ h; exact h
  | cons p r ih =>
    intro fuel listed a hok h
    obtain ⟨i, d⟩ := p
    simp only [skipOk, Bool.and_eq_true] at hok
    obtain ⟨⟨⟨h1, h2⟩, h3⟩, h4⟩ := hok
    cases ho : ops[i]? with
    | none => rw [ho] at h1; cases h1
    | some o =>
      rw [ho] at h1
      simp only [Bool.and_eq_true, beq_iff_eq, Bool.not_eq_true'] at h1
      have := ih h4 h
      exact wpAnyH_take (i := i) (oi := o) (v := undef) ho hs h2 h3 (fun c a w => hQ c _ _ a w) (.inr ⟨h1.2, rfl⟩) hS (by rw [h1.1]; exact this)
end
end Go.Proofs.YtkhklfnhninkjaaGreat
