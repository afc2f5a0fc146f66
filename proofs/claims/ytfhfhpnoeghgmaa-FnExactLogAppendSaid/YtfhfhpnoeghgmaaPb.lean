/-
  Contracts and plain laws, part 2 of 5: DkSec, TrPlain, Out3, GrowG, TrRow, DkRow, OwnStr, OwnDk, AppOwn, DkCp, DkWr, StrSz
-/
import Derived.Lib.BufferWrite
import Derived.Laws.ResultCell
import Derived.Deep.WholeRow
import Derived.Laws.CopyOwn
import Derived.WalkKit
import Derived.Below
import Derived.Maps.AppendAt
import Derived.Test.YtfhfhpnoeghgmaaRows
import Derived.Deep.RegionHeld3
import Derived.OwnWalk
import Derived.WalkLawsBesides
import Derived.Laws.OwnMore
import Derived.Laws.AppendOwnNone
import Derived.RegionTactic
import Derived.Test.YtfhfhpnoeghgmaaPa

/-
  Contracts: a text's first 64 bytes as a sector; a sector as a text.
-/
namespace Go.Proofs.Ytfhfhpnoeghgmaa
open Go.RowKit
set_option maxRecDepth 100000

/-- A text's first 64 bytes, bytes 0 filling them up. -/
def pad (l : List UInt8) : List UInt8 := l.take 64 ++ List.replicate (64 - l.length) 0
/-- 64 bytes 0. -/
def zSec : List UInt8 := List.replicate 64 0
theorem zSec_len : zSec.length = 64 := by simp [zSec]
theorem pad_len (l : List UInt8) : (pad l).length = 64 := by simp [pad]; omega
theorem pad_full {l : List UInt8} (h : l.length = 64) : pad l = l := by unfold pad; rw [List.take_of_length_le (by omega), h]; simp
def secV (l : List UInt8) : Array Value := (Lib.byteCells l).toArray
theorem secV_size (l : List UInt8) : (secV l).size = l.length := by simp [secV, Lib.byteCells]
theorem secV_one (l : List UInt8) : (secV l).all (·.oneCell') = true := by
  rw [Array.all_eq_true_iff_forall_mem]
  intro v hv
  exact Lib.byteCells_one l v (by simpa [secV] using hv)
theorem byteCells_nums (l : List UInt8) : Lib.byteCells l = (numsU l).map (Value.int .u8) := by simp [Lib.byteCells, numsU, Function.comp_def]
theorem cells_zero (n : Nat) : Lib.byteCells (List.replicate n 0) = List.replicate n (Value.int .u8 0) := by simp [Lib.byteCells]
theorem cells_app (a b : List UInt8) : Lib.byteCells (a ++ b) = Lib.byteCells a ++ Lib.byteCells b := by simp [Lib.byteCells]
/-- 'copy(dst, s)' over 64 bytes 0. -/
theorem run_copy_pad {P : Program} (w : World) (dT sT elem : TypeId) (g : Nat) (s : ByteArray) (t : TypeId)
    (hu : P.underlying dT = some (.slice elem)) (hs : (P.info? elem).map (·.size) = some 1) (hg : w.heap[g]? = some (.cells (secV zSec) t (0, 0))) :
    ∃ n : Nat, ∀ ty, (Builtin.copy_ #[dT, sT] ty #[.slice (some ⟨g, 0, none⟩) 64 64, .string s]).run P w = .ok (goInt n) (w.setRow g (secV (pad s.data.toList))) := by
  have hds : s.data.toList.length = s.size := rfl
  by_cases h : s.size ≤ 64
  · refine ⟨s.size, fun ty => ?_⟩
    rw [Lib.run_copy_row_string w dT sT ty elem g 0 64 64 s _ t hu hs hg h (by rw [secV_size, zSec_len]; simpa using h)]
    congr 2
    have e1 : (secV zSec).toList = List.replicate 64 (Value.int .u8 0) := by unfold secV zSec; rw [cells_zero]
    rw [e1]
    unfold secV pad
    rw [cells_app, cells_zero, List.take_of_length_le (show s.data.toList.length ≤ 64 by rw [hds]; exact h), hds, List.take_zero, List.nil_append, Nat.zero_add, List.drop_replicate]
  · refine ⟨64, fun ty => ?_⟩
    have hst := run_storeCells_at P g 0 t (Lib.byteCells (s.data.toList.take 64)) 0 (secV zSec) w hg (by simp [Lib.byteCells, secV, zSec]; omega) (Lib.byteCells_one _)
    have hmin : Nat.min s.size 64 = 64 := Nat.min_eq_right (by omega)
    have hlen : (Lib.byteCells (s.data.toList.take 64)).length = 64 := by simp [Lib.byteCells]; omega
    rw [hlen] at hst
    simp only [Nat.add_zero, List.take_zero, List.nil_append, Nat.zero_add] at hst
    have hd : List.drop 64 (secV zSec).toList = [] := List.drop_eq_nil_of_le (by simp [secV, Lib.byteCells, zSec])
    rw [hd, List.append_nil] at hst
    have hp : secV (pad s.data.toList) = (Lib.byteCells (s.data.toList.take 64)).toArray := by
      unfold secV pad
      rw [show 64 - s.data.toList.length = 0 by omega]; simp
    cases hq : P.info? elem with
    | none => simp [hq] at hs
    | some i =>
      simp [Builtin.copy_, run_underlying hu, Builtin.lenOf, Builtin.firstCells, sizeOf, typeInfo, hq, hmin]
      have hst' : Sem.run P (storeCells ⟨g, 0, none⟩ (List.map (fun b : UInt8 => Value.int IntKind.u8 (b.toNat : Int)) (List.take 64 s.data.toList))) w = _ := hst
      rw [← List.map_take, hst', hp]
      simp [Result.andThen]
theorem Try.infoSec : (Try.prog.info? 92).map (fun i => (i.zero, i.size)) = some (some (.agg (secV zSec)), 64) := by kernel_rfl
set_option maxHeartbeats 1000000 in
theorem sectorText_any (l : List UInt8) (hl : l.length = 64) (w : World) :
    Calls Try.prog 70 #[.agg (secV l)] w fun e w' => e = .returned (.string (mkS l)) ∧ Below w.heap.size w w' := by
  have hrun : (convert 22 9 (.slice (some ⟨w.heap.size, 0, none⟩) 64 64)).run Try.prog (w.alloc (.cells (secV l) 92)) = .ok (.string (mkS l)) (w.alloc (.cells (secV l) 92)) := by
    rw [← strOfNums_bytes]
    refine run_convert_bytes_arg _ 22 5 Try.underlying22 Try.underlying5 w.heap.size 0 64 64 (l.map fun b => (b.toNat : Int)) (by simpa using hl) (fun i hi => ?_) 9 Try.underlying9
    rw [Nat.zero_add, cell_of_row _ _ _ _ _ _ (heap_alloc_new w _)]
    unfold secV Lib.byteCells
    rw [List.getElem?_toArray, List.getElem?_map, List.getElem?_eq_getElem (by omega)]
    simp [List.getElem?_eq_getElem (show i < l.length by omega)]
  have B0 := hide ((Below.refl w.heap.size w).alloc (Nat.le_refl _) (.cells (secV l) 92))
  go_enter Try.func70, Try.ntmps70
  go_wp2
  go_ret
  exact ⟨rfl, B0.out⟩
set_option maxHeartbeats 1000000 in
theorem sectorOf_any (s : ByteArray) (w : World) :
    Calls Try.prog 114 #[.string s] w fun e w' => e = .returned (.agg (secV (pad s.data.toList))) ∧ Below w.heap.size w w' := by
  have hz := zero_of_info Try.infoSec
  have hzz := hz.1
  have HS64 := hide hz.2
  have hs : (Try.prog.info? 5).map (·.size) = some 1 := by kernel_rfl
  have HA := two_allocs w (.cells (secV zSec) 92) (.cells (secV zSec) 92)
  have B0 := hide (((Below.refl w.heap.size w).alloc (Nat.le_refl _) (.cells (secV zSec) 92)).alloc (by simp) (.cells (secV zSec) 92))
  obtain ⟨n, w1, hcp, hg1, hr1, hb1⟩ : ∃ (n : Nat) (w1 : World), (∀ ty, (Builtin.copy_ #[22, 9] ty #[.slice (some ⟨w.heap.size + 1, 0, none⟩) 64 64, .string s]).run Try.prog ((w.alloc (.cells (secV zSec) 92)).alloc (.cells (secV zSec) 92)) = .ok (goInt n) w1) ∧ w1.heap[w.heap.size + 1]? = some (.cells (secV (pad s.data.toList)) 92 (0, 0)) ∧ w1.heap[w.heap.size]? = some (.cells (secV zSec) 92 (0, 0)) ∧ Below w.heap.size w w1 := by
    obtain ⟨n, h⟩ := run_copy_pad (P := Try.prog) ((w.alloc (.cells (secV zSec) 92)).alloc (.cells (secV zSec) 92)) 22 9 5 (w.heap.size + 1) s _ Try.underlying22 hs HA.2.1
    exact ⟨n, _, h, setRow_heap _ _ _ _ _ _ HA.2.1, (setRow_other _ _ _ _ (by omega)).trans HA.1, below_setRow B0.out (Nat.le_succ _) _⟩
  have HG1 := hide hg1
  have HR1 := hide hr1
  have B1 := hide hb1
  clear hz HA B0 hg1 hr1 hb1 hs
  go_enter Try.func114, Try.ntmps114
  go_wp2_with (first | (refine wpList_load_row rfl 92 _ rfl (w.heap.size + 1) rfl 92 _ (0, 0) _ HG1.out Try.underlying92 rfl (by rw [secV_size, pad_len]; exact HS64.out) ?_) | (refine wpList_store_row rfl 92 _ _ rfl w.heap.size _ rfl rfl 92 _ HR1.out (by rw [secV_size, pad_len]; exact HS64.out) (by rw [secV_size, secV_size, zSec_len, pad_len]) (secV_one _) ?_))
  refine bodyPost_ret (v := .agg (secV (pad s.data.toList))) (results_cell_row (p := 2) rfl _ _ w.heap.size 92 _ (0, 0) _ rfl (setRow_heap _ _ _ _ _ _ HR1.out) Try.underlying92 rfl (by rw [secV_size, pad_len]; exact HS64.out)) rfl ⟨rfl, below_setRow B1.out (Nat.le_refl _) _⟩
end Go.Proofs.Ytfhfhpnoeghgmaa

/-
  Trees of keys: plain facts.
-/
namespace Go.Proofs.Ytfhfhpnoeghgmaa
open Go.RowKit

/-- A text stands ahead of another. -/
def lt' (a b : ByteArray) : Bool := Go.Op.bytesLess a.toList b.toList
theorem bl_trans : ∀ (a b c : List UInt8), Go.Op.bytesLess a b = true → Go.Op.bytesLess b c = true → Go.Op.bytesLess a c = true
  | _, [], _, h, _ => by simp [Go.Op.bytesLess] at h
  | _, _ :: _, [], _, h => by simp [Go.Op.bytesLess] at h
  | [], _ :: _, _ :: _, _, _ => by simp [Go.Op.bytesLess]
  | a :: x, b :: y, c :: z, h1, h2 => by
    simp only [Go.Op.bytesLess, Bool.or_eq_true, decide_eq_true_eq, Bool.and_eq_true, beq_iff_eq] at h1 h2 ⊢
    rcases h1 with h1 | ⟨rfl, h1⟩
    · rcases h2 with h2 | ⟨rfl, h2⟩
      · exact .inl (UInt8.lt_trans h1 h2)
      · exact .inl h1
    · rcases h2 with h2 | ⟨rfl, h2⟩
      · exact .inl h2
      · exact .inr ⟨rfl, bl_trans x y z h1 h2⟩
theorem bl_irr : ∀ a : List UInt8, Go.Op.bytesLess a a = false
  | [] => by simp [Go.Op.bytesLess]
  | a :: x => by simp [Go.Op.bytesLess, bl_irr x, UInt8.lt_irrefl]
theorem bl_tri : ∀ a b : List UInt8, Go.Op.bytesLess a b = false → Go.Op.bytesLess b a = false → a = b
  | [], [], _, _ => rfl
  | [], _ :: _, h, _ => by simp [Go.Op.bytesLess] at h
  | _ :: _, [], _, h => by simp [Go.Op.bytesLess] at h
  | a :: x, b :: y, h1, h2 => by
    simp only [Go.Op.bytesLess, Bool.or_eq_false_iff, decide_eq_false_iff_not, Bool.and_eq_false_iff, beq_eq_false_iff_ne] at h1 h2
    have hab : a = b := UInt8.le_antisymm (UInt8.not_lt.1 h2.1) (UInt8.not_lt.1 h1.1)
    subst hab
    rcases h1.2 with h | h
    · exact absurd rfl h
    · rcases h2.2 with h' | h'
      · exact absurd rfl h'
      · rw [bl_tri x y h h']
theorem lt_trans' {a b c : ByteArray} (h1 : lt' a b = true) (h2 : lt' b c = true) : lt' a c = true := bl_trans _ _ _ h1 h2
theorem lt_irr' (a : ByteArray) : lt' a a = false := bl_irr _
/-- Ahead of or the same: as the program asks it. -/
theorem le_not_lt (a b : ByteArray) : (Go.Op.bytesLess a.toList b.toList || a.toList == b.toList) = !lt' b a := by
  unfold lt'
  by_cases h : Go.Op.bytesLess b.toList a.toList = true
  · rw [h]
    have h1 : Go.Op.bytesLess a.toList b.toList = false := by
      rw [Bool.eq_false_iff]; intro e
      have := bl_trans _ _ _ h e
      rw [bl_irr] at this; cases this
    have h2 : (a.toList == b.toList) = false := by
      rw [Bool.eq_false_iff]; intro e
      rw [beq_iff_eq] at e
      rw [e, bl_irr] at h; cases h
    rw [h1, h2]; rfl
  · rw [Bool.not_eq_true] at h
    rw [h]
    by_cases h1 : Go.Op.bytesLess a.toList b.toList = true
    · rw [h1]; rfl
    · rw [Bool.not_eq_true] at h1
      have := bl_tri _ _ h1 h
      rw [h1, this]; simp

inductive Tr where
  | node (keys vals : List ByteArray) (kids : List Tr)
def Tr.keys : Tr → List ByteArray | .node k _ _ => k
def Tr.vals : Tr → List ByteArray | .node _ v _ => v
def Tr.kids : Tr → List Tr | .node _ _ c => c
def noTr : Tr := .node [] [] []

theorem upto_shift (p : Nat → Bool) (n : Nat) : upto p (n + 1) = (p 0 && upto (fun i => p (i + 1)) n) := by
  rw [Bool.eq_iff_iff, Bool.and_eq_true, upto_iff, upto_iff]
  constructor
  · intro h; exact ⟨h 0 (by omega), fun i hi => h (i + 1) (by omega)⟩
  · rintro ⟨h0, h1⟩ i hi
    cases i with
    | zero => exact h0
    | succ i => exact h1 i (by omega)

/-! What is right of one node: the program's look, and the specification's. -/
def short (s : ByteArray) : Bool := decide (s.size ≤ 20000)
def nodeOk (t : Tr) : Bool :=
  decide (1 ≤ t.keys.length) && decide (t.keys.length ≤ 3) && decide (t.vals.length = t.keys.length) && (decide (t.kids.length = 0) || decide (t.kids.length = t.keys.length + 1)) && t.keys.all short && t.vals.all short
def nodeS (root : Bool) (t : Tr) : Bool :=
  decide (t.keys.length ≤ 3) && (root || decide (1 ≤ t.keys.length)) && decide (t.vals.length = t.keys.length) && (decide (t.kids.length = 0) || (decide (t.kids.length = t.keys.length + 1) && decide (1 ≤ t.keys.length)))
/-- Kids that are all equally deep: how deep. -/
def sameL : List (Option Nat) → Option Nat
  | [] => some 0
  | none :: _ => none
  | some a :: r => if r.all (fun x => decide (x = some a)) then some a else none
/-- How many levels there are from a node on, if its shape is right and there are at most so many. -/
def lev : Nat → Tr → Option Nat
  | 0, _ => none
  | r + 1, t => if nodeOk t then (sameL (t.kids.map (lev r))).map (· + 1) else none
def weave : List ByteArray → List (List ByteArray) → List ByteArray
  | ks, [] => ks
  | [], c :: _ => c
  | k :: ks, c :: cs => c ++ k :: weave ks cs
def inord : Nat → Tr → List ByteArray
  | 0, _ => []
  | r + 1, t => weave t.keys (t.kids.map (inord r))
def rises : List ByteArray → Bool
  | a :: b :: l => lt' a b && rises (b :: l)
  | _ => true
/-- How many levels a right tree has (none: it is not right). -/
def trLev (t : Tr) : Option Nat :=
  if t.keys.length = 0 then (if t.vals.length = 0 ∧ t.kids.length = 0 then some 0 else none)
  else (lev 12 t).bind fun L => if rises (inord 12 t) then some L else none
/-- The way down by the first kids. -/
def dp : Nat → Tr → Nat
  | 0, _ => 1
  | f + 1, t => match t.kids with | [] => 1 | c :: _ => 1 + dp f c
def above (lo : Option ByteArray) (k : ByteArray) : Bool := match lo with | none => true | some a => lt' a k
def under (k : ByteArray) (hi : Option ByteArray) : Bool := match hi with | none => true | some a => lt' k a
def keyS (t : Tr) (lo hi : Option ByteArray) (i : Nat) : Bool :=
  short (t.keys.getD i ByteArray.empty) && short (t.vals.getD i ByteArray.empty) && (decide (i = 0) || lt' (t.keys.getD (i - 1) ByteArray.empty) (t.keys.getD i ByteArray.empty)) && above lo (t.keys.getD i ByteArray.empty) && under (t.keys.getD i ByteArray.empty) hi
def loB (lo : Option ByteArray) (ks : List ByteArray) (i : Nat) : Option ByteArray := if i = 0 then lo else some (ks.getD (i - 1) ByteArray.empty)
def hiB (hi : Option ByteArray) (ks : List ByteArray) (i : Nat) : Option ByteArray := if i < ks.length then some (ks.getD i ByteArray.empty) else hi
/-- The specification's look. -/
def okS : Nat → Bool → Tr → Option ByteArray → Option ByteArray → Bool
  | 0, _, _, _, _ => false
  | d + 1, root, t, lo, hi => nodeS root t && (decide (t.kids.length = 0) == decide (d = 0)) && upto (keyS t lo hi) t.keys.length && upto (fun i => okS d false (t.kids.getD i noTr) (loB lo t.keys i) (hiB hi t.keys i)) t.kids.length

/-! Both looks are one. -/
def srt (lo hi : Option ByteArray) : List ByteArray → Bool
  | [] => true
  | a :: l => above lo a && under a hi && srt (some a) hi l
theorem rises_srt : ∀ l : List ByteArray, rises l = srt none none l
  | [] => rfl
  | [a] => rfl
  | a :: b :: l => by
    have ih := rises_srt (b :: l)
    simp only [rises, srt, above, under, Bool.true_and] at ih ⊢
    rw [ih]
    simp
theorem above_trans {lo : Option ByteArray} {a k : ByteArray} (h : above lo a = true) (h2 : lt' a k = true) : above lo k = true := by
  cases lo with
  | none => rfl
  | some x => exact lt_trans' h h2
theorem under_trans {hi : Option ByteArray} {a k : ByteArray} (h : lt' a k = true) (h2 : under k hi = true) : under a hi = true := by
  cases hi with
  | none => rfl
  | some x => exact lt_trans' h h2
theorem srt_mid : ∀ (c : List ByteArray) (lo hi : Option ByteArray) (k : ByteArray) (r : List ByteArray), srt lo hi (c ++ k :: r) = true ↔ (srt lo (some k) c = true ∧ above lo k = true ∧ under k hi = true ∧ srt (some k) hi r = true)
  | [], lo, hi, k, r => by simp [srt, and_assoc]
  | a :: c, lo, hi, k, r => by
    have ih := srt_mid c (some a) hi k r
    simp only [List.cons_append, srt, Bool.and_eq_true] at ih ⊢
    rw [ih]
    constructor
    · rintro ⟨⟨h1, h2⟩, h3, h4, h5, h6⟩
      exact ⟨⟨⟨h1, h4⟩, h3⟩, above_trans h1 h4, h5, h6⟩
    · rintro ⟨⟨⟨h1, h4⟩, h3⟩, _, h5, h6⟩
      exact ⟨⟨h1, under_trans h4 h5⟩, h3, h4, h5, h6⟩
/-- Keys in order, each within the bounds: as the specification asks it, place by place. -/
def krow (lo hi : Option ByteArray) (ks : List ByteArray) (i : Nat) : Bool := (decide (i = 0) || lt' (ks.getD (i - 1) ByteArray.empty) (ks.getD i ByteArray.empty)) && above lo (ks.getD i ByteArray.empty) && under (ks.getD i ByteArray.empty) hi
theorem krow_srt : ∀ (ks : List ByteArray) (lo hi : Option ByteArray), upto (krow lo hi ks) ks.length = true ↔ srt lo hi ks = true
  | [], lo, hi => by simp [upto, srt]
  | k :: ks, lo, hi => by
    rw [List.length_cons, upto_shift]
    have ih := krow_srt ks (some k) hi
    simp only [srt, Bool.and_eq_true]
    rw [← ih]
    constructor
    · rintro ⟨h0, h1⟩
      have h0' : above lo k = true ∧ under k hi = true := by simpa [krow] using h0
      refine ⟨h0', ?_⟩
      rw [upto_iff] at h1 ⊢
      have hk : ∀ i, i < ks.length → lt' k (ks.getD i ByteArray.empty) = true := by
        intro i
        induction i with
        | zero => intro hi0; have := h1 0 hi0; simp only [krow, Bool.and_eq_true] at this; simpa using this.1.1
        | succ i ihk =>
          intro hi1
          have h2 := ihk (by omega)
          have h3 := h1 (i + 1) hi1
          simp only [krow, Bool.and_eq_true] at h3
          have h4 : lt' (ks.getD i ByteArray.empty) (ks.getD (i + 1) ByteArray.empty) = true := by simpa using h3.1.1
          exact lt_trans' h2 h4
      intro i hi'
      have h2 := h1 i hi'
      simp only [krow, Bool.and_eq_true] at h2 ⊢
      refine ⟨⟨?_, hk i hi'⟩, by simpa using h2.2⟩
      cases i with
      | zero => simp
      | succ i => simpa using h2.1.1
    · rintro ⟨⟨ha, hu⟩, h1⟩
      refine ⟨by simp [krow, ha, hu], ?_⟩
      rw [upto_iff] at h1 ⊢
      intro i hi'
      have h2 := h1 i hi'
      simp only [krow, Bool.and_eq_true] at h2 ⊢
      have hka : lt' k (ks.getD i ByteArray.empty) = true := h2.1.2
      refine ⟨⟨?_, ?_⟩, by simpa using h2.2⟩
      · cases i with
        | zero => simpa using hka
        | succ i => simpa using h2.1.1
      · have := above_trans (lo := lo) ha hka
        simpa using this
theorem srt_weave : ∀ (ks : List ByteArray) (cs : List (List ByteArray)) (lo hi : Option ByteArray), cs.length = ks.length + 1 →
    (srt lo hi (weave ks cs) = true ↔ (srt lo hi ks = true ∧ ∀ i, i < cs.length → srt (loB lo ks i) (hiB hi ks i) (cs.getD i []) = true))
  | [], [c], lo, hi, _ => by
    simp only [weave, srt, true_and, List.length_singleton]
    constructor
    · intro h i hi'
      obtain rfl : i = 0 := by omega
      simpa [loB, hiB] using h
    · intro h
      simpa [loB, hiB] using h 0 (by omega)
  | [], [], _, _, h => by simp at h
  | [], _ :: _ :: _, _, _, h => by simp at h
  | _ :: _, [], _, _, h => by simp at h
  | k :: ks, c :: cs, lo, hi, h => by
    have ih := srt_weave ks cs (some k) hi (by simpa using h)
    rw [weave, srt_mid, ih]
    simp only [srt, Bool.and_eq_true]
    constructor
    · rintro ⟨h1, h2, h3, h4, h5⟩
      refine ⟨⟨⟨h2, h3⟩, h4⟩, fun i hi' => ?_⟩
      cases i with
      | zero => simpa [loB, hiB] using h1
      | succ i =>
        have := h5 i (by simpa using hi')
        simp only [loB, hiB, List.length_cons, List.getD_cons_succ, Nat.add_sub_cancel, Nat.add_lt_add_iff_right] at this ⊢
        cases i with
        | zero => simpa using this
        | succ i => simpa using this
    · rintro ⟨⟨⟨h2, h3⟩, h4⟩, h5⟩
      refine ⟨by simpa [loB, hiB] using h5 0 (by simp), h2, h3, h4, fun i hi' => ?_⟩
      have := h5 (i + 1) (by simpa using hi')
      simp only [loB, hiB, List.length_cons, List.getD_cons_succ, Nat.add_sub_cancel, Nat.add_lt_add_iff_right] at this ⊢
      cases i with
      | zero => simpa using this
      | succ i => simpa using this
theorem all_getD {α : Type} (l : List α) (d : α) (p : α → Bool) : l.all p = true ↔ ∀ i, i < l.length → p (l.getD i d) = true := by
  rw [List.all_eq_true]
  constructor
  · intro h i hi
    rw [List.getD_eq_getElem?_getD, List.getElem?_eq_getElem hi]
    exact h _ (List.getElem_mem hi)
  · intro h x hx
    obtain ⟨i, hi, rfl⟩ := List.getElem_of_mem hx
    have := h i hi
    rw [List.getD_eq_getElem?_getD, List.getElem?_eq_getElem hi] at this
    exact this
theorem sameL_some {l : List (Option Nat)} {a : Nat} (hl : l ≠ []) : sameL l = some a ↔ ∀ x ∈ l, x = some a := by
  cases l with
  | nil => exact absurd rfl hl
  | cons x r =>
    cases x with
    | none => simp [sameL]
    | some b =>
      simp only [sameL]
      by_cases h : (r.all fun x => decide (x = some b)) = true
      · rw [if_pos h]
        rw [List.all_eq_true] at h
        simp only [decide_eq_true_eq] at h
        constructor
        · intro e y hy
          obtain rfl := Option.some.inj e
          rcases List.mem_cons.1 hy with rfl | hy
          · rfl
          · exact h y hy
        · intro h2; exact h2 _ (by simp)
      · rw [if_neg h]
        constructor
        · intro e; cases e
        · intro h2
          refine absurd ?_ h
          rw [List.all_eq_true]
          intro y hy
          have e1 := h2 (some b) (by simp)
          have e2 := h2 y (by simp [hy])
          rw [e2, ← e1]; simp
theorem nodeOk_nodeS {t : Tr} (h : nodeOk t = true) (root : Bool) : nodeS root t = true ∧ (∀ i, i < t.keys.length → short (t.keys.getD i ByteArray.empty) = true ∧ short (t.vals.getD i ByteArray.empty) = true) := by
  unfold nodeOk at h
  simp only [Bool.and_eq_true, decide_eq_true_eq, Bool.or_eq_true] at h
  obtain ⟨⟨⟨⟨⟨h1, h2⟩, h3⟩, h4⟩, h5⟩, h6⟩ := h
  refine ⟨?_, fun i hi => ⟨(all_getD _ ByteArray.empty _).1 h5 i hi, (all_getD _ ByteArray.empty _).1 h6 i (by omega)⟩⟩
  unfold nodeS
  simp only [Bool.and_eq_true, decide_eq_true_eq, Bool.or_eq_true]
  exact ⟨⟨⟨h2, .inr h1⟩, h3⟩, h4.imp id (fun e => ⟨e, h1⟩)⟩
theorem nodeS_nodeOk {t : Tr} {root : Bool} (h : nodeS root t = true) (h1 : 1 ≤ t.keys.length) (hs : ∀ i, i < t.keys.length → short (t.keys.getD i ByteArray.empty) = true ∧ short (t.vals.getD i ByteArray.empty) = true) : nodeOk t = true := by
  unfold nodeS at h
  simp only [Bool.and_eq_true, decide_eq_true_eq, Bool.or_eq_true] at h
  obtain ⟨⟨⟨h2, _⟩, h3⟩, h4⟩ := h
  unfold nodeOk
  simp only [Bool.and_eq_true, decide_eq_true_eq, Bool.or_eq_true]
  exact ⟨⟨⟨⟨⟨h1, h2⟩, h3⟩, h4.imp id And.left⟩, (all_getD _ ByteArray.empty _).2 fun i hi => (hs i hi).1⟩, (all_getD _ ByteArray.empty _).2 fun i hi => (hs i (by omega)).2⟩
theorem map_getD {α β : Type} (l : List α) (f : α → β) (i : Nat) (d : α) (e : β) (h : i < l.length) : (l.map f).getD i e = f (l.getD i d) := by
  simp [List.getD_eq_getElem?_getD, h]
/-- Of a right shape with d levels below so much room: both looks are one. -/
theorem ok_iff : ∀ (d r : Nat) (root : Bool) (t : Tr) (lo hi : Option ByteArray), d ≤ r → 1 ≤ t.keys.length →
    (okS d root t lo hi = true ↔ (lev r t = some d ∧ srt lo hi (inord r t) = true))
  | 0, r, root, t, lo, hi, _, _ => by
    constructor
    · intro h; simp [okS] at h
    · rintro ⟨h, _⟩
      cases r with
      | zero => simp [lev] at h
      | succ r =>
        simp only [lev] at h
        split at h
        · cases hs : sameL (t.kids.map (lev r)) <;> rw [hs] at h <;> simp at h
        · cases h
  | d + 1, 0, _, _, _, _, h, _ => by omega
  | d + 1, r + 1, root, t, lo, hi, hd, hk => by
    have hkeys : upto (keyS t lo hi) t.keys.length = true ↔ ((∀ i, i < t.keys.length → short (t.keys.getD i ByteArray.empty) = true ∧ short (t.vals.getD i ByteArray.empty) = true) ∧ srt lo hi t.keys = true) := by
      rw [← krow_srt, upto_iff, upto_iff]
      simp only [keyS, krow, Bool.and_eq_true]
      constructor
      · intro h; exact ⟨fun i hi' => ⟨(h i hi').1.1.1.1, (h i hi').1.1.1.2⟩, fun i hi' => ⟨⟨(h i hi').1.1.2, (h i hi').1.2⟩, (h i hi').2⟩⟩
      · rintro ⟨h1, h2⟩ i hi'; exact ⟨⟨⟨⟨(h1 i hi').1, (h1 i hi').2⟩, (h2 i hi').1.1⟩, (h2 i hi').1.2⟩, (h2 i hi').2⟩
    simp only [okS, Bool.and_eq_true, hkeys, lev, inord]
    constructor
    · rintro ⟨⟨⟨hn, hdd⟩, hs, hsrt⟩, hkid⟩
      have hok := nodeS_nodeOk hn hk hs
      rw [if_pos hok]
      have hn' := hn
      unfold nodeS at hn'
      simp only [Bool.and_eq_true, decide_eq_true_eq, Bool.or_eq_true] at hn'
      rw [beq_iff_eq, decide_eq_decide] at hdd
      rw [upto_iff] at hkid
      by_cases hc : t.kids.length = 0
      · obtain hc' := List.eq_nil_of_length_eq_zero hc
        have hd0 := hdd.1 hc
        subst hd0
        rw [hc']
        exact ⟨rfl, by simpa [weave] using hsrt⟩
      · have hcl : t.kids.length = t.keys.length + 1 := by
          rcases hn'.2 with h | h
          · exact absurd h hc
          · exact h.1
        have hkn : ∀ i, i < t.kids.length → 1 ≤ (t.kids.getD i noTr).keys.length := fun i hi' => by
          have := hkid i hi'
          cases d with
          | zero => simp [okS] at this
          | succ d =>
            simp only [okS, Bool.and_eq_true] at this
            have h2 := this.1.1.1
            unfold nodeS at h2
            simp only [Bool.and_eq_true, decide_eq_true_eq, Bool.or_eq_true] at h2
            rcases h2.1.1.2 with h3 | h3
            · cases h3
            · exact h3
        have hrec := fun i hi' => (ok_iff d r false (t.kids.getD i noTr) (loB lo t.keys i) (hiB hi t.keys i) (by omega) (hkn i hi')).1 (hkid i hi')
        refine ⟨?_, ?_⟩
        · have : sameL (t.kids.map (lev r)) = some d := by
            rw [sameL_some (by simp; intro e; rw [e] at hc; exact hc rfl)]
            intro x hx
            rw [List.mem_map] at hx
            obtain ⟨c, hc1, rfl⟩ := hx
            obtain ⟨i, hi', rfl⟩ := List.getElem_of_mem hc1
            have := (hrec i hi').1
            rw [List.getD_eq_getElem?_getD, List.getElem?_eq_getElem hi'] at this
            exact this
          rw [this]; rfl
        · rw [srt_weave _ _ _ _ (by simpa using hcl)]
          refine ⟨hsrt, fun i hi' => ?_⟩
          have hi2 : i < t.kids.length := by simpa using hi'
          rw [map_getD _ _ _ noTr _ hi2]
          exact (hrec i hi2).2
    · rintro ⟨hl, hs⟩
      by_cases hok : nodeOk t = true
      · rw [if_pos hok] at hl
        obtain ⟨hn, hsz⟩ := nodeOk_nodeS hok root
        have hn' := hok
        unfold nodeOk at hn'
        simp only [Bool.and_eq_true, decide_eq_true_eq, Bool.or_eq_true] at hn'
        by_cases hc : t.kids.length = 0
        · obtain hc' := List.eq_nil_of_length_eq_zero hc
          rw [hc'] at hl hs ⊢
          simp only [List.map_nil, sameL, Option.map_some, Option.some.injEq] at hl
          obtain rfl : d = 0 := by omega
          exact ⟨⟨⟨hn, by simp⟩, hsz, by simpa [weave] using hs⟩, by simp [upto]⟩
        · have hcl : t.kids.length = t.keys.length + 1 := by
            rcases hn'.1.1.2 with h | h
            · exact absurd h hc
            · exact h
          rw [srt_weave _ _ _ _ (by simpa using hcl)] at hs
          have hsm : sameL (t.kids.map (lev r)) = some d := by
            cases h : sameL (t.kids.map (lev r)) with
            | none => rw [h] at hl; cases hl
            | some a => rw [h] at hl; simp at hl; rw [hl]
          rw [sameL_some (by simp; intro e; rw [e] at hc; exact hc rfl)] at hsm
          have hlev : ∀ i, i < t.kids.length → lev r (t.kids.getD i noTr) = some d := fun i hi' => by
            rw [List.getD_eq_getElem?_getD, List.getElem?_eq_getElem hi']
            exact hsm _ (List.mem_map.2 ⟨_, List.getElem_mem hi', rfl⟩)
          have hkn : ∀ i, i < t.kids.length → 1 ≤ (t.kids.getD i noTr).keys.length := fun i hi' => by
            have := hlev i hi'
            cases r with
            | zero => simp [lev] at this
            | succ r =>
              simp only [lev] at this
              split at this
              · rename_i h2
                unfold nodeOk at h2
                simp only [Bool.and_eq_true, decide_eq_true_eq] at h2
                exact h2.1.1.1.1.1
              · cases this
          have hd0 : d ≠ 0 := fun e => by
            subst e
            have := (ok_iff 0 r false (t.kids.getD 0 noTr) none none (by omega) (hkn 0 (by omega)))
            have h3 := hlev 0 (by omega)
            cases r with
            | zero => simp [lev] at h3
            | succ r =>
              simp only [lev] at h3
              split at h3
              · cases hs2 : sameL ((t.kids.getD 0 noTr).kids.map (lev r)) <;> rw [hs2] at h3 <;> simp at h3
              · cases h3
          refine ⟨⟨⟨hn, by simp [hc, hd0]⟩, hsz, hs.1⟩, ?_⟩
          rw [upto_iff]
          intro i hi'
          refine (ok_iff d r false (t.kids.getD i noTr) (loB lo t.keys i) (hiB hi t.keys i) (by omega) (hkn i hi')).2 ⟨hlev i hi', ?_⟩
          have := hs.2 i (by simpa using hi')
          rw [map_getD _ _ _ noTr _ hi'] at this
          exact this
      · rw [if_neg hok] at hl; cases hl
theorem lev_dp : ∀ (r f : Nat) (t : Tr) (L : Nat), lev r t = some L → L ≤ f + 1 → 1 ≤ L ∧ L ≤ r ∧ dp f t = L
  | 0, _, _, _, h, _ => by simp [lev] at h
  | r + 1, f, t, L, h, hf => by
    simp only [lev] at h
    split at h
    · cases hs : sameL (t.kids.map (lev r)) with
      | none => rw [hs] at h; cases h
      | some a =>
        rw [hs] at h
        simp only [Option.map_some, Option.some.injEq] at h
        cases hk : t.kids with
        | nil =>
          rw [hk] at hs
          simp only [List.map_nil, sameL, Option.some.injEq] at hs
          refine ⟨by omega, by omega, ?_⟩
          cases f with
          | zero => simp [dp]; omega
          | succ f => simp [dp, hk]; omega
        | cons c cs =>
          rw [hk, sameL_some (by simp)] at hs
          have hc := hs (lev r c) (by simp)
          cases f with
          | zero =>
            obtain ⟨h1, _, _⟩ := lev_dp r a c a hc (by omega)
            omega
          | succ f =>
            obtain ⟨h1, h2, h3⟩ := lev_dp r f c a hc (by omega)
            refine ⟨by omega, by omega, ?_⟩
            simp only [dp, hk]
            omega
    · cases h
/-- What the specification's TreeRight tells: the program's levels. -/
theorem right_same (t : Tr) : (decide (dp 12 t ≤ 12) && okS (dp 12 t) true t none none) = (trLev t).isSome := by
  unfold trLev
  by_cases hk : t.keys.length = 0
  · rw [if_pos hk]
    by_cases hv : t.vals.length = 0 ∧ t.kids.length = 0
    · rw [if_pos hv]
      have hc := List.eq_nil_of_length_eq_zero hv.2
      have h1 : dp 12 t = 1 := by simp [dp, hc]
      rw [h1]
      simp [okS, nodeS, hk, hv.1, hc, upto]
    · rw [if_neg hv]
      have h0 : okS (dp 12 t) true t none none = false := by
        rw [Bool.eq_false_iff]
        intro h
        cases hd : dp 12 t with
        | zero => rw [hd] at h; simp [okS] at h
        | succ d =>
          rw [hd] at h
          simp only [okS, Bool.and_eq_true] at h
          have h2 := h.1.1.1
          unfold nodeS at h2
          simp only [Bool.and_eq_true, decide_eq_true_eq, Bool.or_eq_true] at h2
          refine hv ⟨by omega, ?_⟩
          rcases h2.2 with h3 | h3
          · exact h3
          · omega
      rw [h0]; simp
  · rw [if_neg hk]
    have hk1 : 1 ≤ t.keys.length := by omega
    rw [Bool.eq_iff_iff, Bool.and_eq_true, decide_eq_true_eq]
    constructor
    · rintro ⟨hd, ho⟩
      obtain ⟨h1, h2⟩ := (ok_iff (dp 12 t) 12 true t none none hd hk1).1 ho
      rw [h1, ← rises_srt] at *
      simp [h2]
    · intro h
      cases hl : lev 12 t with
      | none => rw [hl] at h; cases h
      | some L =>
        obtain ⟨h1, h2, h3⟩ := lev_dp 12 12 t L hl (by
          by_cases hL : L ≤ 13
          · exact hL
          · obtain ⟨_, h4, _⟩ := lev_dp 12 L t L hl (by omega)
            omega)
        rw [hl] at h
        by_cases hr : rises (inord 12 t) = true
        · rw [h3]
          refine ⟨by omega, (ok_iff L 12 true t none none (by omega) hk1).2 ⟨hl, ?_⟩⟩
          rw [← rises_srt]; exact hr
        · simp [hr] at h
theorem lev_deep (t : Tr) (L : Nat) (h : trLev t = some L) (hk : t.keys.length ≠ 0) : dp 12 t = L := by
  unfold trLev at h
  rw [if_neg hk] at h
  cases hl : lev 12 t with
  | none => rw [hl] at h; cases h
  | some M =>
    rw [hl] at h
    simp only [Option.bind_some] at h
    split at h
    · obtain rfl := Option.some.inj h
      by_cases hL : M ≤ 13
      · exact (lev_dp 12 12 t M hl hL).2.2
      · obtain ⟨_, h4, _⟩ := lev_dp 12 M t M hl (by omega)
        omega
    · cases h
end Go.Proofs.Ytfhfhpnoeghgmaa

/-
  Structs of three fields in a block of their own. Plain laws, no program.
-/
namespace Go.Proofs.Ytfhfhpnoeghgmaa
open Go.RowKit

theorem set3 {W : World} {g : Nat} {a b c x y z : Value} {t : TypeId} (h : W.heap[g]? = some (.cells #[a, b, c] t (0, 0))) :
    (((W.setCell ⟨g, 0, none⟩ x).setCell ⟨g, 1, none⟩ y).setCell ⟨g, 2, none⟩ z).heap[g]? = some (.cells #[x, y, z] t (0, 0)) := by
  have h1 := heap_setCell_same W g 0 _ t x h
  have h2 := heap_setCell_same _ g 1 _ t y h1
  have h3 := heap_setCell_same _ g 2 _ t z h2
  simpa using h3
theorem below3 {B g : Nat} {w W : World} {x y z : Value} (h : Below B w W) (hg : B ≤ g) : Below B w (((W.setCell ⟨g, 0, none⟩ x).setCell ⟨g, 1, none⟩ y).setCell ⟨g, 2, none⟩ z) :=
  ((h.setCell hg _).setCell hg _).setCell hg _
theorem cells3 {W : World} {g : Nat} {a b c : Value} {t : TypeId} (h : W.heap[g]? = some (.cells #[a, b, c] t (0, 0))) :
    W.cell? ⟨g, 0, none⟩ = some a ∧ W.cell? ⟨g, 1, none⟩ = some b ∧ W.cell? ⟨g, 2, none⟩ = some c ∧ (∀ j, W.frozen? ⟨g, j, none⟩ = false) :=
  ⟨by rw [cell_of_row _ _ _ _ _ _ h]; rfl, by rw [cell_of_row _ _ _ _ _ _ h]; rfl, by rw [cell_of_row _ _ _ _ _ _ h]; rfl, fun j => frozen_of_row _ _ _ _ _ h⟩

end Go.Proofs.Ytfhfhpnoeghgmaa

/-
  Frames: one block is written, and behind it all is new. Plain laws.
-/
namespace Go.Proofs.Ytfhfhpnoeghgmaa
open Go.RowKit

theorem grown_setG {w W : World} {g m : Nat} {x : Value} (h : w.grownBy W (some g)) : w.grownBy (W.setCell ⟨g, m, none⟩ x) (some g) := by
  have hb : Below 0 W (W.setCell ⟨g, m, none⟩ x) := (Below.refl 0 W).setCell (Nat.zero_le _) x
  exact ⟨hb.os.trans h.os, hb.tape.trans h.tape, hb.output.trans h.output, Nat.le_trans h.size hb.size, fun k hk hne => (heap_setCell_other W ⟨g, m, none⟩ k x (fun e => hne (by rw [e]))).trans (h.block k hk hne)⟩
theorem grown_below {w W W' : World} {g : Nat} (h : w.grownBy W (some g)) (hb : Below W.heap.size W W') : w.grownBy W' (some g) :=
  ⟨hb.os.trans h.os, hb.tape.trans h.tape, hb.output.trans h.output, Nat.le_trans h.size hb.size, fun k hk hne => (hb.block k (Nat.lt_of_lt_of_le hk h.size)).trans (h.block k hk hne)⟩
theorem grown_refl (a : World) (r : Option Nat) : a.grownBy a r := ⟨rfl, rfl, rfl, Nat.le_refl _, fun _ _ _ => rfl⟩
end Go.Proofs.Ytfhfhpnoeghgmaa

/-
  Trees as they lie in memory. Plain laws.
-/
namespace Go.Proofs.Ytfhfhpnoeghgmaa
open Go.RowKit

/-- Texts that lie one behind the other, in blocks from A on and below B. -/
def StrRow (w : World) (A B : Nat) (ao : Option Addr) (l : List ByteArray) : Prop :=
  (∀ s ∈ l, s.size ≤ maxLen) ∧ (l.length = 0 ∨ ∃ b off, ao = some ⟨b, off, none⟩ ∧ A ≤ b ∧ b < B ∧ ∀ i, i < l.length → w.cell? ⟨b, off + i, none⟩ = some (.string (l.getD i ByteArray.empty)))
theorem StrRow.kept {w w' : World} {A B : Nat} {ao : Option Addr} {l : List ByteArray} (h : StrRow w A B ao l) (hb : Below B w w') : StrRow w' A B ao l := by
  refine ⟨h.1, ?_⟩
  rcases h.2 with h0 | ⟨b, off, e, hA, hB, hc⟩
  · exact .inl h0
  · exact .inr ⟨b, off, e, hA, hB, fun i hi => (hb.cell (p := ⟨b, _, none⟩) hB).trans (hc i hi)⟩
theorem StrRow.mono {w : World} {A B A' C : Nat} {ao : Option Addr} {l : List ByteArray} (h : StrRow w A B ao l) (ha : A' ≤ A) (hc : B ≤ C) : StrRow w A' C ao l := by
  refine ⟨h.1, ?_⟩
  rcases h.2 with h0 | ⟨b, off, e, hA, hB, hc'⟩
  · exact .inl h0
  · exact .inr ⟨b, off, e, by omega, by omega, hc'⟩
theorem StrRow.at {w : World} {A B : Nat} {ao : Option Addr} {l : List ByteArray} (h : StrRow w A B ao l) (k : Nat) (hk : k < l.length) :
    ∃ b off x, ao = some ⟨b, off, none⟩ ∧ b < B ∧ l.getD k ByteArray.empty = x ∧ x.size ≤ maxLen ∧ w.cell? ⟨b, off + k, none⟩ = some (.string x) := by
  rcases h.2 with h0 | ⟨b, off, e, hA, hB, hc⟩
  · omega
  · exact ⟨b, off, _, e, hB, rfl, h.1 _ (getD_mem l _ k hk), hc k hk⟩
theorem StrRow.other {w : World} {A B : Nat} {ao : Option Addr} {l : List ByteArray} (h : StrRow w A B ao l) (g m : Nat) (v : Value) (hg : g < A) : StrRow (w.setCell ⟨g, m, none⟩ v) A B ao l := by
  refine ⟨h.1, ?_⟩
  rcases h.2 with h0 | ⟨b, off, e, hA, hB, hc⟩
  · exact .inl h0
  · refine .inr ⟨b, off, e, hA, hB, fun i hi => ?_⟩
    exact (World.cell?_setCell_other w ⟨g, m, none⟩ ⟨b, off + i, none⟩ v (fun e' => by have : g = b := congrArg Addr.block e'; omega)).trans (hc i hi)
def strsV (l : List ByteArray) : List Value := l.map Value.string
theorem strRow_of {w : World} {g : Nat} {cur : List Value} {t : TypeId} {f : Nat × Nat} {l : List ByteArray} (hg : w.heap[g]? = some (.cells cur.toArray t f)) (hc : cur.take l.length = strsV l) (ho : ∀ x ∈ l, x.size ≤ maxLen) :
    StrRow w g w.heap.size (some ⟨g, 0, none⟩) l := by
  have hlt : g < w.heap.size := (Array.getElem?_eq_some_iff.1 hg).1
  refine ⟨ho, .inr ⟨g, 0, rfl, Nat.le_refl _, hlt, fun i hi => ?_⟩⟩
  rw [cell_of_row _ _ _ _ _ _ hg, List.getElem?_toArray, Nat.zero_add]
  have : (cur.take l.length)[i]? = cur[i]? := List.getElem?_take_of_lt hi
  rw [← this, hc, strsV, List.getElem?_map, List.getD_eq_getElem?_getD, List.getElem?_eq_getElem hi]; rfl
theorem strs_step (cur : List Value) (l : List ByteArray) (k : Nat) (hk : k < l.length) (hl : cur.length = l.length) (hc : cur.take k = strsV (l.take k)) (x : ByteArray) (hx : l.getD k ByteArray.empty = x) :
    (cur.set k (.string x)).take (k + 1) = strsV (l.take (k + 1)) ∧ (cur.set k (.string x)).length = l.length := by
  refine ⟨?_, by simpa using hl⟩
  rw [take_set1 _ _ _ (by omega), hc, List.take_succ_eq_append_getElem hk]
  rw [List.getD_eq_getElem?_getD, List.getElem?_eq_getElem hk] at hx
  simp only [Option.getD_some] at hx
  unfold strsV
  rw [List.map_append, hx]; rfl
/-- Kids that lie one behind the other, three cells each. -/
def KidRow (w : World) (A B : Nat) (P : Tr → Option Addr → Option Addr → Option Addr → Prop) (xo : Option Addr) (cs : List Tr) : Prop :=
  cs.length = 0 ∨ ∃ b off, xo = some ⟨b, off, none⟩ ∧ A ≤ b ∧ b < B ∧ ∀ i, i < cs.length → ∃ ko kc vo vc yo yc,
    w.cell? ⟨b, off + i * 3, none⟩ = some (.slice ko (cs.getD i noTr).keys.length kc) ∧ w.cell? ⟨b, off + i * 3 + 1, none⟩ = some (.slice vo (cs.getD i noTr).vals.length vc) ∧ w.cell? ⟨b, off + i * 3 + 2, none⟩ = some (.slice yo (cs.getD i noTr).kids.length yc) ∧ P (cs.getD i noTr) ko vo yo
/-- A tree of at most n levels, all of it in blocks from A on and below B. -/
def TrRow (w : World) (A B : Nat) : Nat → Tr → Option Addr → Option Addr → Option Addr → Prop
  | 0, _, _, _, _ => False
  | n + 1, t, ko, vo, xo => (t.keys.length ≤ maxLen ∧ t.vals.length ≤ maxLen ∧ t.kids.length ≤ maxLen) ∧ StrRow w A B ko t.keys ∧ StrRow w A B vo t.vals ∧ KidRow w A B (TrRow w A B n) xo t.kids
theorem KidRow.kept {w w' : World} {A B : Nat} {P P' : Tr → Option Addr → Option Addr → Option Addr → Prop} {xo : Option Addr} {cs : List Tr} (h : KidRow w A B P xo cs) (hb : Below B w w') (hP : ∀ t a b c, P t a b c → P' t a b c) : KidRow w' A B P' xo cs := by
  rcases h with h0 | ⟨b, off, e, hA, hB, hc⟩
  · exact .inl h0
  · refine .inr ⟨b, off, e, hA, hB, fun i hi => ?_⟩
    obtain ⟨ko, kc, vo, vc, yo, yc, c0, c1, c2, hp⟩ := hc i hi
    exact ⟨ko, kc, vo, vc, yo, yc, (hb.cell (p := ⟨b, _, none⟩) hB).trans c0, (hb.cell (p := ⟨b, _, none⟩) hB).trans c1, (hb.cell (p := ⟨b, _, none⟩) hB).trans c2, hP _ _ _ _ hp⟩
theorem TrRow.kept {w w' : World} {A B : Nat} (hb : Below B w w') : ∀ (n : Nat) (t : Tr) (ko vo xo : Option Addr), TrRow w A B n t ko vo xo → TrRow w' A B n t ko vo xo
  | 0, _, _, _, _, h => h.elim
  | n + 1, _, _, _, _, ⟨hl, hk, hv, hx⟩ => ⟨hl, hk.kept hb, hv.kept hb, hx.kept hb (TrRow.kept hb n)⟩
theorem KidRow.mono {w : World} {A B A' C : Nat} {P P' : Tr → Option Addr → Option Addr → Option Addr → Prop} {xo : Option Addr} {cs : List Tr} (h : KidRow w A B P xo cs) (ha : A' ≤ A) (hc : B ≤ C) (hP : ∀ t a b c, P t a b c → P' t a b c) : KidRow w A' C P' xo cs := by
  rcases h with h0 | ⟨b, off, e, hA, hB, hc'⟩
  · exact .inl h0
  · refine .inr ⟨b, off, e, by omega, by omega, fun i hi => ?_⟩
    obtain ⟨ko, kc, vo, vc, yo, yc, c0, c1, c2, hp⟩ := hc' i hi
    exact ⟨ko, kc, vo, vc, yo, yc, c0, c1, c2, hP _ _ _ _ hp⟩
theorem TrRow.mono {w : World} {A B A' C : Nat} (ha : A' ≤ A) (hc : B ≤ C) : ∀ (n : Nat) (t : Tr) (ko vo xo : Option Addr), TrRow w A B n t ko vo xo → TrRow w A' C n t ko vo xo
  | 0, _, _, _, _, h => h.elim
  | n + 1, _, _, _, _, ⟨hl, hk, hv, hx⟩ => ⟨hl, hk.mono ha hc, hv.mono ha hc, hx.mono ha hc (TrRow.mono ha hc n)⟩
theorem KidRow.other {w : World} {A B : Nat} {P P' : Tr → Option Addr → Option Addr → Option Addr → Prop} {xo : Option Addr} {cs : List Tr} (h : KidRow w A B P xo cs) (g m : Nat) (v : Value) (hg : g < A) (hP : ∀ t a b c, P t a b c → P' t a b c) : KidRow (w.setCell ⟨g, m, none⟩ v) A B P' xo cs := by
  rcases h with h0 | ⟨b, off, e, hA, hB, hc⟩
  · exact .inl h0
  · refine .inr ⟨b, off, e, hA, hB, fun i hi => ?_⟩
    obtain ⟨ko, kc, vo, vc, yo, yc, c0, c1, c2, hp⟩ := hc i hi
    have ho := fun o => World.cell?_setCell_other w ⟨g, m, none⟩ ⟨b, o, none⟩ v (fun e' => by have : g = b := congrArg Addr.block e'; omega)
    exact ⟨ko, kc, vo, vc, yo, yc, (ho _).trans c0, (ho _).trans c1, (ho _).trans c2, hP _ _ _ _ hp⟩
theorem TrRow.other {w : World} {A B : Nat} (g m : Nat) (v : Value) (hg : g < A) : ∀ (n : Nat) (t : Tr) (ko vo xo : Option Addr), TrRow w A B n t ko vo xo → TrRow (w.setCell ⟨g, m, none⟩ v) A B n t ko vo xo
  | 0, _, _, _, _, h => h.elim
  | n + 1, _, _, _, _, ⟨hl, hk, hv, hx⟩ => ⟨hl, hk.other g m v hg, hv.other g m v hg, hx.other g m v hg (TrRow.other g m v hg n)⟩
theorem KidRow.at {w : World} {A B : Nat} {P : Tr → Option Addr → Option Addr → Option Addr → Prop} {xo : Option Addr} {cs : List Tr} (h : KidRow w A B P xo cs) (k : Nat) (hk : k < cs.length) :
    ∃ b off ko kc vo vc yo yc ks vs ds, xo = some ⟨b, off, none⟩ ∧ b < B ∧ cs.getD k noTr = .node ks vs ds ∧ P (.node ks vs ds) ko vo yo ∧ w.cell? ⟨b, off + k * 3, none⟩ = some (.slice ko ks.length kc) ∧ w.cell? ⟨b, off + k * 3 + 1, none⟩ = some (.slice vo vs.length vc) ∧ w.cell? ⟨b, off + k * 3 + 2, none⟩ = some (.slice yo ds.length yc) := by
  rcases h with h0 | ⟨b, off, e, hA, hB, hc⟩
  · omega
  · obtain ⟨ko, kc, vo, vc, yo, yc, c0, c1, c2, hp⟩ := hc k hk
    cases ht : cs.getD k noTr with
    | node ks vs ds =>
      rw [ht] at c0 c1 c2 hp
      exact ⟨b, off, ko, kc, vo, vc, yo, yc, ks, vs, ds, e, hB, rfl, hp, c0, c1, c2⟩
/-- A tree whose lists can be copied. -/
def trFits : Nat → Tr → Prop
  | 0, _ => True
  | n + 1, t => (t.keys.length ≤ 1048576 ∧ t.vals.length ≤ 1048576 ∧ t.kids.length ≤ 1048576) ∧ ∀ i, i < t.kids.length → trFits n (t.kids.getD i noTr)
end Go.Proofs.Ytfhfhpnoeghgmaa

/-
  Disks as they lie in memory. Plain laws.
-/
namespace Go.Proofs.Ytfhfhpnoeghgmaa
open Go.RowKit
set_option maxRecDepth 100000

structure Wr where
  pos : Int
  text : ByteArray
structure Dk where
  secs : List ByteArray
  cache : List Wr
def noWr : Wr := ⟨0, ByteArray.empty⟩
def wI64 (x : Int) : Prop := -9223372036854775808 ≤ x ∧ x ≤ 9223372036854775807
/-- Writes that lie one behind the other, two cells each. -/
def WrRow (w : World) (A B : Nat) (ao : Option Addr) (l : List Wr) : Prop :=
  (∀ x ∈ l, wI64 x.pos ∧ x.text.size ≤ maxLen) ∧ (l.length = 0 ∨ ∃ b off, ao = some ⟨b, off, none⟩ ∧ A ≤ b ∧ b < B ∧ ∀ i, i < l.length →
    w.cell? ⟨b, off + i * 2, none⟩ = some (.int .i64 (l.getD i noWr).pos) ∧ w.cell? ⟨b, off + i * 2 + 1, none⟩ = some (.string (l.getD i noWr).text))
theorem WrRow.kept {w w' : World} {A B : Nat} {ao : Option Addr} {l : List Wr} (h : WrRow w A B ao l) (hb : Below B w w') : WrRow w' A B ao l := by
  refine ⟨h.1, ?_⟩
  rcases h.2 with h0 | ⟨b, off, e, hA, hB, hc⟩
  · exact .inl h0
  · refine .inr ⟨b, off, e, hA, hB, fun i hi => ?_⟩
    obtain ⟨c0, c1⟩ := hc i hi
    exact ⟨(hb.cell (p := ⟨b, _, none⟩) hB).trans c0, (hb.cell (p := ⟨b, _, none⟩) hB).trans c1⟩
theorem WrRow.mono {w : World} {A B A' C : Nat} {ao : Option Addr} {l : List Wr} (h : WrRow w A B ao l) (ha : A' ≤ A) (hc : B ≤ C) : WrRow w A' C ao l := by
  refine ⟨h.1, ?_⟩
  rcases h.2 with h0 | ⟨b, off, e, hA, hB, hc'⟩
  · exact .inl h0
  · exact .inr ⟨b, off, e, by omega, by omega, hc'⟩
theorem WrRow.at {w : World} {A B : Nat} {ao : Option Addr} {l : List Wr} (h : WrRow w A B ao l) (k : Nat) (hk : k < l.length) :
    ∃ b off n t, ao = some ⟨b, off, none⟩ ∧ b < B ∧ l.getD k noWr = ⟨n, t⟩ ∧ t.size ≤ maxLen ∧ wI64 n ∧ w.cell? ⟨b, off + k * 2, none⟩ = some (.int .i64 n) ∧ w.cell? ⟨b, off + k * 2 + 1, none⟩ = some (.string t) := by
  rcases h.2 with h0 | ⟨b, off, e, hA, hB, hc⟩
  · omega
  · obtain ⟨c0, c1⟩ := hc k hk
    have hm := h.1 _ (getD_mem l noWr k hk)
    exact ⟨b, off, _, _, e, hB, rfl, hm.2, hm.1, c0, c1⟩
theorem WrRow.other {w : World} {A B : Nat} {ao : Option Addr} {l : List Wr} (h : WrRow w A B ao l) (g m : Nat) (v : Value) (hg : g < A) : WrRow (w.setCell ⟨g, m, none⟩ v) A B ao l := by
  refine ⟨h.1, ?_⟩
  rcases h.2 with h0 | ⟨b, off, e, hA, hB, hc⟩
  · exact .inl h0
  · refine .inr ⟨b, off, e, hA, hB, fun i hi => ?_⟩
    obtain ⟨c0, c1⟩ := hc i hi
    have ho := fun o => World.cell?_setCell_other w ⟨g, m, none⟩ ⟨b, o, none⟩ v (fun e' => by have : g = b := congrArg Addr.block e'; omega)
    exact ⟨(ho _).trans c0, (ho _).trans c1⟩
/-- A disk whose lists lie in blocks from A on and below B. -/
def DkRow (w : World) (A B : Nat) (so co : Option Addr) (d : Dk) : Prop :=
  (d.secs.length ≤ maxLen ∧ d.cache.length ≤ maxLen) ∧ StrRow w A B so d.secs ∧ WrRow w A B co d.cache
theorem DkRow.kept {w w' : World} {A B : Nat} {so co : Option Addr} {d : Dk} (h : DkRow w A B so co d) (hb : Below B w w') : DkRow w' A B so co d := ⟨h.1, h.2.1.kept hb, h.2.2.kept hb⟩
theorem DkRow.mono {w : World} {A B A' C : Nat} {so co : Option Addr} {d : Dk} (h : DkRow w A B so co d) (ha : A' ≤ A) (hc : B ≤ C) : DkRow w A' C so co d := ⟨h.1, h.2.1.mono ha hc, h.2.2.mono ha hc⟩
theorem DkRow.other {w : World} {A B : Nat} {so co : Option Addr} {d : Dk} (h : DkRow w A B so co d) (g m : Nat) (v : Value) (hg : g < A) : DkRow (w.setCell ⟨g, m, none⟩ v) A B so co d := ⟨h.1, h.2.1.other g m v hg, h.2.2.other g m v hg⟩
/-- A disk whose texts and numbers are in their bounds. -/
def dkIn (d : Dk) : Prop := (∀ s ∈ d.secs, s.size ≤ maxLen) ∧ (∀ x ∈ d.cache, wI64 x.pos ∧ x.text.size ≤ maxLen)
theorem DkRow.inn {w : World} {A B : Nat} {so co : Option Addr} {d : Dk} (h : DkRow w A B so co d) : dkIn d := ⟨h.2.1.1, h.2.2.1⟩
def dkFits (d : Dk) : Prop := d.secs.length ≤ 1048576 ∧ d.cache.length ≤ 1048576

def flatW (l : List Wr) : List Value := l.flatMap fun x => [.int .i64 x.pos, .string x.text]
theorem flatW_cons (x : Wr) (l : List Wr) : flatW (x :: l) = .int .i64 x.pos :: .string x.text :: flatW l := rfl
theorem flatW_append (a b : List Wr) : flatW (a ++ b) = flatW a ++ flatW b := by simp [flatW]
theorem flatW_snoc (l : List Wr) (x : Wr) : flatW (l ++ [x]) = flatW l ++ [.int .i64 x.pos, .string x.text] := by rw [flatW_append]; rfl
theorem flatW_len (l : List Wr) : (flatW l).length = l.length * 2 := by
  induction l with
  | nil => rfl
  | cons v r ih => rw [flatW_cons]; simp [ih]; omega
theorem flatW_get (l : List Wr) : ∀ i, i < l.length → (flatW l)[i * 2]? = some (.int .i64 (l.getD i noWr).pos) ∧ (flatW l)[i * 2 + 1]? = some (.string (l.getD i noWr).text) := by
  induction l with
  | nil => intro i h; simp at h
  | cons v r ih =>
    intro i h
    rw [flatW_cons]
    match i, h with
    | 0, _ => exact ⟨rfl, rfl⟩
    | i + 1, h =>
      obtain ⟨h0, h1⟩ := ih i (by simpa using h)
      have e : (i + 1) * 2 = i * 2 + 1 + 1 := by omega
      rw [e, List.getD_cons_succ]
      simp only [List.getElem?_cons_succ]
      exact ⟨h0, h1⟩
theorem flatW_at (l : List Wr) (j : Nat) (u : Value) (h : (flatW l)[j]? = some u) : ∃ i, i < l.length ∧ (j = i * 2 ∧ u = .int .i64 (l.getD i noWr).pos ∨ j = i * 2 + 1 ∧ u = .string (l.getD i noWr).text) := by
  have hl : j < (flatW l).length := (List.getElem?_eq_some_iff.1 h).1
  rw [flatW_len] at hl
  have hi : j / 2 < l.length := by omega
  obtain ⟨h0, h1⟩ := flatW_get l (j / 2) hi
  refine ⟨j / 2, hi, ?_⟩
  rcases (by omega : j % 2 = 0 ∨ j % 2 = 1) with e | e
  · have ej : j = j / 2 * 2 := by omega
    rw [← ej, h] at h0
    exact .inl ⟨ej, Option.some.inj h0⟩
  · have ej : j = j / 2 * 2 + 1 := by omega
    rw [← ej, h] at h1
    exact .inr ⟨ej, Option.some.inj h1⟩
theorem flatW_one (l : List Wr) : ∀ u ∈ flatW l, u.oneCell' = true := by
  intro u hu
  obtain ⟨j, hj⟩ := List.mem_iff_getElem?.1 hu
  obtain ⟨i, _, h⟩ := flatW_at l j u hj
  rcases h with ⟨_, rfl⟩ | ⟨_, rfl⟩ <;> rfl
theorem take_set2w (cur : List Value) (k : Nat) (x y : Value) (h : k + 2 ≤ cur.length) : ((cur.set k x).set (k + 1) y).take (k + 2) = cur.take k ++ [x, y] := by
  have h1 : k + 1 < (cur.set k x).length := by simp; omega
  rw [take_set1 (cur.set k x) (k + 1) y h1, take_set1 cur k x (by omega)]; simp
theorem flatW_step (cur : List Value) (l : List Wr) (k : Nat) (hk : k < l.length) (hl : cur.length = l.length * 2) (hc : cur.take (k * 2) = flatW (l.take k)) (a : Int) (t : ByteArray) (hv : l.getD k noWr = ⟨a, t⟩) :
    ((cur.set (k * 2) (.int .i64 a)).set (k * 2 + 1) (.string t)).take ((k + 1) * 2) = flatW (l.take (k + 1)) ∧ ((cur.set (k * 2) (.int .i64 a)).set (k * 2 + 1) (.string t)).length = l.length * 2 := by
  have e : (k + 1) * 2 = k * 2 + 2 := by omega
  rw [List.getD_eq_getElem?_getD, List.getElem?_eq_getElem hk] at hv
  simp only [Option.getD_some] at hv
  refine ⟨?_, by simpa using hl⟩
  rw [e, take_set2w _ _ _ _ (by omega), hc, List.take_succ_eq_append_getElem hk, flatW_append, hv]
  rfl
theorem wrRow_of {w : World} {g : Nat} {cur : List Value} {t : TypeId} {f : Nat × Nat} {l : List Wr} (hg : w.heap[g]? = some (.cells cur.toArray t f)) (hc : cur.take (l.length * 2) = flatW l) (ho : ∀ x ∈ l, wI64 x.pos ∧ x.text.size ≤ maxLen) :
    WrRow w g w.heap.size (some ⟨g, 0, none⟩) l := by
  have hlt : g < w.heap.size := (Array.getElem?_eq_some_iff.1 hg).1
  refine ⟨ho, .inr ⟨g, 0, rfl, Nat.le_refl _, hlt, fun i hi => ?_⟩⟩
  have hget : ∀ j, j < l.length * 2 → cur[j]? = (flatW l)[j]? := fun j hj => by rw [← hc, List.getElem?_take_of_lt hj]
  obtain ⟨h0, h1⟩ := flatW_get l i hi
  refine ⟨?_, ?_⟩
  · rw [cell_of_row _ _ _ _ _ _ hg, List.getElem?_toArray, Nat.zero_add, hget _ (by omega), h0]
  · rw [cell_of_row _ _ _ _ _ _ hg, List.getElem?_toArray, Nat.zero_add, hget _ (by omega), h1]
theorem wrRow_news {w : World} {A B : Nat} {ad : Addr} {l : List Wr} (h : WrRow w A B (some ad) l) : ∀ j u, (flatW l)[j]? = some u → w.cell? (ad.add j) = some u := by
  intro j u hj
  obtain ⟨i, hi, hu⟩ := flatW_at l j u hj
  rcases h.2 with h0 | ⟨b, off, e, _, _, hc⟩
  · omega
  · obtain rfl := Option.some.inj e
    obtain ⟨c0, c1⟩ := hc i hi
    have ha : ∀ j, (⟨b, off, none⟩ : Addr).add j = ⟨b, off + j, none⟩ := fun j => by unfold Addr.add; split <;> simp_all
    rcases hu with ⟨rfl, rfl⟩ | ⟨rfl, rfl⟩
    · rw [ha]; exact c0
    · rw [ha]; exact c1
theorem strRow_news {w : World} {A B : Nat} {ad : Addr} {l : List ByteArray} (h : StrRow w A B (some ad) l) : ∀ j u, (strsV l)[j]? = some u → w.cell? (ad.add j) = some u := by
  intro j u hj
  have hlt : j < l.length := by have := (List.getElem?_eq_some_iff.1 hj).1; simpa [strsV] using this
  obtain ⟨b, off, x, e, _, hx, _, hc⟩ := h.at j hlt
  obtain rfl := Option.some.inj e
  have ha : ∀ j, (⟨b, off, none⟩ : Addr).add j = ⟨b, off + j, none⟩ := fun j => by unfold Addr.add; split <;> simp_all
  rw [ha, hc, ← hx]
  rw [strsV, List.getElem?_map, List.getElem?_eq_getElem hlt] at hj
  rw [← hj, List.getD_eq_getElem?_getD, List.getElem?_eq_getElem hlt]; rfl
theorem strsV_one (l : List ByteArray) : ∀ u ∈ strsV l, u.oneCell' = true := by
  intro u hu
  unfold strsV at hu
  rw [List.mem_map] at hu
  obtain ⟨x, _, rfl⟩ := hu
  rfl
end Go.Proofs.Ytfhfhpnoeghgmaa

/-
  Texts in a row of their own: held against others.
-/
namespace Go.Proofs.Ytfhfhpnoeghgmaa
open Go.RowKit
set_option maxRecDepth 100000

theorem Try.infoStr' : (Try.prog.info? 9).map (fun i => (i.zero, i.size, i.bytes)) = some (some (.string ⟨#[]⟩), 1, 16) := by kernel_rfl
/-- Texts that a call has made, in a row of their own. -/
def OwnS (base : Nat) (v : Value) (l : List ByteArray) (w : World) : Prop := w.ownsRow base 9 1 v l.length (strsV l)
theorem strsV_len (l : List ByteArray) : (strsV l).length = l.length := by simp [strsV]
theorem ownS_row {base : Nat} {v : Value} {l : List ByteArray} {w : World} (h : OwnS base v l w) : ∃ ao cap, v = .slice ao l.length cap ∧ ∀ k, k < l.length → ∃ b off x, ao = some ⟨b, off, none⟩ ∧ b < w.heap.size ∧ l.getD k ByteArray.empty = x ∧ w.cell? ⟨b, off + k, none⟩ = some (.string x) := by
  obtain ⟨ao, cap, hv, hc⟩ := cellRow_of_owns h
  rw [strsV_len] at hv
  refine ⟨ao, cap, hv, fun k hk => ?_⟩
  obtain ⟨b, off, e, hb, hk'⟩ := hc.at k (by rw [strsV_len]; exact hk)
  refine ⟨b, off, _, e, hb, rfl, hk'.trans ?_⟩
  simp [strsV, List.getD_eq_getElem?_getD, hk]
set_option maxHeartbeats 2000000 in
theorem eqStringS_own (base base' : Nat) (v v' : Value) (l : List ByteArray) (w : World) (hl : l.length ≤ 1048576) (ha : OwnS base v l w) (hb : OwnS base' v' l w) :
    Calls Try.prog 71 #[v, v'] w fun e w' => e = .returned (.bool true) ∧ Below w.heap.size w w' := by
  obtain ⟨ao, cap, rfl, hka⟩ := ownS_row ha
  obtain ⟨bo, cp, rfl, hkb⟩ := ownS_row hb
  have HA := hide hka
  have HB := hide hkb
  clear ha hb hka hkb
  go_enter Try.func71, Try.ntmps71
  go_wp2
  go_loopw [5] (fun i wr => ∃ k : Nat, k ≤ l.length ∧ i = .int .i64 k ∧ Below w.heap.size w wr) (fun i _ => l.length - (intOf i).toNat)
  case atStart => exact ⟨0, Nat.zero_le _, rfl, Below.refl _ _⟩
  case round =>
    obtain ⟨k, hk, rfl, hbw⟩ := hrel
    by_cases hlt : k < l.length
    · obtain ⟨b, off, x, rfl, hbB, hv, d00⟩ := HA.out k hlt
      obtain ⟨b', off', x', rfl, hbB', hv', e00⟩ := HB.out k hlt
      rw [hv] at hv'
      subst hv'
      have d0 := (hbw.cell (p := ⟨b, off + k, none⟩) hbB).trans d00
      have e0 := (hbw.cell (p := ⟨b', off' + k, none⟩) hbB').trans e00
      have hi0 : (0 : Int) ≤ (k : Int) := by omega
      have hi1 : (k : Int) < (l.length : Int) := by omega
      have ht := (Int.toNat_natCast k)
      clear hv d00 e00
      go_wp2
      go_region_held3 (fun W => W.cell? ⟨b, off + k, none⟩ = some (.string x) ∧ W.cell? ⟨b', off' + k, none⟩ = some (.string x)) (go_keep) (fail)
      all_goals
        have hb2 : Below w.heap.size w _ := hbw.drew
        clear d0 e0 hbw
        go_wp2
        go_roundw
        case rel => exact ⟨k + 1, by omega, by go_num, hb2⟩
        case measure => simp [intOf]; omega
    · go_wp2
      go_ret
      exact ⟨rfl, hbw⟩
theorem ownS_block {base : Nat} {v : Value} {l : List ByteArray} {w : World} (h : OwnS base v l w) : ∀ b, v.ownBlock = some b → base ≤ b ∧ b < w.heap.size := fun b hb => World.ownsRow.lt h b hb
theorem ownS_grown {base : Nat} {v u : Value} {l : List ByteArray} {w w' : World} (h : OwnS base v l w) (hm : w.grownBy w' u.ownBlock) (ho : ∀ b, v.ownBlock = some b → u.ownBlock ≠ some b) : OwnS base v l w' := by
  refine ⟨h.1, ?_⟩
  rcases h.2 with h0 | ⟨g, cap, cur, rfl, hB, hg, hn, hq, hs, ht⟩
  · exact .inl h0
  · exact .inr ⟨g, cap, cur, rfl, hB, (hm.block g (Array.getElem?_eq_some_iff.1 hg).1 (ho g rfl).symm).trans hg, hn, hq, hs, ht⟩
theorem ownS_shape {base : Nat} {v : Value} {l : List ByteArray} {w : World} (h : OwnS base v l w) : ∃ ao cap, v = .slice ao l.length cap := by
  obtain ⟨ao, cap, e, _⟩ := ownS_row h
  exact ⟨ao, cap, e⟩
end Go.Proofs.Ytfhfhpnoeghgmaa

/-
  Disks in rows of their own.
-/
namespace Go.Proofs.Ytfhfhpnoeghgmaa
open Go.RowKit
set_option maxRecDepth 100000

theorem Try.infoWr : (Try.prog.info? 122).map (fun i => (i.zero, i.size, i.bytes)) = some (some (.agg #[.int .i64 0, .string ⟨#[]⟩]), 2, 24) := by kernel_rfl
def OwnW (base : Nat) (v : Value) (l : List Wr) (w : World) : Prop := w.ownsRow base 122 2 v l.length (flatW l)
theorem ownS_nil (base : Nat) (w : World) : OwnS base (.slice none 0 0) [] w := ⟨rfl, .inl ⟨rfl, rfl⟩⟩
theorem ownW_nil (base : Nat) (w : World) : OwnW base (.slice none 0 0) [] w := ⟨rfl, .inl ⟨rfl, rfl⟩⟩
theorem ownW_shape {base : Nat} {v : Value} {l : List Wr} {w : World} (h : OwnW base v l w) : ∃ ao cap, v = .slice ao l.length cap := by
  rcases h.2 with ⟨h1, h2⟩ | ⟨g, cap, cur, h1, _⟩
  · exact ⟨none, 0, by rw [h1, h2]⟩
  · exact ⟨_, _, h1⟩
theorem ownS_str {base : Nat} {v : Value} {l : List ByteArray} {w : World} (h : OwnS base v l w) (ho : ∀ s ∈ l, s.size ≤ maxLen) : ∃ ao cap, v = .slice ao l.length cap ∧ (l.length ≤ cap ∧ cap ≤ maxLen) ∧ StrRow w base w.heap.size ao l := by
  rcases h.2 with ⟨rfl, h0⟩ | ⟨g, cap, cur, rfl, hB, hq, hn', hm, hs, hc⟩
  · exact ⟨none, 0, by rw [h0], ⟨by omega, Nat.zero_le _⟩, ho, .inl h0⟩
  · exact ⟨_, _, rfl, ⟨hn', hm⟩, (strRow_of (cur := cur.toList) (by simpa using hq) (by simpa using hc) ho).mono hB (Nat.le_refl _)⟩
theorem ownW_row {base : Nat} {v : Value} {l : List Wr} {w : World} (h : OwnW base v l w) (ho : ∀ x ∈ l, wI64 x.pos ∧ x.text.size ≤ maxLen) : ∃ ao cap, v = .slice ao l.length cap ∧ (l.length ≤ cap ∧ cap ≤ maxLen) ∧ WrRow w base w.heap.size ao l := by
  rcases h.2 with ⟨rfl, h0⟩ | ⟨g, cap, cur, rfl, hB, hq, hn', hm, hs, hc⟩
  · exact ⟨none, 0, by rw [h0], ⟨by omega, Nat.zero_le _⟩, ho, .inl h0⟩
  · exact ⟨_, _, rfl, ⟨hn', hm⟩, (wrRow_of (cur := cur.toList) (by simpa using hq) (by simpa using hc) ho).mono hB (Nat.le_refl _)⟩
/-- A disk's two lists, each in a row of its own. -/
structure OwnD (base : Nat) (s c : Value) (d : Dk) (w : World) : Prop where
  secs : OwnS base s d.secs w
  cache : OwnW base c d.cache w
  apart : s.ownBlock = none ∨ s.ownBlock ≠ c.ownBlock
theorem OwnD.below {base : Nat} {s c : Value} {d : Dk} {w w' : World} (h : OwnD base s c d w) (hb : Below w.heap.size w w') : OwnD base s c d w' := ⟨owns_below h.secs hb, owns_below h.cache hb, h.apart⟩
theorem OwnD.base {base base' : Nat} {s c : Value} {d : Dk} {w : World} (h : OwnD base s c d w) (hb : base' ≤ base) : OwnD base' s c d w := ⟨owns_base h.secs hb, owns_base h.cache hb, h.apart⟩
theorem OwnD.set {base g m : Nat} {s c x : Value} {d : Dk} {w : World} (h : OwnD base s c d w) (hg : g < base) : OwnD base s c d (w.setCell ⟨g, m, none⟩ x) := ⟨own_set h.secs hg, own_set h.cache hg, h.apart⟩
theorem OwnD.row {base : Nat} {s c : Value} {d : Dk} {w : World} (h : OwnD base s c d w) (ho : dkIn d) : ∃ so p co q, s = .slice so d.secs.length p ∧ c = .slice co d.cache.length q ∧ DkRow w base w.heap.size so co d := by
  obtain ⟨so, p, e1, h1, h2⟩ := ownS_str h.secs ho.1
  obtain ⟨co, q, e2, h3, h4⟩ := ownW_row h.cache ho.2
  exact ⟨so, p, co, q, e1, e2, ⟨Nat.le_trans h1.1 h1.2, Nat.le_trans h3.1 h3.2⟩, h2, h4⟩
theorem OwnD.shape {base : Nat} {s c : Value} {d : Dk} {w : World} (h : OwnD base s c d w) : ∃ so p co q, s = .slice so d.secs.length p ∧ c = .slice co d.cache.length q := by
  obtain ⟨so, p, e1⟩ := ownS_shape h.secs
  obtain ⟨co, q, e2⟩ := ownW_shape h.cache
  exact ⟨so, p, co, q, e1, e2⟩
theorem OwnD.lt {base : Nat} {s c : Value} {d : Dk} {w : World} (h : OwnD base s c d w) : (∀ b, s.ownBlock = some b → base ≤ b ∧ b < w.heap.size) ∧ (∀ b, c.ownBlock = some b → base ≤ b ∧ b < w.heap.size) :=
  ⟨fun b hb => World.ownsRow.lt h.secs b hb, fun b hb => World.ownsRow.lt h.cache b hb⟩
end Go.Proofs.Ytfhfhpnoeghgmaa

/-
  What a call owns appended to what it owns, wherever the source lies.
-/
namespace Go.Proofs.Ytfhfhpnoeghgmaa
open Go.RowKit

theorem run_app_own {P : Program} (w : World) (base b0 : Nat) (t ty e : TypeId) (i : TypeInfo) (z : Value) (size bytes : Nat) (ht : P.underlying t = some (.slice e)) (hi : P.info? e = some i) (hz : i.zero = some z)
    (hsize : i.size = size) (hby : i.bytes = bytes) (hzs : z.cells.size = size) (hsz : 0 < size)
    (v : Value) (n : Nat) (xs : List Value) (hown : w.ownsRow base e size v n xs) (x : Value) (m : Nat) (ys : List Value) (src : w.ownsRow b0 e size x m ys) (h1 : ∀ u ∈ ys, u.oneCell' = true)
    (h63 : n + m ≤ maxLen) (hbytes : (n + m) * bytes ≤ 140737488355328) (hbase : base ≤ w.heap.size) :
    ∃ v' w', (Builtin.append_ #[t, t] ty #[v, x]).run P w = .ok v' w' ∧ w'.ownsRow base e size v' (n + m) (xs ++ ys) ∧ w.grownBy w' v.ownBlock ∧ (v'.ownBlock = v.ownBlock ∨ v'.ownBlock = some w.heap.size) := by
  rcases src.2 with ⟨rfl, rfl⟩ | ⟨g, cap, cur, rfl, hB, hg, hnc, hm, hs, htk⟩
  · have hy : ys = [] := List.eq_nil_of_length_eq_zero (by have := src.1; simpa using this)
    subst hy
    refine ⟨v, w, run_append_owned_none (w := w) base t ty e i size ht hi v n xs hown, ?_, ⟨rfl, rfl, rfl, Nat.le_refl _, fun _ _ _ => rfl⟩, .inl rfl⟩
    simpa using hown
  · have hnews : ∀ j u, ys[j]? = some u → w.cell? ((⟨g, 0, none⟩ : Addr).add j) = some u := fun j u hj => by
      have ha : (⟨g, 0, none⟩ : Addr).add j = ⟨g, j, none⟩ := by unfold Addr.add; split <;> simp_all
      have hlt := (List.getElem?_eq_some_iff.1 hj).1
      rw [src.1] at hlt
      rw [ha, World.ownsRow.cellAt src j hlt, hj]
    obtain ⟨v', w', hr, h2, h3, _, h5⟩ := run_append_own_at (P := P) w base t ty e i z size bytes ht hi hz hsize hby hzs hsz v n xs hown ⟨g, 0, none⟩ m cap ys src.1 hnews h1 h63 hbytes hbase
    exact ⟨v', w', hr, h2, h3, h5⟩
theorem wp_app_own {P : Program} {w : World} {o : Oper} {a : Act} {K : Act → World → Prop} {Q : Exit → Act → World → Prop} (s x : Operand) (t : TypeId)
    (ho : o.op = .call { callee := .builtin .append, args := #[s, x], argTypes := #[t, t] })
    (base b0 : Nat) (e : TypeId) (i : TypeInfo) (z : Value) (size bytes : Nat) (ht : P.underlying t = some (.slice e)) (hi : P.info? e = some i) (hz : i.zero = some z)
    (hsize : i.size = size) (hby : i.bytes = bytes) (hzs : z.cells.size = size) (hsz : 0 < size)
    (v : Value) (n : Nat) (xs : List Value) (hs : a.eval s = v) (hown : w.ownsRow base e size v n xs) (y : Value) (m : Nat) (ys : List Value) (hx : a.eval x = y) (src : w.ownsRow b0 e size y m ys) (h1 : ∀ u ∈ ys, u.oneCell' = true)
    (h63 : n + m ≤ maxLen) (hbytes : (n + m) * bytes ≤ 140737488355328) (hbase : base ≤ w.heap.size)
    (h : ∀ v' w', w'.ownsRow base e size v' (n + m) (xs ++ ys) → w.grownBy w' v.ownBlock → (v'.ownBlock = v.ownBlock ∨ v'.ownBlock = some w.heap.size) → K (a.put o.dst v') w') : o.wp P a w K Q := by
  obtain ⟨v', w', hr, h2, h3, h4⟩ := run_app_own (P := P) w base b0 t o.type e i z size bytes ht hi hz hsize hby hzs hsz v n xs hown y m ys src h1 h63 hbytes hbase
  unfold Oper.wp execOp
  simp only [ho, resolve, invoke, builtin, Sem.run_bind, Sem.run_pure, Result.andThen_ok, List.map_toArray, List.map_cons, List.map_nil, hs, hx, hr]
  exact h v' w' h2 h3 h4
theorem wpList_app_own {P : Program} {w : World} {ops : Array Oper} {rest : List Oper} {o : Oper} {a : Act} {Q : Exit → Act → World → Prop} (hgd : o.guard = none) (s x : Operand) (t : TypeId)
    (ho : o.op = .call { callee := .builtin .append, args := #[s, x], argTypes := #[t, t] })
    (base b0 : Nat) (e : TypeId) (i : TypeInfo) (z : Value) (size bytes : Nat) (ht : P.underlying t = some (.slice e)) (hi : P.info? e = some i) (hz : i.zero = some z)
    (hsize : i.size = size) (hby : i.bytes = bytes) (hzs : z.cells.size = size) (hsz : 0 < size)
    (v : Value) (n : Nat) (xs : List Value) (hs : a.eval s = v) (hown : w.ownsRow base e size v n xs) (y : Value) (m : Nat) (ys : List Value) (hx : a.eval x = y) (src : w.ownsRow b0 e size y m ys) (h1 : ∀ u ∈ ys, u.oneCell' = true)
    (h63 : n + m ≤ maxLen) (hbytes : (n + m) * bytes ≤ 140737488355328) (hbase : base ≤ w.heap.size)
    (h : ∀ v' w', w'.ownsRow base e size v' (n + m) (xs ++ ys) → w.grownBy w' v.ownBlock → (v'.ownBlock = v.ownBlock ∨ v'.ownBlock = some w.heap.size) → wpList P ops Q rest (a.put o.dst v') w') : wpList P ops Q (o :: rest) a w :=
  wpList_plain hgd fun _ hK => wp_app_own s x t ho base b0 e i z size bytes ht hi hz hsize hby hzs hsz v n xs hs hown y m ys hx src h1 h63 hbytes hbase (fun v' w' g1 g2 g3 => hK _ _ (h v' w' g1 g2 g3))
theorem step_app_own {P : Program} {w : World} {ops : Array Oper} {o : Oper} {a : Act} {K : Act → World → Prop} {Q : Exit → Act → World → Prop} {E : Prop} (hgd : o.guard = none) (s x : Operand) (t : TypeId)
    (ho : o.op = .call { callee := .builtin .append, args := #[s, x], argTypes := #[t, t] })
    (base b0 : Nat) (e : TypeId) (i : TypeInfo) (z : Value) (size bytes : Nat) (ht : P.underlying t = some (.slice e)) (hi : P.info? e = some i) (hz : i.zero = some z)
    (hsize : i.size = size) (hby : i.bytes = bytes) (hzs : z.cells.size = size) (hsz : 0 < size)
    (v : Value) (n : Nat) (xs : List Value) (hs : a.eval s = v) (hown : w.ownsRow base e size v n xs) (y : Value) (m : Nat) (ys : List Value) (hx : a.eval x = y) (src : w.ownsRow b0 e size y m ys) (h1 : ∀ u ∈ ys, u.oneCell' = true)
    (h63 : n + m ≤ maxLen) (hbytes : (n + m) * bytes ≤ 140737488355328) (hbase : base ≤ w.heap.size)
    (h : ∀ v' w', w'.ownsRow base e size v' (n + m) (xs ++ ys) → w.grownBy w' v.ownBlock → (v'.ownBlock = v.ownBlock ∨ v'.ownBlock = some w.heap.size) → K (a.put o.dst v') w') :
    if Region.wanted o (yielded ops a.tmps) = true then Oper.wp P o a w K Q else E := by
  have hw : Region.wanted o (yielded ops a.tmps) = true := by simp [Region.wanted, hgd]
  rw [if_pos hw]
  exact wp_app_own s x t ho base b0 e i z size bytes ht hi hz hsize hby hzs hsz v n xs hs hown y m ys hx src h1 h63 hbytes hbase h
end Go.Proofs.Ytfhfhpnoeghgmaa

/-
  A disk's two lists in the making: what was handed in, and the result's variable, lie where they lay. Plain laws.
-/
namespace Go.Proofs.Ytfhfhpnoeghgmaa
open Go.RowKit
set_option maxRecDepth 100000

structure CI (w : World) (X : Array Value) (s c : Value) (ls : List ByteArray) (lc : List Wr) (W : World) : Prop where
  below : Below w.heap.size w W
  par : W.heap[w.heap.size]? = some (.cells X 26 (0, 0))
  res : W.heap[w.heap.size + 1]? = some (.cells #[.slice none 0 0, .slice none 0 0] 26 (0, 0))
  secs : OwnS (w.heap.size + 2) s ls W
  cache : OwnW (w.heap.size + 2) c lc W
  apart : s.ownBlock = none ∨ s.ownBlock ≠ c.ownBlock
theorem resDisk {fn : Func} {p : Tmp} (h : fn.results = #[.cell p 26]) (tmps : Array Value) (w : World) (g : Nat) (x y : Value) (hp : tmps.getD p undef = .pointer (some ⟨g, 0, none⟩))
    (hg : w.heap[g]? = some (.cells #[x, y] 26 (0, 0))) : (results fn tmps).run Try.prog w = .ok (.agg #[x, y]) w :=
  results_cell_row h tmps w g 26 #[x, y] (0, 0) _ hp hg Try.underlying26 rfl (by kernel_rfl)
section
variable {w W W' : World} {X : Array Value} {s c s' c' : Value} {ls l : List ByteArray} {lc k : List Wr}
theorem CI.lt (h : CI w X s c ls lc W) : w.heap.size + 2 ≤ W.heap.size := (Array.getElem?_eq_some_iff.1 h.res).1
theorem CI.start (w : World) (x y : Value) : CI w #[x, y] (.slice none 0 0) (.slice none 0 0) [] [] ((w.alloc (.cells #[x, y] 26)).alloc (.cells #[.slice none 0 0, .slice none 0 0] 26)) := by
  have h := two_allocs w (.cells #[x, y] 26) (.cells #[.slice none 0 0, .slice none 0 0] 26)
  exact ⟨((Below.refl _ _).alloc (Nat.le_refl _) _).alloc (by simp) _, h.1, h.2.1, ownS_nil _ _, ownW_nil _ _, .inl rfl⟩
theorem CI.keep (h : CI w X s c ls lc W) (hb : Below W.heap.size W W') : CI w X s c ls lc W' :=
  ⟨h.below.trans (hb.mono h.below.size), (hb.block _ (by have := h.lt; omega)).trans h.par, (hb.block _ (by have := h.lt; omega)).trans h.res, owns_below h.secs hb, owns_below h.cache hb, h.apart⟩
theorem CI.drew (h : CI w X s c ls lc W) : CI w X s c ls lc W.drew := h.keep (Below.refl _ _).drew
theorem own_empty {W : World} {base e size : Nat} {t : TypeId} (he : W.heap[e]? = some (.cells #[] t (0, 0))) (hb : base ≤ e) : W.ownsRow base t size (.slice (some ⟨e, 0, none⟩) 0 0) 0 [] := ⟨by simp, .inr ⟨e, 0, #[], rfl, hb, he, Nat.le_refl _, Nat.zero_le _, by simp, by simp⟩⟩
theorem ne_new {v : Value} {n : Nat} (h : ∀ b, v.ownBlock = some b → b < n) : v.ownBlock ≠ some n := fun e => by have := h _ e; omega
theorem CI.buildS (h : CI w X s c [] lc W) : CI w X (.slice (some ⟨W.heap.size, 0, none⟩) 0 0) c [] lc (W.alloc (.cells #[] 9)) := by
  have hk := h.keep ((Below.refl W.heap.size W).alloc (Nat.le_refl _) (.cells #[] 9))
  exact ⟨hk.below, hk.par, hk.res, own_empty (heap_alloc_new _ _) h.lt, hk.cache, .inr (fun e => ne_new (fun b hb => (World.ownsRow.lt h.cache b hb).2) e.symm)⟩
theorem CI.buildW (h : CI w X s c ls [] W) : CI w X s (.slice (some ⟨W.heap.size, 0, none⟩) 0 0) ls [] (W.alloc (.cells #[] 122)) := by
  have hk := h.keep ((Below.refl W.heap.size W).alloc (Nat.le_refl _) (.cells #[] 122))
  exact ⟨hk.below, hk.par, hk.res, hk.secs, own_empty (heap_alloc_new _ _) h.lt, .inr (fun e => ne_new (fun b hb => (World.ownsRow.lt h.secs b hb).2) e)⟩
theorem CI.grown (h : CI w X s c ls lc W) {v : Value} (hv : ∀ b, v.ownBlock = some b → w.heap.size + 2 ≤ b) (hg : W.grownBy W' v.ownBlock) : Below w.heap.size w W' ∧ W'.heap[w.heap.size]? = some (.cells X 26 (0, 0)) ∧ W'.heap[w.heap.size + 1]? = some (.cells #[.slice none 0 0, .slice none 0 0] 26 (0, 0)) :=
  ⟨h.below.grown hg h.below.size (fun b hb => by have := hv b hb; omega), (hg.block _ (by have := h.lt; omega) (fun e => by have := hv _ e.symm; omega)).trans h.par, (hg.block _ (by have := h.lt; omega) (fun e => by have := hv _ e.symm; omega)).trans h.res⟩
theorem CI.appS (h : CI w X s c [] lc W) (ho : W'.ownsRow (w.heap.size + 2) 9 1 s' (0 + l.length) ([] ++ strsV l)) (hg : W.grownBy W' s.ownBlock) (hl : s'.ownBlock = s.ownBlock ∨ s'.ownBlock = some W.heap.size) : CI w X s' c l lc W' := by
  obtain ⟨h1, h2, h3⟩ := h.grown (fun b hb => (World.ownsRow.lt h.secs b hb).1) hg
  refine ⟨h1, h2, h3, by simpa [OwnS] using ho, World.ownsRow.kept h.cache hg ?_, ?_⟩
  · rcases h.apart with e | e
    · cases hc : c.ownBlock with
      | none => exact .inl rfl
      | some b => exact .inr (by rw [e]; simp)
    · exact .inr (fun e' => e e'.symm)
  · rcases hl with e | e
    · rw [e]; exact h.apart
    · rw [e]; exact .inr (fun e' => ne_new (fun b hb => (World.ownsRow.lt h.cache b hb).2) e'.symm)
theorem CI.appW (h : CI w X s c ls [] W) (ho : W'.ownsRow (w.heap.size + 2) 122 2 c' (0 + k.length) ([] ++ flatW k)) (hg : W.grownBy W' c.ownBlock) (hl : c'.ownBlock = c.ownBlock ∨ c'.ownBlock = some W.heap.size) : CI w X s c' ls k W' := by
  obtain ⟨h1, h2, h3⟩ := h.grown (fun b hb => (World.ownsRow.lt h.cache b hb).1) hg
  refine ⟨h1, h2, h3, World.ownsRow.kept h.secs hg h.apart, by simpa [OwnW] using ho, ?_⟩
  rcases hl with e | e
  · rw [e]; exact h.apart
  · rw [e]; exact .inr (fun e' => ne_new (fun b hb => (World.ownsRow.lt h.secs b hb).2) e')
theorem CI.cloneS (h : CI w X s c ls lc W) (ho : OwnS W.heap.size s' l W') (hb : Below W.heap.size W W') : CI w X s' c l lc W' := by
  have hk := h.keep hb
  refine ⟨hk.below, hk.par, hk.res, owns_base ho h.lt, hk.cache, ?_⟩
  cases hs : s'.ownBlock with
  | none => exact .inl rfl
  | some b =>
    refine .inr (fun e => ?_)
    have h1 := (World.ownsRow.lt ho b hs).1
    have h2 := (World.ownsRow.lt h.cache b e.symm).2
    omega
theorem CI.cloneW (h : CI w X s c ls lc W) (ho : OwnW W.heap.size c' k W') (hb : Below W.heap.size W W') : CI w X s c' ls k W' := by
  have hk := h.keep hb
  refine ⟨hk.below, hk.par, hk.res, hk.secs, owns_base ho h.lt, ?_⟩
  cases hs : s.ownBlock with
  | none => exact .inl rfl
  | some b =>
    refine .inr (fun e => ?_)
    have h1 := (World.ownsRow.lt ho b e.symm).1
    have h2 := (World.ownsRow.lt h.secs b hs).2
    omega
theorem CI.par2 (h : CI w X s c ls lc W) {x y : Value} : ((W.setCell ⟨w.heap.size + 1, 0, none⟩ x).setCell ⟨w.heap.size + 1, 1, none⟩ y).heap[w.heap.size]? = some (.cells X 26 (0, 0)) :=
  (heap_far _ _ _ _ _ (by omega)).trans ((heap_far _ _ _ _ _ (by omega)).trans h.par)
theorem CI.out2 (h : CI w X s c ls lc W) {x y : Value} : OwnD w.heap.size s c ⟨ls, lc⟩ ((W.setCell ⟨w.heap.size + 1, 0, none⟩ x).setCell ⟨w.heap.size + 1, 1, none⟩ y) ∧ Below w.heap.size w ((W.setCell ⟨w.heap.size + 1, 0, none⟩ x).setCell ⟨w.heap.size + 1, 1, none⟩ y) :=
  ⟨(((show OwnD (w.heap.size + 2) s c ⟨ls, lc⟩ W from ⟨h.secs, h.cache, h.apart⟩).set (by omega)).set (by omega)).base (by omega), (h.below.setCell (by simp) _).setCell (by simp) _⟩
end
end Go.Proofs.Ytfhfhpnoeghgmaa

/-
  Contracts: a text cut into the writes of its pieces.
-/
namespace Go.Proofs.Ytfhfhpnoeghgmaa
open Go.RowKit
set_option maxRecDepth 100000

def many (t : ByteArray) : Nat := (t.size + 63) / 64
def piece (t : ByteArray) (k : Nat) : ByteArray := mkS (pad (t.data.toList.drop (k * 64)))
def wrsOf (at' : Int) (t : ByteArray) (n : Nat) : List Wr := (List.range n).map fun i : Nat => ⟨at' + (i : Int), piece t i⟩
theorem wrsOf_zero (a : Int) (t : ByteArray) : wrsOf a t 0 = [] := rfl
theorem wrsOf_succ (a : Int) (t : ByteArray) (k : Nat) : wrsOf a t (k + 1) = wrsOf a t k ++ [⟨a + (k : Int), piece t k⟩] := by simp [wrsOf, List.range_succ]
theorem wrsOf_len (a : Int) (t : ByteArray) (n : Nat) : (wrsOf a t n).length = n := by simp [wrsOf]
theorem piece_size (t : ByteArray) (k : Nat) : (piece t k).size = 64 := by unfold piece; rw [mkS_size, pad_len]
theorem drop_extract (s : ByteArray) (k : Nat) : (s.extract k s.size).data.toList = s.data.toList.drop k := by
  have e : s.extract k s.size = (ByteArray.mk s.data.toList.toArray).extract k s.size := rfl
  rw [e, ByteArray.extract_mk]
  show List.take (s.size - k) (s.data.toList.drop k) = _
  exact List.take_of_length_le (by rw [List.length_drop]; exact Nat.le_refl _)
theorem own_wr_one (w : World) (x : Int) (t : ByteArray) : (w.alloc (.cells #[.int .i64 x, .string t] 122)).ownsRow w.heap.size 122 2 (.slice (some ⟨w.heap.size, 0, none⟩) 1 1) 1 [.int .i64 x, .string t] :=
  ⟨rfl, .inr ⟨w.heap.size, 1, _, rfl, Nat.le_refl _, heap_alloc_new _ _, Nat.le_refl _, by decide, rfl, rfl⟩⟩
theorem wr_one (x : Int) (t : ByteArray) : ∀ u ∈ [Value.int .i64 x, Value.string t], u.oneCell' = true := fun u hu => by
  simp at hu
  rcases hu with rfl | rfl <;> rfl
theorem ownW_snoc {base : Nat} {v : Value} {l : List Wr} {w : World} {n : Nat} {x : Int} {t : ByteArray} (h : w.ownsRow base 122 2 v (n + 1) (flatW l ++ [.int .i64 x, .string t])) (hn : l.length = n) : OwnW base v (l ++ [⟨x, t⟩]) w := by
  unfold OwnW
  rw [flatW_snoc, List.length_append]
  simpa [hn] using h
set_option maxHeartbeats 1000000 in
theorem piecesOf_any (t : ByteArray) (ht : t.size ≤ 1048576) (w : World) :
    Calls Try.prog 82 #[.string t] w fun e w' => e = .returned (.int .i64 (many t : Int)) ∧ w' = w := by
  have e1 : ((t.size : Int) + 64 - 1) / 64 = (many t : Int) := by unfold many; omega
  go_enter Try.func82, Try.ntmps82
  go_wp2
  go_ret
  exact ⟨ret_int (by omega), rfl⟩
def pcs (t : ByteArray) (n : Nat) : List ByteArray := (List.range n).map fun i : Nat => piece t i
theorem pcs_succ (t : ByteArray) (k : Nat) : pcs t (k + 1) = pcs t k ++ [piece t k] := by simp [pcs, List.range_succ]
theorem pcs_len (t : ByteArray) (n : Nat) : (pcs t n).length = n := by simp [pcs]
theorem pcs_get (t : ByteArray) (n k : Nat) (h : k < n) : (pcs t n).getD k ByteArray.empty = piece t k := by simp [pcs, List.getD_eq_getElem?_getD, h]
theorem ownS_nil' (base : Nat) (w : World) : OwnS base (.slice none 0 0) [] w := ownS_nil _ _
theorem cut_str_one (w : World) (t : ByteArray) : (w.alloc (.cells #[.string t] 9)).ownsRow w.heap.size 9 1 (.slice (some ⟨w.heap.size, 0, none⟩) 1 1) 1 [.string t] :=
  ⟨rfl, .inr ⟨w.heap.size, 1, _, rfl, Nat.le_refl _, heap_alloc_new _ _, Nat.le_refl _, by decide, rfl, rfl⟩⟩
theorem cut_one (t : ByteArray) : ∀ u ∈ [Value.string t], u.oneCell' = true := fun u hu => by
  simp at hu
  rcases hu with rfl
  rfl
theorem cut_snoc {base : Nat} {v : Value} {l : List ByteArray} {w : World} {n : Nat} {t : ByteArray} (h : w.ownsRow base 9 1 v (n + 1) (strsV l ++ [.string t])) (hn : l.length = n) : OwnS base v (l ++ [t]) w := by
  unfold OwnS
  rw [List.length_append]
  simpa [strsV, hn] using h
set_option maxHeartbeats 4000000 in
theorem cutText_any (t : ByteArray) (ht : t.size ≤ 20000) (w : World) :
    Calls Try.prog 113 #[.string t] w fun e w' => ∃ v, e = .returned v ∧ OwnS w.heap.size v (pcs t (many t)) w' ∧ Below w.heap.size w w' := by
  obtain ⟨j0, hj, hy0, hy1, hy2⟩ := info_parts Try.infoStr'
  have hm : many t ≤ 313 := by unfold many; omega
  have hm2 : ∀ k, k < many t → k * 64 < t.size := fun k hk => by unfold many at hk; omega
  have HM2 := hide hm2
  have HP := hide (fun W => piecesOf_any t (by omega) W)
  have HSUCC := hide (fun k => pcs_succ t k)
  have HLEN := hide (fun k => pcs_len t k)
  have HPC : Hid (∀ k, mkS (pad (t.extract (k * 64) t.size).data.toList) = piece t k) := fun k => by rw [drop_extract]; rfl
  generalize many t = m at *
  clear hm2
  go_enter Try.func113, Try.ntmps113
  go_wp2_with (go_at_call 82; refine (HP.out _).mono ?_; rintro e w1 ⟨rfl, hw⟩; rw [hw]; clear hw w1)
  go_loopw [3, 7] (fun l i wr => ∃ (k : Nat) (v : Value), k ≤ m ∧ i = .int .i64 k ∧ l = v ∧ Hid (OwnS w.heap.size v (pcs t k) wr) ∧ Below w.heap.size w wr) (fun _ i _ => m - (intOf i).toNat)
  case atStart => exact ⟨0, _, Nat.zero_le _, rfl, rfl, ownS_nil w.heap.size w, Below.refl _ _⟩
  case round =>
    obtain ⟨k, v, hk, rfl, rfl, HO, hb⟩ := hrel
    obtain ⟨ao, cap, hv⟩ := ownS_shape HO.out
    rw [HLEN.out] at hv
    subst hv
    by_cases hlt : k < m
    · have h64 := HM2.out k hlt
      have hk64 : ((k : Int) * 64).toNat = k * 64 := by omega
      have hmul : IntKind.i64.wrap ((k : Int) * 64) = (k : Int) * 64 := by rw [IntKind.wrap_i64]; omega
      have hb0 := hide hb
      have HSO := hide (fun W => sectorOf_any (t.extract (k * 64) t.size) W)
      have HST := hide (fun W => sectorText_any (pad (t.extract (k * 64) t.size).data.toList) (pad_len _) W)
      rw [HPC.out] at HST
      generalize pad (t.extract (k * 64) t.size).data.toList = Z at *
      clear hb
      go_wp2_with (first | (go_at_call 114; refine (HSO.out _).mono ?_; rintro e w1 ⟨rfl, b1⟩; have B1 := hide (hb0.out.trans (b1.mono hb0.out.size)); have O1 := hide (owns_below HO.out b1); clear b1) | (go_at_call 70; refine (HST.out _).mono ?_; rintro e w2 ⟨rfl, b2⟩; have B2 := hide (B1.out.trans (b2.mono B1.out.size)); have O2 := hide (owns_below O1.out b2); have O3 := hide (World.ownsRow.alloc O2.out (.cells #[.string (piece t k)] 9)); have B3 := hide (B2.out.alloc B2.out.size (.cells #[.string (piece t k)] 9)); have S3 := hide (cut_str_one w2 (piece t k)); rw [HLEN.out] at O3; clear b2) | (at_builtin; refine wpList_app_own rfl _ _ 23 rfl w.heap.size w2.heap.size 9 j0 (.string ⟨#[]⟩) 1 16 Try.underlying23 hj hy0 hy1 hy2 rfl (by decide) _ k _ rfl O3.out _ 1 _ rfl S3.out (cut_one _) (by unfold maxLen; omega) (by omega) B3.out.size ?_; intro v5 w5 o5 g5 l5; have O5 := hide (cut_snoc o5 (HLEN.out k)); have B5 := hide (B3.out.grown g5 B3.out.size (fun b hb => (World.ownsRow.lt O3.out b hb).1)); rw [← HSUCC.out] at O5; obtain ⟨ao5, cp5, hv5⟩ := ownS_shape O5.out; rw [HLEN.out] at hv5; subst hv5; clear o5 g5 l5))
      go_roundw
      case rel => exact ⟨k + 1, _, by omega, by go_num, rfl, O5, B5.out⟩
      case measure => simp [intOf]; omega
    · obtain rfl : k = m := by omega
      go_wp2
      go_ret
      exact ⟨_, rfl, HO.out, hb⟩
set_option maxHeartbeats 4000000 in
theorem writesOf_any (a : Int) (t : ByteArray) (h0 : 0 ≤ a) (h1 : a ≤ 700) (ht : t.size ≤ 20000) (w : World) :
    Calls Try.prog 85 #[.int .i64 a, .string t] w fun e w' => ∃ v, e = .returned v ∧ OwnW w.heap.size v (wrsOf a t (many t)) w' ∧ Below w.heap.size w w' := by
  obtain ⟨j0, hj, hy0, hy1, hy2⟩ := info_parts Try.infoWr
  have hm : many t ≤ 313 := by unfold many; omega
  have HCT := hide (fun W => cutText_any t ht W)
  have HSUCC := hide (fun k => wrsOf_succ a t k)
  have HLEN := hide (fun k => wrsOf_len a t k)
  have HPL := hide (pcs_len t (many t))
  have HPG := hide (fun k h => pcs_get t (many t) k h)
  generalize many t = m at *
  go_enter Try.func85, Try.ntmps85
  go_wp2_with (go_at_call 113; refine (HCT.out _).mono ?_; rintro e w1 ⟨v1, rfl, o1, b1⟩; obtain ⟨ao1, cap1, hv1, hc1⟩ := ownS_row o1; rw [HPL.out] at hv1 hc1; subst hv1; have HC1 := hide hc1; have B1 := hide b1; clear hc1 o1 b1)
  go_loopw [5, 11] (fun l i wr => ∃ (k : Nat) (v : Value), k ≤ m ∧ i = .int .i64 k ∧ l = v ∧ Hid (OwnW w1.heap.size v (wrsOf a t k) wr) ∧ Below w1.heap.size w1 wr) (fun _ i _ => m - (intOf i).toNat)
  case atStart => exact ⟨0, _, Nat.zero_le _, rfl, rfl, ownW_nil w1.heap.size w1, Below.refl _ _⟩
  case round =>
    obtain ⟨k, v, hk, rfl, rfl, HO, hbl⟩ := hrel
    obtain ⟨ao, cap, hv⟩ := ownW_shape HO.out
    rw [HLEN.out] at hv
    subst hv
    by_cases hlt : k < m
    · obtain ⟨bb, off, x, rfl, hbB, hv, d00⟩ := HC1.out k hlt
      rw [HPG.out k hlt] at hv
      subst hv
      have d0 := (hbl.cell (p := ⟨bb, off + k, none⟩) hbB).trans d00
      have ht' := (Int.toNat_natCast k)
      have hi0 : (0 : Int) ≤ (k : Int) := by omega
      have hi1 : (k : Int) < (m : Int) := by omega
      have hwr : IntKind.i64.wrap (a + (k : Int)) = a + (k : Int) := by rw [IntKind.wrap_i64]; omega
      have HBL := hide hbl
      have O3 := hide (World.ownsRow.alloc HO.out (.cells #[.int .i64 (a + (k : Int)), .string (piece t k)] 122))
      have L3 := hide (hbl.alloc hbl.size (.cells #[.int .i64 (a + (k : Int)), .string (piece t k)] 122))
      have S3 := hide (own_wr_one wr (a + (k : Int)) (piece t k))
      rw [HLEN.out] at O3
      clear d00 HC1 hbl
      go_wp2_with (at_builtin; refine wpList_app_own rfl _ _ 24 rfl w1.heap.size wr.heap.size 122 j0 (.agg #[.int .i64 0, .string ⟨#[]⟩]) 2 24 Try.underlying24 hj hy0 hy1 hy2 rfl (by decide) _ k _ rfl O3.out _ 1 _ rfl S3.out (wr_one _ _) (by unfold maxLen; omega) (by omega) L3.out.size ?_; intro v5 w5 o5 g5 l5; have O5 := hide (ownW_snoc o5 (HLEN.out k)); have L5 := hide (L3.out.grown g5 L3.out.size (fun b hb => (World.ownsRow.lt O3.out b hb).1)); rw [← HSUCC.out] at O5; obtain ⟨ao5, cp5, hv5⟩ := ownW_shape O5.out; rw [HLEN.out] at hv5; subst hv5; clear o5 g5 l5)
      go_roundw
      case rel => exact ⟨k + 1, _, by omega, by go_num, rfl, O5, L5.out⟩
      case measure => simp [intOf]; omega
    · obtain rfl : k = m := by omega
      go_wp2
      go_ret
      exact ⟨_, rfl, owns_base HO.out B1.out.size, B1.out.trans (hbl.mono B1.out.size)⟩
end Go.Proofs.Ytfhfhpnoeghgmaa

/-
  Contract: the size of texts, as the laws count it.
-/
namespace Go.Proofs.Ytfhfhpnoeghgmaa
open Go.RowKit
set_option maxRecDepth 100000

set_option maxHeartbeats 1000000 in
theorem szStringS_any (A B : Nat) (ao : Option Addr) (cap : Nat) (l : List ByteArray) (left : Int) (w : World) (hB : B ≤ w.heap.size) (hl : l.length ≤ maxLen) (hr : StrRow w A B ao l) (h0 : 0 ≤ left) (h1 : left ≤ 1048576) :
    Calls Try.prog 77 #[.slice ao l.length cap, .int .i64 left] w fun e w' => ∃ r : Int, e = .returned (.int .i64 r) ∧ r ≤ left ∧ (r < 0 ∨ 0 ≤ r ∧ l.length ≤ 1048576) ∧ Below w.heap.size w w' := by
  unfold maxLen at hl
  by_cases hlong : left < l.length
  · go_enter Try.func77, Try.ntmps77
    go_wp2
    go_ret
    exact ⟨-1, rfl, by omega, .inl (by omega), Below.refl _ _⟩
  · have HR := hide hr
    clear hr
    go_enter Try.func77, Try.ntmps77
    go_wp2
    go_loopw [1, 5] (fun x i wr => ∃ (k : Nat) (r : Int), k ≤ l.length ∧ i = .int .i64 k ∧ x = .int .i64 r ∧ 0 ≤ r ∧ r ≤ left ∧ Below w.heap.size w wr) (fun _ i _ => l.length - (intOf i).toNat)
    case atStart => exact ⟨0, left - l.length, Nat.zero_le _, rfl, rfl, by omega, by omega, Below.refl _ _⟩
    case round =>
      obtain ⟨k, r, hk, rfl, rfl, hr0, hr1, hb⟩ := hrel
      by_cases hlt : k < l.length
      · obtain ⟨b, off, x, rfl, hbB, hv, hx, d0⟩ := (HR.out.kept (hb.mono hB)).at k hlt
        clear hv
        unfold maxLen at hx
        by_cases hs : r < x.size
        · go_wp2
          go_ret
          exact ⟨-1, rfl, by omega, .inl (by omega), hb⟩
        · go_wp2
          go_roundw
          case rel => exact ⟨k + 1, r - x.size, by omega, by go_num, by go_num, by omega, by omega, hb⟩
          case measure => simp [intOf]; omega
      · go_wp2
        go_ret
        exact ⟨r, rfl, hr1, .inr ⟨hr0, by omega⟩, hb⟩
end Go.Proofs.Ytfhfhpnoeghgmaa
