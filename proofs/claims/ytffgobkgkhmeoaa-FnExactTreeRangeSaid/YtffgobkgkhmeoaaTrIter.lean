/-
  Contracts: the keys of a tree are told one by one.
-/
import Derived.RangeFuncNested
import Derived.RangeFuncBound
import Derived.RangeFuncCalls
import Derived.RangeFuncLeaves
import Derived.RangeFuncFrom
import Derived.Shelf.Abstract
import Derived.Shelf.RegionOpen
import Derived.OwnWalkIn
import Derived.TacticsInMore
import Derived.LoopNIn
import Derived.LoopIn
import Derived.Test.YtffgobkgkhmeoaaTrNode
namespace Go.Proofs.Ytffgobkgkhmeoaa
open Go.RowKit Go.Shelf
attribute [local go_sem] Oper.semAt_some
set_option maxRecDepth 100000

theorem room_of_none {F : Fence} (hd : F.depth = none) (k : Nat) : F.room k := fun d h => by rw [hd] at h; cases h
theorem roundAny {F : Fence} (hd : F.depth = none) {m m' : Nat} {P : Program} {l : Nat} {f : FuncId} {tmps : Array Value} {assign body : Code} {w : World} {R : Ending → World → Prop}
    (h : RoundIn F m P l f tmps assign body w R) : RoundIn F m' P l f tmps assign body w R := ⟨h.1, fun c cs _ => h.2 c cs (room_of_none hd _)⟩
theorem yieldAny {F : Fence} (hd : F.depth = none) {m : Nat} (m' : Nat) {P : Program} {l : Nat} {args : Array Value} {W : World} {R : Ending → World → Prop} (h : YieldAt F m P l args W R) : YieldAt F m' P l args W R := by
  obtain ⟨fn, tmps, assign, body, hy, hR⟩ := h
  exact ⟨fn, tmps, assign, body, hy, roundAny hd hR⟩

/-- What has come when k keys, and what lies ahead of each, have come. -/
def wpre (ks : List ByteArray) (cs : List (List ByteArray)) (k : Nat) : List ByteArray := (List.range k).flatMap fun i => cs.getD i [] ++ [ks.getD i ByteArray.empty]
theorem wpre_succ (ks : List ByteArray) (cs : List (List ByteArray)) (k : Nat) : wpre ks cs (k + 1) = wpre ks cs k ++ (cs.getD k [] ++ [ks.getD k ByteArray.empty]) := by
  unfold wpre; rw [List.range_succ, List.flatMap_append]; simp
theorem wpre_cons (a : ByteArray) (ks : List ByteArray) (c : List ByteArray) (cs : List (List ByteArray)) (k : Nat) : wpre (a :: ks) (c :: cs) (k + 1) = c ++ a :: wpre ks cs k := by
  unfold wpre; rw [List.range_succ_eq_map, List.flatMap_cons, List.flatMap_map]; simp
theorem wpre_cons' (a : ByteArray) (ks : List ByteArray) (k : Nat) : wpre (a :: ks) [] (k + 1) = a :: wpre ks [] k := by
  unfold wpre; rw [List.range_succ_eq_map, List.flatMap_cons, List.flatMap_map]; simp
theorem weave_leaf : ∀ ks : List ByteArray, weave ks [] = wpre ks [] ks.length
  | [] => rfl
  | a :: ks => by
    rw [List.length_cons, wpre_cons', ← weave_leaf ks]
    cases ks <;> rfl
theorem weave_kids : ∀ (ks : List ByteArray) (cs : List (List ByteArray)), cs.length = ks.length + 1 → weave ks cs = wpre ks cs ks.length ++ cs.getD ks.length []
  | [], [c], _ => by simp [weave, wpre]
  | [], [], h => by simp at h
  | [], _ :: _ :: _, h => by simp at h
  | _ :: _, [], h => by simp at h
  | a :: ks, c :: cs, h => by
    have ih := weave_kids ks cs (by simpa using h)
    rw [List.length_cons, wpre_cons, weave, ih]
    simp
theorem wpre_le (ks : List ByteArray) (cs : List (List ByteArray)) (k n : Nat) (h : k ≤ n) : wpre ks cs k <+: wpre ks cs n := by
  induction n with
  | zero => obtain rfl : k = 0 := by omega
            exact List.prefix_refl _
  | succ n ih =>
    by_cases he : k = n + 1
    · subst he; exact List.prefix_refl _
    · exact (ih (by omega)).trans (by rw [wpre_succ]; exact List.prefix_append _ _)
theorem inord_len (r : Nat) (t : Tr) : inord (r + 1) t = weave t.keys (t.kids.map (inord r)) := rfl
/-- The parts of what is told of a node, where its shape is right. -/
theorem inord_parts {r : Nat} {t : Tr} (h : nodeOk t = true) : (t.kids.length = 0 ∧ inord (r + 1) t = wpre t.keys [] t.keys.length) ∨ (t.kids.length = t.keys.length + 1 ∧ inord (r + 1) t = wpre t.keys (t.kids.map (inord r)) t.keys.length ++ inord r (t.kids.getD t.keys.length noTr)) := by
  unfold nodeOk at h
  simp only [Bool.and_eq_true, decide_eq_true_eq, Bool.or_eq_true] at h
  rcases h.1.1.2 with h0 | h0
  · left
    have := List.eq_nil_of_length_eq_zero h0
    exact ⟨h0, by rw [inord_len, this]; exact weave_leaf _⟩
  · right
    refine ⟨h0, ?_⟩
    rw [inord_len, weave_kids _ _ (by simpa using h0), map_getD _ _ _ noTr _ (by omega)]
theorem lev_node {r : Nat} {t : Tr} (h : (lev (r + 1) t).isSome = true) : nodeOk t = true ∧ ∀ i, i < t.kids.length → (lev r (t.kids.getD i noTr)).isSome = true := by
  simp only [lev] at h
  by_cases hn : nodeOk t = true
  · refine ⟨hn, fun i hi => ?_⟩
    rw [if_pos hn] at h
    cases hs : sameL (t.kids.map (lev r)) with
    | none => rw [hs] at h; cases h
    | some a =>
      rw [sameL_some (by simp; intro e; rw [e] at hi; simp at hi)] at hs
      have := hs (lev r (t.kids.getD i noTr)) (List.mem_map.2 ⟨_, getD_mem _ _ _ hi, rfl⟩)
      rw [this]; rfl
  · rw [if_neg hn] at h; cases h
def TellPost (J Jx : List ByteArray → World → Prop) (n₀ : Nat) (pre all : List ByteArray) (W : World) (e : Ending) (W' : World) : Prop :=
  (e = .returned (.bool true) ∧ J (pre ++ all) W' ∧ Below n₀ W W') ∨ (e = .returned (.bool false) ∧ ∃ q, q <+: all ∧ Jx (pre ++ q) W')
end Go.Proofs.Ytffgobkgkhmeoaa
