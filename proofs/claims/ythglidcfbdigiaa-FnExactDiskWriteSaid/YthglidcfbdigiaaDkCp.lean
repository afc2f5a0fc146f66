/-
  A disk's two lists in the making: what was handed in, and the result's variable, lie where they lay. Plain laws.
-/
import Derived.Test.YthglidcfbdigiaaOwnDk
import Derived.Test.YthglidcfbdigiaaAppOwn
import Derived.Laws.ResultCell
namespace Go.Proofs.Ythglidcfbdigiaa
open Go.RowKit
set_option maxRecDepth 100000

structure CI (w : World) (X : Array Value) (s c : Value) (ls : List ByteArray) (lc : List Wr) (W : World) : Prop where
  below : Below w.heap.size w W
  par : W.heap[w.heap.size]? = some (.cells X 26 (0, 0))
  res : W.heap[w.heap.size + 1]? = some (.cells #[.slice none 0 0, .slice none 0 0] 26 (0, 0))
  secs : OwnS (w.heap.size + 2) s ls W
  cache : OwnW (w.heap.size + 2) c lc W
  apart : s.ownBlock = none ∨ s.ownBlock ≠ c.ownBlock
theorem resDisk {fn : Func} {p : Tmp} (h : fn.results = #[.cell p 26]) (tmps : Array Value) (w : World) (g : Nat) (x y : Value) (hp : tmps.getD p undef = .pointer (some ⟨g, 0, none⟩))
    (hg : w.heap[g]? = some (.cells #[x, y] 26 (0, 0))) : (results fn tmps).run Try.prog w = .ok (.agg #[x, y]) w :=
  results_cell_row h tmps w g 26 #[x, y] (0, 0) _ hp hg Try.underlying26 rfl (by kernel_rfl)
section
variable {w W W' : World} {X : Array Value} {s c s' c' : Value} {ls l : List ByteArray} {lc k : List Wr}
theorem CI.lt (h : CI w X s c ls lc W) : w.heap.size + 2 ≤ W.heap.size := (Array.getElem?_eq_some_iff.1 h.res).1
theorem CI.start (w : World) (x y : Value) : CI w #[x, y] (.slice none 0 0) (.slice none 0 0) [] [] ((w.alloc (.cells #[x, y] 26)).alloc (.cells #[.slice none 0 0, .slice none 0 0] 26)) := by
  have h := two_allocs w (.cells #[x, y] 26) (.cells #[.slice none 0 0, .slice none 0 0] 26)
  exact ⟨((Below.refl _ _).alloc (Nat.le_refl _) _).alloc (by simp) _, h.1, h.2.1, ownS_nil _ _, ownW_nil _ _, .inl rfl⟩
theorem CI.keep (h : CI w X s c ls lc W) (hb : Below W.heap.size W W') : CI w X s c ls lc W' :=
  ⟨h.below.trans (hb.mono h.below.size), (hb.block _ (by have := h.lt; omega)).trans h.par, (hb.block _ (by have := h.lt; omega)).trans h.res, owns_below h.secs hb, owns_below h.cache hb, h.apart⟩
theorem CI.drew (h : CI w X s c ls lc W) : CI w X s c ls lc W.drew := h.keep (Below.refl _ _).drew
theorem own_empty {W : World} {base e size : Nat} {t : TypeId} (he : W.heap[e]? = some (.cells #[] t (0, 0))) (hb : base ≤ e) : W.ownsRow base t size (.slice (some ⟨e, 0, none⟩) 0 0) 0 [] := ⟨by simp, .inr ⟨e, 0, #[], rfl, hb, he, Nat.le_refl _, Nat.zero_le _, by simp, by simp⟩⟩
theorem ne_new {v : Value} {n : Nat} (h : ∀ b, v.ownBlock = some b → b < n) : v.ownBlock ≠ some n := fun e => by have := h _ e; omega
theorem CI.buildS (h : CI w X s c [] lc W) : CI w X (.slice (some ⟨W.heap.size, 0, none⟩) 0 0) c [] lc (W.alloc (.cells #[] 9)) := by
  have hk := h.keep ((Below.refl W.heap.size W).alloc (Nat.le_refl _) (.cells #[] 9))
  exact ⟨hk.below, hk.par, hk.res, own_empty (heap_alloc_new _ _) h.lt, hk.cache, .inr (fun e => ne_new (fun b hb => (World.ownsRow.lt h.cache b hb).2) e.symm)⟩
theorem CI.buildW (h : CI w X s c ls [] W) : CI w X s (.slice (some ⟨W.heap.size, 0, none⟩) 0 0) ls [] (W.alloc (.cells #[] 78)) := by
  have hk := h.keep ((Below.refl W.heap.size W).alloc (Nat.le_refl _) (.cells #[] 78))
  exact ⟨hk.below, hk.par, hk.res, hk.secs, own_empty (heap_alloc_new _ _) h.lt, .inr (fun e => ne_new (fun b hb => (World.ownsRow.lt h.secs b hb).2) e)⟩
theorem CI.grown (h : CI w X s c ls lc W) {v : Value} (hv : ∀ b, v.ownBlock = some b → w.heap.size + 2 ≤ b) (hg : W.grownBy W' v.ownBlock) : Below w.heap.size w W' ∧ W'.heap[w.heap.size]? = some (.cells X 26 (0, 0)) ∧ W'.heap[w.heap.size + 1]? = some (.cells #[.slice none 0 0, .slice none 0 0] 26 (0, 0)) :=
  ⟨h.below.grown hg h.below.size (fun b hb => by have := hv b hb; omega), (hg.block _ (by have := h.lt; omega) (fun e => by have := hv _ e.symm; omega)).trans h.par, (hg.block _ (by have := h.lt; omega) (fun e => by have := hv _ e.symm; omega)).trans h.res⟩
theorem CI.appS (h : CI w X s c [] lc W) (ho : W'.ownsRow (w.heap.size + 2) 9 1 s' (0 + l.length) ([] ++ strsV l)) (hg : W.grownBy W' s.ownBlock) (hl : s'.ownBlock = s.ownBlock ∨ s'.ownBlock = some W.heap.size) : CI w X s' c l lc W' := by
  obtain ⟨h1, h2, h3⟩ := h.grown (fun b hb => (World.ownsRow.lt h.secs b hb).1) hg
  refine ⟨h1, h2, h3, by simpa [OwnS] using ho, World.ownsRow.kept h.cache hg ?_, ?_⟩
  · rcases h.apart with e | e
    · cases hc : c.ownBlock with
      | none => exact .inl rfl
      | some b => exact .inr (by rw [e]; simp)
    · exact .inr (fun e' => e e'.symm)
  · rcases hl with e | e
    · rw [e]; exact h.apart
    · rw [e]; exact .inr (fun e' => ne_new (fun b hb => (World.ownsRow.lt h.cache b hb).2) e'.symm)
theorem CI.appW (h : CI w X s c ls [] W) (ho : W'.ownsRow (w.heap.size + 2) 78 2 c' (0 + k.length) ([] ++ flatW k)) (hg : W.grownBy W' c.ownBlock) (hl : c'.ownBlock = c.ownBlock ∨ c'.ownBlock = some W.heap.size) : CI w X s c' ls k W' := by
  obtain ⟨h1, h2, h3⟩ := h.grown (fun b hb => (World.ownsRow.lt h.cache b hb).1) hg
  refine ⟨h1, h2, h3, World.ownsRow.kept h.secs hg h.apart, by simpa [OwnW] using ho, ?_⟩
  rcases hl with e | e
  · rw [e]; exact h.apart
  · rw [e]; exact .inr (fun e' => ne_new (fun b hb => (World.ownsRow.lt h.secs b hb).2) e')
theorem CI.cloneS (h : CI w X s c ls lc W) (ho : OwnS W.heap.size s' l W') (hb : Below W.heap.size W W') : CI w X s' c l lc W' := by
  have hk := h.keep hb
  refine ⟨hk.below, hk.par, hk.res, owns_base ho h.lt, hk.cache, ?_⟩
  cases hs : s'.ownBlock with
  | none => exact .inl rfl
  | some b =>
    refine .inr (fun e => ?_)
    have h1 := (World.ownsRow.lt ho b hs).1
    have h2 := (World.ownsRow.lt h.cache b e.symm).2
    omega
theorem CI.cloneW (h : CI w X s c ls lc W) (ho : OwnW W.heap.size c' k W') (hb : Below W.heap.size W W') : CI w X s c' ls k W' := by
  have hk := h.keep hb
  refine ⟨hk.below, hk.par, hk.res, hk.secs, owns_base ho h.lt, ?_⟩
  cases hs : s.ownBlock with
  | none => exact .inl rfl
  | some b =>
    refine .inr (fun e => ?_)
    have h1 := (World.ownsRow.lt ho b e.symm).1
    have h2 := (World.ownsRow.lt h.secs b hs).2
    omega
theorem CI.par2 (h : CI w X s c ls lc W) {x y : Value} : ((W.setCell ⟨w.heap.size + 1, 0, none⟩ x).setCell ⟨w.heap.size + 1, 1, none⟩ y).heap[w.heap.size]? = some (.cells X 26 (0, 0)) :=
  (heap_far _ _ _ _ _ (by omega)).trans ((heap_far _ _ _ _ _ (by omega)).trans h.par)
theorem CI.out2 (h : CI w X s c ls lc W) {x y : Value} : OwnD w.heap.size s c ⟨ls, lc⟩ ((W.setCell ⟨w.heap.size + 1, 0, none⟩ x).setCell ⟨w.heap.size + 1, 1, none⟩ y) ∧ Below w.heap.size w ((W.setCell ⟨w.heap.size + 1, 0, none⟩ x).setCell ⟨w.heap.size + 1, 1, none⟩ y) :=
  ⟨(((show OwnD (w.heap.size + 2) s c ⟨ls, lc⟩ W from ⟨h.secs, h.cache, h.apart⟩).set (by omega)).set (by omega)).base (by omega), (h.below.setCell (by simp) _).setCell (by simp) _⟩
end
end Go.Proofs.Ythglidcfbdigiaa
