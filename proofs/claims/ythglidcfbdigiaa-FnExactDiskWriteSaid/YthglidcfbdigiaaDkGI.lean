/-
  A disk's variable whose cache is appended to. Plain laws.
-/
import Derived.Test.YthglidcfbdigiaaDkCp
namespace Go.Proofs.Ythglidcfbdigiaa
open Go.RowKit
set_option maxRecDepth 100000

theorem own_shape' {base n size : Nat} {t : TypeId} {v : Value} {xs : List Value} {w : World} (h : w.ownsRow base t size v n xs) : ∃ ao cap, v = .slice ao n cap := by
  rcases h.2 with ⟨h1, h2⟩ | ⟨g, cap, cur, h1, _⟩
  · exact ⟨none, 0, by rw [h1, h2]⟩
  · exact ⟨_, _, h1⟩
/-- The variable lies in block g, the result's in block w.heap.size + 1; the variable's lists are its own, in blocks below g at first. -/
structure GI (w : World) (g : Nat) (s c c0 : Value) (n2 : Nat) (d : Dk) (W : World) : Prop where
  below : Below w.heap.size w W
  var : W.heap[g]? = some (.cells #[s, c0] 26 (0, 0))
  res : W.heap[w.heap.size + 1]? = some (.cells #[.slice none 0 0, .slice none 0 0, .string ⟨#[]⟩, .int .i64 0] 30 (0, 0))
  own : OwnD (w.heap.size + 2) s c d W
  num : n2 = d.cache.length
  far : (∀ b, s.ownBlock = some b → b ≠ g) ∧ (∀ b, c.ownBlock = some b → b ≠ g)
  gap : w.heap.size + 2 ≤ g
section
variable {w w2 w3 W W' : World} {g n2 m : Nat} {s c c0 v : Value} {d : Dk} {k : List Wr}
theorem GI.lt (h : GI w g s c c0 n2 d W) : w.heap.size + 2 ≤ W.heap.size := by have := (Array.getElem?_eq_some_iff.1 h.var).1; have := h.gap; omega
theorem GI.start (hb : Below w.heap.size w w2) (hl : w.heap.size + 1 < w2.heap.size) (hy : w2.heap[w.heap.size + 1]? = some (.cells #[.slice none 0 0, .slice none 0 0, .string ⟨#[]⟩, .int .i64 0] 30 (0, 0)))
    (ho : OwnD w2.heap.size s c d w3) (h3 : Below w2.heap.size w2 w3) (hn : n2 = d.cache.length) : GI w w3.heap.size s c c n2 d (w3.alloc (.cells #[s, c] 26)) := by
  have hz := h3.size
  have hk := (Below.refl w3.heap.size w3).alloc (Nat.le_refl _) (.cells #[s, c] 26)
  exact ⟨(hb.trans (h3.mono hb.size)).trans (hk.mono (by omega)), heap_alloc_new _ _, (heap_old _ _ _ (by omega)).trans ((h3.block _ hl).trans hy), (ho.below hk).base (by omega), hn, ⟨fun b hb => by have := (ho.lt.1 b hb).2; omega, fun b hb => by have := (ho.lt.2 b hb).2; omega⟩, by omega⟩
theorem GI.keep (h : GI w g s c c0 n2 d W) (hb : Below W.heap.size W W') : GI w g s c c0 n2 d W' :=
  ⟨h.below.trans (hb.mono h.below.size), (hb.block _ (Array.getElem?_eq_some_iff.1 h.var).1).trans h.var, (hb.block _ (Array.getElem?_eq_some_iff.1 h.res).1).trans h.res, h.own.below hb, h.num, h.far, h.gap⟩
theorem GI.drew (h : GI w g s c c0 n2 d W) : GI w g s c c0 n2 d W.drew := h.keep (Below.refl _ _).drew
theorem GI.cacheN (h : GI w g s c c0 n2 d W) : W.ownsRow (w.heap.size + 2) 78 2 c n2 (flatW d.cache) := by
  have := h.own.cache
  unfold OwnW at this
  rwa [← h.num] at this
theorem GI.app (h : GI w g s c c0 n2 d W) (ho : W'.ownsRow (w.heap.size + 2) 78 2 v (n2 + m) (flatW d.cache ++ flatW k)) (hg : W.grownBy W' c.ownBlock) (hl : v.ownBlock = c.ownBlock ∨ v.ownBlock = some W.heap.size) (hn : n2 = d.cache.length) (hk : k.length = m) :
    GI w g s v c0 (n2 + m) ⟨d.secs, d.cache ++ k⟩ W' := by
  have hgv := (Array.getElem?_eq_some_iff.1 h.var).1
  have hgr := (Array.getElem?_eq_some_iff.1 h.res).1
  refine ⟨h.below.grown hg h.below.size (fun b hb => by have := (h.own.lt.2 b hb).1; omega), (hg.block g hgv (fun e => h.far.2 g e.symm rfl)).trans h.var, (hg.block _ hgr (fun e => by have := (h.own.lt.2 _ e.symm).1; omega)).trans h.res, ⟨World.ownsRow.kept h.own.secs hg h.own.apart, ?_, ?_⟩, by simp [hn, hk], ⟨h.far.1, fun b hb => ?_⟩, h.gap⟩
  · unfold OwnW
    rw [flatW_append, List.length_append, ← hn, hk]
    exact ho
  · rcases hl with e | e
    · rw [e]; exact h.own.apart
    · rw [e]; exact .inr (fun e' => ne_new (fun b hb => (h.own.lt.1 b hb).2) e')
  · rcases hl with e | e
    · rw [e] at hb; exact h.far.2 b hb
    · rw [e] at hb
      have := Option.some.inj hb
      omega
theorem own_ne {W : World} {base g m n size : Nat} {v x : Value} {xs : List Value} {t : TypeId} (h : W.ownsRow base t size v n xs) (hg : ∀ b, v.ownBlock = some b → b ≠ g) : (W.setCell ⟨g, m, none⟩ x).ownsRow base t size v n xs := by
  refine ⟨h.1, ?_⟩
  rcases h.2 with h0 | ⟨q, cap, cur, rfl, hB, hq, hn, hm, hs, ht⟩
  · exact .inl h0
  · exact .inr ⟨q, cap, cur, rfl, hB, by rw [heap_setCell_other _ _ _ _ (show q ≠ g from hg q rfl)]; exact hq, hn, hm, hs, ht⟩
theorem GI.set (h : GI w g s c c0 n2 d W) : (W.setCell ⟨g, 1, none⟩ c).heap[g]? = some (.cells #[s, c] 26 (0, 0)) ∧ (W.setCell ⟨g, 1, none⟩ c).heap[w.heap.size + 1]? = some (.cells #[.slice none 0 0, .slice none 0 0, .string ⟨#[]⟩, .int .i64 0] 30 (0, 0)) ∧ OwnD (w.heap.size + 2) s c d (W.setCell ⟨g, 1, none⟩ c) ∧ Below w.heap.size w (W.setCell ⟨g, 1, none⟩ c) := by
  have hgap := h.gap
  refine ⟨?_, (heap_far _ _ _ _ _ (by omega)).trans h.res, ⟨own_ne h.own.secs h.far.1, own_ne h.own.cache h.far.2, h.own.apart⟩, h.below.setCell (by simp; omega) _⟩
  have := heap_setCell_same W g 1 _ _ c h.var
  simpa using this
theorem GI.put (h : GI w g s c c0 n2 d W) : GI w g s c c n2 d (W.setCell ⟨g, 1, none⟩ c) :=
  ⟨h.set.2.2.2, h.set.1, h.set.2.1, h.set.2.2.1, h.num, h.far, h.gap⟩
end
end Go.Proofs.Ythglidcfbdigiaa
