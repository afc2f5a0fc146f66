/-
  A disk's answer in a box, its lists in rows of their own; a region cut behind its last operation.
-/
import Derived.Test.YtaapacpiipcogaaDkOut
import Derived.Test.YtaapacpiipcogaaOwnDk
import Derived.Test.YtaapacpiipcogaaDkDrv
import Derived.Test.YtaapacpiipcogaaDkWrP
namespace Go.Proofs.Ytaapacpiipcogaa
open Go.RowKit
set_option maxRecDepth 100000

/-- A region's end, said of what it has written into the slots. -/
theorem wp_cutA {P : Program} {c : Code} {Q : Exit → Act → World → Prop} {a : Act} {w : World} {β : Type} (T : Act → β → Act) (J : β → World → Prop)
    (h : c.wp P (Exit.then (fun a' w' => ∃ x, a' = T a x ∧ J x w') (fun _ _ _ => False)) a w) (hq : ∀ x w', J x w' → Q .normal (T a x) w') : c.wp P Q a w := by
  refine wp_mono h ?_
  intro e a' w' he
  cases e with
  | normal => obtain ⟨x, rfl, hx⟩ := he; exact hq x w' hx
  | ret => exact he.elim
  | exit => exact he.elim
  | goto => exact he.elim
  | panic => exact he.elim
  | outgrown => exact he.elim
def putA (a : Act) (i : Nat) (v : Value) : Act := { a with tmps := a.tmps.setIfInBounds i v }
def zOut : Obj := .cells #[.slice none 0 0, .slice none 0 0, .string ⟨#[]⟩, .int .i64 0] 31
def setO (W : World) (g : Nat) (s c : Value) (t : ByteArray) (K : Int) : World := (((W.setCell ⟨g, 0, none⟩ s).setCell ⟨g, 1, none⟩ c).setCell ⟨g, 2, none⟩ (.string t)).setCell ⟨g, 3, none⟩ (.int .i64 K)
structure OutAt (lo g : Nat) (s c : Value) (t : ByteArray) (K : Int) (D : Dk) (W : World) : Prop where
  box : W.heap[g]? = some (.cells #[s, c, .string t, .int .i64 K] 31 (0, 0))
  own : OwnD lo s c D W
  far : ∀ v ∈ [s, c], ∀ b, v.ownBlock = some b → b ≠ g
  low : lo ≤ g
theorem OutAt.below {lo g : Nat} {s c : Value} {t : ByteArray} {K : Int} {D : Dk} {W W' : World} (h : OutAt lo g s c t K D W) (hb : Below W.heap.size W W') : OutAt lo g s c t K D W' :=
  ⟨(hb.block g (blk_lt' h.box)).trans h.box, h.own.below hb, h.far, h.low⟩
theorem own_setF {W : World} {base g m n size : Nat} {v x : Value} {xs : List Value} {t : TypeId} (h : W.ownsRow base t size v n xs) (hg : ∀ b, v.ownBlock = some b → b ≠ g) : (W.setCell ⟨g, m, none⟩ x).ownsRow base t size v n xs := by
  refine ⟨h.1, ?_⟩
  rcases h.2 with h0 | ⟨q, cap, cur, rfl, hB, hq, hn, hm, hs, ht⟩
  · exact .inl h0
  · exact .inr ⟨q, cap, cur, rfl, hB, by rw [heap_setCell_other _ _ _ _ (show q ≠ g from hg q rfl)]; exact hq, hn, hm, hs, ht⟩
theorem OwnD.setF {base g m : Nat} {s c x : Value} {d : Dk} {w : World} (h : OwnD base s c d w) (hg : ∀ v ∈ [s, c], ∀ b, v.ownBlock = some b → b ≠ g) : OwnD base s c d (w.setCell ⟨g, m, none⟩ x) :=
  ⟨own_setF h.secs (hg s (by simp)), own_setF h.cache (hg c (by simp)), h.apart⟩
theorem outAt_early {lo base z : Nat} {s c : Value} {t : ByteArray} {K : Int} {D : Dk} {W : World} {a0 a1 a2 a3 : Value} (hz : W.heap[z]? = some (.cells #[a0, a1, a2, a3] 31 (0, 0))) (ho : OwnD base s c D W) (hlt : z < base) (hlo : lo ≤ z) : OutAt lo z s c t K D (setO W z s c t K) := by
  have hf : ∀ v ∈ [s, c], ∀ b, v.ownBlock = some b → b ≠ z := fun v hv b hb => by
    simp at hv
    rcases hv with rfl | rfl
    · have := (ho.lt.1 b hb).1; omega
    · have := (ho.lt.2 b hb).1; omega
  exact ⟨set4w hz, ((((ho.setF hf).setF hf).setF hf).setF hf).base (by omega), hf, hlo⟩
theorem outAt_late {lo : Nat} {s c : Value} {t : ByteArray} {K : Int} {D : Dk} {W : World} (ho : OwnD lo s c D W) (hlo : lo ≤ W.heap.size) : OutAt lo W.heap.size s c t K D (W.alloc (.cells #[s, c, .string t, .int .i64 K] 31)) := by
  have hf : ∀ v ∈ [s, c], ∀ b, v.ownBlock = some b → b ≠ W.heap.size := fun v hv b hb => by
    simp at hv
    rcases hv with rfl | rfl
    · have := (ho.lt.1 b hb).2; omega
    · have := (ho.lt.2 b hb).2; omega
  exact ⟨heap_alloc_new W _, ho.below ((Below.refl W.heap.size W).alloc (Nat.le_refl _) _), hf, hlo⟩
theorem setO_below {B g : Nat} {W0 W : World} {s c : Value} {t : ByteArray} {K : Int} (h : Below B W0 W) (hg : B ≤ g) : Below B W0 (setO W g s c t K) :=
  (((h.setCell (p := ⟨g, 0, none⟩) hg _).setCell (p := ⟨g, 1, none⟩) hg _).setCell (p := ⟨g, 2, none⟩) hg _).setCell (p := ⟨g, 3, none⟩) hg _
theorem OutAt.lts {lo g : Nat} {s c : Value} {t : ByteArray} {K : Int} {D : Dk} {W : World} (h : OutAt lo g s c t K D W) : ∀ v ∈ [s, c], ∀ b, v.ownBlock = some b → lo ≤ b ∧ b < W.heap.size := fun v hv b hb => by
  simp at hv
  rcases hv with rfl | rfl
  · exact h.own.lt.1 b hb
  · exact h.own.lt.2 b hb
/-- Behind marks of other lists. -/
theorem OutAt.gl {lo g m n : Nat} {s c : Value} {t : ByteArray} {K : Int} {D : Dk} {W W' : World} {l : List Value} (h : OutAt lo g s c t K D W) (k : GL l W W') (hv : ∀ v ∈ l, ∀ b, v.ownBlock = some b → m ≤ b ∧ b < n) (hs : ∀ v ∈ [s, c], ∀ b, v.ownBlock = some b → b < m ∨ n ≤ b) (hg : g < m ∨ n ≤ g) : OutAt lo g s c t K D W' :=
  ⟨k.blk h.box hv hg, k.ownD h.own hv (hs s (by simp)) (hs c (by simp)), h.far, h.low⟩
/-- Behind the marks of its own lists. -/
theorem OutAt.marked {lo g : Nat} {s c : Value} {t : ByteArray} {K : Int} {D D' : Dk} {W W' : World} (h : OutAt lo g s c t K D W) (k : GL [s, c] W W') (ho : OwnD lo s c D' W') : OutAt lo g s c t K D' W' :=
  ⟨(k.block g (blk_lt' h.box) (fun v hv e => h.far v hv g e rfl)).trans h.box, ho, h.far, h.low⟩
end Go.Proofs.Ytaapacpiipcogaa
