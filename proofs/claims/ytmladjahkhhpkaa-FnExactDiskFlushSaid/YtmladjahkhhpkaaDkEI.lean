/-
  A flush by the program under way. Plain facts.
-/
import Derived.Test.YtmladjahkhhpkaaDkFI
namespace Go.Proofs.Ytmladjahkhhpkaa
open Go.RowKit
set_option maxRecDepth 100000

structure EI (w : World) (X : Array Value) (v c : Value) (g : Nat) (dv : Value) (bm gd n : Nat) (D : DataW Unit) (l : List ByteArray) (W : World) : Prop where
  fi : FI w X v c g l W
  drv : W.heap[gd]? = some (.cells #[dv, .map (some bm)] 75 (0, 0))
  map : W.ownsMap Try.prog 2 secR bm n D
  far : ∀ b, v.ownBlock = some b → b < bm ∧ b < gd
section
variable {w W W' : World} {X : Array Value} {v c dv : Value} {g e cap n bm gd m : Nat} {l : List ByteArray} {D : DataW Unit}
theorem EI.keep (h : EI w X v c g dv bm gd n D l W) (hb : Below W.heap.size W W') : EI w X v c g dv bm gd n D l W' :=
  ⟨h.fi.keep hb, (hb.block _ (blk_lt' h.drv)).trans h.drv, ownsMap_below h.map hb, h.far⟩
theorem EI.drew (h : EI w X v c g dv bm gd n D l W) : EI w X v c g dv bm gd n D l W.drew := h.keep (Below.refl _ _).drew
theorem EI.put (h : EI w X (.slice (some ⟨e, 0, none⟩) m cap) c g dv bm gd n D l W) (hn : m = l.length) (k : Nat) (x : ByteArray) (he : w.heap.size + 2 ≤ e) : EI w X (.slice (some ⟨e, 0, none⟩) m cap) c g dv bm gd n D (l.set k x) (W.setCell ⟨e, k, none⟩ (.string x)) := by
  have hf := h.far e rfl
  exact ⟨h.fi.put hn k x he, by rw [heap_far _ _ _ _ _ (by omega)]; exact h.drv, h.map.setCell (by simp; omega) _, h.far⟩
end
def mixL (fl ss : List ByteArray) (k : Nat) : List ByteArray := fl.take k ++ ss.drop k
theorem mixL_len {fl ss : List ByteArray} (h : fl.length = ss.length) {k : Nat} (hk : k ≤ ss.length) : (mixL fl ss k).length = ss.length := by
  simp [mixL, h]; omega
theorem mixL_next {fl ss : List ByteArray} (h : fl.length = ss.length) {k : Nat} (hk : k < ss.length) : mixL fl ss (k + 1) = (mixL fl ss k).set k (fl.getD k ByteArray.empty) := by
  unfold mixL
  rw [List.set_append_right _ _ (by simp; omega)]
  have hlen : (fl.take k).length = k := by simp; omega
  rw [hlen, Nat.sub_self, List.drop_eq_getElem_cons hk, List.set_cons_zero, List.getD_eq_getElem?_getD, List.getElem?_eq_getElem (by omega), Option.getD_some, List.take_succ_eq_append_getElem (by omega), List.append_assoc]
  rfl
theorem mixL_same {fl ss : List ByteArray} (h : fl.length = ss.length) {k : Nat} (hk : k < ss.length) (he : fl.getD k ByteArray.empty = ss.getD k ByteArray.empty) : mixL fl ss (k + 1) = mixL fl ss k := by
  rw [mixL_next h hk, he]
  unfold mixL
  rw [List.set_append_right _ _ (by simp; omega)]
  have hlen : (fl.take k).length = k := by simp; omega
  rw [hlen, Nat.sub_self, List.drop_eq_getElem_cons hk, List.set_cons_zero, List.getD_eq_getElem?_getD, List.getElem?_eq_getElem hk]
  rfl
end Go.Proofs.Ytmladjahkhhpkaa
