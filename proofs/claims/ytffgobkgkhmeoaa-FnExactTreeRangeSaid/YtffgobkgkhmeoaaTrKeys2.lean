/-
  Contracts: l04Keys of a whole tree.
-/
import Derived.Test.YtffgobkgkhmeoaaTrKeys
namespace Go.Proofs.Ytffgobkgkhmeoaa
open Go.RowKit Go.Shelf
set_option maxRecDepth 100000

theorem pk_leaf (f : Tr → List ByteArray) (ks : List ByteArray) : ∀ k, k ≤ ks.length → pk f ks [] k = wpre ks [] k
  | 0, _ => rfl
  | k + 1, h => by
    rw [pk_succ, wpre_succ, pk_leaf f ks k (by omega)]
    rw [show kidP f [] k = [] from if_pos rfl, show keyP ks k = [ks.getD k ByteArray.empty] from if_pos (by omega)]
    simp
theorem pk_kids (f : Tr → List ByteArray) (ks : List ByteArray) (cs : List Tr) (hc : cs.length = ks.length + 1) : ∀ k, k ≤ ks.length → pk f ks cs k = wpre ks (cs.map f) k
  | 0, _ => rfl
  | k + 1, h => by
    rw [pk_succ, wpre_succ, pk_kids f ks cs hc k (by omega), map_getD _ _ _ noTr _ (by omega)]
    rw [show kidP f cs k = f (cs.getD k noTr) from if_neg (by omega), show keyP ks k = [ks.getD k ByteArray.empty] from if_pos (by omega)]
theorem pk_inord {r : Nat} {t : Tr} (h : nodeOk t = true) : pk (inord r) t.keys t.kids (t.keys.length + 1) = inord (r + 1) t := by
  rcases inord_parts (r := r) h with ⟨h0, he⟩ | ⟨h0, he⟩
  · have hn := List.eq_nil_of_length_eq_zero h0
    rw [he, pk_succ, hn, pk_leaf _ _ _ (Nat.le_refl _)]
    unfold kidP keyP
    simp
  · rw [he, pk_succ, pk_kids _ _ _ h0 _ (Nat.le_refl _)]
    unfold kidP keyP
    rw [if_neg (by omega), if_neg (by omega), List.append_nil]
theorem pk_none (f : Tr → List ByteArray) : pk f [] [] 1 = [] := rfl
theorem keys_all (base : Nat) (low high : ByteArray) : ∀ (r : Nat) (A B n : Nat) (ko : Option Addr) (kc : Nat) (vo : Option Addr) (vc : Nat) (xo : Option Addr) (xc : Nat) (t : Tr) (v : Value) (l : List ByteArray) (w : World), B ≤ base → base ≤ w.heap.size → TrRow w A B n t ko vo xo → (lev r t).isSome = true → l.length + (inord r t).length ≤ 100000000 → OwnS base v l w →
    Calls Try.prog 32 #[v, .agg #[.slice ko t.keys.length kc, .slice vo t.vals.length vc, .slice xo t.kids.length xc], .string low, .string high] w (KeysPost base (l ++ inR low high (inord r t)) w v)
  | 0, A, B, n, ko, kc, vo, vc, xo, xc, t, v, l, w, hB, hb, hr, hl, hm, ho => by simp [lev] at hl
  | r + 1, A, B, n, ko, kc, vo, vc, xo, xc, t, v, l, w, hB, hb, hr, hl, hm, ho => by
    obtain ⟨hok, hk⟩ := lev_node hl
    rw [← pk_inord hok] at hm ⊢
    have h1 : t.keys.length ≤ 3 ∧ (t.kids.length = 0 ∨ t.kids.length = t.keys.length + 1) := by
      have := hok
      unfold nodeOk at this
      simp only [Bool.and_eq_true, decide_eq_true_eq, Bool.or_eq_true] at this
      omega
    obtain ⟨ks, vs, cs⟩ := t
    cases n with
    | zero => exact hr.elim
    | succ n => exact l04Keys_node A B base n ko kc vo vc xo xc ks vs cs (inord r) low high v l w hB hb hr h1.1 h1.2 hm ho (fun i ko kc vo vc xo xc v l W hi hW hrW hlW hoW => keys_all base low high r A B n ko kc vo vc xo xc _ v l W hB hW hrW (hk i hi) hlW hoW)
theorem keys_right (base A B n : Nat) (ko : Option Addr) (kc : Nat) (vo : Option Addr) (vc : Nat) (xo : Option Addr) (xc : Nat) (t : Tr) (low high : ByteArray) (v : Value) (w : World) (hB : B ≤ base) (hb : base ≤ w.heap.size) (hr : TrRow w A B n t ko vo xo) (hl : (trLev t).isSome = true) (ho : OwnS base v [] w) :
    Calls Try.prog 32 #[v, .agg #[.slice ko t.keys.length kc, .slice vo t.vals.length vc, .slice xo t.kids.length xc], .string low, .string high] w (KeysPost base (inR low high (allOf t)) w v) := by
  by_cases hk : t.keys.length = 0
  · have hc := kids_of_none hl hk
    rw [show allOf t = [] from if_pos hk]
    obtain ⟨ks, vs, cs⟩ := t
    change ks.length = 0 at hk
    change cs.length = 0 at hc
    obtain rfl := List.eq_nil_of_length_eq_zero hk
    obtain rfl := List.eq_nil_of_length_eq_zero hc
    cases n with
    | zero => exact hr.elim
    | succ n => exact l04Keys_node A B base n ko kc vo vc xo xc [] vs [] (fun _ => []) low high v [] w hB hb hr (by simp) (.inl rfl) (by rw [show ([] : List ByteArray).length + 1 = 1 from rfl, pk_none]; simp) ho (fun i _ _ _ _ _ _ _ _ _ hi => by simp at hi)
  · rw [show allOf t = inord 12 t from if_neg hk]
    have h12 := lev_of_right hl hk
    have h2 := inord_le 12 t h12
    have h3 : 4 ^ 12 = 16777216 := rfl
    exact keys_all base low high 12 A B n ko kc vo vc xo xc t v [] w hB hb hr h12 (by simp only [List.length_nil]; omega) ho
end Go.Proofs.Ytffgobkgkhmeoaa
