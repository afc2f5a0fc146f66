/-
  Contracts and plain laws, part 5 of 6: RdS, RdS2, RdS3, SOwn3, RdS4, RdE, RdE2, SCols, SMap
-/
import Derived.Test.YtjihkdbloffbmaaRows
import Derived.WalkKit
import Derived.WalkLawsBesides
import Derived.Deep.RegionHeld3
import Derived.Maps.OwnOps
import Derived.Maps.OwnSet
import Derived.Maps.Views
import Derived.Test.YtjihkdbloffbmaaPd

/-
  Contracts: the specification's reader: its number and its text.
-/
namespace Go.Proofs.Ytjihkdbloffbmaa
open Go.RowKit
set_option maxRecDepth 100000

theorem setc1 {W : World} {g : Nat} {x a b z : Value} {t : TypeId} (h : W.heap[g]? = some (.cells #[x, a, b] t (0, 0))) :
    (W.setCell ⟨g, 1, none⟩ z).heap[g]? = some (.cells #[x, z, b] t (0, 0)) := by
  have h2 := heap_setCell_same W g 1 _ t z h
  simpa using h2
theorem far3_at {W : World} {g R : Nat} {x y z : Value} {o : Obj} (h : W.heap[g]? = some o) (hne : g ≠ R) : (((W.setCell ⟨R, 0, none⟩ x).setCell ⟨R, 1, none⟩ y).setCell ⟨R, 2, none⟩ z).heap[g]? = some o := by
  rw [heap_far _ _ _ _ _ hne, heap_far _ _ _ _ _ hne, heap_far _ _ _ _ _ hne]; exact h
theorem far3_set1 {W : World} {g R : Nat} {x y z q a b v : Value} {t : TypeId} (h : W.heap[g]? = some (.cells #[q, a, b] t (0, 0))) (hne : g ≠ R) :
    ((((W.setCell ⟨R, 0, none⟩ x).setCell ⟨R, 1, none⟩ y).setCell ⟨R, 2, none⟩ z).setCell ⟨g, 1, none⟩ v).heap[g]? = some (.cells #[q, v, b] t (0, 0)) := setc1 (far3_at h hne)
theorem far3_set2 {W : World} {g R : Nat} {x y z q a b v : Value} {t : TypeId} (h : W.heap[g]? = some (.cells #[q, a, b] t (0, 0))) (hne : g ≠ R) :
    ((((W.setCell ⟨R, 0, none⟩ x).setCell ⟨R, 1, none⟩ y).setCell ⟨R, 2, none⟩ z).setCell ⟨g, 2, none⟩ v).heap[g]? = some (.cells #[q, a, v] t (0, 0)) := setc2 (far3_at h hne)
theorem new_set1 {W : World} {g : Nat} {q a b v : Value} {t : TypeId} {o : Obj} (h : W.heap[g]? = some (.cells #[q, a, b] t (0, 0))) : ((W.setCell ⟨g, 1, none⟩ v).alloc o).heap[g]? = some (.cells #[q, v, b] t (0, 0)) :=
  (heap_old _ _ _ (Array.getElem?_eq_some_iff.1 (setc1 h)).1).trans (setc1 h)
theorem new_set2 {W : World} {g : Nat} {q a b v : Value} {t : TypeId} {o : Obj} (h : W.heap[g]? = some (.cells #[q, a, b] t (0, 0))) : ((W.setCell ⟨g, 2, none⟩ v).alloc o).heap[g]? = some (.cells #[q, a, v] t (0, 0)) :=
  (heap_old _ _ _ (Array.getElem?_eq_some_iff.1 (setc2 h)).1).trans (setc2 h)
set_option maxHeartbeats 1000000 in
theorem spNum_gen (g : Nat) (s : ByteArray) (a y c : Int) (x : Int) (b : Bool) (w : World) (h : w.heap[g]? = some (.cells #[.string s, .int .i64 a, .bool b] 96 (0, 0))) (ha : a ≤ 20000) (hx : getNumV s a = nOut x y c) :
    Calls Try.prog 100 #[.pointer (some ⟨g, 0, none⟩)] w fun e w' => (if b = true ∨ ¬ c = 0 then e = .returned (.int .i64 0) ∧ w'.heap[g]? = some (.cells #[.string s, .int .i64 a, .bool true] 96 (0, 0)) else e = .returned (.int .i64 x) ∧ w'.heap[g]? = some (.cells #[.string s, .int .i64 y, .bool false] 96 (0, 0))) ∧ w.grownBy w' (some g) := by
  have HN : Hid (∀ w, Calls Try.prog 130 #[.string s, .int .i64 a] w fun e w' => e = .returned (.agg #[.int .i64 x, .int .i64 y, .int .i64 c]) ∧ Below w.heap.size w w') := fun w => by have := specGetNum_any s a (by omega) w; rw [hx] at this; exact this
  have hgl := (Array.getElem?_eq_some_iff.1 h).1
  obtain ⟨c0, c1, c2, cf⟩ := cells3 h
  have HG0 : Hid ((w.alloc (.cells #[.int .i64 0, .int .i64 0, .int .i64 0] 163)).drew.heap[g]? = some (.cells #[.string s, .int .i64 a, .bool b] 96 (0, 0))) := (heap_old _ _ _ hgl).trans h
  have HK0 : Hid ((w.alloc (.cells #[.int .i64 0, .int .i64 0, .int .i64 0] 163)).drew.heap[w.heap.size]? = some (.cells #[.int .i64 0, .int .i64 0, .int .i64 0] 163 (0, 0))) := heap_alloc_new _ _
  have HZ0 : Hid ((w.alloc (.cells #[.int .i64 0, .int .i64 0, .int .i64 0] 163)).drew.heap.size = w.heap.size + 1) := by show _ = _; simp
  have HR0 : Hid (w.grownBy (w.alloc (.cells #[.int .i64 0, .int .i64 0, .int .i64 0] 163)).drew (some g)) := grown_below (grown_refl w (some g)) (((Below.refl w.heap.size w).alloc (Nat.le_refl _) _).drew)
  have HL0 : Hid (g < (w.alloc (.cells #[.int .i64 0, .int .i64 0, .int .i64 0] 163)).drew.heap.size) := by show _ < _; rw [HZ0.out]; omega
  have HM0 : Hid (w.heap.size < (w.alloc (.cells #[.int .i64 0, .int .i64 0, .int .i64 0] 163)).drew.heap.size) := by show _ < _; rw [HZ0.out]; omega
  have hne : g ≠ w.heap.size := by omega
  have hne' : w.heap.size ≠ g := by omega
  have HGD : Hid (w.drew.heap[g]? = some (.cells #[.string s, .int .i64 a, .bool b] 96 (0, 0))) := h
  have HLD : Hid (g < w.drew.heap.size) := hgl
  have HRD : Hid (w.grownBy w.drew (some g)) := grown_drew
  clear h hx ha
  go_enter Try.func100, Try.ntmps100
  go_wp2
  go_region_held3 (fun W => W.cell? ⟨g, 0, none⟩ = some (.string s) ∧ W.cell? ⟨g, 1, none⟩ = some (.int .i64 a)) (go_keep) (first
    | (go_at_call 130; refine (HN.out _).mono ?_; rintro e w1 ⟨rfl, hb1⟩; have G1 := hide (grown_below HR0.out hb1); have P1 := hide ((hb1.block g HL0.out).trans HG0.out); have Q1 := hide ((hb1.block w.heap.size HM0.out).trans HK0.out); obtain ⟨d0, d1, d2, df⟩ := cells3 P1.out; obtain ⟨q0, q1, q2, qf⟩ := cells3 Q1.out; clear hb1)
    | (go_at_call 130; refine (HN.out _).mono ?_; rintro e w1 ⟨rfl, hb1⟩; have G1 := hide (grown_below HRD.out hb1); have P1 := hide ((hb1.block g HLD.out).trans HGD.out); have hg1 := (Array.getElem?_eq_some_iff.1 P1.out).1; have hne1 := Nat.ne_of_lt hg1; have P2 := hide ((heap_old w1 (.cells #[.int .i64 0, .int .i64 0, .int .i64 0] 163) g hg1).trans P1.out); have Q2 := hide (heap_alloc_new w1 (.cells #[.int .i64 0, .int .i64 0, .int .i64 0] 163)); obtain ⟨p0, p1, p2, pf⟩ := cells3 P1.out; obtain ⟨d0, d1, d2, df⟩ := cells3 P2.out; obtain ⟨q0, q1, q2, qf⟩ := cells3 Q2.out; clear hb1))
  · cases b
    · by_cases hc : c = 0
      · subst hc
        go_wp2
        go_ret
        refine ⟨⟨rfl, ?_⟩, ?_⟩
        · exact new_set1 P1.out
        · exact grown_alloc' (grown_setG G1.out) _
      · have hcb : (c == 0) = false := by simp [hc]
        go_wp2
        go_ret
        refine ⟨⟨rfl, ?_⟩, ?_⟩
        · exact new_set2 P1.out
        · exact grown_alloc' (grown_setG G1.out) _
    · go_wp2
      go_ret
      refine ⟨⟨rfl, ?_⟩, ?_⟩
      · exact new_set2 P1.out
      · exact grown_alloc' (grown_setG G1.out) _
  · cases b
    · by_cases hc : c = 0
      · subst hc
        go_wp2
        go_ret
        refine ⟨⟨rfl, ?_⟩, ?_⟩
        · exact far3_set1 P1.out hne
        · exact grown_setG (grown_new (grown_new (grown_new G1.out (Nat.le_refl _) _ _) (Nat.le_refl _) _ _) (Nat.le_refl _) _ _)
      · have hcb : (c == 0) = false := by simp [hc]
        go_wp2
        go_ret
        refine ⟨⟨rfl, ?_⟩, ?_⟩
        · exact far3_set2 P1.out hne
        · exact grown_setG (grown_new (grown_new (grown_new G1.out (Nat.le_refl _) _ _) (Nat.le_refl _) _ _) (Nat.le_refl _) _ _)
    · go_wp2
      go_ret
      refine ⟨⟨rfl, ?_⟩, ?_⟩
      · exact far3_set2 P1.out hne
      · exact grown_setG (grown_new (grown_new (grown_new G1.out (Nat.le_refl _) _ _) (Nat.le_refl _) _ _) (Nat.le_refl _) _ _)
set_option maxHeartbeats 1000000 in
theorem spText_gen (g : Nat) (s : ByteArray) (a y c : Int) (x : ByteArray) (b : Bool) (w : World) (h : w.heap[g]? = some (.cells #[.string s, .int .i64 a, .bool b] 96 (0, 0))) (ha : a ≤ 20000) (hx : getTextV s a = tOut x y c) :
    Calls Try.prog 98 #[.pointer (some ⟨g, 0, none⟩)] w fun e w' => (if b = true ∨ ¬ c = 0 then e = .returned (.string ⟨#[]⟩) ∧ w'.heap[g]? = some (.cells #[.string s, .int .i64 a, .bool true] 96 (0, 0)) else e = .returned (.string x) ∧ w'.heap[g]? = some (.cells #[.string s, .int .i64 y, .bool false] 96 (0, 0))) ∧ w.grownBy w' (some g) := by
  have HN : Hid (∀ w, Calls Try.prog 129 #[.string s, .int .i64 a] w fun e w' => e = .returned (.agg #[.string x, .int .i64 y, .int .i64 c]) ∧ Below w.heap.size w w') := fun w => by have := specGetText_any s a (by omega) w; rw [hx] at this; exact this
  have hgl := (Array.getElem?_eq_some_iff.1 h).1
  obtain ⟨c0, c1, c2, cf⟩ := cells3 h
  have HG0 : Hid ((w.alloc (.cells #[.string ⟨#[]⟩, .int .i64 0, .int .i64 0] 160)).drew.heap[g]? = some (.cells #[.string s, .int .i64 a, .bool b] 96 (0, 0))) := (heap_old _ _ _ hgl).trans h
  have HK0 : Hid ((w.alloc (.cells #[.string ⟨#[]⟩, .int .i64 0, .int .i64 0] 160)).drew.heap[w.heap.size]? = some (.cells #[.string ⟨#[]⟩, .int .i64 0, .int .i64 0] 160 (0, 0))) := heap_alloc_new _ _
  have HZ0 : Hid ((w.alloc (.cells #[.string ⟨#[]⟩, .int .i64 0, .int .i64 0] 160)).drew.heap.size = w.heap.size + 1) := by show _ = _; simp
  have HR0 : Hid (w.grownBy (w.alloc (.cells #[.string ⟨#[]⟩, .int .i64 0, .int .i64 0] 160)).drew (some g)) := grown_below (grown_refl w (some g)) (((Below.refl w.heap.size w).alloc (Nat.le_refl _) _).drew)
  have HL0 : Hid (g < (w.alloc (.cells #[.string ⟨#[]⟩, .int .i64 0, .int .i64 0] 160)).drew.heap.size) := by show _ < _; rw [HZ0.out]; omega
  have HM0 : Hid (w.heap.size < (w.alloc (.cells #[.string ⟨#[]⟩, .int .i64 0, .int .i64 0] 160)).drew.heap.size) := by show _ < _; rw [HZ0.out]; omega
  have hne : g ≠ w.heap.size := by omega
  have hne' : w.heap.size ≠ g := by omega
  have HGD : Hid (w.drew.heap[g]? = some (.cells #[.string s, .int .i64 a, .bool b] 96 (0, 0))) := h
  have HLD : Hid (g < w.drew.heap.size) := hgl
  have HRD : Hid (w.grownBy w.drew (some g)) := grown_drew
  clear h hx ha
  go_enter Try.func98, Try.ntmps98
  go_wp2
  go_region_held3 (fun W => W.cell? ⟨g, 0, none⟩ = some (.string s) ∧ W.cell? ⟨g, 1, none⟩ = some (.int .i64 a)) (go_keep) (first
    | (go_at_call 129; refine (HN.out _).mono ?_; rintro e w1 ⟨rfl, hb1⟩; have G1 := hide (grown_below HR0.out hb1); have P1 := hide ((hb1.block g HL0.out).trans HG0.out); have Q1 := hide ((hb1.block w.heap.size HM0.out).trans HK0.out); obtain ⟨d0, d1, d2, df⟩ := cells3 P1.out; obtain ⟨q0, q1, q2, qf⟩ := cells3 Q1.out; clear hb1)
    | (go_at_call 129; refine (HN.out _).mono ?_; rintro e w1 ⟨rfl, hb1⟩; have G1 := hide (grown_below HRD.out hb1); have P1 := hide ((hb1.block g HLD.out).trans HGD.out); have hg1 := (Array.getElem?_eq_some_iff.1 P1.out).1; have hne1 := Nat.ne_of_lt hg1; have P2 := hide ((heap_old w1 (.cells #[.string ⟨#[]⟩, .int .i64 0, .int .i64 0] 160) g hg1).trans P1.out); have Q2 := hide (heap_alloc_new w1 (.cells #[.string ⟨#[]⟩, .int .i64 0, .int .i64 0] 160)); obtain ⟨p0, p1, p2, pf⟩ := cells3 P1.out; obtain ⟨d0, d1, d2, df⟩ := cells3 P2.out; obtain ⟨q0, q1, q2, qf⟩ := cells3 Q2.out; clear hb1))
  · cases b
    · by_cases hc : c = 0
      · subst hc
        go_wp2
        go_ret
        refine ⟨⟨rfl, ?_⟩, ?_⟩
        · exact new_set1 P1.out
        · exact grown_alloc' (grown_setG G1.out) _
      · have hcb : (c == 0) = false := by simp [hc]
        go_wp2
        go_ret
        refine ⟨⟨rfl, ?_⟩, ?_⟩
        · exact new_set2 P1.out
        · exact grown_alloc' (grown_setG G1.out) _
    · go_wp2
      go_ret
      refine ⟨⟨rfl, ?_⟩, ?_⟩
      · exact new_set2 P1.out
      · exact grown_alloc' (grown_setG G1.out) _
  · cases b
    · by_cases hc : c = 0
      · subst hc
        go_wp2
        go_ret
        refine ⟨⟨rfl, ?_⟩, ?_⟩
        · exact far3_set1 P1.out hne
        · exact grown_setG (grown_new (grown_new (grown_new G1.out (Nat.le_refl _) _ _) (Nat.le_refl _) _ _) (Nat.le_refl _) _ _)
      · have hcb : (c == 0) = false := by simp [hc]
        go_wp2
        go_ret
        refine ⟨⟨rfl, ?_⟩, ?_⟩
        · exact far3_set2 P1.out hne
        · exact grown_setG (grown_new (grown_new (grown_new G1.out (Nat.le_refl _) _ _) (Nat.le_refl _) _ _) (Nat.le_refl _) _ _)
    · go_wp2
      go_ret
      refine ⟨⟨rfl, ?_⟩, ?_⟩
      · exact far3_set2 P1.out hne
      · exact grown_setG (grown_new (grown_new (grown_new G1.out (Nat.le_refl _) _ _) (Nat.le_refl _) _ _) (Nat.le_refl _) _ _)
end Go.Proofs.Ytjihkdbloffbmaa

/-
  Contracts: the specification's reader, over the plain model.
-/
namespace Go.Proofs.Ytjihkdbloffbmaa
open Go.RowKit
set_option maxRecDepth 100000

/-- The specification's reader in block g, at a state. -/
def SpAt (g : Nat) (s : ByteArray) (st : St) (w : World) : Prop :=
  s.size ≤ 20000 ∧ ∃ (a : Int) (b : Bool), w.heap[g]? = some (.cells #[.string s, .int .i64 a, .bool b] 96 (0, 0)) ∧ a ≤ 20000 ∧ ((∃ p : Nat, st = some p ∧ a = (p : Int) ∧ b = false ∧ p ≤ s.size) ∨ (st = none ∧ b = true))
theorem SpAt.kept {g : Nat} {s : ByteArray} {st : St} {w w' : World} {r : Option Nat} (h : SpAt g s st w) (hg : w.grownBy w' r) (hr : r ≠ some g) : SpAt g s st w' := by
  obtain ⟨h1, a, e, h2, h3⟩ := h
  exact ⟨h1, a, e, (hg.block g (Array.getElem?_eq_some_iff.1 h2).1 (fun e => hr e.symm)).trans h2, h3⟩
theorem SpAt.below {g B : Nat} {s : ByteArray} {st : St} {w w' : World} (h : SpAt g s st w) (hb : Below B w w') (hg : g < B) : SpAt g s st w' := by
  obtain ⟨h1, a, e, h2, h3⟩ := h
  exact ⟨h1, a, e, (hb.block g hg).trans h2, h3⟩
theorem SpAt.lt {g : Nat} {s : ByteArray} {st : St} {w : World} (h : SpAt g s st w) : g < w.heap.size := by
  obtain ⟨h1, a, e, h2, h3⟩ := h
  exact (Array.getElem?_eq_some_iff.1 h2).1
theorem SpAt.other {g R : Nat} {s : ByteArray} {st : St} {w : World} (h : SpAt g s st w) (hne : g ≠ R) (m : Nat) (x : Value) : SpAt g s st (w.setCell ⟨R, m, none⟩ x) := by
  obtain ⟨h1, a, e, h2, h3⟩ := h
  exact ⟨h1, a, e, (heap_setCell_other w ⟨R, m, none⟩ g x hne).trans h2, h3⟩
theorem getNum3_nat (s : ByteArray) (p : Nat) (hs : s.size ≤ 20000) : getNum3 s (p : Int) = ((rdAt s.data.toList p).1, behind p (rdAt s.data.toList p), (rdAt s.data.toList p).2.2) := by
  unfold getNum3
  rw [if_neg (by omega), if_neg (by omega), Int.toNat_natCast]
theorem rNum_none (s : ByteArray) (st : St) (h : (rNum s st).2 = none) : (rNum s st).1 = 0 := by
  cases st with
  | none => rfl
  | some p =>
    unfold rNum at h ⊢
    simp only at h ⊢
    split at h
    · simp at h
    · rename_i h1; rw [if_neg h1]
theorem spNum_any (g : Nat) (s : ByteArray) (st : St) (w : World) (h : SpAt g s st w) :
    Calls Try.prog 100 #[.pointer (some ⟨g, 0, none⟩)] w fun e w' => e = .returned (.int .i64 (rNum s st).1) ∧ SpAt g s (rNum s st).2 w' ∧ w.grownBy w' (some g) := by
  obtain ⟨hs, a, b, hg, ha, hst⟩ := h
  rcases hst with ⟨p, rfl, rfl, rfl, hp⟩ | ⟨rfl, rfl⟩
  · have hv : getNumV s (p : Int) = nOut (rdAt s.data.toList p).1 (behind p (rdAt s.data.toList p)) ((rdAt s.data.toList p).2.2 : Nat) := by unfold getNumV; rw [getNum3_nat s p hs]
    refine (spNum_gen g s p _ _ _ false w hg ha hv).mono ?_
    rintro e w' ⟨h1, h2⟩
    have hpl := rNum_place s (some p)
    unfold rNum at hpl ⊢
    simp only at hpl ⊢
    by_cases h0 : (rdAt s.data.toList p).2.2 = 0
    · rw [if_neg (by rw [h0]; simp)] at h1
      rw [if_pos h0] at hpl ⊢
      have hb : behind p (rdAt s.data.toList p) = ((p + (rdAt s.data.toList p).2.1 : Nat) : Int) := by unfold behind; rw [if_pos h0]
      rw [hb] at h1
      have := hpl _ rfl
      exact ⟨h1.1, ⟨hs, _, _, h1.2, by omega, .inl ⟨_, rfl, rfl, rfl, this⟩⟩, h2⟩
    · rw [if_pos (.inr (by omega))] at h1
      rw [if_neg h0]
      exact ⟨h1.1, ⟨hs, _, _, h1.2, ha, .inr ⟨rfl, rfl⟩⟩, h2⟩
  · refine (spNum_gen g s a _ _ _ true w hg ha rfl).mono ?_
    rintro e w' ⟨h1, h2⟩
    rw [if_pos (.inl rfl)] at h1
    exact ⟨h1.1, ⟨hs, _, _, h1.2, ha, .inr ⟨rfl, rfl⟩⟩, h2⟩
theorem spText_any (g : Nat) (s : ByteArray) (st : St) (w : World) (h : SpAt g s st w) :
    Calls Try.prog 98 #[.pointer (some ⟨g, 0, none⟩)] w fun e w' => e = .returned (.string (rTxt s st).1) ∧ SpAt g s (rTxt s st).2 w' ∧ w.grownBy w' (some g) := by
  obtain ⟨hs, a, b, hg, ha, hst⟩ := h
  rcases hst with ⟨p, rfl, rfl, rfl, hp⟩ | ⟨rfl, rfl⟩
  · have hv : getTextV s (p : Int) = tOut (txtAt s p).1 (txtAt s p).2.1 ((txtAt s p).2.2 : Nat) := by unfold getTextV getText3; rw [getNum3_nat s p hs]; rfl
    refine (spText_gen g s p _ _ _ false w hg ha hv).mono ?_
    rintro e w' ⟨h1, h2⟩
    have hpl := txt_place s p
    unfold rTxt
    simp only
    by_cases h0 : (txtAt s p).2.2 = 0
    · rw [if_neg (by rw [h0]; simp)] at h1
      rw [if_pos h0]
      have := hpl h0
      exact ⟨h1.1, ⟨hs, _, _, h1.2, by omega, .inl ⟨_, rfl, by omega, rfl, by omega⟩⟩, h2⟩
    · rw [if_pos (.inr (by omega))] at h1
      rw [if_neg h0]
      exact ⟨h1.1, ⟨hs, _, _, h1.2, ha, .inr ⟨rfl, rfl⟩⟩, h2⟩
  · refine (spText_gen g s a _ _ _ true w hg ha rfl).mono ?_
    rintro e w' ⟨h1, h2⟩
    rw [if_pos (.inl rfl)] at h1
    exact ⟨h1.1, ⟨hs, _, _, h1.2, ha, .inr ⟨rfl, rfl⟩⟩, h2⟩
set_option maxHeartbeats 1000000 in
theorem spMany_any (g : Nat) (s : ByteArray) (most : Int) (st : St) (w : World) (h : SpAt g s st w) :
    Calls Try.prog 99 #[.pointer (some ⟨g, 0, none⟩), .int .i64 most] w fun e w' => e = .returned (.int .i64 (rMany s most st).1) ∧ SpAt g s (rMany s most st).2 w' ∧ w.grownBy w' (some g) := by
  have HN := hide (spNum_any g s st w h)
  have HM : Hid (rMany s most st = if (rNum s st).1 < 0 ∨ most < (rNum s st).1 then (0, none) else rNum s st) := rfl
  have H0 := hide (rNum_none s st)
  generalize hr : rNum s st = r at *
  clear hr
  obtain ⟨n, st1⟩ := r
  simp only at HN HM H0
  clear h
  by_cases h1 : n < 0 ∨ most < n
  · have HR : Hid (rMany s most st = (0, none)) := by show _ = _; rw [HM.out, if_pos h1]
    clear HM H0
    go_enter Try.func99, Try.ntmps99
    go_wp2_with fail
    refine HN.out.mono ?_
    rintro e w1 ⟨rfl, ⟨hs, a, b, hg, ha, hst⟩, gr1⟩
    obtain ⟨c0, c1, c2, cf⟩ := cells3 hg
    have HG := hide hg
    clear hg hst HN
    have h1' : n < 0 ∨ (¬ (n < 0) ∧ most < n) := by omega
    clear h1
    rcases h1' with h1 | ⟨hn, h1⟩
    all_goals
      go_wp2
      go_ret
      exact ⟨by rw [HR.out]; rfl, by rw [HR.out]; exact ⟨hs, _, _, setc2 HG.out, ha, .inr ⟨rfl, rfl⟩⟩, grown_setG gr1⟩
  · have HR : Hid (rMany s most st = (n, st1)) := by show _ = _; rw [HM.out, if_neg h1]
    have h2 : ¬ (n < 0) := by omega
    have h3 : ¬ (most < n) := by omega
    clear HM h1
    go_enter Try.func99, Try.ntmps99
    go_wp2_with fail
    refine HN.out.mono ?_
    rintro e w1 ⟨rfl, hc1, gr1⟩
    have HC1 := hide hc1
    obtain ⟨hs, a, b, hg, ha, hst⟩ := hc1
    obtain ⟨c0, c1, c2, cf⟩ := cells3 hg
    clear hg HN
    rcases hst with ⟨p, rfl, rfl, rfl, hp⟩ | ⟨rfl, rfl⟩
    · go_wp2
      go_ret
      exact ⟨by rw [HR.out]; rfl, by rw [HR.out]; exact HC1.out, gr1⟩
    · obtain rfl : n = 0 := H0.out rfl
      go_wp2
      go_ret
      exact ⟨by rw [HR.out]; rfl, by rw [HR.out]; exact HC1.out, gr1⟩
theorem spTruth_any (g : Nat) (s : ByteArray) (st : St) (w : World) (h : SpAt g s st w) :
    Calls Try.prog 101 #[.pointer (some ⟨g, 0, none⟩)] w fun e w' => e = .returned (.bool (rFlag s st).1) ∧ SpAt g s (rFlag s st).2 w' ∧ w.grownBy w' (some g) := by
  have HN := hide (spMany_any g s 1 st w h)
  have HR : Hid (rFlag s st = (decide ((rMany s 1 st).1 = 1), (rMany s 1 st).2)) := rfl
  generalize rMany s 1 st = r at *
  obtain ⟨n, st1⟩ := r
  simp only at HN HR
  clear h
  go_enter Try.func101, Try.ntmps101
  go_wp2_with fail
  refine HN.out.mono ?_
  rintro e w1 ⟨rfl, hc1, gr1⟩
  have HC1 := hide hc1
  clear hc1
  by_cases h1 : n = 1
  · subst h1
    go_wp2
    go_ret
    exact ⟨by rw [HR.out]; rfl, by rw [HR.out]; exact HC1.out, gr1⟩
  · have h2 : (n == 1) = false := by simp [h1]
    have HD := hide (decide_eq_false h1)
    clear h1
    go_wp2
    go_ret
    exact ⟨by rw [HR.out, HD.out]; rfl, by rw [HR.out]; exact HC1.out, gr1⟩
end Go.Proofs.Ytjihkdbloffbmaa

/-
  Contracts: the specification's reader: its numbers.
-/
namespace Go.Proofs.Ytjihkdbloffbmaa
open Go.RowKit
set_option maxRecDepth 100000

theorem ownN_new (w : World) : OwnN w.heap.size (.slice (some ⟨w.heap.size, 0, none⟩) 0 0) [] (w.alloc (.cells #[] 2)) :=
  ⟨rfl, .inr ⟨w.heap.size, 0, #[], rfl, Nat.le_refl _, heap_alloc_new _ _, Nat.le_refl _, Nat.zero_le _, rfl, rfl⟩⟩
set_option maxHeartbeats 2000000 in
theorem spNums_any (g : Nat) (s : ByteArray) (st : St) (w : World) (h : SpAt g s st w) :
    Calls Try.prog 102 #[.pointer (some ⟨g, 0, none⟩)] w fun e w' => ∃ v, e = .returned v ∧ OwnN w.heap.size v (rNums s st).1 w' ∧ SpAt g s (rNums s st).2 w' ∧ w.grownBy w' (some g) := by
  obtain ⟨i0, hi, hz0, hz1, hz2⟩ := info_parts Try.infoI64
  have hgl := h.lt
  have HM := hide (spMany_any g s 10 st (w.alloc (.cells #[] 2)) (h.below ((Below.refl w.heap.size w).alloc (Nat.le_refl _) _) hgl))
  have HO0 := hide (ownN_new w)
  have HG0 := hide (grown_alloc' (grown_refl w (some g)) (.cells #[] 2))
  have hmn := rMany_in s 10 st (by omega)
  have HR : Hid (rNums s st = rRep (rNum s) (rMany s 10 st).1.toNat (rMany s 10 st).2) := rfl
  generalize rMany s 10 st = r at *
  obtain ⟨n, st1⟩ := r
  simp only at HM HR hmn
  obtain ⟨m, rfl⟩ : ∃ m : Nat, n = (m : Int) := ⟨n.toNat, by omega⟩
  rw [Int.toNat_natCast] at HR
  clear h
  go_enter Try.func102, Try.ntmps102
  go_wp2_with fail
  refine HM.out.mono ?_
  rintro e w1 ⟨rfl, hc1, gr0⟩
  have HC1 := hide hc1
  have gr1 := HG0.out.trans gr0
  have HO1 := hide (own_far HO0.out gr0 hgl)
  clear hc1 HM gr0 HO0 HG0
  go_wp2
  go_loopw [3, 4] (fun u i wr => ∃ k j : Nat, k + j = m ∧ i = .int .i64 j ∧ Hid (OwnN w.heap.size u (rRep (rNum s) k st1).1 wr) ∧ Hid (SpAt g s (rRep (rNum s) k st1).2 wr) ∧ w.grownBy wr (some g)) (fun _ i _ => (intOf i).toNat)
  case atStart => exact ⟨0, m, by omega, rfl, HO1, HC1, gr1⟩
  case round =>
    clear HC1 gr1 HO1
    obtain ⟨k, j, hk, rfl, HO, HC, gr⟩ := hrel
    by_cases hlt : 0 < j
    · have hjp : (0 : Int) < (j : Int) := by omega
      have HN := hide (spNum_any g s _ _ HC.out)
      have hpl := rRep_len (rNum s) st1 k
      have HS : Hid ((rRep (rNum s) (k + 1) st1).1 = (rRep (rNum s) k st1).1 ++ [(rNum s (rRep (rNum s) k st1).2).1] ∧ (rRep (rNum s) (k + 1) st1).2 = (rNum s (rRep (rNum s) k st1).2).2) := ⟨rfl, rfl⟩
      obtain ⟨ao, cap, hu⟩ := ownN_shape HO.out
      rw [hpl] at hu
      rw [hu] at HO ⊢
      have HO2 : Hid (wr.ownsRow w.heap.size 2 1 (.slice ao k cap) k (numsV (rRep (rNum s) k st1).1)) := by have := HO.out; unfold OwnN at this; rw [hpl] at this; exact this
      have hz := gr.size
      generalize rRep (rNum s) k st1 = pr at *
      obtain ⟨pl, stk⟩ := pr
      simp only at *
      generalize rNum s stk = y at *
      obtain ⟨x, stx⟩ := y
      simp only at *
      clear hu HO HC
      have HPL := hide hpl
      clear hpl
      go_wp2_with fail
      refine HN.out.mono ?_
      rintro e w2 ⟨rfl, hc2, gr2⟩
      have HC2 := hide hc2
      have hown : w2.ownsRow w.heap.size 2 1 (.slice ao k cap) k (numsV pl) := own_far HO2.out gr2 hgl
      have gr02 := gr.trans gr2
      have hz2 := gr02.size
      clear hc2 gr2 gr HN HO2
      go_wp2_with (at_builtin; refine wpList_append_own _ rfl _ _ 24 rfl w.heap.size 2 i0 (.int .i64 0) 1 8 Try.underlying24 hi hz0 hz1 (by assumption) rfl (by decide) _ _ _ rfl (hown.alloc _) ⟨w2.heap.size, 0, none⟩ 1 1 [.int .i64 x] rfl rfl (cell_one_new _ _ _) (ints_oneCell .i64 [x]) (by unfold maxLen; omega) (by omega) (by simp; omega) ?_; intro v5 w5 hown5 hgrow5 _)
      have g5 : w.grownBy w5 (some g) := grown_some (grown_alloc' gr02 _) hgrow5 (Nat.le_refl _) (fun k hk => (World.ownsRow.lt hown k hk).1)
      have HO5 : Hid (OwnN w.heap.size v5 (rRep (rNum s) (k + 1) st1).1 w5) := by rw [HS.out.1]; exact ownN_of hown5 (by simp [HPL.out]) (by simp [numsV])
      have HC5 : Hid (SpAt g s (rRep (rNum s) (k + 1) st1).2 w5) := by
        rw [HS.out.2]
        refine (HC2.out.below ((Below.refl w2.heap.size w2).alloc (Nat.le_refl _) _) HC2.out.lt).kept hgrow5 (fun e => ?_)
        have := (World.ownsRow.lt hown g e).1
        omega
      clear hown5 hgrow5 hown gr02 HC2 HS
      go_wp2
      go_roundw
      case rel => exact ⟨k + 1, j - 1, by omega, by go_num, HO5, HC5, g5⟩
      case measure => simp [intOf]; omega
    · obtain rfl : j = 0 := by omega
      obtain rfl : k = m := by omega
      go_wp2
      go_ret
      exact ⟨_, rfl, by rw [HR.out]; exact HO.out, by rw [HR.out]; exact HC.out, gr⟩
end Go.Proofs.Ytjihkdbloffbmaa

/-
  A schema under way beside one struct that is being filled. Plain laws.
-/
namespace Go.Proofs.Ytjihkdbloffbmaa
open Go.RowKit
set_option maxRecDepth 100000

theorem SOwn.keep {base C : Nat} {a k x : Value} {us : List Value} {S : Sch} {w w' : World} (h : SOwn base a k x us S w) (hg : w.grownBy w' (some C)) (hne : ∀ v ∈ a :: k :: x :: us, ∀ b, v.ownBlock = some b → b < C) : SOwn base a k x us S w' := by
  have hn : ∀ v ∈ a :: k :: x :: us, v.ownBlock = none ∨ v.ownBlock ≠ some C := fun v hv => .inr (fun e => Nat.lt_irrefl C (hne v hv C e))
  exact ⟨World.ownsRow.kept h.cols hg (hn _ (by simp)), World.ownsRow.kept h.key hg (hn _ (by simp)), ⟨h.idx.len, World.ownsRow.kept h.idx.row hg (hn _ (by simp)), fun p hp => World.ownsRow.kept (h.idx.inner p hp) hg (hn _ (by simp [(List.of_mem_zip hp).1]))⟩, h.apart⟩
/-- The reading stands at st; beside it block C holds a struct. -/
structure InB (w : World) (g L R : Nat) (s : ByteArray) (a k x : Value) (us : List Value) (S : Sch) (C : Nat) (cs : Array Value) (ty : TypeId) (st : St) (W : World) : Prop where
  loc : LocAt L R S.name a k x W
  own : SOwn (L + 1) a k x us S W
  cur : SpAt g s st W
  grow : w.grownBy W (some g)
  at' : W.heap[C]? = some (.cells cs ty (0, 0))
  base : L + 1 ≤ C
  far : ∀ v ∈ a :: k :: x :: us, ∀ b, v.ownBlock = some b → b < C
theorem InB.call {w : World} {g L R : Nat} {s : ByteArray} {a k x : Value} {us : List Value} {S : Sch} {C : Nat} {cs : Array Value} {ty : TypeId} {st st' : St} {W W' : World} (h : InB w g L R s a k x us S C cs ty st W) (hr : W.grownBy W' (some g)) (hc : SpAt g s st' W') (hgL : g < L) (hgR : g ≠ R) : InB w g L R s a k x us S C cs ty st' W' :=
  ⟨h.loc.grown hr (fun e => by have := Option.some.inj e; omega) (fun e => hgR (Option.some.inj e)), h.own.far hr (by omega), hc, h.grow.trans hr, (hr.block C (Array.getElem?_eq_some_iff.1 h.at').1 (fun e => by have := Option.some.inj e; have := h.base; omega)).trans h.at', h.base, h.far⟩
theorem InB.set {w : World} {g L R : Nat} {s : ByteArray} {a k x : Value} {us : List Value} {S : Sch} {C : Nat} {cs : Array Value} {ty : TypeId} {st : St} {W : World} (h : InB w g L R s a k x us S C cs ty st W) (hgL : g < L) (hR : R < L) (hw : w.heap.size ≤ L) (m : Nat) (v : Value) (cs' : Array Value) (hcs : (W.setCell ⟨C, m, none⟩ v).heap[C]? = some (.cells cs' ty (0, 0))) : InB w g L R s a k x us S C cs' ty st (W.setCell ⟨C, m, none⟩ v) := by
  have hb := h.base
  have hg : W.grownBy (W.setCell ⟨C, m, none⟩ v) (some C) := grown_setG (grown_refl W (some C))
  exact ⟨h.loc.grown hg (fun e => by have := Option.some.inj e; omega) (fun e => by have := Option.some.inj e; omega), h.own.keep hg h.far, h.cur.other (by omega) _ _, grown_new h.grow (by omega) _ _, hcs, hb, h.far⟩
theorem sown_cols {L n : Nat} {a' : Value} {nm : ByteArray} {cs : List Col} {c : Col} {W : World} (h : W.ownsRow (L + 1) 78 3 a' (n + 1) (flatC cs ++ [.string c.name, .int .i64 c.kind, .bool c.nul])) (hn : cs.length = n) : SOwn (L + 1) a' (.slice none 0 0) (.slice none 0 0) [] ⟨nm, cs ++ [c], [], []⟩ W := by
  refine ⟨?_, ownN_nil _ _, ownX_nil _ _, apart0 (m := W.heap.size) (fun b hb => (World.ownsRow.lt h b hb).2) (fun b hb => by simp [Value.ownBlock] at hb)⟩
  show W.ownsRow (L + 1) 78 3 a' (cs ++ [c]).length (flatC (cs ++ [c]))
  rw [flatC_snoc, List.length_append, hn]
  exact h
theorem setT0 {W : World} {g : Nat} {x a b z : Value} {t : TypeId} (h : W.heap[g]? = some (.cells #[x, a, b] t (0, 0))) : (W.setCell ⟨g, 0, none⟩ z).heap[g]? = some (.cells #[z, a, b] t (0, 0)) := by
  have h2 := heap_setCell_same W g 0 _ t z h
  simpa using h2
theorem setP0 {W : World} {g : Nat} {x a z : Value} {t : TypeId} (h : W.heap[g]? = some (.cells #[x, a] t (0, 0))) : (W.setCell ⟨g, 0, none⟩ z).heap[g]? = some (.cells #[z, a] t (0, 0)) := by
  have h2 := heap_setCell_same W g 0 _ t z h
  simpa using h2
theorem setP1 {W : World} {g : Nat} {x a z : Value} {t : TypeId} (h : W.heap[g]? = some (.cells #[x, a] t (0, 0))) : (W.setCell ⟨g, 1, none⟩ z).heap[g]? = some (.cells #[x, z] t (0, 0)) := by
  have h2 := heap_setCell_same W g 1 _ t z h
  simpa using h2
end Go.Proofs.Ytjihkdbloffbmaa

/-
  Contracts: the specification's reader of a schema.
-/
namespace Go.Proofs.Ytjihkdbloffbmaa
open Go.RowKit
set_option maxRecDepth 100000

/-- How the reading stands between two parts. -/
def Sp2 (w : World) (g L R : Nat) (s : ByteArray) (a k x : Value) (us : List Value) (S : Sch) (st : St) (wr : World) : Prop :=
  LocAt L R S.name a k x wr ∧ SOwn (L + 1) a k x us S wr ∧ SpAt g s st wr ∧ w.grownBy wr (some g) ∧ L + 1 ≤ wr.heap.size
theorem Sp2.inB {w : World} {g L R : Nat} {s : ByteArray} {a k x : Value} {us : List Value} {S : Sch} {st : St} {wr : World} (h : Sp2 w g L R s a k x us S st wr) (cs : Array Value) (ty : TypeId) : InB w g L R s a k x us S wr.heap.size cs ty st (wr.alloc (.cells cs ty)) :=
  ⟨h.1.grown (grown_allocN wr _) nofun nofun, h.2.1.below ((Below.refl wr.heap.size wr).alloc (Nat.le_refl _) _), h.2.2.1.below ((Below.refl wr.heap.size wr).alloc (Nat.le_refl _) _) h.2.2.1.lt, grown_alloc' h.2.2.2.1 _, heap_alloc_new _ _, h.2.2.2.2, h.2.1.blocks⟩
set_option maxHeartbeats 4000000 in
theorem spSchema_rd (g : Nat) (s : ByteArray) (st : St) (w : World) (h : SpAt g s st w) :
    Calls Try.prog 59 #[.pointer (some ⟨g, 0, none⟩)] w fun e w' => ∃ a k x us, e = .returned (.agg #[.string (rSch s st).1.name, a, k, x]) ∧ SOwn (w.heap.size + 1) a k x us (rSch s st).1 w' ∧ SpAt g s (rSch s st).2 w' ∧ w.grownBy w' (some g) := by
  obtain ⟨i0, hi, hz0, hz1, hz2⟩ := info_parts Try.infoCol
  obtain ⟨j0, hj, hy0, hy1, hy2⟩ := info_parts Try.infoIdx
  have hgl := h.lt
  have HC0 : Hid (SpAt g s st (w.alloc (.cells #[.string ⟨#[]⟩, .slice none 0 0, .slice none 0 0, .slice none 0 0] 27))) := h.below ((Below.refl w.heap.size w).alloc (Nat.le_refl _) _) hgl
  have HK0 : Hid ((w.alloc (.cells #[.string ⟨#[]⟩, .slice none 0 0, .slice none 0 0, .slice none 0 0] 27)).heap[w.heap.size]? = some (.cells #[.string ⟨#[]⟩, .slice none 0 0, .slice none 0 0, .slice none 0 0] 27 (0, 0))) := heap_alloc_new _ _
  have HG0 : Hid (w.grownBy (w.alloc (.cells #[.string ⟨#[]⟩, .slice none 0 0, .slice none 0 0, .slice none 0 0] 27)) (some g)) := grown_below (grown_refl w (some g)) ((Below.refl w.heap.size w).alloc (Nat.le_refl _) _)
  have HZ0 : Hid ((w.alloc (.cells #[.string ⟨#[]⟩, .slice none 0 0, .slice none 0 0, .slice none 0 0] 27)).heap.size = w.heap.size + 1) := by show _ = _; simp
  have HR : Hid (rSch s st = (⟨(rTxt s st).1, (rRep (rCol s) (rMany s 10 (rTxt s st).2).1.toNat (rMany s 10 (rTxt s st).2).2).1, (rNums s (rRep (rCol s) (rMany s 10 (rTxt s st).2).1.toNat (rMany s 10 (rTxt s st).2).2).2).1, (rRep (rIdx s) (rMany s 4 (rNums s (rRep (rCol s) (rMany s 10 (rTxt s st).2).1.toNat (rMany s 10 (rTxt s st).2).2).2).2).1.toNat (rMany s 4 (rNums s (rRep (rCol s) (rMany s 10 (rTxt s st).2).1.toNat (rMany s 10 (rTxt s st).2).2).2).2).2).1⟩, (rRep (rIdx s) (rMany s 4 (rNums s (rRep (rCol s) (rMany s 10 (rTxt s st).2).1.toNat (rMany s 10 (rTxt s st).2).2).2).2).1.toNat (rMany s 4 (rNums s (rRep (rCol s) (rMany s 10 (rTxt s st).2).1.toNat (rMany s 10 (rTxt s st).2).2).2).2).2).2)) := rfl
  have H1 := hide (spText_any g s st)
  generalize rTxt s st = y1 at *
  obtain ⟨t1, s1⟩ := y1
  simp only at HR H1
  have H2 := hide (spMany_any g s 10 s1)
  have hm2 := rMany_in s 10 s1 (by omega)
  generalize rMany s 10 s1 = y2 at *
  obtain ⟨n2, s2⟩ := y2
  simp only at HR H2 hm2
  obtain ⟨m, rfl⟩ : ∃ m : Nat, n2 = (m : Int) := ⟨n2.toNat, by omega⟩
  rw [Int.toNat_natCast] at HR
  clear h
  go_enter Try.func59, Try.ntmps59
  go_wp2_with fail
  refine (H1.out _ HC0.out).mono ?_
  rintro e w1 ⟨rfl, k1, r1⟩
  have hne : w.heap.size ≠ g := by omega
  have P1 := hide ((r1.block w.heap.size (by rw [HZ0.out]; omega) (fun e => hne (by simpa using e))).trans HK0.out)
  have Z1 : w.heap.size + 1 ≤ w1.heap.size := by rw [← HZ0.out]; exact r1.size
  have G1 := hide (grown_alloc' (HG0.out.trans r1) (.cells #[.string t1, .slice none 0 0, .slice none 0 0, .slice none 0 0] 27))
  have K1 := hide (k1.below ((Below.refl w1.heap.size w1).alloc (Nat.le_refl _) (.cells #[.string t1, .slice none 0 0, .slice none 0 0, .slice none 0 0] 27)) k1.lt)
  have L1 : Hid (LocAt w1.heap.size w.heap.size t1 (.slice none 0 0) (.slice none 0 0) (.slice none 0 0) (w1.alloc (.cells #[.string t1, .slice none 0 0, .slice none 0 0, .slice none 0 0] 27))) := ⟨heap_alloc_new _ _, (heap_old _ _ _ (by omega)).trans P1.out⟩
  have ZA : Hid ((w1.alloc (.cells #[.string t1, .slice none 0 0, .slice none 0 0, .slice none 0 0] 27)).heap.size = w1.heap.size + 1) := by show _ = _; simp
  clear k1 r1 HC0 HK0 HG0 HZ0 P1 H1
  go_wp2_with fail
  refine (H2.out _ K1.out).mono ?_
  generalize w1.alloc (.cells #[.string t1, .slice none 0 0, .slice none 0 0, .slice none 0 0] 27) = W1 at *
  generalize w1.heap.size = L at *
  rintro e w2 ⟨rfl, k2, r2⟩
  have hLg : L ≠ g := by omega
  have hgL : g < L := by omega
  have hgL : g < L := by omega
  have I2 : Hid (Sp2 w g L w.heap.size s (.slice none 0 0) (.slice none 0 0) (.slice none 0 0) [] ⟨t1, [], [], []⟩ s2 w2) := ⟨L1.out.grown r2 (by simpa using hLg.symm) (by simpa using hne.symm), ⟨ownC_nil _ _, ownN_nil _ _, ownX_nil _ _, apart0 (m := 0) (fun b hb => by simp [Value.ownBlock] at hb) (fun b hb => by simp [Value.ownBlock] at hb)⟩, k2, G1.out.trans r2, by rw [← ZA.out]; exact r2.size⟩
  clear k2 r2 K1 L1 G1 H2 ZA
  go_wp2
  go_loopw [4] (fun i wr => ∃ (k j : Nat) (a : Value), k + j = m ∧ i = .int .i64 j ∧ Hid (Sp2 w g L w.heap.size s a (.slice none 0 0) (.slice none 0 0) [] ⟨t1, (rRep (rCol s) k s2).1, [], []⟩ (rRep (rCol s) k s2).2 wr)) (fun i _ => (intOf i).toNat)
  case atStart => exact ⟨0, m, _, by omega, rfl, I2⟩
  case round =>
    clear I2
    obtain ⟨k, j, a, hk, rfl, HL⟩ := hrel
    by_cases hlt : 0 < j
    · have hjp : (0 : Int) < (j : Int) := by omega
      have hcl := rRep_len (rCol s) s2 k
      have HS : Hid ((rRep (rCol s) (k + 1) s2).1 = (rRep (rCol s) k s2).1 ++ [(rCol s (rRep (rCol s) k s2).2).1] ∧ (rRep (rCol s) (k + 1) s2).2 = (rCol s (rRep (rCol s) k s2).2).2) := ⟨rfl, rfl⟩
      obtain ⟨ao, cap, rfl⟩ := ownC_shape HL.out.2.1.cols
      generalize rRep (rCol s) k s2 = pr at *
      obtain ⟨pl, stk⟩ := pr
      simp only at hcl HS HL
      rw [hcl] at HL
      have HPL := hide hcl
      clear hcl
      have HC : Hid (rCol s stk = (⟨(rTxt s stk).1, (rNum s (rTxt s stk).2).1, (rFlag s (rNum s (rTxt s stk).2).2).1⟩, (rFlag s (rNum s (rTxt s stk).2).2).2)) := rfl
      have A1 := hide (spText_any g s stk)
      have A2 := hide (spNum_any g s (rTxt s stk).2)
      have A3 := hide (spTruth_any g s (rNum s (rTxt s stk).2).2)
      generalize rFlag s (rNum s (rTxt s stk).2).2 = y3 at *
      generalize rNum s (rTxt s stk).2 = y2 at *
      generalize rTxt s stk = y1 at *
      obtain ⟨cn, sa⟩ := y1
      obtain ⟨kd, sb⟩ := y2
      obtain ⟨nu, sc⟩ := y3
      simp only at A1 A2 A3 HC
      have B0 := hide (HL.out.inB #[.string ⟨#[]⟩, .int .i64 0, .bool false] 78)
      obtain ⟨u0, u1, u2, uf⟩ := cells3 B0.out.at'
      have hRL : w.heap.size < L := by omega
      have hgR : g ≠ w.heap.size := by omega
      go_wp2_with fail
      refine (A1.out _ B0.out.cur).mono ?_
      rintro e v1 ⟨rfl, k1, r1⟩
      have B1 := hide (B0.out.call r1 k1 hgL hgR)
      have B1' := hide (B1.out.set hgL hRL (Nat.le_of_lt hRL) 0 (.string cn) _ (setT0 B1.out.at'))
      obtain ⟨d0, d1, d2, df⟩ := cells3 B1.out.at'
      clear k1 r1 B0 u0 u1 u2 uf
      go_wp2_with fail
      refine (A2.out _ B1'.out.cur).mono ?_
      rintro e v2 ⟨rfl, k2, r2⟩
      have B2 := hide (B1'.out.call r2 k2 hgL hgR)
      have B2' := hide (B2.out.set hgL hRL (Nat.le_of_lt hRL) 1 (.int .i64 kd) _ (setc1 B2.out.at'))
      obtain ⟨f0, f1, f2, ff⟩ := cells3 B2.out.at'
      clear k2 r2 B1 B1' d0 d1 d2 df
      go_wp2_with fail
      refine (A3.out _ B2'.out.cur).mono ?_
      rintro e v3 ⟨rfl, k3, r3⟩
      have B3 := hide (B2'.out.call r3 k3 hgL hgR)
      have B3' := hide (B3.out.set hgL hRL (Nat.le_of_lt hRL) 2 (.bool nu) _ (setc2 B3.out.at'))
      obtain ⟨h0, h1, h2, hf⟩ := cells3 B3.out.at'
      clear k3 r3 B2 B2' f0 f1 f2 ff
      obtain ⟨m0, m1, m2, mf⟩ := cells3 B3'.out.at'
      obtain ⟨n0, n1, n2, n3, nf⟩ := cells4 B3'.out.loc.1
      obtain ⟨o0, o1, o2, o3, of'⟩ := cells4 B3.out.loc.1
      have hCL : wr.heap.size ≠ L := by have := B3.out.base; omega
      have hLC : L ≠ wr.heap.size := fun e => hCL e.symm
      have e1 : Hid (((v3.setCell ⟨wr.heap.size, 2, none⟩ (.bool nu)).alloc (.cells #[.string cn, .int .i64 kd, .bool nu] 78)).ownsRow (L + 1) 78 3 (.slice ao k cap) k (flatC pl)) := World.ownsRow.alloc (by have := B3'.out.own.cols; unfold OwnC at this; simp only [HPL.out] at this; exact this) (.cells #[.string cn, .int .i64 kd, .bool nu] 78)
      have e2 : k + 1 ≤ maxLen := by unfold maxLen; omega
      have e3 : (k + 1) * 32 ≤ 140737488355328 := by omega
      have e5 : Hid (((v3.setCell ⟨wr.heap.size, 2, none⟩ (.bool nu)).alloc (.cells #[.string cn, .int .i64 kd, .bool nu] 78)).heap.size = (v3.setCell ⟨wr.heap.size, 2, none⟩ (.bool nu)).heap.size + 1) := by show _ = _; simp
      have eC := hide (Array.getElem?_eq_some_iff.1 B3'.out.at').1
      have e4 : Hid (L + 1 ≤ ((v3.setCell ⟨wr.heap.size, 2, none⟩ (.bool nu)).alloc (.cells #[.string cn, .int .i64 kd, .bool nu] 78)).heap.size) := by show _ ≤ _; rw [e5.out]; have := eC.out; have := B3'.out.base; omega
      have e6 : ∀ b, (Value.slice ao k cap).ownBlock = some b → L + 1 ≤ b := fun b e => (World.ownsRow.lt e1.out b e).1
      have n1' : (Value.slice ao k cap).ownBlock ≠ some L := fun e => Nat.not_succ_le_self L (e6 _ e)
      have n2' : (Value.slice ao k cap).ownBlock ≠ some w.heap.size := fun e => by have := e6 _ e; omega
      have n3' : (Value.slice ao k cap).ownBlock ≠ some g := fun e => by have := e6 _ e; omega
      have L0 : Hid (LocAt L w.heap.size t1 (.slice ao k cap) (.slice none 0 0) (.slice none 0 0) ((v3.setCell ⟨wr.heap.size, 2, none⟩ (.bool nu)).alloc (.cells #[.string cn, .int .i64 kd, .bool nu] 78))) := B3'.out.loc.grown (r := none) (grown_allocN _ _) nofun nofun
      have C0 : Hid (SpAt g s sc ((v3.setCell ⟨wr.heap.size, 2, none⟩ (.bool nu)).alloc (.cells #[.string cn, .int .i64 kd, .bool nu] 78))) := B3'.out.cur.below ((Below.refl _ _).alloc (Nat.le_refl _) _) B3'.out.cur.lt
      have G0 : Hid (w.grownBy ((v3.setCell ⟨wr.heap.size, 2, none⟩ (.bool nu)).alloc (.cells #[.string cn, .int .i64 kd, .bool nu] 78)) (some g)) := grown_alloc' B3'.out.grow _
      go_wp2_with (at_builtin; refine wpList_append_lies ((v3.setCell ⟨wr.heap.size, 2, none⟩ (.bool nu)).alloc (.cells #[.string cn, .int .i64 kd, .bool nu] 78)) rfl (.tmp 28) (.tmp 30) 23 rfl (L + 1) 78 i0 (.agg #[.string ⟨#[]⟩, .int .i64 0, .bool false]) 3 32 Try.underlying23 hi hz0 hz1 hz2 rfl (by decide) (.slice ao k cap) k (flatC pl) rfl e1.out ⟨(v3.setCell ⟨wr.heap.size, 2, none⟩ (.bool nu)).heap.size, 0, none⟩ 1 1 [.string cn, .int .i64 kd, .bool nu] (by simp [Act.eval]) rfl (cell_col_new (v3.setCell ⟨wr.heap.size, 2, none⟩ (.bool nu)) cn kd nu 78) (one_col cn kd nu) (by decide) e2 e3 e4.out ((v3.setCell ⟨wr.heap.size, 2, none⟩ (.bool nu)).heap.size + 1) e5.out ?_; intro gg cp yB ownB growB atB ltB; have LB := hide (L0.out.grown growB n1' n2'); obtain ⟨q0, q1, q2, q3, qf⟩ := cells4 LB.out.1)
      have WB : Hid (Sp2 w g L w.heap.size s (.slice (some ⟨gg, 0, none⟩) (k + 1) cp) (.slice none 0 0) (.slice none 0 0) [] ⟨t1, (rRep (rCol s) (k + 1) s2).1, [], []⟩ (rRep (rCol s) (k + 1) s2).2 (yB.setCell ⟨L, 1, none⟩ (.slice (some ⟨gg, 0, none⟩) (k + 1) cp))) := by
        rw [HS.out.1, HS.out.2, HC.out]
        refine ⟨locSet LB.out (by omega) rfl, (sown_cols ownB HPL.out).set (Nat.lt_succ_self L), (C0.out.kept growB n3').other (by omega) 1 _, grown_new (grown_some G0.out growB (by omega) e6) (by omega) 1 _, ?_⟩
        have h1 := growB.size
        have h2 := e4.out
        simp
        omega
      clear LB ownB growB atB ltB e1 e2 e3 e4 e5 e6 eC n1' n2' n3' L0 C0 G0 HS HC A1 A2 A3 B3 B3' HL h0 h1 h2 hf m0 m1 m2 mf n0 n1 n2 n3 nf o0 o1 o2 o3 of' hCL hLC
      go_wp2
      go_roundw
      case rel => exact ⟨k + 1, j - 1, _, by omega, by go_num, WB⟩
      case measure => simp [intOf]; omega
    · obtain rfl : j = 0 := by omega
      obtain rfl : m = k := by omega
      obtain ⟨aoc, capc, rfl⟩ := ownC_shape HL.out.2.1.cols
      generalize rRep (rCol s) _ s2 = y3 at *
      obtain ⟨cs, s3⟩ := y3
      simp only at HL HR
      have HP := hide (spNums_any g s s3 wr HL.out.2.2.1)
      generalize rNums s s3 = y4 at *
      obtain ⟨ks, s4⟩ := y4
      simp only at HR HP
      have H5 := hide (spMany_any g s 4 s4)
      have hm5 := rMany_in s 4 s4 (by omega)
      generalize rMany s 4 s4 = y5 at *
      obtain ⟨n5, s5⟩ := y5
      simp only at HR H5 hm5
      obtain ⟨n, rfl⟩ : ∃ n : Nat, n5 = (n : Int) := ⟨n5.toNat, by omega⟩
      rw [Int.toNat_natCast] at HR
      go_wp2_with fail
      refine HP.out.mono ?_
      rintro e w3 ⟨v3, rfl, o3, k3, r3⟩
      obtain ⟨ao3, cap3, rfl⟩ := ownN_shape o3
      have L3 := hide (HL.out.1.grown r3 (by simpa using hLg.symm) (by simpa using hne.symm))
      obtain ⟨x0, x1, x2, x3, xf⟩ := cells4 L3.out.1
      have I3 : Hid (Sp2 w g L w.heap.size s (.slice aoc cs.length capc) (.slice ao3 ks.length cap3) (.slice none 0 0) [] ⟨t1, cs, ks, []⟩ s4 (w3.setCell ⟨L, 2, none⟩ (.slice ao3 ks.length cap3))) := by
        have hzb := HL.out.2.2.2.2
        refine ⟨locSet2 L3.out (by omega) rfl, ⟨own_set (own_far HL.out.2.1.cols r3 (by omega)) (Nat.lt_succ_self L), own_set (owns_base o3 hzb) (Nat.lt_succ_self L), ownX_nil _ _, apart0 (fun b hb => (World.ownsRow.lt HL.out.2.1.cols b hb).2) (fun b hb => (World.ownsRow.lt o3 b hb).1)⟩, k3.other (by omega) 2 _, grown_new (HL.out.2.2.2.1.trans r3) (by omega) 2 _, ?_⟩
        have := r3.size
        simp
        omega
      clear o3 k3 r3 L3 HL HP
      go_wp2_with fail
      refine (H5.out _ I3.out.2.2.1).mono ?_
      rintro e w4 ⟨rfl, k4, r4⟩
      have I4 : Hid (Sp2 w g L w.heap.size s (.slice aoc cs.length capc) (.slice ao3 ks.length cap3) (.slice none 0 0) [] ⟨t1, cs, ks, []⟩ s5 w4) := by
        obtain ⟨a1, a2, a3, a4, a5⟩ := I3.out
        exact ⟨a1.grown r4 (by simpa using hLg.symm) (by simpa using hne.symm), a2.far r4 (by omega), k4, a4.trans r4, Nat.le_trans a5 r4.size⟩
      clear k4 r4 I3 H5 x0 x1 x2 x3 xf
      go_wp2
      go_loopw [6] (fun i wq => ∃ (k j : Nat) (x : Value) (us : List Value), k + j = n ∧ i = .int .i64 j ∧ Hid (Sp2 w g L w.heap.size s (.slice aoc cs.length capc) (.slice ao3 ks.length cap3) x us ⟨t1, cs, ks, (rRep (rIdx s) k s5).1⟩ (rRep (rIdx s) k s5).2 wq)) (fun i _ => (intOf i).toNat)
      case atStart => exact ⟨0, n, _, _, by omega, rfl, I4⟩
      case round =>
        clear I4
        obtain ⟨k, j, x, us, hk, rfl, HL⟩ := hrel
        by_cases hlt : 0 < j
        · have hjp : (0 : Int) < (j : Int) := by omega
          have hcl := rRep_len (rIdx s) s5 k
          have HS : Hid ((rRep (rIdx s) (k + 1) s5).1 = (rRep (rIdx s) k s5).1 ++ [(rIdx s (rRep (rIdx s) k s5).2).1] ∧ (rRep (rIdx s) (k + 1) s5).2 = (rIdx s (rRep (rIdx s) k s5).2).2) := ⟨rfl, rfl⟩
          obtain ⟨ao, cap, rfl⟩ := ownX_shape HL.out.2.1.idx
          generalize rRep (rIdx s) k s5 = pr at *
          obtain ⟨pl, stk⟩ := pr
          simp only at hcl HS HL
          rw [hcl] at HL
          have HPL := hide hcl
          clear hcl
          have HC : Hid (rIdx s stk = (⟨(rNums s stk).1, (rFlag s (rNums s stk).2).1⟩, (rFlag s (rNums s stk).2).2)) := rfl
          have A1 := hide (spNums_any g s stk)
          have A3 := hide (spTruth_any g s (rNums s stk).2)
          generalize rFlag s (rNums s stk).2 = y3 at *
          generalize rNums s stk = y1 at *
          obtain ⟨xc, sa⟩ := y1
          obtain ⟨xu, sc⟩ := y3
          simp only at A1 A3 HC
          have B0 := hide (HL.out.inB #[.slice none 0 0, .bool false] 83)
          have hwz : (wr.alloc (.cells #[.slice none 0 0, .bool false] 83)).heap.size = wr.heap.size + 1 := by simp
          have HWZ := hide hwz
          clear hwz
          obtain ⟨u0, u1, uf⟩ := cells2 B0.out.at'
          have hRL : w.heap.size < L := by omega
          have hgR : g ≠ w.heap.size := by omega
          have hgw : g < wr.heap.size + 1 := by have := B0.out.base; omega
          go_wp2_with fail
          refine (A1.out _ B0.out.cur).mono ?_
          rintro e v1 ⟨vA, rfl, oA, k1, r1⟩
          rw [HWZ.out] at oA
          obtain ⟨aoA, capA, rfl⟩ := ownN_shape oA
          have B1 := hide (B0.out.call r1 k1 hgL hgR)
          have B1' := hide (B1.out.set hgL hRL (Nat.le_of_lt hRL) 0 (.slice aoA xc.length capA) _ (setP0 B1.out.at'))
          have N1 : Hid (OwnN (wr.heap.size + 1) (.slice aoA xc.length capA) xc (v1.setCell ⟨wr.heap.size, 0, none⟩ (.slice aoA xc.length capA))) := own_set oA (Nat.lt_succ_self _)
          obtain ⟨d0, d1, df⟩ := cells2 B1.out.at'
          clear k1 r1 B0 u0 u1 uf oA
          go_wp2_with fail
          refine (A3.out _ B1'.out.cur).mono ?_
          rintro e v2 ⟨rfl, k3, r3⟩
          have B3 := hide (B1'.out.call r3 k3 hgL hgR)
          have B3' := hide (B3.out.set hgL hRL (Nat.le_of_lt hRL) 1 (.bool xu) _ (setP1 B3.out.at'))
          have N3 : Hid (OwnN wr.heap.size (.slice aoA xc.length capA) xc (v2.setCell ⟨wr.heap.size, 1, none⟩ (.bool xu))) := owns_base (own_set (own_far N1.out r3 hgw) (Nat.lt_succ_self _)) (Nat.le_succ _)
          obtain ⟨h0, h1, hf⟩ := cells2 B3.out.at'
          clear k3 r3 B1 B1' N1 d0 d1 df
          obtain ⟨m0, m1, mf⟩ := cells2 B3'.out.at'
          obtain ⟨n0, n1, n2, n3, nf⟩ := cells4 B3'.out.loc.1
          obtain ⟨o0, o1, o2, o3, of'⟩ := cells4 B3.out.loc.1
          have hCL : wr.heap.size ≠ L := by have := B3.out.base; omega
          have hLC : L ≠ wr.heap.size := fun e => hCL e.symm
          have e1 : Hid (((v2.setCell ⟨wr.heap.size, 1, none⟩ (.bool xu)).alloc (.cells #[.slice aoA xc.length capA, .bool xu] 83)).ownsRow (L + 1) 83 2 (.slice ao k cap) k (flatX us pl)) := World.ownsRow.alloc (by have := B3'.out.own.idx.row; simp only [HPL.out] at this; exact this) (.cells #[.slice aoA xc.length capA, .bool xu] 83)
          have e2 : k + 1 ≤ maxLen := by unfold maxLen; omega
          have e3 : (k + 1) * 32 ≤ 140737488355328 := by omega
          have e5 : Hid (((v2.setCell ⟨wr.heap.size, 1, none⟩ (.bool xu)).alloc (.cells #[.slice aoA xc.length capA, .bool xu] 83)).heap.size = (v2.setCell ⟨wr.heap.size, 1, none⟩ (.bool xu)).heap.size + 1) := by show _ = _; simp
          have eC := hide (Array.getElem?_eq_some_iff.1 B3'.out.at').1
          have e4 : Hid (L + 1 ≤ ((v2.setCell ⟨wr.heap.size, 1, none⟩ (.bool xu)).alloc (.cells #[.slice aoA xc.length capA, .bool xu] 83)).heap.size) := by show _ ≤ _; rw [e5.out]; have := eC.out; have := B3'.out.base; omega
          have e6 : ∀ b, (Value.slice ao k cap).ownBlock = some b → L + 1 ≤ b := fun b e => (World.ownsRow.lt e1.out b e).1
          have n1' : (Value.slice ao k cap).ownBlock ≠ some L := fun e => Nat.not_succ_le_self L (e6 _ e)
          have n2' : (Value.slice ao k cap).ownBlock ≠ some w.heap.size := fun e => by have := e6 _ e; omega
          have n3' : (Value.slice ao k cap).ownBlock ≠ some g := fun e => by have := e6 _ e; omega
          have L0 : Hid (LocAt L w.heap.size t1 (.slice aoc cs.length capc) (.slice ao3 ks.length cap3) (.slice ao k cap) ((v2.setCell ⟨wr.heap.size, 1, none⟩ (.bool xu)).alloc (.cells #[.slice aoA xc.length capA, .bool xu] 83))) := B3'.out.loc.grown (r := none) (grown_allocN _ _) nofun nofun
          have C0 : Hid (SpAt g s sc ((v2.setCell ⟨wr.heap.size, 1, none⟩ (.bool xu)).alloc (.cells #[.slice aoA xc.length capA, .bool xu] 83))) := B3'.out.cur.below ((Below.refl _ _).alloc (Nat.le_refl _) _) B3'.out.cur.lt
          have G0 : Hid (w.grownBy ((v2.setCell ⟨wr.heap.size, 1, none⟩ (.bool xu)).alloc (.cells #[.slice aoA xc.length capA, .bool xu] 83)) (some g)) := grown_alloc' B3'.out.grow _
          go_wp2_with (at_builtin; refine wpList_append_lies ((v2.setCell ⟨wr.heap.size, 1, none⟩ (.bool xu)).alloc (.cells #[.slice aoA xc.length capA, .bool xu] 83)) rfl (.tmp 50) (.tmp 52) 25 rfl (L + 1) 83 j0 (.agg #[.slice none 0 0, .bool false]) 2 32 Try.underlying25 hj hy0 hy1 hy2 rfl (by decide) (.slice ao k cap) k (flatX us pl) rfl e1.out ⟨(v2.setCell ⟨wr.heap.size, 1, none⟩ (.bool xu)).heap.size, 0, none⟩ 1 1 [(.slice aoA xc.length capA), .bool xu] (by simp [Act.eval]) rfl (cell_idx_new (v2.setCell ⟨wr.heap.size, 1, none⟩ (.bool xu)) (.slice aoA xc.length capA) xu 83) (one_idx aoA xc.length capA xu) (by decide) e2 e3 e4.out ((v2.setCell ⟨wr.heap.size, 1, none⟩ (.bool xu)).heap.size + 1) e5.out ?_; intro gg cp yB ownB growB atB ltB; have LB := hide (L0.out.grown growB n1' n2'); obtain ⟨q0, q1, q2, q3, qf⟩ := cells4 LB.out.1)
          have WB : Hid (Sp2 w g L w.heap.size s (.slice aoc cs.length capc) (.slice ao3 ks.length cap3) (.slice (some ⟨gg, 0, none⟩) (k + 1) cp) (us ++ [(.slice aoA xc.length capA)]) ⟨t1, cs, ks, (rRep (rIdx s) (k + 1) s5).1⟩ (rRep (rIdx s) (k + 1) s5).2 (yB.setCell ⟨L, 3, none⟩ (.slice (some ⟨gg, 0, none⟩) (k + 1) cp))) := by
            rw [HS.out.1, HS.out.2, HC.out]
            refine ⟨locSet3 LB.out (by omega) rfl, ?_, (C0.out.kept growB n3').other (by omega) 3 _, grown_new (grown_some G0.out growB (by omega) e6) (by omega) 3 _, ?_⟩
            · refine (sown_step (m := wr.heap.size) B3'.out.own B3'.out.far B3'.out.base (Nat.le_of_lt eC.out) N3.out ownB HPL.out growB ?_).set (Nat.lt_succ_self L)
              rcases atB with h1 | h1
              · exact .inl (by rw [h1]; rfl)
              · exact .inr (by rw [h1]; rfl)
            · have h1 := growB.size
              have h2 := e4.out
              simp
              omega
          clear LB ownB growB atB ltB e1 e2 e3 e4 e5 e6 eC n1' n2' n3' L0 C0 G0 HS HC A1 A3 B3 B3' HL h0 h1 hf m0 m1 mf n0 n1 n2 n3 nf o0 o1 o2 o3 of' hCL hLC N3 HWZ
          go_wp2
          go_roundw
          case rel => exact ⟨k + 1, j - 1, _, _, by omega, by go_num, WB⟩
          case measure => simp [intOf]; omega
        · obtain rfl : j = 0 := by omega
          obtain rfl : n = k := by omega
          obtain ⟨hloc, hown, hcur, hgr, hzb⟩ := HL.out
          obtain ⟨ao, cap, rfl⟩ := ownX_shape hown.idx
          generalize rRep (rIdx s) _ s5 = y6 at *
          obtain ⟨xs, s6⟩ := y6
          simp only at hloc hown hcur HR
          have HO := hide hown
          have HCU := hide hcur
          have HGR := hide hgr
          have HLO := hide hloc
          obtain ⟨x0, x1, x2, x3, xf⟩ := cells4 hloc.1
          obtain ⟨z0, z1, z2, z3, zf⟩ := cells4 hloc.2
          clear hloc hown hcur hgr HL
          go_wp2
          refine bodyPost_ret (v := .agg #[.string t1, (.slice aoc cs.length capc), (.slice ao3 ks.length cap3), .slice ao xs.length cap]) (resSch Try.results59 _ _ w.heap.size _ _ _ _ rfl (set4 HLO.out.2)) rfl ⟨_, _, _, us, by rw [HR.out], ?_, ?_, ?_⟩
          · rw [HR.out]
            exact ((((HO.out.set (by omega)).set (by omega)).set (by omega)).set (by omega)).base (by omega)
          · rw [HR.out]
            exact (((HCU.out.other (by omega) _ _).other (by omega) _ _).other (by omega) _ _).other (by omega) _ _
          · exact grown_new (grown_new (grown_new (grown_new HGR.out (Nat.le_refl _) _ _) (Nat.le_refl _) _ _) (Nat.le_refl _) _ _) (Nat.le_refl _) _ _
end Go.Proofs.Ytjihkdbloffbmaa

/-
  Contracts: is all read?
-/
namespace Go.Proofs.Ytjihkdbloffbmaa
open Go.RowKit
set_option maxRecDepth 100000

set_option maxHeartbeats 2000000 in
theorem spDone_any (g : Nat) (s : ByteArray) (st : St) (w : World) (h : SpAt g s st w) :
    Calls Try.prog 60 #[.pointer (some ⟨g, 0, none⟩)] w fun e w' => e = .returned (.bool (decide (st = some s.size))) ∧ w' = w.drew := by
  obtain ⟨hs, a, b, hg, ha, hst⟩ := h
  obtain ⟨c0, c1, c2, cf⟩ := cells3 hg
  clear hg
  rcases hst with ⟨p, rfl, rfl, rfl, hp⟩ | ⟨rfl, rfl⟩
  · by_cases he : p = s.size
    · subst he
      go_enter Try.func60, Try.ntmps60
      go_wp2
      go_region_held3 (fun W => W.cell? ⟨g, 0, none⟩ = some (.string s) ∧ W.cell? ⟨g, 1, none⟩ = some (.int .i64 s.size) ∧ W.cell? ⟨g, 2, none⟩ = some (.bool false)) (go_keep) (fail)
      all_goals
        go_wp2
        go_ret
        exact ⟨by simp, rfl⟩
    · have hpe : ((p : Int) == (s.size : Int)) = false := by simp; omega
      go_enter Try.func60, Try.ntmps60
      go_wp2
      go_region_held3 (fun W => W.cell? ⟨g, 0, none⟩ = some (.string s) ∧ W.cell? ⟨g, 1, none⟩ = some (.int .i64 p) ∧ W.cell? ⟨g, 2, none⟩ = some (.bool false)) (go_keep) (fail)
      all_goals
        go_wp2
        go_ret
        exact ⟨by simp [he], rfl⟩
  · skip
    go_enter Try.func60, Try.ntmps60
    go_wp2
    refine wp_region_noPanic ?_
    refine wp_region_held_drew (S := (fun W => W.cell? ⟨g, 2, none⟩ = some (.bool true))) (by kernel_rfl) ?_ (fun hHeld => ?_)
    · (try dsimp only); go_keep
    refine takeD 0 3 (v := ?v1x0) rfl rfl (by kernel_rfl) (by kernel_rfl) (by kernel_rfl) (fun _ _ _ h => h) (by kernel_rfl) ?hy1x0 (by assumption) ?r1x0
    case hy1x0 => (intro W hSw; (try dsimp only at hSw); go_simp; try with_reducible rfl)
    simp only [Act.put, List.setIfInBounds_toArray, List.set_cons_zero, List.set_cons_succ]
    refine takeD 1 4 (v := ?v1x1) rfl rfl (by kernel_rfl) (by kernel_rfl) (by kernel_rfl) (fun _ _ _ h => h) (by kernel_rfl) ?hy1x1 (by assumption) ?r1x1
    case hy1x1 => (intro W hSw; (try dsimp only at hSw); go_simp; try with_reducible rfl)
    simp only [Act.put, List.setIfInBounds_toArray, List.set_cons_zero, List.set_cons_succ]
    refine takeD 2 5 (v := ?v1x2) rfl rfl (by kernel_rfl) (by kernel_rfl) (by kernel_rfl) (fun _ _ _ h => h) (by kernel_rfl) ?hy1x2 (by assumption) ?r1x2
    case hy1x2 => (intro W hSw; (try dsimp only at hSw); go_simp; try with_reducible rfl)
    simp only [Act.put, List.setIfInBounds_toArray, List.set_cons_zero, List.set_cons_succ]
    refine takeD 3 6 (v := ?v1x3) rfl rfl (by kernel_rfl) (by kernel_rfl) (by kernel_rfl) (fun _ _ _ h => h) (by kernel_rfl) ?hy1x3 (by assumption) ?r1x3
    case hy1x3 => (intro W hSw; (try dsimp only at hSw); go_simp; try with_reducible rfl)
    simp only [Act.put, List.setIfInBounds_toArray, List.set_cons_zero, List.set_cons_succ]
    refine takeD 4 7 (v := ?v1x4) rfl rfl (by kernel_rfl) (by kernel_rfl) (by kernel_rfl) (fun _ _ _ h => h) (by kernel_rfl) ?hy1x4 (by assumption) ?r1x4
    case hy1x4 => (intro W hSw; (try dsimp only at hSw); go_simp; try with_reducible rfl)
    simp only [Act.put, List.setIfInBounds_toArray, List.set_cons_zero, List.set_cons_succ]
    refine takeD 5 8 (v := ?v1x5) rfl rfl (by kernel_rfl) (by kernel_rfl) (by kernel_rfl) (fun _ _ _ h => h) (by kernel_rfl) ?hy1x5 (by assumption) ?r1x5
    case hy1x5 => (intro W hSw; (try dsimp only at hSw); go_simp; try with_reducible rfl)
    simp only [Act.put, List.setIfInBounds_toArray, List.set_cons_zero, List.set_cons_succ]
    refine skipAll [(6, 9), (7, 10), (8, 11), (9, 12), (10, 13), (11, 14), (12, 15), (13, 16), (14, 17), (15, 18)] (by kernel_rfl) (fun _ _ _ _ _ h => h) (by assumption) (by kernel_rfl) ?_
    simp only [putAll, listAll, List.foldl_cons, List.foldl_nil, Act.put, List.setIfInBounds_toArray, List.set_cons_zero, List.set_cons_succ]
    refine takeD 16 19 (v := ?v1x16) rfl rfl (by kernel_rfl) (by kernel_rfl) (by kernel_rfl) (fun _ _ _ h => h) (by kernel_rfl) ?hy1x16 (by assumption) ?r1x16
    case hy1x16 => (intro W hSw; (try dsimp only at hSw); go_simp; try with_reducible rfl)
    simp only [Act.put, List.setIfInBounds_toArray, List.set_cons_zero, List.set_cons_succ]
    refine takeD 17 2 (v := ?v1x17) rfl rfl (by kernel_rfl) (by kernel_rfl) (by kernel_rfl) (fun _ _ _ h => h) (by kernel_rfl) ?hy1x17 (by assumption) ?r1x17
    case hy1x17 => (intro W hSw; (try dsimp only at hSw); go_simp; try with_reducible rfl)
    simp only [Act.put, List.setIfInBounds_toArray, List.set_cons_zero, List.set_cons_succ]
    refine wpAnyH_done (by kernel_rfl) ?_ _
    refine NoPanic.normal ?_
    go_wp2
    go_ret
    exact ⟨rfl, rfl⟩
end Go.Proofs.Ytjihkdbloffbmaa

/-
  Contracts: is all read? (the program's)
-/
namespace Go.Proofs.Ytjihkdbloffbmaa
open Go.RowKit
set_option maxRecDepth 100000

set_option maxHeartbeats 2000000 in
theorem readAll_any (g : Nat) (s : ByteArray) (st : St) (w : World) (h : CurAt g s st w) :
    Calls Try.prog 56 #[.pointer (some ⟨g, 0, none⟩)] w fun e w' => e = .returned (.bool (decide (st = some s.size))) ∧ w' = w.drew := by
  obtain ⟨hs, a, b, hg, hst⟩ := h
  obtain ⟨c0, c1, c2, cf⟩ := cells3 hg
  clear hg
  rcases hst with ⟨p, rfl, rfl, rfl, hp⟩ | ⟨rfl, c, rfl⟩
  · by_cases he : p = s.size
    · subst he
      go_enter Try.func56, Try.ntmps56
      go_wp2
      go_region_held3 (fun W => W.cell? ⟨g, 0, none⟩ = some (.string s) ∧ W.cell? ⟨g, 1, none⟩ = some (.int .i64 s.size) ∧ W.cell? ⟨g, 2, none⟩ = some (.nilIface)) (go_keep) (fail)
      all_goals
        go_wp2
        go_ret
        exact ⟨by simp, rfl⟩
    · have hpe : ((p : Int) == (s.size : Int)) = false := by simp; omega
      go_enter Try.func56, Try.ntmps56
      go_wp2
      go_region_held3 (fun W => W.cell? ⟨g, 0, none⟩ = some (.string s) ∧ W.cell? ⟨g, 1, none⟩ = some (.int .i64 p) ∧ W.cell? ⟨g, 2, none⟩ = some (.nilIface)) (go_keep) (fail)
      all_goals
        go_wp2
        go_ret
        exact ⟨by simp [he], rfl⟩
  · have hfv : faultV c = .iface 178 (.agg #[.int .i64 c]) := rfl
    rw [hfv] at c2
    go_enter Try.func56, Try.ntmps56
    go_wp2
    refine wp_region_noPanic ?_
    refine wp_region_held_drew (S := (fun W => W.cell? ⟨g, 2, none⟩ = some (.iface 178 (.agg #[.int .i64 c])))) (by kernel_rfl) ?_ (fun hHeld => ?_)
    · (try dsimp only); go_keep
    refine takeD 0 3 (v := ?v2x0) rfl rfl (by kernel_rfl) (by kernel_rfl) (by kernel_rfl) (fun _ _ _ h => h) (by kernel_rfl) ?hy2x0 (by assumption) ?r2x0
    case hy2x0 => (intro W hSw; (try dsimp only at hSw); go_simp; try with_reducible rfl)
    simp only [Act.put, List.setIfInBounds_toArray, List.set_cons_zero, List.set_cons_succ]
    refine takeD 1 4 (v := ?v2x1) rfl rfl (by kernel_rfl) (by kernel_rfl) (by kernel_rfl) (fun _ _ _ h => h) (by kernel_rfl) ?hy2x1 (by assumption) ?r2x1
    case hy2x1 => (intro W hSw; (try dsimp only at hSw); go_simp; try with_reducible rfl)
    simp only [Act.put, List.setIfInBounds_toArray, List.set_cons_zero, List.set_cons_succ]
    refine takeD 2 5 (v := ?v2x2) rfl rfl (by kernel_rfl) (by kernel_rfl) (by kernel_rfl) (fun _ _ _ h => h) (by kernel_rfl) ?hy2x2 (by assumption) ?r2x2
    case hy2x2 => (intro W hSw; (try dsimp only at hSw); go_simp; try with_reducible rfl)
    simp only [Act.put, List.setIfInBounds_toArray, List.set_cons_zero, List.set_cons_succ]
    refine takeD 3 6 (v := ?v2x3) rfl rfl (by kernel_rfl) (by kernel_rfl) (by kernel_rfl) (fun _ _ _ h => h) (by kernel_rfl) ?hy2x3 (by assumption) ?r2x3
    case hy2x3 => (intro W hSw; (try dsimp only at hSw); go_simp; try with_reducible rfl)
    simp only [Act.put, List.setIfInBounds_toArray, List.set_cons_zero, List.set_cons_succ]
    refine takeD 4 7 (v := ?v2x4) rfl rfl (by kernel_rfl) (by kernel_rfl) (by kernel_rfl) (fun _ _ _ h => h) (by kernel_rfl) ?hy2x4 (by assumption) ?r2x4
    case hy2x4 => (intro W hSw; (try dsimp only at hSw); go_simp; try with_reducible rfl)
    simp only [Act.put, List.setIfInBounds_toArray, List.set_cons_zero, List.set_cons_succ]
    refine takeD 5 8 (v := ?v2x5) rfl rfl (by kernel_rfl) (by kernel_rfl) (by kernel_rfl) (fun _ _ _ h => h) (by kernel_rfl) ?hy2x5 (by assumption) ?r2x5
    case hy2x5 => (intro W hSw; (try dsimp only at hSw); go_simp; try with_reducible rfl)
    simp only [Act.put, List.setIfInBounds_toArray, List.set_cons_zero, List.set_cons_succ]
    refine skipAll [(6, 9), (7, 10), (8, 11), (9, 12), (10, 13), (11, 14), (12, 15), (13, 16), (14, 17), (15, 18)] (by kernel_rfl) (fun _ _ _ _ _ h => h) (by assumption) (by kernel_rfl) ?_
    simp only [putAll, listAll, List.foldl_cons, List.foldl_nil, Act.put, List.setIfInBounds_toArray, List.set_cons_zero, List.set_cons_succ]
    refine takeD 16 19 (v := ?v2x16) rfl rfl (by kernel_rfl) (by kernel_rfl) (by kernel_rfl) (fun _ _ _ h => h) (by kernel_rfl) ?hy2x16 (by assumption) ?r2x16
    case hy2x16 => (intro W hSw; (try dsimp only at hSw); go_simp; try with_reducible rfl)
    simp only [Act.put, List.setIfInBounds_toArray, List.set_cons_zero, List.set_cons_succ]
    refine takeD 17 2 (v := ?v2x17) rfl rfl (by kernel_rfl) (by kernel_rfl) (by kernel_rfl) (fun _ _ _ h => h) (by kernel_rfl) ?hy2x17 (by assumption) ?r2x17
    case hy2x17 => (intro W hSw; (try dsimp only at hSw); go_simp; try with_reducible rfl)
    simp only [Act.put, List.setIfInBounds_toArray, List.set_cons_zero, List.set_cons_succ]
    refine wpAnyH_done (by kernel_rfl) ?_ _
    refine NoPanic.normal ?_
    go_wp2
    go_ret
    exact ⟨rfl, rfl⟩
end Go.Proofs.Ytjihkdbloffbmaa

/-
  Contracts: are numbers columns, of so many? The program's answer and the specification's.
-/
namespace Go.Proofs.Ytjihkdbloffbmaa
open Go.RowKit
set_option maxRecDepth 100000

set_option maxHeartbeats 1000000 in
theorem index_any (A B : Nat) (ao : Option Addr) (cap : Nat) (l : List Int) (k : Nat) (x : Int) (w : World) (hk : k ≤ l.length) (hl : l.length ≤ maxLen) (hr : IntRow w A B ao l) :
    Calls Try.prog 135 #[.slice ao k cap, .int .i64 x] w fun e w' => ∃ r : Int, e = .returned (.int .i64 r) ∧ (0 ≤ r ∧ x ∈ l.take k ∨ r < 0 ∧ x ∉ l.take k) ∧ w' = w := by
  unfold maxLen at hl
  have HR : Hid (IntRow w A B ao l) := hr
  clear hr
  go_enter Try.func135, Try.ntmps135
  go_wp2
  go_loop [8] (fun i => ∃ j : Nat, j ≤ k ∧ i = .int .i64 j ∧ Hid (x ∉ l.take j)) (fun i => k - (intOf i).toNat)
  case atStart => exact ⟨0, Nat.zero_le _, rfl, by show _ ∉ _; simp⟩
  case round =>
    obtain ⟨j, hj, rfl, HN⟩ := hrel
    by_cases hlt : j < k
    · obtain ⟨b, off, y, rfl, hbB, hv, hy, d0⟩ := HR.out.at j (by omega)
      have HV : Hid (l.getD j 0 = y) := hv
      clear hv hy
      by_cases hxy : x = y
      · subst hxy
        have HM : Hid (x ∈ l.take k) := by
          have h1 : x ∈ l.take (j + 1) := (mem_take_succ l x j (by omega)).2 (.inr HV.out.symm)
          exact (List.take_subset_take_left l (by omega : j + 1 ≤ k)) h1
        clear HV
        go_wp2
        go_ret
        exact ⟨j, rfl, .inl ⟨by omega, HM.out⟩, rfl⟩
      · have HN2 : Hid (x ∉ l.take (j + 1)) := fun h => by
          rcases (mem_take_succ l x j (by omega)).1 h with h | h
          · exact HN.out h
          · exact hxy (h.trans HV.out)
        clear HV
        go_wp2
        go_round
        case rel => exact ⟨j + 1, by omega, by go_num, HN2⟩
        case measure => simp [intOf]; omega
    · obtain rfl : j = k := by omega
      go_wp2
      go_ret
      exact ⟨-1, rfl, .inr ⟨by omega, HN.out⟩, rfl⟩
theorem contains_any (A B : Nat) (ao : Option Addr) (cap : Nat) (l : List Int) (k : Nat) (x : Int) (w : World) (hk : k ≤ l.length) (hl : l.length ≤ maxLen) (hr : IntRow w A B ao l) :
    Calls Try.prog 133 #[.slice ao k cap, .int .i64 x] w fun e w' => e = .returned (.bool (decide (x ∈ l.take k))) ∧ w' = w := by
  go_enter Try.func133, Try.ntmps133
  go_wp2_with fail
  refine (index_any A B ao cap l k x _ hk hl hr).mono ?_
  rintro e w1 ⟨r, rfl, hc, rfl⟩
  rcases hc with ⟨h0, hm⟩ | ⟨h0, hm⟩
  · have HM : Hid (x ∈ l.take k) := hm
    clear hm
    go_wp2
    go_ret
    exact ⟨ret_bool (by rw [decide_eq_true HM.out]), rfl⟩
  · have HM : Hid (x ∉ l.take k) := hm
    clear hm
    go_wp2
    go_ret
    exact ⟨ret_bool (by rw [decide_eq_false HM.out]; simp; omega), rfl⟩
theorem plOk_true {m : Nat} {l : List Int} {i : Nat} {x : Int} (hv : l.getD i 0 = x) (h0 : 0 ≤ x) (h1 : x < m) (h2 : x ∉ l.take i) : plOk m l i = true := by
  unfold plOk; rw [hv]; simp [h0, h1, h2]
theorem plOk_low {m : Nat} {l : List Int} {i : Nat} {x : Int} (hv : l.getD i 0 = x) (h0 : x < 0) : plOk m l i = false := by
  unfold plOk; rw [hv]; simp [show ¬ (0 ≤ x) by omega]
theorem plOk_high {m : Nat} {l : List Int} {i : Nat} {x : Int} (hv : l.getD i 0 = x) (h0 : (m : Int) ≤ x) : plOk m l i = false := by
  unfold plOk; rw [hv]; simp [show ¬ (x < m) by omega]
theorem plOk_seen {m : Nat} {l : List Int} {i : Nat} {x : Int} (hv : l.getD i 0 = x) (h0 : x ∈ l.take i) : plOk m l i = false := by
  unfold plOk; rw [hv]; simp [h0]
theorem isCols_upto {m : Nat} {l : List Int} (h : 1 ≤ l.length) : isCols m l = upto (plOk m l) l.length := by
  unfold isCols; simp [h]
set_option maxHeartbeats 2000000 in
theorem areColumns_any (A B : Nat) (ao : Option Addr) (cap : Nat) (l : List Int) (m : Nat) (w : World) (hl : l.length ≤ cap) (hc : cap ≤ maxLen) (hr : IntRow w A B ao l) :
    Calls Try.prog 124 #[.slice ao l.length cap, .int .i64 m] w fun e w' => e = .returned (.bool (isCols m l)) ∧ w' = w := by
  unfold maxLen at hc
  by_cases h1 : l.length < 1
  · have HV : Hid (isCols m l = false) := isCols_not (.inl h1)
    go_enter Try.func124, Try.ntmps124
    go_wp2
    go_ret
    exact ⟨ret_bool HV.out.symm, rfl⟩
  · by_cases h2 : m < l.length
    · have HV : Hid (isCols m l = false) := isCols_not (.inr h2)
      go_enter Try.func124, Try.ntmps124
      go_wp2
      go_ret
      exact ⟨ret_bool HV.out.symm, rfl⟩
    · have HV : Hid (isCols m l = upto (plOk m l) l.length) := isCols_upto (by omega)
      have HR : Hid (IntRow w A B ao l) := hr
      clear hr
      go_enter Try.func124, Try.ntmps124
      go_wp2
      go_loop [18] (fun i => ∃ j : Nat, j ≤ l.length ∧ i = .int .i64 j ∧ Hid (upto (plOk m l) j = true)) (fun i => l.length - (intOf i).toNat)
      case atStart => exact ⟨0, Nat.zero_le _, rfl, rfl⟩
      case round =>
        obtain ⟨j, hj, rfl, HU⟩ := hrel
        by_cases hlt : j < l.length
        · obtain ⟨b, off, x, rfl, hbB, hv, hx, d0⟩ := HR.out.at j hlt
          have HX : Hid (l.getD j 0 = x) := hv
          clear hv hx
          by_cases hx0 : x < 0
          · have HF : Hid (isCols m l = false) := by show _ = _; rw [HV.out]; exact upto_false hlt (plOk_low HX.out hx0)
            clear HX HU HV
            go_wp2
            go_ret
            exact ⟨ret_bool HF.out.symm, rfl⟩
          · by_cases hx1 : (m : Int) ≤ x
            · have HF : Hid (isCols m l = false) := by show _ = _; rw [HV.out]; exact upto_false hlt (plOk_high HX.out hx1)
              clear HX HU HV
              go_wp2
              go_ret
              exact ⟨ret_bool HF.out.symm, rfl⟩
            · have hc0 := contains_any A B (some ⟨b, off, none⟩) cap l j x w hj (by unfold maxLen; omega) HR.out
              by_cases hsn : x ∈ l.take j
              · rw [decide_eq_true hsn] at hc0
                have HC : Hid (Calls Try.prog 133 #[.slice (some ⟨b, off, none⟩) j cap, .int .i64 x] w fun e w' => e = .returned (.bool true) ∧ w' = w) := hc0
                have HF : Hid (isCols m l = false) := by show _ = _; rw [HV.out]; exact upto_false hlt (plOk_seen HX.out hsn)
                clear HX HU HV hc0 hsn
                go_wp2_with (go_at_call 133; refine (HC.out).mono ?_; rintro e w1 ⟨rfl, rfl⟩)
                go_ret
                exact ⟨ret_bool HF.out.symm, rfl⟩
              · rw [decide_eq_false hsn] at hc0
                have HC : Hid (Calls Try.prog 133 #[.slice (some ⟨b, off, none⟩) j cap, .int .i64 x] w fun e w' => e = .returned (.bool false) ∧ w' = w) := hc0
                have HU2 : Hid (upto (plOk m l) (j + 1) = true) := by show _ = _; rw [upto_succ, HU.out, plOk_true HX.out (by omega) (by omega) hsn]; rfl
                clear HX HU hc0 hsn
                go_wp2_with (go_at_call 133; refine (HC.out).mono ?_; rintro e w1 ⟨rfl, rfl⟩)
                go_round
                case rel => exact ⟨j + 1, by omega, by go_num, HU2⟩
                case measure => simp [intOf]; omega
        · obtain rfl : j = l.length := by omega
          have HF : Hid (isCols m l = true) := by show _ = _; rw [HV.out]; exact HU.out
          go_wp2
          go_ret
          exact ⟨ret_bool HF.out.symm, rfl⟩
set_option maxHeartbeats 2000000 in
theorem specColumns_any (A B : Nat) (ao : Option Addr) (cap : Nat) (l : List Int) (m : Nat) (w : World) (hB : B ≤ w.heap.size) (hl : l.length ≤ maxLen) (hr : IntRow w A B ao l) :
    Calls Try.prog 68 #[.slice ao l.length cap, .int .i64 m] w fun e w' => e = .returned (.bool (isCols m l)) ∧ Below w.heap.size w w' := by
  unfold maxLen at hl
  by_cases h1 : l.length < 1
  · have HV : Hid (isCols m l = false) := isCols_not (.inl h1)
    go_enter Try.func68, Try.ntmps68
    go_wp2
    go_ret
    exact ⟨ret_bool HV.out.symm, Below.refl _ _⟩
  · have HV : Hid (isCols m l = upto (plOk m l) l.length) := isCols_upto (by omega)
    have HR : Hid (IntRow w A B ao l) := hr
    clear hr
    go_enter Try.func68, Try.ntmps68
    go_wp2
    go_loopw [5] (fun i wr => ∃ j : Nat, j ≤ l.length ∧ i = .int .i64 j ∧ Hid (upto (plOk m l) j = true) ∧ Below w.heap.size w wr) (fun i _ => l.length - (intOf i).toNat)
    case atStart => exact ⟨0, Nat.zero_le _, rfl, rfl, Below.refl _ _⟩
    case round =>
      obtain ⟨j, hj, rfl, HU, hb⟩ := hrel
      by_cases hlt : j < l.length
      · obtain ⟨b, off, x, rfl, hbB, hv, hx, d0⟩ := (HR.out.kept (hb.mono hB)).at j hlt
        have HX : Hid (l.getD j 0 = x) := hv
        clear hv hx
        by_cases hx0 : x < 0
        · have HF : Hid (isCols m l = false) := by show _ = _; rw [HV.out]; exact upto_false hlt (plOk_low HX.out hx0)
          clear HX HU HV
          go_wp2
          go_ret
          exact ⟨ret_bool HF.out.symm, hb⟩
        · by_cases hx1 : (m : Int) ≤ x
          · have HF : Hid (isCols m l = false) := by show _ = _; rw [HV.out]; exact upto_false hlt (plOk_high HX.out hx1)
            clear HX HU HV
            go_wp2
            go_ret
            exact ⟨ret_bool HF.out.symm, hb⟩
          · go_wp2
            have HB : Hid (Below w.heap.size w wr) := hb
            clear hb
            go_loopw [6] (fun i wi => ∃ k : Nat, k ≤ j ∧ i = .int .i64 k ∧ Hid (x ∉ l.take k) ∧ Below w.heap.size w wi) (fun i _ => j - (intOf i).toNat)
            case atStart => exact ⟨0, Nat.zero_le _, rfl, by show _ ∉ _; simp, HB.out⟩
            case round =>
              obtain ⟨k, hk, rfl, HN, hb⟩ := hrel
              by_cases hki : k < j
              · obtain ⟨b1, off1, y, he1, _, hv1, _, d1⟩ := (HR.out.kept (hb.mono hB)).at k (by omega)
                obtain ⟨b2, off2, x2, he2, _, hv2, _, d2⟩ := (HR.out.kept (hb.mono hB)).at j hlt
                simp only [Option.some.injEq, Addr.mk.injEq, and_true] at he1 he2
                obtain ⟨rfl, rfl⟩ := he1
                obtain ⟨rfl, rfl⟩ := he2
                obtain rfl : x = x2 := HX.out.symm.trans hv2
                have HY : Hid (l.getD k 0 = y) := hv1
                have hi0 : (0 : Int) ≤ (k : Int) := by omega
                have hi1 : (k : Int) < (l.length : Int) := by omega
                have hi2 : (0 : Int) ≤ (j : Int) := by omega
                have hi3 : (j : Int) < (l.length : Int) := by omega
                have ht := (Int.toNat_natCast k)
                have ht2 := (Int.toNat_natCast j)
                clear hv1 hv2 d0
                by_cases hxy : y = x
                · subst hxy
                  have HF : Hid (isCols m l = false) := by
                    show _ = _
                    rw [HV.out]
                    refine upto_false hlt (plOk_seen HX.out ?_)
                    exact (List.take_subset_take_left l (by omega : k + 1 ≤ j)) ((mem_take_succ l y k (by omega)).2 (.inr HY.out.symm))
                  clear HX HY HU HV HN
                  go_wp2
                  go_region_held3 (fun W => W.cell? ⟨b, off + k, none⟩ = some (.int .i64 y) ∧ W.cell? ⟨b, off + j, none⟩ = some (.int .i64 y)) (go_keep) (fail)
                  all_goals
                    have hb2 : Below w.heap.size w _ := hb.drew
                    go_wp2
                    go_ret
                    exact ⟨ret_bool HF.out.symm, hb2⟩
                · have HN2 : Hid (x ∉ l.take (k + 1)) := fun h => by
                    rcases (mem_take_succ l x k (by omega)).1 h with h | h
                    · exact HN.out h
                    · exact hxy (h.trans HY.out).symm
                  clear HY HN
                  go_wp2
                  go_region_held3 (fun W => W.cell? ⟨b, off + k, none⟩ = some (.int .i64 y) ∧ W.cell? ⟨b, off + j, none⟩ = some (.int .i64 x)) (go_keep) (fail)
                  all_goals
                    have hb2 : Below w.heap.size w _ := hb.drew
                    clear hb d1 d2
                    go_wp2
                    go_roundw
                    case rel => exact ⟨k + 1, by omega, by go_num, HN2, hb2⟩
                    case measure => simp [intOf]; omega
              · obtain rfl : k = j := by omega
                have HU2 : Hid (upto (plOk m l) (k + 1) = true) := by show _ = _; rw [upto_succ, HU.out, plOk_true HX.out (by omega) (by omega) HN.out]; rfl
                clear HX HN HU
                go_wp2
                go_roundw
                case rel => exact ⟨k + 1, by omega, by go_num, HU2, hb⟩
                case measure => simp [intOf]; omega
      · obtain rfl : j = l.length := by omega
        have HF : Hid (isCols m l = true) := by show _ = _; rw [HV.out]; exact HU.out
        go_wp2
        go_ret
        exact ⟨ret_bool HF.out.symm, hb⟩
end Go.Proofs.Ytjihkdbloffbmaa

/-
  Contracts: the numbers of columns by their names, of the program.
-/
namespace Go.Proofs.Ytjihkdbloffbmaa
open Go.RowKit Go.Maps Go.WideMaps
set_option maxRecDepth 100000

theorem run_makeMapN (n : Int) (w : World) : (Instr.makeMap 85 (some (.int .i64 n))).run Try.prog w = .ok (.map (some w.heap.size)) (w.alloc (.map #[] 0)) := by
  simp [Instr.makeMap, run_underlying Try.underlying85, asInt, newObj, Result.andThen]
  rfl
theorem keyLaw : Keyed Try.prog 9 := string_keyed Try.underlying9
theorem zeroI (w : World) : (zeroValue 2).run Try.prog w = .ok (.int .i64 0) w := by kernel_rfl

/-- A map, whichever, and a word. -/
def MapRes (e : Ending) (b : Bool) : Prop := ∃ mo, e = .returned (.tuple #[.map mo, .bool b])
def colsOk (cs : List Col) : Bool := manyOk cs.length && upto (colOk cs) cs.length
/-- The map has just the names of the first k columns. -/
def Named (D : DataW Unit) (cs : List Col) (k : Nat) : Prop := IsMap D ∧ ∀ x : ByteArray, Maps.has D (.string x.data.toList) = (cs.take k).any (fun c => decide (c.name = x))
theorem named_zero (cs : List Col) : Named (.map []) cs 0 := ⟨isMap_empty, fun _ => rfl⟩
theorem ba_extS {a b : ByteArray} (h : a.data.toList = b.data.toList) : a = b := by
  cases a; cases b; simp only [ByteArray.mk.injEq]; exact Array.toList_inj.1 h
theorem isMap_put {D : DataW Unit} (h : IsMap D) (k : Lit) (d : DataW Unit) : IsMap (D.put k d) := by
  obtain ⟨es, rfl⟩ := h; exact ⟨_, rfl⟩
theorem named_succ {D : DataW Unit} {cs : List Col} {k : Nat} (h : Named D cs k) (hk : k < cs.length) {nm : ByteArray} (hn : (cs.getD k noCol).name = nm) (d : DataW Unit) : Named (D.put (.string nm.data.toList) d) cs (k + 1) := by
  refine ⟨isMap_put h.1 _ _, fun x => ?_⟩
  rw [seen_succ cs x k hk, hn]
  by_cases e : nm = x
  · subst e
    rw [has_put_same h.1 (by trivial)]; simp
  · rw [has_put_other (fun e' => e (ba_extS (by injection e' with e'; exact e'.symm))), h.2 x]; simp [e]
theorem colOk_true {cs : List Col} {i : Nat} {nm : ByteArray} {kd : Int} {nu : Bool} (hv : cs.getD i noCol = ⟨nm, kd, nu⟩) (h0 : nameOk nm.data.toList = true) (h1 : 1 ≤ kd) (h2 : kd ≤ 3) (h3 : (cs.take i).any (fun c => decide (c.name = nm)) = false) : colOk cs i = true := by
  unfold colOk; rw [hv]; simp only; rw [h0, h3]; simp [h1, h2]
theorem colOk_seen {cs : List Col} {i : Nat} {nm : ByteArray} {kd : Int} {nu : Bool} (hv : cs.getD i noCol = ⟨nm, kd, nu⟩) (h3 : (cs.take i).any (fun c => decide (c.name = nm)) = true) : colOk cs i = false := by
  unfold colOk; rw [hv]; simp only; rw [h3]; simp
theorem colOk_name {cs : List Col} {i : Nat} {nm : ByteArray} {kd : Int} {nu : Bool} (hv : cs.getD i noCol = ⟨nm, kd, nu⟩) (h0 : nameOk nm.data.toList = false) : colOk cs i = false := by
  unfold colOk; rw [hv]; simp only; rw [h0]; simp
theorem colOk_kind {cs : List Col} {i : Nat} {nm : ByteArray} {kd : Int} {nu : Bool} (hv : cs.getD i noCol = ⟨nm, kd, nu⟩) (h : kd ≤ 0 ∨ 3 < kd) : colOk cs i = false := by
  unfold colOk; rw [hv]; simp only
  rcases h with h | h
  · simp [show ¬ (1 ≤ kd) by omega]
  · simp [show ¬ (kd ≤ 3) by omega]
set_option maxHeartbeats 2000000 in
theorem numbersByName_any (A B : Nat) (ao : Option Addr) (cap : Nat) (cs : List Col) (w : World) (hB : B ≤ w.heap.size) (hl : cs.length ≤ maxLen) (hr : ColRow w A B ao cs) :
    Calls Try.prog 89 #[.slice ao cs.length cap] w fun e w' => MapRes e (colsOk cs) ∧ Below w.heap.size w w' := by
  unfold maxLen at hl
  by_cases h1 : cs.length < 1
  · have HV : Hid (colsOk cs = false) := by show _ = _; unfold colsOk manyOk; simp [show ¬ (1 ≤ cs.length) by omega]
    go_enter Try.func89, Try.ntmps89
    go_wp2
    go_ret2
    exact ⟨⟨none, by rw [HV.out]; rfl⟩, Below.refl _ _⟩
  · by_cases h2 : 10 < cs.length
    · have HV : Hid (colsOk cs = false) := by show _ = _; unfold colsOk manyOk; simp [show ¬ (cs.length ≤ 10) by omega]
      go_enter Try.func89, Try.ntmps89
      go_wp2
      go_ret2
      exact ⟨⟨none, by rw [HV.out]; rfl⟩, Below.refl _ _⟩
    · have HV : Hid (colsOk cs = upto (colOk cs) cs.length) := by show _ = _; unfold colsOk manyOk; simp [show 1 ≤ cs.length by omega, show cs.length ≤ 10 by omega]
      have HR : Hid (ColRow w A B ao cs) := hr
      clear hr
      have hmm := run_makeMapN
      go_enter Try.func89, Try.ntmps89
      go_wp2
      clear hmm
      go_loopw [22] (fun i wr => ∃ (j : Nat) (D : DataW Unit), j ≤ cs.length ∧ i = .int .i64 j ∧ wr.ownsMap Try.prog 9 (plainElem Try.prog 2) w.heap.size j D ∧ Hid (Named D cs j) ∧ Hid (upto (colOk cs) j = true) ∧ Below w.heap.size w wr) (fun i _ => cs.length - (intOf i).toNat)
      case atStart => exact ⟨0, _, Nat.zero_le _, rfl, World.ownsMap_made _ _ _ _, named_zero cs, rfl, (Below.refl _ _).alloc (Nat.le_refl _) _⟩
      case round =>
        obtain ⟨j, D, hj, rfl, hown, HN, HU, hb⟩ := hrel
        by_cases hlt : j < cs.length
        · obtain ⟨b, off, nm, kd, nu, rfl, hbB, hv, htt, hki, d0, d1, d2⟩ := (HR.out.kept (hb.mono hB)).at j hlt
          have HX : Hid (cs.getD j noCol = ⟨nm, kd, nu⟩) := hv
          have hkey : keyOf Try.prog 9 (.string nm) = some (.string nm.data.toList) := keyOf_string_mk Try.underlying9 htt
          have hhas := HN.out.2 nm
          clear hv hki
          by_cases hsn : (cs.take j).any (fun c => decide (c.name = nm)) = true
          · rw [hsn] at hhas
            have HF : Hid (colsOk cs = false) := by show _ = _; rw [HV.out]; exact upto_false hlt (colOk_seen HX.out hsn)
            clear HX HU HV hsn HN
            go_wp2_with (first
              | (at_lookup; refine wpList_lookup_own_ok_int _ rfl _ _ 85 rfl 9 2 .i64 keyLaw Try.underlying85 Try.underlying2 (zeroI _) w.heap.size j D rfl (hown.alloc _) _ _ rfl hkey ?_; intro c hat hwc; rw [hhas])
              | go_in)
            go_ret2
            exact ⟨⟨_, by rw [HF.out]; rfl⟩, hb.alloc hb.size _⟩
          · rw [Bool.not_eq_true] at hsn
            rw [hsn] at hhas
            cases hnm : nameOk nm.data.toList with
            | false =>
              have HF : Hid (colsOk cs = false) := by show _ = _; rw [HV.out]; exact upto_false hlt (colOk_name HX.out hnm)
              have hc0 := fun w => implName_any nm w
              rw [hnm] at hc0
              have HC : Hid (∀ w, Calls Try.prog 90 #[.string nm] w fun e w' => e = .returned (.bool false) ∧ w' = w) := hc0
              clear HX HU HV hsn HN hnm hc0
              go_wp2_with (first
                | (at_lookup; refine wpList_lookup_own_ok_int _ rfl _ _ 85 rfl 9 2 .i64 keyLaw Try.underlying85 Try.underlying2 (zeroI _) w.heap.size j D rfl (hown.alloc _) _ _ rfl hkey ?_; intro c hat hwc; rw [hhas])
                | (go_at_call 90; refine (HC.out _).mono ?_; rintro e w1 ⟨rfl, rfl⟩)
                | go_in)
              go_ret2
              exact ⟨⟨_, by rw [HF.out]; rfl⟩, hb.alloc hb.size _⟩
            | true =>
              have hc0 := fun w => implName_any nm w
              rw [hnm] at hc0
              have HC : Hid (∀ w, Calls Try.prog 90 #[.string nm] w fun e w' => e = .returned (.bool true) ∧ w' = w) := hc0
              clear hc0
              by_cases hkd : kd ≤ 0 ∨ 3 < kd
              · have HF : Hid (colsOk cs = false) := by show _ = _; rw [HV.out]; exact upto_false hlt (colOk_kind HX.out hkd)
                clear HX HU HV hsn HN hnm
                rcases hkd with hkd | hkd
                all_goals
                  go_wp2_with (first
                    | (at_lookup; refine wpList_lookup_own_ok_int _ rfl _ _ 85 rfl 9 2 .i64 keyLaw Try.underlying85 Try.underlying2 (zeroI _) w.heap.size j D rfl (hown.alloc _) _ _ rfl hkey ?_; intro c hat hwc; rw [hhas])
                    | (go_at_call 90; refine (HC.out _).mono ?_; rintro e w1 ⟨rfl, rfl⟩)
                    | go_in)
                  go_ret2
                  exact ⟨⟨_, by rw [HF.out]; rfl⟩, hb.alloc hb.size _⟩
              · have hk1 : 1 ≤ kd := by omega
                have hk2 : kd ≤ 3 := by omega
                have HU2 : Hid (upto (colOk cs) (j + 1) = true) := by show _ = _; rw [upto_succ, HU.out, colOk_true HX.out hnm hk1 hk2 hsn]; rfl
                have HN2 : Hid (Named (D.put (.string nm.data.toList) (.lit (.int .i64 j))) cs (j + 1)) := named_succ HN.out hlt (by rw [HX.out]) _
                clear HX HU hsn HN hnm hkd
                go_wp2_with (first
                  | (at_lookup; refine wpList_lookup_own_ok_int _ rfl _ _ 85 rfl 9 2 .i64 keyLaw Try.underlying85 Try.underlying2 (zeroI _) w.heap.size j D rfl (hown.alloc _) _ _ rfl hkey ?_; intro c hat hwc; rw [hhas])
                  | (go_at_call 90; refine (HC.out _).mono ?_; rintro e w1 ⟨rfl, rfl⟩)
                  | (at_mapUpdate; refine wpList_mapUpdate_own _ rfl _ _ _ 85 rfl 9 2 keyLaw Try.underlying85 _ w.heap.size j _ rfl (hown.alloc _) (by unfold maxLen; omega) _ _ _ rfl rfl hkey _ [] (plainElem_int Try.underlying2 (WalkArith.wf_i64 (by omega))) ?_; intro w1 hown1 hgrow1)
                  | go_in)
                have hb2 := (hb.alloc hb.size _).grown hgrow1 (by have := hb.size; simp; omega) (fun j hj => by cases hj; exact Nat.le_refl _)
                clear hgrow1 hown hb d0 d1 d2
                go_wp2
                go_roundw
                case rel => exact ⟨j + 1, _, by omega, by go_num, hown1, HN2, HU2, hb2⟩
                case measure => simp [intOf]; omega
        · obtain rfl : j = cs.length := by omega
          have HF : Hid (colsOk cs = true) := by show _ = _; rw [HV.out]; exact HU.out
          go_wp2
          go_ret2
          exact ⟨⟨_, by rw [HF.out]; rfl⟩, hb⟩
end Go.Proofs.Ytjihkdbloffbmaa
