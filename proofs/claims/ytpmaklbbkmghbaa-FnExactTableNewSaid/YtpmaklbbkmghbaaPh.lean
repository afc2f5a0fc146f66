/-
  Contracts and plain laws, part 8 of 9: RdS, RdSA, RdS2, RdS3, SOwn3, RdS4, RdE, RdE2, RdF, SMark3
-/
import Derived.Test.YtpmaklbbkmghbaaPg

/-
  Contracts: the specification's reader: its number and its text.
-/
namespace Go.Proofs.Ytpmaklbbkmghbaa
open Go.RowKit
set_option maxRecDepth 100000

theorem setc1 {W : World} {g : Nat} {x a b z : Value} {t : TypeId} (h : W.heap[g]? = some (.cells #[x, a, b] t (0, 0))) :
    (W.setCell ⟨g, 1, none⟩ z).heap[g]? = some (.cells #[x, z, b] t (0, 0)) := by
  have h2 := heap_setCell_same W g 1 _ t z h
  simpa using h2
theorem far3_at {W : World} {g R : Nat} {x y z : Value} {o : Obj} (h : W.heap[g]? = some o) (hne : g ≠ R) : (((W.setCell ⟨R, 0, none⟩ x).setCell ⟨R, 1, none⟩ y).setCell ⟨R, 2, none⟩ z).heap[g]? = some o := by
  rw [heap_far _ _ _ _ _ hne, heap_far _ _ _ _ _ hne, heap_far _ _ _ _ _ hne]; exact h
theorem far3_set1 {W : World} {g R : Nat} {x y z q a b v : Value} {t : TypeId} (h : W.heap[g]? = some (.cells #[q, a, b] t (0, 0))) (hne : g ≠ R) :
    ((((W.setCell ⟨R, 0, none⟩ x).setCell ⟨R, 1, none⟩ y).setCell ⟨R, 2, none⟩ z).setCell ⟨g, 1, none⟩ v).heap[g]? = some (.cells #[q, v, b] t (0, 0)) := setc1 (far3_at h hne)
theorem far3_set2 {W : World} {g R : Nat} {x y z q a b v : Value} {t : TypeId} (h : W.heap[g]? = some (.cells #[q, a, b] t (0, 0))) (hne : g ≠ R) :
    ((((W.setCell ⟨R, 0, none⟩ x).setCell ⟨R, 1, none⟩ y).setCell ⟨R, 2, none⟩ z).setCell ⟨g, 2, none⟩ v).heap[g]? = some (.cells #[q, a, v] t (0, 0)) := setc2 (far3_at h hne)
theorem new_set1 {W : World} {g : Nat} {q a b v : Value} {t : TypeId} {o : Obj} (h : W.heap[g]? = some (.cells #[q, a, b] t (0, 0))) : ((W.setCell ⟨g, 1, none⟩ v).alloc o).heap[g]? = some (.cells #[q, v, b] t (0, 0)) :=
  (heap_old _ _ _ (Array.getElem?_eq_some_iff.1 (setc1 h)).1).trans (setc1 h)
theorem new_set2 {W : World} {g : Nat} {q a b v : Value} {t : TypeId} {o : Obj} (h : W.heap[g]? = some (.cells #[q, a, b] t (0, 0))) : ((W.setCell ⟨g, 2, none⟩ v).alloc o).heap[g]? = some (.cells #[q, a, v] t (0, 0)) :=
  (heap_old _ _ _ (Array.getElem?_eq_some_iff.1 (setc2 h)).1).trans (setc2 h)
set_option maxHeartbeats 1000000 in
theorem spNum_gen (g : Nat) (s : ByteArray) (a y c : Int) (x : Int) (b : Bool) (w : World) (h : w.heap[g]? = some (.cells #[.string s, .int .i64 a, .bool b] 93 (0, 0))) (ha : a ≤ 20000) (hx : getNumV s a = nOut x y c) :
    Calls Try.prog 96 #[.pointer (some ⟨g, 0, none⟩)] w fun e w' => (if b = true ∨ ¬ c = 0 then e = .returned (.int .i64 0) ∧ w'.heap[g]? = some (.cells #[.string s, .int .i64 a, .bool true] 93 (0, 0)) else e = .returned (.int .i64 x) ∧ w'.heap[g]? = some (.cells #[.string s, .int .i64 y, .bool false] 93 (0, 0))) ∧ w.grownBy w' (some g) := by
  have HN : Hid (∀ w, Calls Try.prog 117 #[.string s, .int .i64 a] w fun e w' => e = .returned (.agg #[.int .i64 x, .int .i64 y, .int .i64 c]) ∧ Below w.heap.size w w') := fun w => by have := specGetNum_any s a (by omega) w; rw [hx] at this; exact this
  have hgl := (Array.getElem?_eq_some_iff.1 h).1
  obtain ⟨c0, c1, c2, cf⟩ := cells3 h
  have HG0 : Hid ((w.alloc (.cells #[.int .i64 0, .int .i64 0, .int .i64 0] 149)).drew.heap[g]? = some (.cells #[.string s, .int .i64 a, .bool b] 93 (0, 0))) := (heap_old _ _ _ hgl).trans h
  have HK0 : Hid ((w.alloc (.cells #[.int .i64 0, .int .i64 0, .int .i64 0] 149)).drew.heap[w.heap.size]? = some (.cells #[.int .i64 0, .int .i64 0, .int .i64 0] 149 (0, 0))) := heap_alloc_new _ _
  have HZ0 : Hid ((w.alloc (.cells #[.int .i64 0, .int .i64 0, .int .i64 0] 149)).drew.heap.size = w.heap.size + 1) := by show _ = _; simp
  have HR0 : Hid (w.grownBy (w.alloc (.cells #[.int .i64 0, .int .i64 0, .int .i64 0] 149)).drew (some g)) := grown_below (grown_refl w (some g)) (((Below.refl w.heap.size w).alloc (Nat.le_refl _) _).drew)
  have HL0 : Hid (g < (w.alloc (.cells #[.int .i64 0, .int .i64 0, .int .i64 0] 149)).drew.heap.size) := by show _ < _; rw [HZ0.out]; omega
  have HM0 : Hid (w.heap.size < (w.alloc (.cells #[.int .i64 0, .int .i64 0, .int .i64 0] 149)).drew.heap.size) := by show _ < _; rw [HZ0.out]; omega
  have hne : g ≠ w.heap.size := by omega
  have hne' : w.heap.size ≠ g := by omega
  have HGD : Hid (w.drew.heap[g]? = some (.cells #[.string s, .int .i64 a, .bool b] 93 (0, 0))) := h
  have HLD : Hid (g < w.drew.heap.size) := hgl
  have HRD : Hid (w.grownBy w.drew (some g)) := grown_drew
  clear h hx ha
  go_enter Try.func96, Try.ntmps96
  go_wp2
  go_region_held3 (fun W => W.cell? ⟨g, 0, none⟩ = some (.string s) ∧ W.cell? ⟨g, 1, none⟩ = some (.int .i64 a)) (go_keep) (first
    | (go_at_call 117; refine (HN.out _).mono ?_; rintro e w1 ⟨rfl, hb1⟩; have G1 := hide (grown_below HR0.out hb1); have P1 := hide ((hb1.block g HL0.out).trans HG0.out); have Q1 := hide ((hb1.block w.heap.size HM0.out).trans HK0.out); obtain ⟨d0, d1, d2, df⟩ := cells3 P1.out; obtain ⟨q0, q1, q2, qf⟩ := cells3 Q1.out; clear hb1)
    | (go_at_call 117; refine (HN.out _).mono ?_; rintro e w1 ⟨rfl, hb1⟩; have G1 := hide (grown_below HRD.out hb1); have P1 := hide ((hb1.block g HLD.out).trans HGD.out); have hg1 := (Array.getElem?_eq_some_iff.1 P1.out).1; have hne1 := Nat.ne_of_lt hg1; have P2 := hide ((heap_old w1 (.cells #[.int .i64 0, .int .i64 0, .int .i64 0] 149) g hg1).trans P1.out); have Q2 := hide (heap_alloc_new w1 (.cells #[.int .i64 0, .int .i64 0, .int .i64 0] 149)); obtain ⟨p0, p1, p2, pf⟩ := cells3 P1.out; obtain ⟨d0, d1, d2, df⟩ := cells3 P2.out; obtain ⟨q0, q1, q2, qf⟩ := cells3 Q2.out; clear hb1))
  · cases b
    · by_cases hc : c = 0
      · subst hc
        go_wp2
        go_ret
        refine ⟨⟨rfl, ?_⟩, ?_⟩
        · exact new_set1 P1.out
        · exact grown_alloc' (grown_setG G1.out) _
      · have hcb : (c == 0) = false := by simp [hc]
        go_wp2
        go_ret
        refine ⟨⟨rfl, ?_⟩, ?_⟩
        · exact new_set2 P1.out
        · exact grown_alloc' (grown_setG G1.out) _
    · go_wp2
      go_ret
      refine ⟨⟨rfl, ?_⟩, ?_⟩
      · exact new_set2 P1.out
      · exact grown_alloc' (grown_setG G1.out) _
  · cases b
    · by_cases hc : c = 0
      · subst hc
        go_wp2
        go_ret
        refine ⟨⟨rfl, ?_⟩, ?_⟩
        · exact far3_set1 P1.out hne
        · exact grown_setG (grown_new (grown_new (grown_new G1.out (Nat.le_refl _) _ _) (Nat.le_refl _) _ _) (Nat.le_refl _) _ _)
      · have hcb : (c == 0) = false := by simp [hc]
        go_wp2
        go_ret
        refine ⟨⟨rfl, ?_⟩, ?_⟩
        · exact far3_set2 P1.out hne
        · exact grown_setG (grown_new (grown_new (grown_new G1.out (Nat.le_refl _) _ _) (Nat.le_refl _) _ _) (Nat.le_refl _) _ _)
    · go_wp2
      go_ret
      refine ⟨⟨rfl, ?_⟩, ?_⟩
      · exact far3_set2 P1.out hne
      · exact grown_setG (grown_new (grown_new (grown_new G1.out (Nat.le_refl _) _ _) (Nat.le_refl _) _ _) (Nat.le_refl _) _ _)
set_option maxHeartbeats 1000000 in
theorem spText_gen (g : Nat) (s : ByteArray) (a y c : Int) (x : ByteArray) (b : Bool) (w : World) (h : w.heap[g]? = some (.cells #[.string s, .int .i64 a, .bool b] 93 (0, 0))) (ha : a ≤ 20000) (hx : getTextV s a = tOut x y c) :
    Calls Try.prog 94 #[.pointer (some ⟨g, 0, none⟩)] w fun e w' => (if b = true ∨ ¬ c = 0 then e = .returned (.string ⟨#[]⟩) ∧ w'.heap[g]? = some (.cells #[.string s, .int .i64 a, .bool true] 93 (0, 0)) else e = .returned (.string x) ∧ w'.heap[g]? = some (.cells #[.string s, .int .i64 y, .bool false] 93 (0, 0))) ∧ w.grownBy w' (some g) := by
  have HN : Hid (∀ w, Calls Try.prog 116 #[.string s, .int .i64 a] w fun e w' => e = .returned (.agg #[.string x, .int .i64 y, .int .i64 c]) ∧ Below w.heap.size w w') := fun w => by have := specGetText_any s a (by omega) w; rw [hx] at this; exact this
  have hgl := (Array.getElem?_eq_some_iff.1 h).1
  obtain ⟨c0, c1, c2, cf⟩ := cells3 h
  have HG0 : Hid ((w.alloc (.cells #[.string ⟨#[]⟩, .int .i64 0, .int .i64 0] 146)).drew.heap[g]? = some (.cells #[.string s, .int .i64 a, .bool b] 93 (0, 0))) := (heap_old _ _ _ hgl).trans h
  have HK0 : Hid ((w.alloc (.cells #[.string ⟨#[]⟩, .int .i64 0, .int .i64 0] 146)).drew.heap[w.heap.size]? = some (.cells #[.string ⟨#[]⟩, .int .i64 0, .int .i64 0] 146 (0, 0))) := heap_alloc_new _ _
  have HZ0 : Hid ((w.alloc (.cells #[.string ⟨#[]⟩, .int .i64 0, .int .i64 0] 146)).drew.heap.size = w.heap.size + 1) := by show _ = _; simp
  have HR0 : Hid (w.grownBy (w.alloc (.cells #[.string ⟨#[]⟩, .int .i64 0, .int .i64 0] 146)).drew (some g)) := grown_below (grown_refl w (some g)) (((Below.refl w.heap.size w).alloc (Nat.le_refl _) _).drew)
  have HL0 : Hid (g < (w.alloc (.cells #[.string ⟨#[]⟩, .int .i64 0, .int .i64 0] 146)).drew.heap.size) := by show _ < _; rw [HZ0.out]; omega
  have HM0 : Hid (w.heap.size < (w.alloc (.cells #[.string ⟨#[]⟩, .int .i64 0, .int .i64 0] 146)).drew.heap.size) := by show _ < _; rw [HZ0.out]; omega
  have hne : g ≠ w.heap.size := by omega
  have hne' : w.heap.size ≠ g := by omega
  have HGD : Hid (w.drew.heap[g]? = some (.cells #[.string s, .int .i64 a, .bool b] 93 (0, 0))) := h
  have HLD : Hid (g < w.drew.heap.size) := hgl
  have HRD : Hid (w.grownBy w.drew (some g)) := grown_drew
  clear h hx ha
  go_enter Try.func94, Try.ntmps94
  go_wp2
  go_region_held3 (fun W => W.cell? ⟨g, 0, none⟩ = some (.string s) ∧ W.cell? ⟨g, 1, none⟩ = some (.int .i64 a)) (go_keep) (first
    | (go_at_call 116; refine (HN.out _).mono ?_; rintro e w1 ⟨rfl, hb1⟩; have G1 := hide (grown_below HR0.out hb1); have P1 := hide ((hb1.block g HL0.out).trans HG0.out); have Q1 := hide ((hb1.block w.heap.size HM0.out).trans HK0.out); obtain ⟨d0, d1, d2, df⟩ := cells3 P1.out; obtain ⟨q0, q1, q2, qf⟩ := cells3 Q1.out; clear hb1)
    | (go_at_call 116; refine (HN.out _).mono ?_; rintro e w1 ⟨rfl, hb1⟩; have G1 := hide (grown_below HRD.out hb1); have P1 := hide ((hb1.block g HLD.out).trans HGD.out); have hg1 := (Array.getElem?_eq_some_iff.1 P1.out).1; have hne1 := Nat.ne_of_lt hg1; have P2 := hide ((heap_old w1 (.cells #[.string ⟨#[]⟩, .int .i64 0, .int .i64 0] 146) g hg1).trans P1.out); have Q2 := hide (heap_alloc_new w1 (.cells #[.string ⟨#[]⟩, .int .i64 0, .int .i64 0] 146)); obtain ⟨p0, p1, p2, pf⟩ := cells3 P1.out; obtain ⟨d0, d1, d2, df⟩ := cells3 P2.out; obtain ⟨q0, q1, q2, qf⟩ := cells3 Q2.out; clear hb1))
  · cases b
    · by_cases hc : c = 0
      · subst hc
        go_wp2
        go_ret
        refine ⟨⟨rfl, ?_⟩, ?_⟩
        · exact new_set1 P1.out
        · exact grown_alloc' (grown_setG G1.out) _
      · have hcb : (c == 0) = false := by simp [hc]
        go_wp2
        go_ret
        refine ⟨⟨rfl, ?_⟩, ?_⟩
        · exact new_set2 P1.out
        · exact grown_alloc' (grown_setG G1.out) _
    · go_wp2
      go_ret
      refine ⟨⟨rfl, ?_⟩, ?_⟩
      · exact new_set2 P1.out
      · exact grown_alloc' (grown_setG G1.out) _
  · cases b
    · by_cases hc : c = 0
      · subst hc
        go_wp2
        go_ret
        refine ⟨⟨rfl, ?_⟩, ?_⟩
        · exact far3_set1 P1.out hne
        · exact grown_setG (grown_new (grown_new (grown_new G1.out (Nat.le_refl _) _ _) (Nat.le_refl _) _ _) (Nat.le_refl _) _ _)
      · have hcb : (c == 0) = false := by simp [hc]
        go_wp2
        go_ret
        refine ⟨⟨rfl, ?_⟩, ?_⟩
        · exact far3_set2 P1.out hne
        · exact grown_setG (grown_new (grown_new (grown_new G1.out (Nat.le_refl _) _ _) (Nat.le_refl _) _ _) (Nat.le_refl _) _ _)
    · go_wp2
      go_ret
      refine ⟨⟨rfl, ?_⟩, ?_⟩
      · exact far3_set2 P1.out hne
      · exact grown_setG (grown_new (grown_new (grown_new G1.out (Nat.le_refl _) _ _) (Nat.le_refl _) _ _) (Nat.le_refl _) _ _)
end Go.Proofs.Ytpmaklbbkmghbaa

/-
  Contracts: the specification's reader, over the plain model: its number and its text.
-/
namespace Go.Proofs.Ytpmaklbbkmghbaa
open Go.RowKit
set_option maxRecDepth 100000

/-- The specification's reader in block g, at a state. -/
def SpAt (g : Nat) (s : ByteArray) (st : St) (w : World) : Prop :=
  s.size ≤ 20000 ∧ ∃ (a : Int) (b : Bool), w.heap[g]? = some (.cells #[.string s, .int .i64 a, .bool b] 93 (0, 0)) ∧ a ≤ 20000 ∧ ((∃ p : Nat, st = some p ∧ a = (p : Int) ∧ b = false ∧ p ≤ s.size) ∨ (st = none ∧ b = true))
theorem SpAt.kept {g : Nat} {s : ByteArray} {st : St} {w w' : World} {r : Option Nat} (h : SpAt g s st w) (hg : w.grownBy w' r) (hr : r ≠ some g) : SpAt g s st w' := by
  obtain ⟨h1, a, e, h2, h3⟩ := h
  exact ⟨h1, a, e, (hg.block g (Array.getElem?_eq_some_iff.1 h2).1 (fun e => hr e.symm)).trans h2, h3⟩
theorem SpAt.below {g B : Nat} {s : ByteArray} {st : St} {w w' : World} (h : SpAt g s st w) (hb : Below B w w') (hg : g < B) : SpAt g s st w' := by
  obtain ⟨h1, a, e, h2, h3⟩ := h
  exact ⟨h1, a, e, (hb.block g hg).trans h2, h3⟩
theorem SpAt.lt {g : Nat} {s : ByteArray} {st : St} {w : World} (h : SpAt g s st w) : g < w.heap.size := by
  obtain ⟨h1, a, e, h2, h3⟩ := h
  exact (Array.getElem?_eq_some_iff.1 h2).1
theorem SpAt.other {g R : Nat} {s : ByteArray} {st : St} {w : World} (h : SpAt g s st w) (hne : g ≠ R) (m : Nat) (x : Value) : SpAt g s st (w.setCell ⟨R, m, none⟩ x) := by
  obtain ⟨h1, a, e, h2, h3⟩ := h
  exact ⟨h1, a, e, (heap_setCell_other w ⟨R, m, none⟩ g x hne).trans h2, h3⟩
theorem getNum3_nat (s : ByteArray) (p : Nat) (hs : s.size ≤ 20000) : getNum3 s (p : Int) = ((rdAt s.data.toList p).1, behind p (rdAt s.data.toList p), (rdAt s.data.toList p).2.2) := by
  unfold getNum3
  rw [if_neg (by omega), if_neg (by omega), Int.toNat_natCast]
theorem rNum_none (s : ByteArray) (st : St) (h : (rNum s st).2 = none) : (rNum s st).1 = 0 := by
  cases st with
  | none => rfl
  | some p =>
    unfold rNum at h ⊢
    simp only at h ⊢
    split at h
    · simp at h
    · rename_i h1; rw [if_neg h1]
theorem spNum_any (g : Nat) (s : ByteArray) (st : St) (w : World) (h : SpAt g s st w) :
    Calls Try.prog 96 #[.pointer (some ⟨g, 0, none⟩)] w fun e w' => e = .returned (.int .i64 (rNum s st).1) ∧ SpAt g s (rNum s st).2 w' ∧ w.grownBy w' (some g) := by
  obtain ⟨hs, a, b, hg, ha, hst⟩ := h
  rcases hst with ⟨p, rfl, rfl, rfl, hp⟩ | ⟨rfl, rfl⟩
  · have hv : getNumV s (p : Int) = nOut (rdAt s.data.toList p).1 (behind p (rdAt s.data.toList p)) ((rdAt s.data.toList p).2.2 : Nat) := by unfold getNumV; rw [getNum3_nat s p hs]
    refine (spNum_gen g s p _ _ _ false w hg ha hv).mono ?_
    rintro e w' ⟨h1, h2⟩
    have hpl := rNum_place s (some p)
    unfold rNum at hpl ⊢
    simp only at hpl ⊢
    by_cases h0 : (rdAt s.data.toList p).2.2 = 0
    · rw [if_neg (by rw [h0]; simp)] at h1
      rw [if_pos h0] at hpl ⊢
      have hb : behind p (rdAt s.data.toList p) = ((p + (rdAt s.data.toList p).2.1 : Nat) : Int) := by unfold behind; rw [if_pos h0]
      rw [hb] at h1
      have := hpl _ rfl
      exact ⟨h1.1, ⟨hs, _, _, h1.2, by omega, .inl ⟨_, rfl, rfl, rfl, this⟩⟩, h2⟩
    · rw [if_pos (.inr (by omega))] at h1
      rw [if_neg h0]
      exact ⟨h1.1, ⟨hs, _, _, h1.2, ha, .inr ⟨rfl, rfl⟩⟩, h2⟩
  · refine (spNum_gen g s a _ _ _ true w hg ha rfl).mono ?_
    rintro e w' ⟨h1, h2⟩
    rw [if_pos (.inl rfl)] at h1
    exact ⟨h1.1, ⟨hs, _, _, h1.2, ha, .inr ⟨rfl, rfl⟩⟩, h2⟩
theorem spText_any (g : Nat) (s : ByteArray) (st : St) (w : World) (h : SpAt g s st w) :
    Calls Try.prog 94 #[.pointer (some ⟨g, 0, none⟩)] w fun e w' => e = .returned (.string (rTxt s st).1) ∧ SpAt g s (rTxt s st).2 w' ∧ w.grownBy w' (some g) := by
  obtain ⟨hs, a, b, hg, ha, hst⟩ := h
  rcases hst with ⟨p, rfl, rfl, rfl, hp⟩ | ⟨rfl, rfl⟩
  · have hv : getTextV s (p : Int) = tOut (txtAt s p).1 (txtAt s p).2.1 ((txtAt s p).2.2 : Nat) := by unfold getTextV getText3; rw [getNum3_nat s p hs]; rfl
    refine (spText_gen g s p _ _ _ false w hg ha hv).mono ?_
    rintro e w' ⟨h1, h2⟩
    have hpl := txt_place s p
    unfold rTxt
    simp only
    by_cases h0 : (txtAt s p).2.2 = 0
    · rw [if_neg (by rw [h0]; simp)] at h1
      rw [if_pos h0]
      have := hpl h0
      exact ⟨h1.1, ⟨hs, _, _, h1.2, by omega, .inl ⟨_, rfl, by omega, rfl, by omega⟩⟩, h2⟩
    · rw [if_pos (.inr (by omega))] at h1
      rw [if_neg h0]
      exact ⟨h1.1, ⟨hs, _, _, h1.2, ha, .inr ⟨rfl, rfl⟩⟩, h2⟩
  · refine (spText_gen g s a _ _ _ true w hg ha rfl).mono ?_
    rintro e w' ⟨h1, h2⟩
    rw [if_pos (.inl rfl)] at h1
    exact ⟨h1.1, ⟨hs, _, _, h1.2, ha, .inr ⟨rfl, rfl⟩⟩, h2⟩
end Go.Proofs.Ytpmaklbbkmghbaa

/-
  Contracts: the specification's reader, over the plain model.
-/
namespace Go.Proofs.Ytpmaklbbkmghbaa
open Go.RowKit
set_option maxRecDepth 100000

set_option maxHeartbeats 1000000 in
theorem spMany_any (g : Nat) (s : ByteArray) (most : Int) (st : St) (w : World) (h : SpAt g s st w) :
    Calls Try.prog 95 #[.pointer (some ⟨g, 0, none⟩), .int .i64 most] w fun e w' => e = .returned (.int .i64 (rMany s most st).1) ∧ SpAt g s (rMany s most st).2 w' ∧ w.grownBy w' (some g) := by
  have HN := hide (spNum_any g s st w h)
  have HM : Hid (rMany s most st = if (rNum s st).1 < 0 ∨ most < (rNum s st).1 then (0, none) else rNum s st) := rfl
  have H0 := hide (rNum_none s st)
  generalize hr : rNum s st = r at *
  clear hr
  obtain ⟨n, st1⟩ := r
  simp only at HN HM H0
  clear h
  by_cases h1 : n < 0 ∨ most < n
  · have HR : Hid (rMany s most st = (0, none)) := by show _ = _; rw [HM.out, if_pos h1]
    clear HM H0
    go_enter Try.func95, Try.ntmps95
    go_wp2_with fail
    refine HN.out.mono ?_
    rintro e w1 ⟨rfl, ⟨hs, a, b, hg, ha, hst⟩, gr1⟩
    obtain ⟨c0, c1, c2, cf⟩ := cells3 hg
    have HG := hide hg
    clear hg hst HN
    have h1' : n < 0 ∨ (¬ (n < 0) ∧ most < n) := by omega
    clear h1
    rcases h1' with h1 | ⟨hn, h1⟩
    all_goals
      go_wp2
      go_ret
      exact ⟨by rw [HR.out]; rfl, by rw [HR.out]; exact ⟨hs, _, _, setc2 HG.out, ha, .inr ⟨rfl, rfl⟩⟩, grown_setG gr1⟩
  · have HR : Hid (rMany s most st = (n, st1)) := by show _ = _; rw [HM.out, if_neg h1]
    have h2 : ¬ (n < 0) := by omega
    have h3 : ¬ (most < n) := by omega
    clear HM h1
    go_enter Try.func95, Try.ntmps95
    go_wp2_with fail
    refine HN.out.mono ?_
    rintro e w1 ⟨rfl, hc1, gr1⟩
    have HC1 := hide hc1
    obtain ⟨hs, a, b, hg, ha, hst⟩ := hc1
    obtain ⟨c0, c1, c2, cf⟩ := cells3 hg
    clear hg HN
    rcases hst with ⟨p, rfl, rfl, rfl, hp⟩ | ⟨rfl, rfl⟩
    · go_wp2
      go_ret
      exact ⟨by rw [HR.out]; rfl, by rw [HR.out]; exact HC1.out, gr1⟩
    · obtain rfl : n = 0 := H0.out rfl
      go_wp2
      go_ret
      exact ⟨by rw [HR.out]; rfl, by rw [HR.out]; exact HC1.out, gr1⟩
theorem spTruth_any (g : Nat) (s : ByteArray) (st : St) (w : World) (h : SpAt g s st w) :
    Calls Try.prog 97 #[.pointer (some ⟨g, 0, none⟩)] w fun e w' => e = .returned (.bool (rFlag s st).1) ∧ SpAt g s (rFlag s st).2 w' ∧ w.grownBy w' (some g) := by
  have HN := hide (spMany_any g s 1 st w h)
  have HR : Hid (rFlag s st = (decide ((rMany s 1 st).1 = 1), (rMany s 1 st).2)) := rfl
  generalize rMany s 1 st = r at *
  obtain ⟨n, st1⟩ := r
  simp only at HN HR
  clear h
  go_enter Try.func97, Try.ntmps97
  go_wp2_with fail
  refine HN.out.mono ?_
  rintro e w1 ⟨rfl, hc1, gr1⟩
  have HC1 := hide hc1
  clear hc1
  by_cases h1 : n = 1
  · subst h1
    go_wp2
    go_ret
    exact ⟨by rw [HR.out]; rfl, by rw [HR.out]; exact HC1.out, gr1⟩
  · have h2 : (n == 1) = false := by simp [h1]
    have HD := hide (decide_eq_false h1)
    clear h1
    go_wp2
    go_ret
    exact ⟨by rw [HR.out, HD.out]; rfl, by rw [HR.out]; exact HC1.out, gr1⟩
end Go.Proofs.Ytpmaklbbkmghbaa

/-
  Contracts: the specification's reader: its numbers.
-/
namespace Go.Proofs.Ytpmaklbbkmghbaa
open Go.RowKit
set_option maxRecDepth 100000

theorem ownN_new (w : World) : OwnN w.heap.size (.slice (some ⟨w.heap.size, 0, none⟩) 0 0) [] (w.alloc (.cells #[] 2)) :=
  ⟨rfl, .inr ⟨w.heap.size, 0, #[], rfl, Nat.le_refl _, heap_alloc_new _ _, Nat.le_refl _, Nat.zero_le _, rfl, rfl⟩⟩
set_option maxHeartbeats 2000000 in
theorem spNums_any (g : Nat) (s : ByteArray) (st : St) (w : World) (h : SpAt g s st w) :
    Calls Try.prog 98 #[.pointer (some ⟨g, 0, none⟩)] w fun e w' => ∃ v, e = .returned v ∧ OwnN w.heap.size v (rNums s st).1 w' ∧ SpAt g s (rNums s st).2 w' ∧ w.grownBy w' (some g) := by
  obtain ⟨i0, hi, hz0, hz1, hz2⟩ := info_parts Try.infoI64
  have hgl := h.lt
  have HM := hide (spMany_any g s 10 st (w.alloc (.cells #[] 2)) (h.below ((Below.refl w.heap.size w).alloc (Nat.le_refl _) _) hgl))
  have HO0 := hide (ownN_new w)
  have HG0 := hide (grown_alloc' (grown_refl w (some g)) (.cells #[] 2))
  have hmn := rMany_in s 10 st (by omega)
  have HR : Hid (rNums s st = rRep (rNum s) (rMany s 10 st).1.toNat (rMany s 10 st).2) := rfl
  generalize rMany s 10 st = r at *
  obtain ⟨n, st1⟩ := r
  simp only at HM HR hmn
  obtain ⟨m, rfl⟩ : ∃ m : Nat, n = (m : Int) := ⟨n.toNat, by omega⟩
  rw [Int.toNat_natCast] at HR
  clear h
  go_enter Try.func98, Try.ntmps98
  go_wp2_with fail
  refine HM.out.mono ?_
  rintro e w1 ⟨rfl, hc1, gr0⟩
  have HC1 := hide hc1
  have gr1 := HG0.out.trans gr0
  have HO1 := hide (own_far HO0.out gr0 hgl)
  clear hc1 HM gr0 HO0 HG0
  go_wp2
  go_loopw [3, 4] (fun u i wr => ∃ k j : Nat, k + j = m ∧ i = .int .i64 j ∧ Hid (OwnN w.heap.size u (rRep (rNum s) k st1).1 wr) ∧ Hid (SpAt g s (rRep (rNum s) k st1).2 wr) ∧ w.grownBy wr (some g)) (fun _ i _ => (intOf i).toNat)
  case atStart => exact ⟨0, m, by omega, rfl, HO1, HC1, gr1⟩
  case round =>
    clear HC1 gr1 HO1
    obtain ⟨k, j, hk, rfl, HO, HC, gr⟩ := hrel
    by_cases hlt : 0 < j
    · have hjp : (0 : Int) < (j : Int) := by omega
      have HN := hide (spNum_any g s _ _ HC.out)
      have hpl := rRep_len (rNum s) st1 k
      have HS : Hid ((rRep (rNum s) (k + 1) st1).1 = (rRep (rNum s) k st1).1 ++ [(rNum s (rRep (rNum s) k st1).2).1] ∧ (rRep (rNum s) (k + 1) st1).2 = (rNum s (rRep (rNum s) k st1).2).2) := ⟨rfl, rfl⟩
      obtain ⟨ao, cap, hu⟩ := ownN_shape HO.out
      rw [hpl] at hu
      rw [hu] at HO ⊢
      have HO2 : Hid (wr.ownsRow w.heap.size 2 1 (.slice ao k cap) k (numsV (rRep (rNum s) k st1).1)) := by have := HO.out; unfold OwnN at this; rw [hpl] at this; exact this
      have hz := gr.size
      generalize rRep (rNum s) k st1 = pr at *
      obtain ⟨pl, stk⟩ := pr
      simp only at *
      generalize rNum s stk = y at *
      obtain ⟨x, stx⟩ := y
      simp only at *
      clear hu HO HC
      have HPL := hide hpl
      clear hpl
      go_wp2_with fail
      refine HN.out.mono ?_
      rintro e w2 ⟨rfl, hc2, gr2⟩
      have HC2 := hide hc2
      have hown : w2.ownsRow w.heap.size 2 1 (.slice ao k cap) k (numsV pl) := own_far HO2.out gr2 hgl
      have gr02 := gr.trans gr2
      have hz2 := gr02.size
      clear hc2 gr2 gr HN HO2
      go_wp2_with (at_builtin; refine wpList_append_own _ rfl _ _ 23 rfl w.heap.size 2 i0 (.int .i64 0) 1 8 Try.underlying23 hi hz0 hz1 (by assumption) rfl (by decide) _ _ _ rfl (hown.alloc _) ⟨w2.heap.size, 0, none⟩ 1 1 [.int .i64 x] rfl rfl (cell_one_new _ _ _) (ints_oneCell .i64 [x]) (by unfold maxLen; omega) (by omega) (by simp; omega) ?_; intro v5 w5 hown5 hgrow5 _)
      have g5 : w.grownBy w5 (some g) := grown_some (grown_alloc' gr02 _) hgrow5 (Nat.le_refl _) (fun k hk => (World.ownsRow.lt hown k hk).1)
      have HO5 : Hid (OwnN w.heap.size v5 (rRep (rNum s) (k + 1) st1).1 w5) := by rw [HS.out.1]; exact ownN_of hown5 (by simp [HPL.out]) (by simp [numsV])
      have HC5 : Hid (SpAt g s (rRep (rNum s) (k + 1) st1).2 w5) := by
        rw [HS.out.2]
        refine (HC2.out.below ((Below.refl w2.heap.size w2).alloc (Nat.le_refl _) _) HC2.out.lt).kept hgrow5 (fun e => ?_)
        have := (World.ownsRow.lt hown g e).1
        omega
      clear hown5 hgrow5 hown gr02 HC2 HS
      go_wp2
      go_roundw
      case rel => exact ⟨k + 1, j - 1, by omega, by go_num, HO5, HC5, g5⟩
      case measure => simp [intOf]; omega
    · obtain rfl : j = 0 := by omega
      obtain rfl : k = m := by omega
      go_wp2
      go_ret
      exact ⟨_, rfl, by rw [HR.out]; exact HO.out, by rw [HR.out]; exact HC.out, gr⟩
end Go.Proofs.Ytpmaklbbkmghbaa

/-
  A schema under way beside one struct that is being filled. Plain laws.
-/
namespace Go.Proofs.Ytpmaklbbkmghbaa
open Go.RowKit
set_option maxRecDepth 100000

theorem SOwn.keep {base C : Nat} {a k x : Value} {us : List Value} {S : Sch} {w w' : World} (h : SOwn base a k x us S w) (hg : w.grownBy w' (some C)) (hne : ∀ v ∈ a :: k :: x :: us, ∀ b, v.ownBlock = some b → b < C) : SOwn base a k x us S w' := by
  have hn : ∀ v ∈ a :: k :: x :: us, v.ownBlock = none ∨ v.ownBlock ≠ some C := fun v hv => .inr (fun e => Nat.lt_irrefl C (hne v hv C e))
  exact ⟨World.ownsRow.kept h.cols hg (hn _ (by simp)), World.ownsRow.kept h.key hg (hn _ (by simp)), ⟨h.idx.len, World.ownsRow.kept h.idx.row hg (hn _ (by simp)), fun p hp => World.ownsRow.kept (h.idx.inner p hp) hg (hn _ (by simp [(List.of_mem_zip hp).1]))⟩, h.apart⟩
/-- The reading stands at st; beside it block C holds a struct. -/
structure InB (w : World) (g L R : Nat) (s : ByteArray) (a k x : Value) (us : List Value) (S : Sch) (C : Nat) (cs : Array Value) (ty : TypeId) (st : St) (W : World) : Prop where
  loc : LocAt L R S.name a k x W
  own : SOwn (L + 1) a k x us S W
  cur : SpAt g s st W
  grow : w.grownBy W (some g)
  at' : W.heap[C]? = some (.cells cs ty (0, 0))
  base : L + 1 ≤ C
  far : ∀ v ∈ a :: k :: x :: us, ∀ b, v.ownBlock = some b → b < C
theorem InB.call {w : World} {g L R : Nat} {s : ByteArray} {a k x : Value} {us : List Value} {S : Sch} {C : Nat} {cs : Array Value} {ty : TypeId} {st st' : St} {W W' : World} (h : InB w g L R s a k x us S C cs ty st W) (hr : W.grownBy W' (some g)) (hc : SpAt g s st' W') (hgL : g < L) (hgR : g ≠ R) : InB w g L R s a k x us S C cs ty st' W' :=
  ⟨h.loc.grown hr (fun e => by have := Option.some.inj e; omega) (fun e => hgR (Option.some.inj e)), h.own.far hr (by omega), hc, h.grow.trans hr, (hr.block C (Array.getElem?_eq_some_iff.1 h.at').1 (fun e => by have := Option.some.inj e; have := h.base; omega)).trans h.at', h.base, h.far⟩
theorem InB.set {w : World} {g L R : Nat} {s : ByteArray} {a k x : Value} {us : List Value} {S : Sch} {C : Nat} {cs : Array Value} {ty : TypeId} {st : St} {W : World} (h : InB w g L R s a k x us S C cs ty st W) (hgL : g < L) (hR : R < L) (hw : w.heap.size ≤ L) (m : Nat) (v : Value) (cs' : Array Value) (hcs : (W.setCell ⟨C, m, none⟩ v).heap[C]? = some (.cells cs' ty (0, 0))) : InB w g L R s a k x us S C cs' ty st (W.setCell ⟨C, m, none⟩ v) := by
  have hb := h.base
  have hg : W.grownBy (W.setCell ⟨C, m, none⟩ v) (some C) := grown_setG (grown_refl W (some C))
  exact ⟨h.loc.grown hg (fun e => by have := Option.some.inj e; omega) (fun e => by have := Option.some.inj e; omega), h.own.keep hg h.far, h.cur.other (by omega) _ _, grown_new h.grow (by omega) _ _, hcs, hb, h.far⟩
theorem sown_cols {L n : Nat} {a' : Value} {nm : ByteArray} {cs : List Col} {c : Col} {W : World} (h : W.ownsRow (L + 1) 67 3 a' (n + 1) (flatC cs ++ [.string c.name, .int .i64 c.kind, .bool c.nul])) (hn : cs.length = n) : SOwn (L + 1) a' (.slice none 0 0) (.slice none 0 0) [] ⟨nm, cs ++ [c], [], []⟩ W := by
  refine ⟨?_, ownN_nil _ _, ownX_nil _ _, apart0 (m := W.heap.size) (fun b hb => (World.ownsRow.lt h b hb).2) (fun b hb => by simp [Value.ownBlock] at hb)⟩
  show W.ownsRow (L + 1) 67 3 a' (cs ++ [c]).length (flatC (cs ++ [c]))
  rw [flatC_snoc, List.length_append, hn]
  exact h
theorem setT0 {W : World} {g : Nat} {x a b z : Value} {t : TypeId} (h : W.heap[g]? = some (.cells #[x, a, b] t (0, 0))) : (W.setCell ⟨g, 0, none⟩ z).heap[g]? = some (.cells #[z, a, b] t (0, 0)) := by
  have h2 := heap_setCell_same W g 0 _ t z h
  simpa using h2
theorem setP0 {W : World} {g : Nat} {x a z : Value} {t : TypeId} (h : W.heap[g]? = some (.cells #[x, a] t (0, 0))) : (W.setCell ⟨g, 0, none⟩ z).heap[g]? = some (.cells #[z, a] t (0, 0)) := by
  have h2 := heap_setCell_same W g 0 _ t z h
  simpa using h2
theorem setP1 {W : World} {g : Nat} {x a z : Value} {t : TypeId} (h : W.heap[g]? = some (.cells #[x, a] t (0, 0))) : (W.setCell ⟨g, 1, none⟩ z).heap[g]? = some (.cells #[x, z] t (0, 0)) := by
  have h2 := heap_setCell_same W g 1 _ t z h
  simpa using h2
end Go.Proofs.Ytpmaklbbkmghbaa

/-
  Contracts: the specification's reader of a schema.
-/
namespace Go.Proofs.Ytpmaklbbkmghbaa
open Go.RowKit
set_option maxRecDepth 100000

/-- How the reading stands between two parts. -/
def Sp2 (w : World) (g L R : Nat) (s : ByteArray) (a k x : Value) (us : List Value) (S : Sch) (st : St) (wr : World) : Prop :=
  LocAt L R S.name a k x wr ∧ SOwn (L + 1) a k x us S wr ∧ SpAt g s st wr ∧ w.grownBy wr (some g) ∧ L + 1 ≤ wr.heap.size
theorem Sp2.inB {w : World} {g L R : Nat} {s : ByteArray} {a k x : Value} {us : List Value} {S : Sch} {st : St} {wr : World} (h : Sp2 w g L R s a k x us S st wr) (cs : Array Value) (ty : TypeId) : InB w g L R s a k x us S wr.heap.size cs ty st (wr.alloc (.cells cs ty)) :=
  ⟨h.1.grown (grown_allocN wr _) nofun nofun, h.2.1.below ((Below.refl wr.heap.size wr).alloc (Nat.le_refl _) _), h.2.2.1.below ((Below.refl wr.heap.size wr).alloc (Nat.le_refl _) _) h.2.2.1.lt, grown_alloc' h.2.2.2.1 _, heap_alloc_new _ _, h.2.2.2.2, h.2.1.blocks⟩
set_option maxHeartbeats 4000000 in
theorem spSchema_rd (g : Nat) (s : ByteArray) (st : St) (w : World) (h : SpAt g s st w) :
    Calls Try.prog 60 #[.pointer (some ⟨g, 0, none⟩)] w fun e w' => ∃ a k x us, e = .returned (.agg #[.string (rSch s st).1.name, a, k, x]) ∧ SOwn (w.heap.size + 1) a k x us (rSch s st).1 w' ∧ SpAt g s (rSch s st).2 w' ∧ w.grownBy w' (some g) := by
  obtain ⟨i0, hi, hz0, hz1, hz2⟩ := info_parts Try.infoCol
  obtain ⟨j0, hj, hy0, hy1, hy2⟩ := info_parts Try.infoIdx
  have hgl := h.lt
  have HC0 : Hid (SpAt g s st (w.alloc (.cells #[.string ⟨#[]⟩, .slice none 0 0, .slice none 0 0, .slice none 0 0] 32))) := h.below ((Below.refl w.heap.size w).alloc (Nat.le_refl _) _) hgl
  have HK0 : Hid ((w.alloc (.cells #[.string ⟨#[]⟩, .slice none 0 0, .slice none 0 0, .slice none 0 0] 32)).heap[w.heap.size]? = some (.cells #[.string ⟨#[]⟩, .slice none 0 0, .slice none 0 0, .slice none 0 0] 32 (0, 0))) := heap_alloc_new _ _
  have HG0 : Hid (w.grownBy (w.alloc (.cells #[.string ⟨#[]⟩, .slice none 0 0, .slice none 0 0, .slice none 0 0] 32)) (some g)) := grown_below (grown_refl w (some g)) ((Below.refl w.heap.size w).alloc (Nat.le_refl _) _)
  have HZ0 : Hid ((w.alloc (.cells #[.string ⟨#[]⟩, .slice none 0 0, .slice none 0 0, .slice none 0 0] 32)).heap.size = w.heap.size + 1) := by show _ = _; simp
  have HR : Hid (rSch s st = (⟨(rTxt s st).1, (rRep (rCol s) (rMany s 10 (rTxt s st).2).1.toNat (rMany s 10 (rTxt s st).2).2).1, (rNums s (rRep (rCol s) (rMany s 10 (rTxt s st).2).1.toNat (rMany s 10 (rTxt s st).2).2).2).1, (rRep (rIdx s) (rMany s 4 (rNums s (rRep (rCol s) (rMany s 10 (rTxt s st).2).1.toNat (rMany s 10 (rTxt s st).2).2).2).2).1.toNat (rMany s 4 (rNums s (rRep (rCol s) (rMany s 10 (rTxt s st).2).1.toNat (rMany s 10 (rTxt s st).2).2).2).2).2).1⟩, (rRep (rIdx s) (rMany s 4 (rNums s (rRep (rCol s) (rMany s 10 (rTxt s st).2).1.toNat (rMany s 10 (rTxt s st).2).2).2).2).1.toNat (rMany s 4 (rNums s (rRep (rCol s) (rMany s 10 (rTxt s st).2).1.toNat (rMany s 10 (rTxt s st).2).2).2).2).2).2)) := rfl
  have H1 := hide (spText_any g s st)
  generalize rTxt s st = y1 at *
  obtain ⟨t1, s1⟩ := y1
  simp only at HR H1
  have H2 := hide (spMany_any g s 10 s1)
  have hm2 := rMany_in s 10 s1 (by omega)
  generalize rMany s 10 s1 = y2 at *
  obtain ⟨n2, s2⟩ := y2
  simp only at HR H2 hm2
  obtain ⟨m, rfl⟩ : ∃ m : Nat, n2 = (m : Int) := ⟨n2.toNat, by omega⟩
  rw [Int.toNat_natCast] at HR
  clear h
  go_enter Try.func60, Try.ntmps60
  go_wp2_with fail
  refine (H1.out _ HC0.out).mono ?_
  rintro e w1 ⟨rfl, k1, r1⟩
  have hne : w.heap.size ≠ g := by omega
  have P1 := hide ((r1.block w.heap.size (by rw [HZ0.out]; omega) (fun e => hne (by simpa using e))).trans HK0.out)
  have Z1 : w.heap.size + 1 ≤ w1.heap.size := by rw [← HZ0.out]; exact r1.size
  have G1 := hide (grown_alloc' (HG0.out.trans r1) (.cells #[.string t1, .slice none 0 0, .slice none 0 0, .slice none 0 0] 32))
  have K1 := hide (k1.below ((Below.refl w1.heap.size w1).alloc (Nat.le_refl _) (.cells #[.string t1, .slice none 0 0, .slice none 0 0, .slice none 0 0] 32)) k1.lt)
  have L1 : Hid (LocAt w1.heap.size w.heap.size t1 (.slice none 0 0) (.slice none 0 0) (.slice none 0 0) (w1.alloc (.cells #[.string t1, .slice none 0 0, .slice none 0 0, .slice none 0 0] 32))) := ⟨heap_alloc_new _ _, (heap_old _ _ _ (by omega)).trans P1.out⟩
  have ZA : Hid ((w1.alloc (.cells #[.string t1, .slice none 0 0, .slice none 0 0, .slice none 0 0] 32)).heap.size = w1.heap.size + 1) := by show _ = _; simp
  clear k1 r1 HC0 HK0 HG0 HZ0 P1 H1
  go_wp2_with fail
  refine (H2.out _ K1.out).mono ?_
  generalize w1.alloc (.cells #[.string t1, .slice none 0 0, .slice none 0 0, .slice none 0 0] 32) = W1 at *
  generalize w1.heap.size = L at *
  rintro e w2 ⟨rfl, k2, r2⟩
  have hLg : L ≠ g := by omega
  have hgL : g < L := by omega
  have hgL : g < L := by omega
  have I2 : Hid (Sp2 w g L w.heap.size s (.slice none 0 0) (.slice none 0 0) (.slice none 0 0) [] ⟨t1, [], [], []⟩ s2 w2) := ⟨L1.out.grown r2 (by simpa using hLg.symm) (by simpa using hne.symm), ⟨ownC_nil _ _, ownN_nil _ _, ownX_nil _ _, apart0 (m := 0) (fun b hb => by simp [Value.ownBlock] at hb) (fun b hb => by simp [Value.ownBlock] at hb)⟩, k2, G1.out.trans r2, by rw [← ZA.out]; exact r2.size⟩
  clear k2 r2 K1 L1 G1 H2 ZA
  go_wp2
  go_loopw [4] (fun i wr => ∃ (k j : Nat) (a : Value), k + j = m ∧ i = .int .i64 j ∧ Hid (Sp2 w g L w.heap.size s a (.slice none 0 0) (.slice none 0 0) [] ⟨t1, (rRep (rCol s) k s2).1, [], []⟩ (rRep (rCol s) k s2).2 wr)) (fun i _ => (intOf i).toNat)
  case atStart => exact ⟨0, m, _, by omega, rfl, I2⟩
  case round =>
    clear I2
    obtain ⟨k, j, a, hk, rfl, HL⟩ := hrel
    by_cases hlt : 0 < j
    · have hjp : (0 : Int) < (j : Int) := by omega
      have hcl := rRep_len (rCol s) s2 k
      have HS : Hid ((rRep (rCol s) (k + 1) s2).1 = (rRep (rCol s) k s2).1 ++ [(rCol s (rRep (rCol s) k s2).2).1] ∧ (rRep (rCol s) (k + 1) s2).2 = (rCol s (rRep (rCol s) k s2).2).2) := ⟨rfl, rfl⟩
      obtain ⟨ao, cap, rfl⟩ := ownC_shape HL.out.2.1.cols
      generalize rRep (rCol s) k s2 = pr at *
      obtain ⟨pl, stk⟩ := pr
      simp only at hcl HS HL
      rw [hcl] at HL
      have HPL := hide hcl
      clear hcl
      have HC : Hid (rCol s stk = (⟨(rTxt s stk).1, (rNum s (rTxt s stk).2).1, (rFlag s (rNum s (rTxt s stk).2).2).1⟩, (rFlag s (rNum s (rTxt s stk).2).2).2)) := rfl
      have A1 := hide (spText_any g s stk)
      have A2 := hide (spNum_any g s (rTxt s stk).2)
      have A3 := hide (spTruth_any g s (rNum s (rTxt s stk).2).2)
      generalize rFlag s (rNum s (rTxt s stk).2).2 = y3 at *
      generalize rNum s (rTxt s stk).2 = y2 at *
      generalize rTxt s stk = y1 at *
      obtain ⟨cn, sa⟩ := y1
      obtain ⟨kd, sb⟩ := y2
      obtain ⟨nu, sc⟩ := y3
      simp only at A1 A2 A3 HC
      have B0 := hide (HL.out.inB #[.string ⟨#[]⟩, .int .i64 0, .bool false] 67)
      obtain ⟨u0, u1, u2, uf⟩ := cells3 B0.out.at'
      have hRL : w.heap.size < L := by omega
      have hgR : g ≠ w.heap.size := by omega
      go_wp2_with fail
      refine (A1.out _ B0.out.cur).mono ?_
      rintro e v1 ⟨rfl, k1, r1⟩
      have B1 := hide (B0.out.call r1 k1 hgL hgR)
      have B1' := hide (B1.out.set hgL hRL (Nat.le_of_lt hRL) 0 (.string cn) _ (setT0 B1.out.at'))
      obtain ⟨d0, d1, d2, df⟩ := cells3 B1.out.at'
      clear k1 r1 B0 u0 u1 u2 uf
      go_wp2_with fail
      refine (A2.out _ B1'.out.cur).mono ?_
      rintro e v2 ⟨rfl, k2, r2⟩
      have B2 := hide (B1'.out.call r2 k2 hgL hgR)
      have B2' := hide (B2.out.set hgL hRL (Nat.le_of_lt hRL) 1 (.int .i64 kd) _ (setc1 B2.out.at'))
      obtain ⟨f0, f1, f2, ff⟩ := cells3 B2.out.at'
      clear k2 r2 B1 B1' d0 d1 d2 df
      go_wp2_with fail
      refine (A3.out _ B2'.out.cur).mono ?_
      rintro e v3 ⟨rfl, k3, r3⟩
      have B3 := hide (B2'.out.call r3 k3 hgL hgR)
      have B3' := hide (B3.out.set hgL hRL (Nat.le_of_lt hRL) 2 (.bool nu) _ (setc2 B3.out.at'))
      obtain ⟨h0, h1, h2, hf⟩ := cells3 B3.out.at'
      clear k3 r3 B2 B2' f0 f1 f2 ff
      obtain ⟨m0, m1, m2, mf⟩ := cells3 B3'.out.at'
      obtain ⟨n0, n1, n2, n3, nf⟩ := cells4 B3'.out.loc.1
      obtain ⟨o0, o1, o2, o3, of'⟩ := cells4 B3.out.loc.1
      have hCL : wr.heap.size ≠ L := by have := B3.out.base; omega
      have hLC : L ≠ wr.heap.size := fun e => hCL e.symm
      have e1 : Hid (((v3.setCell ⟨wr.heap.size, 2, none⟩ (.bool nu)).alloc (.cells #[.string cn, .int .i64 kd, .bool nu] 67)).ownsRow (L + 1) 67 3 (.slice ao k cap) k (flatC pl)) := World.ownsRow.alloc (by have := B3'.out.own.cols; unfold OwnC at this; simp only [HPL.out] at this; exact this) (.cells #[.string cn, .int .i64 kd, .bool nu] 67)
      have e2 : k + 1 ≤ maxLen := by unfold maxLen; omega
      have e3 : (k + 1) * 32 ≤ 140737488355328 := by omega
      have e5 : Hid (((v3.setCell ⟨wr.heap.size, 2, none⟩ (.bool nu)).alloc (.cells #[.string cn, .int .i64 kd, .bool nu] 67)).heap.size = (v3.setCell ⟨wr.heap.size, 2, none⟩ (.bool nu)).heap.size + 1) := by show _ = _; simp
      have eC := hide (Array.getElem?_eq_some_iff.1 B3'.out.at').1
      have e4 : Hid (L + 1 ≤ ((v3.setCell ⟨wr.heap.size, 2, none⟩ (.bool nu)).alloc (.cells #[.string cn, .int .i64 kd, .bool nu] 67)).heap.size) := by show _ ≤ _; rw [e5.out]; have := eC.out; have := B3'.out.base; omega
      have e6 : ∀ b, (Value.slice ao k cap).ownBlock = some b → L + 1 ≤ b := fun b e => (World.ownsRow.lt e1.out b e).1
      have n1' : (Value.slice ao k cap).ownBlock ≠ some L := fun e => Nat.not_succ_le_self L (e6 _ e)
      have n2' : (Value.slice ao k cap).ownBlock ≠ some w.heap.size := fun e => by have := e6 _ e; omega
      have n3' : (Value.slice ao k cap).ownBlock ≠ some g := fun e => by have := e6 _ e; omega
      have L0 : Hid (LocAt L w.heap.size t1 (.slice ao k cap) (.slice none 0 0) (.slice none 0 0) ((v3.setCell ⟨wr.heap.size, 2, none⟩ (.bool nu)).alloc (.cells #[.string cn, .int .i64 kd, .bool nu] 67))) := B3'.out.loc.grown (r := none) (grown_allocN _ _) nofun nofun
      have C0 : Hid (SpAt g s sc ((v3.setCell ⟨wr.heap.size, 2, none⟩ (.bool nu)).alloc (.cells #[.string cn, .int .i64 kd, .bool nu] 67))) := B3'.out.cur.below ((Below.refl _ _).alloc (Nat.le_refl _) _) B3'.out.cur.lt
      have G0 : Hid (w.grownBy ((v3.setCell ⟨wr.heap.size, 2, none⟩ (.bool nu)).alloc (.cells #[.string cn, .int .i64 kd, .bool nu] 67)) (some g)) := grown_alloc' B3'.out.grow _
      go_wp2_with (at_builtin; refine wpList_append_lies ((v3.setCell ⟨wr.heap.size, 2, none⟩ (.bool nu)).alloc (.cells #[.string cn, .int .i64 kd, .bool nu] 67)) rfl (.tmp 28) (.tmp 30) 29 rfl (L + 1) 67 i0 (.agg #[.string ⟨#[]⟩, .int .i64 0, .bool false]) 3 32 Try.underlying29 hi hz0 hz1 hz2 rfl (by decide) (.slice ao k cap) k (flatC pl) rfl e1.out ⟨(v3.setCell ⟨wr.heap.size, 2, none⟩ (.bool nu)).heap.size, 0, none⟩ 1 1 [.string cn, .int .i64 kd, .bool nu] (by simp [Act.eval]) rfl (cell_col_new (v3.setCell ⟨wr.heap.size, 2, none⟩ (.bool nu)) cn kd nu 67) (one_col cn kd nu) (by decide) e2 e3 e4.out ((v3.setCell ⟨wr.heap.size, 2, none⟩ (.bool nu)).heap.size + 1) e5.out ?_; intro gg cp yB ownB growB atB ltB; have LB := hide (L0.out.grown growB n1' n2'); obtain ⟨q0, q1, q2, q3, qf⟩ := cells4 LB.out.1)
      have WB : Hid (Sp2 w g L w.heap.size s (.slice (some ⟨gg, 0, none⟩) (k + 1) cp) (.slice none 0 0) (.slice none 0 0) [] ⟨t1, (rRep (rCol s) (k + 1) s2).1, [], []⟩ (rRep (rCol s) (k + 1) s2).2 (yB.setCell ⟨L, 1, none⟩ (.slice (some ⟨gg, 0, none⟩) (k + 1) cp))) := by
        rw [HS.out.1, HS.out.2, HC.out]
        refine ⟨locSet LB.out (by omega) rfl, (sown_cols ownB HPL.out).set (Nat.lt_succ_self L), (C0.out.kept growB n3').other (by omega) 1 _, grown_new (grown_some G0.out growB (by omega) e6) (by omega) 1 _, ?_⟩
        have h1 := growB.size
        have h2 := e4.out
        simp
        omega
      clear LB ownB growB atB ltB e1 e2 e3 e4 e5 e6 eC n1' n2' n3' L0 C0 G0 HS HC A1 A2 A3 B3 B3' HL h0 h1 h2 hf m0 m1 m2 mf n0 n1 n2 n3 nf o0 o1 o2 o3 of' hCL hLC
      go_wp2
      go_roundw
      case rel => exact ⟨k + 1, j - 1, _, by omega, by go_num, WB⟩
      case measure => simp [intOf]; omega
    · obtain rfl : j = 0 := by omega
      obtain rfl : m = k := by omega
      obtain ⟨aoc, capc, rfl⟩ := ownC_shape HL.out.2.1.cols
      generalize rRep (rCol s) _ s2 = y3 at *
      obtain ⟨cs, s3⟩ := y3
      simp only at HL HR
      have HP := hide (spNums_any g s s3 wr HL.out.2.2.1)
      generalize rNums s s3 = y4 at *
      obtain ⟨ks, s4⟩ := y4
      simp only at HR HP
      have H5 := hide (spMany_any g s 4 s4)
      have hm5 := rMany_in s 4 s4 (by omega)
      generalize rMany s 4 s4 = y5 at *
      obtain ⟨n5, s5⟩ := y5
      simp only at HR H5 hm5
      obtain ⟨n, rfl⟩ : ∃ n : Nat, n5 = (n : Int) := ⟨n5.toNat, by omega⟩
      rw [Int.toNat_natCast] at HR
      go_wp2_with fail
      refine HP.out.mono ?_
      rintro e w3 ⟨v3, rfl, o3, k3, r3⟩
      obtain ⟨ao3, cap3, rfl⟩ := ownN_shape o3
      have L3 := hide (HL.out.1.grown r3 (by simpa using hLg.symm) (by simpa using hne.symm))
      obtain ⟨x0, x1, x2, x3, xf⟩ := cells4 L3.out.1
      have I3 : Hid (Sp2 w g L w.heap.size s (.slice aoc cs.length capc) (.slice ao3 ks.length cap3) (.slice none 0 0) [] ⟨t1, cs, ks, []⟩ s4 (w3.setCell ⟨L, 2, none⟩ (.slice ao3 ks.length cap3))) := by
        have hzb := HL.out.2.2.2.2
        refine ⟨locSet2 L3.out (by omega) rfl, ⟨own_set (own_far HL.out.2.1.cols r3 (by omega)) (Nat.lt_succ_self L), own_set (owns_base o3 hzb) (Nat.lt_succ_self L), ownX_nil _ _, apart0 (fun b hb => (World.ownsRow.lt HL.out.2.1.cols b hb).2) (fun b hb => (World.ownsRow.lt o3 b hb).1)⟩, k3.other (by omega) 2 _, grown_new (HL.out.2.2.2.1.trans r3) (by omega) 2 _, ?_⟩
        have := r3.size
        simp
        omega
      clear o3 k3 r3 L3 HL HP
      go_wp2_with fail
      refine (H5.out _ I3.out.2.2.1).mono ?_
      rintro e w4 ⟨rfl, k4, r4⟩
      have I4 : Hid (Sp2 w g L w.heap.size s (.slice aoc cs.length capc) (.slice ao3 ks.length cap3) (.slice none 0 0) [] ⟨t1, cs, ks, []⟩ s5 w4) := by
        obtain ⟨a1, a2, a3, a4, a5⟩ := I3.out
        exact ⟨a1.grown r4 (by simpa using hLg.symm) (by simpa using hne.symm), a2.far r4 (by omega), k4, a4.trans r4, Nat.le_trans a5 r4.size⟩
      clear k4 r4 I3 H5 x0 x1 x2 x3 xf
      go_wp2
      go_loopw [6] (fun i wq => ∃ (k j : Nat) (x : Value) (us : List Value), k + j = n ∧ i = .int .i64 j ∧ Hid (Sp2 w g L w.heap.size s (.slice aoc cs.length capc) (.slice ao3 ks.length cap3) x us ⟨t1, cs, ks, (rRep (rIdx s) k s5).1⟩ (rRep (rIdx s) k s5).2 wq)) (fun i _ => (intOf i).toNat)
      case atStart => exact ⟨0, n, _, _, by omega, rfl, I4⟩
      case round =>
        clear I4
        obtain ⟨k, j, x, us, hk, rfl, HL⟩ := hrel
        by_cases hlt : 0 < j
        · have hjp : (0 : Int) < (j : Int) := by omega
          have hcl := rRep_len (rIdx s) s5 k
          have HS : Hid ((rRep (rIdx s) (k + 1) s5).1 = (rRep (rIdx s) k s5).1 ++ [(rIdx s (rRep (rIdx s) k s5).2).1] ∧ (rRep (rIdx s) (k + 1) s5).2 = (rIdx s (rRep (rIdx s) k s5).2).2) := ⟨rfl, rfl⟩
          obtain ⟨ao, cap, rfl⟩ := ownX_shape HL.out.2.1.idx
          generalize rRep (rIdx s) k s5 = pr at *
          obtain ⟨pl, stk⟩ := pr
          simp only at hcl HS HL
          rw [hcl] at HL
          have HPL := hide hcl
          clear hcl
          have HC : Hid (rIdx s stk = (⟨(rNums s stk).1, (rFlag s (rNums s stk).2).1⟩, (rFlag s (rNums s stk).2).2)) := rfl
          have A1 := hide (spNums_any g s stk)
          have A3 := hide (spTruth_any g s (rNums s stk).2)
          generalize rFlag s (rNums s stk).2 = y3 at *
          generalize rNums s stk = y1 at *
          obtain ⟨xc, sa⟩ := y1
          obtain ⟨xu, sc⟩ := y3
          simp only at A1 A3 HC
          have B0 := hide (HL.out.inB #[.slice none 0 0, .bool false] 69)
          have hwz : (wr.alloc (.cells #[.slice none 0 0, .bool false] 69)).heap.size = wr.heap.size + 1 := by simp
          have HWZ := hide hwz
          clear hwz
          obtain ⟨u0, u1, uf⟩ := cells2 B0.out.at'
          have hRL : w.heap.size < L := by omega
          have hgR : g ≠ w.heap.size := by omega
          have hgw : g < wr.heap.size + 1 := by have := B0.out.base; omega
          go_wp2_with fail
          refine (A1.out _ B0.out.cur).mono ?_
          rintro e v1 ⟨vA, rfl, oA, k1, r1⟩
          rw [HWZ.out] at oA
          obtain ⟨aoA, capA, rfl⟩ := ownN_shape oA
          have B1 := hide (B0.out.call r1 k1 hgL hgR)
          have B1' := hide (B1.out.set hgL hRL (Nat.le_of_lt hRL) 0 (.slice aoA xc.length capA) _ (setP0 B1.out.at'))
          have N1 : Hid (OwnN (wr.heap.size + 1) (.slice aoA xc.length capA) xc (v1.setCell ⟨wr.heap.size, 0, none⟩ (.slice aoA xc.length capA))) := own_set oA (Nat.lt_succ_self _)
          obtain ⟨d0, d1, df⟩ := cells2 B1.out.at'
          clear k1 r1 B0 u0 u1 uf oA
          go_wp2_with fail
          refine (A3.out _ B1'.out.cur).mono ?_
          rintro e v2 ⟨rfl, k3, r3⟩
          have B3 := hide (B1'.out.call r3 k3 hgL hgR)
          have B3' := hide (B3.out.set hgL hRL (Nat.le_of_lt hRL) 1 (.bool xu) _ (setP1 B3.out.at'))
          have N3 : Hid (OwnN wr.heap.size (.slice aoA xc.length capA) xc (v2.setCell ⟨wr.heap.size, 1, none⟩ (.bool xu))) := owns_base (own_set (own_far N1.out r3 hgw) (Nat.lt_succ_self _)) (Nat.le_succ _)
          obtain ⟨h0, h1, hf⟩ := cells2 B3.out.at'
          clear k3 r3 B1 B1' N1 d0 d1 df
          obtain ⟨m0, m1, mf⟩ := cells2 B3'.out.at'
          obtain ⟨n0, n1, n2, n3, nf⟩ := cells4 B3'.out.loc.1
          obtain ⟨o0, o1, o2, o3, of'⟩ := cells4 B3.out.loc.1
          have hCL : wr.heap.size ≠ L := by have := B3.out.base; omega
          have hLC : L ≠ wr.heap.size := fun e => hCL e.symm
          have e1 : Hid (((v2.setCell ⟨wr.heap.size, 1, none⟩ (.bool xu)).alloc (.cells #[.slice aoA xc.length capA, .bool xu] 69)).ownsRow (L + 1) 69 2 (.slice ao k cap) k (flatX us pl)) := World.ownsRow.alloc (by have := B3'.out.own.idx.row; simp only [HPL.out] at this; exact this) (.cells #[.slice aoA xc.length capA, .bool xu] 69)
          have e2 : k + 1 ≤ maxLen := by unfold maxLen; omega
          have e3 : (k + 1) * 32 ≤ 140737488355328 := by omega
          have e5 : Hid (((v2.setCell ⟨wr.heap.size, 1, none⟩ (.bool xu)).alloc (.cells #[.slice aoA xc.length capA, .bool xu] 69)).heap.size = (v2.setCell ⟨wr.heap.size, 1, none⟩ (.bool xu)).heap.size + 1) := by show _ = _; simp
          have eC := hide (Array.getElem?_eq_some_iff.1 B3'.out.at').1
          have e4 : Hid (L + 1 ≤ ((v2.setCell ⟨wr.heap.size, 1, none⟩ (.bool xu)).alloc (.cells #[.slice aoA xc.length capA, .bool xu] 69)).heap.size) := by show _ ≤ _; rw [e5.out]; have := eC.out; have := B3'.out.base; omega
          have e6 : ∀ b, (Value.slice ao k cap).ownBlock = some b → L + 1 ≤ b := fun b e => (World.ownsRow.lt e1.out b e).1
          have n1' : (Value.slice ao k cap).ownBlock ≠ some L := fun e => Nat.not_succ_le_self L (e6 _ e)
          have n2' : (Value.slice ao k cap).ownBlock ≠ some w.heap.size := fun e => by have := e6 _ e; omega
          have n3' : (Value.slice ao k cap).ownBlock ≠ some g := fun e => by have := e6 _ e; omega
          have L0 : Hid (LocAt L w.heap.size t1 (.slice aoc cs.length capc) (.slice ao3 ks.length cap3) (.slice ao k cap) ((v2.setCell ⟨wr.heap.size, 1, none⟩ (.bool xu)).alloc (.cells #[.slice aoA xc.length capA, .bool xu] 69))) := B3'.out.loc.grown (r := none) (grown_allocN _ _) nofun nofun
          have C0 : Hid (SpAt g s sc ((v2.setCell ⟨wr.heap.size, 1, none⟩ (.bool xu)).alloc (.cells #[.slice aoA xc.length capA, .bool xu] 69))) := B3'.out.cur.below ((Below.refl _ _).alloc (Nat.le_refl _) _) B3'.out.cur.lt
          have G0 : Hid (w.grownBy ((v2.setCell ⟨wr.heap.size, 1, none⟩ (.bool xu)).alloc (.cells #[.slice aoA xc.length capA, .bool xu] 69)) (some g)) := grown_alloc' B3'.out.grow _
          go_wp2_with (at_builtin; refine wpList_append_lies ((v2.setCell ⟨wr.heap.size, 1, none⟩ (.bool xu)).alloc (.cells #[.slice aoA xc.length capA, .bool xu] 69)) rfl (.tmp 50) (.tmp 52) 30 rfl (L + 1) 69 j0 (.agg #[.slice none 0 0, .bool false]) 2 32 Try.underlying30 hj hy0 hy1 hy2 rfl (by decide) (.slice ao k cap) k (flatX us pl) rfl e1.out ⟨(v2.setCell ⟨wr.heap.size, 1, none⟩ (.bool xu)).heap.size, 0, none⟩ 1 1 [(.slice aoA xc.length capA), .bool xu] (by simp [Act.eval]) rfl (cell_idx_new (v2.setCell ⟨wr.heap.size, 1, none⟩ (.bool xu)) (.slice aoA xc.length capA) xu 69) (one_idx aoA xc.length capA xu) (by decide) e2 e3 e4.out ((v2.setCell ⟨wr.heap.size, 1, none⟩ (.bool xu)).heap.size + 1) e5.out ?_; intro gg cp yB ownB growB atB ltB; have LB := hide (L0.out.grown growB n1' n2'); obtain ⟨q0, q1, q2, q3, qf⟩ := cells4 LB.out.1)
          have WB : Hid (Sp2 w g L w.heap.size s (.slice aoc cs.length capc) (.slice ao3 ks.length cap3) (.slice (some ⟨gg, 0, none⟩) (k + 1) cp) (us ++ [(.slice aoA xc.length capA)]) ⟨t1, cs, ks, (rRep (rIdx s) (k + 1) s5).1⟩ (rRep (rIdx s) (k + 1) s5).2 (yB.setCell ⟨L, 3, none⟩ (.slice (some ⟨gg, 0, none⟩) (k + 1) cp))) := by
            rw [HS.out.1, HS.out.2, HC.out]
            refine ⟨locSet3 LB.out (by omega) rfl, ?_, (C0.out.kept growB n3').other (by omega) 3 _, grown_new (grown_some G0.out growB (by omega) e6) (by omega) 3 _, ?_⟩
            · refine (sown_step (m := wr.heap.size) B3'.out.own B3'.out.far B3'.out.base (Nat.le_of_lt eC.out) N3.out ownB HPL.out growB ?_).set (Nat.lt_succ_self L)
              rcases atB with h1 | h1
              · exact .inl (by rw [h1]; rfl)
              · exact .inr (by rw [h1]; rfl)
            · have h1 := growB.size
              have h2 := e4.out
              simp
              omega
          clear LB ownB growB atB ltB e1 e2 e3 e4 e5 e6 eC n1' n2' n3' L0 C0 G0 HS HC A1 A3 B3 B3' HL h0 h1 hf m0 m1 mf n0 n1 n2 n3 nf o0 o1 o2 o3 of' hCL hLC N3 HWZ
          go_wp2
          go_roundw
          case rel => exact ⟨k + 1, j - 1, _, _, by omega, by go_num, WB⟩
          case measure => simp [intOf]; omega
        · obtain rfl : j = 0 := by omega
          obtain rfl : n = k := by omega
          obtain ⟨hloc, hown, hcur, hgr, hzb⟩ := HL.out
          obtain ⟨ao, cap, rfl⟩ := ownX_shape hown.idx
          generalize rRep (rIdx s) _ s5 = y6 at *
          obtain ⟨xs, s6⟩ := y6
          simp only at hloc hown hcur HR
          have HO := hide hown
          have HCU := hide hcur
          have HGR := hide hgr
          have HLO := hide hloc
          obtain ⟨x0, x1, x2, x3, xf⟩ := cells4 hloc.1
          obtain ⟨z0, z1, z2, z3, zf⟩ := cells4 hloc.2
          clear hloc hown hcur hgr HL
          go_wp2
          refine bodyPost_ret (v := .agg #[.string t1, (.slice aoc cs.length capc), (.slice ao3 ks.length cap3), .slice ao xs.length cap]) (resSch Try.results60 _ _ w.heap.size _ _ _ _ rfl (set4 HLO.out.2)) rfl ⟨_, _, _, us, by rw [HR.out], ?_, ?_, ?_⟩
          · rw [HR.out]
            exact ((((HO.out.set (by omega)).set (by omega)).set (by omega)).set (by omega)).base (by omega)
          · rw [HR.out]
            exact (((HCU.out.other (by omega) _ _).other (by omega) _ _).other (by omega) _ _).other (by omega) _ _
          · exact grown_new (grown_new (grown_new (grown_new HGR.out (Nat.le_refl _) _ _) (Nat.le_refl _) _ _) (Nat.le_refl _) _ _) (Nat.le_refl _) _ _
end Go.Proofs.Ytpmaklbbkmghbaa

/-
  Contracts: is all read?
-/
namespace Go.Proofs.Ytpmaklbbkmghbaa
open Go.RowKit
set_option maxRecDepth 100000

set_option maxHeartbeats 2000000 in
theorem spDone_any (g : Nat) (s : ByteArray) (st : St) (w : World) (h : SpAt g s st w) :
    Calls Try.prog 61 #[.pointer (some ⟨g, 0, none⟩)] w fun e w' => e = .returned (.bool (decide (st = some s.size))) ∧ w' = w.drew := by
  obtain ⟨hs, a, b, hg, ha, hst⟩ := h
  obtain ⟨c0, c1, c2, cf⟩ := cells3 hg
  clear hg
  rcases hst with ⟨p, rfl, rfl, rfl, hp⟩ | ⟨rfl, rfl⟩
  · by_cases he : p = s.size
    · subst he
      go_enter Try.func61, Try.ntmps61
      go_wp2
      go_region_held3 (fun W => W.cell? ⟨g, 0, none⟩ = some (.string s) ∧ W.cell? ⟨g, 1, none⟩ = some (.int .i64 s.size) ∧ W.cell? ⟨g, 2, none⟩ = some (.bool false)) (go_keep) (fail)
      all_goals
        go_wp2
        go_ret
        exact ⟨by simp, rfl⟩
    · have hpe : ((p : Int) == (s.size : Int)) = false := by simp; omega
      go_enter Try.func61, Try.ntmps61
      go_wp2
      go_region_held3 (fun W => W.cell? ⟨g, 0, none⟩ = some (.string s) ∧ W.cell? ⟨g, 1, none⟩ = some (.int .i64 p) ∧ W.cell? ⟨g, 2, none⟩ = some (.bool false)) (go_keep) (fail)
      all_goals
        go_wp2
        go_ret
        exact ⟨by simp [he], rfl⟩
  · skip
    go_enter Try.func61, Try.ntmps61
    go_wp2
    refine wp_region_noPanic ?_
    refine wp_region_held_drew (S := (fun W => W.cell? ⟨g, 2, none⟩ = some (.bool true))) (by kernel_rfl) ?_ (fun hHeld => ?_)
    · (try dsimp only); go_keep
    refine takeD 0 3 (v := ?v1x0) rfl rfl (by kernel_rfl) (by kernel_rfl) (by kernel_rfl) (fun _ _ _ h => h) (by kernel_rfl) ?hy1x0 (by assumption) ?r1x0
    case hy1x0 => (intro W hSw; (try dsimp only at hSw); go_simp; try with_reducible rfl)
    simp only [Act.put, List.setIfInBounds_toArray, List.set_cons_zero, List.set_cons_succ]
    refine takeD 1 4 (v := ?v1x1) rfl rfl (by kernel_rfl) (by kernel_rfl) (by kernel_rfl) (fun _ _ _ h => h) (by kernel_rfl) ?hy1x1 (by assumption) ?r1x1
    case hy1x1 => (intro W hSw; (try dsimp only at hSw); go_simp; try with_reducible rfl)
    simp only [Act.put, List.setIfInBounds_toArray, List.set_cons_zero, List.set_cons_succ]
    refine takeD 2 5 (v := ?v1x2) rfl rfl (by kernel_rfl) (by kernel_rfl) (by kernel_rfl) (fun _ _ _ h => h) (by kernel_rfl) ?hy1x2 (by assumption) ?r1x2
    case hy1x2 => (intro W hSw; (try dsimp only at hSw); go_simp; try with_reducible rfl)
    simp only [Act.put, List.setIfInBounds_toArray, List.set_cons_zero, List.set_cons_succ]
    refine takeD 3 6 (v := ?v1x3) rfl rfl (by kernel_rfl) (by kernel_rfl) (by kernel_rfl) (fun _ _ _ h => h) (by kernel_rfl) ?hy1x3 (by assumption) ?r1x3
    case hy1x3 => (intro W hSw; (try dsimp only at hSw); go_simp; try with_reducible rfl)
    simp only [Act.put, List.setIfInBounds_toArray, List.set_cons_zero, List.set_cons_succ]
    refine takeD 4 7 (v := ?v1x4) rfl rfl (by kernel_rfl) (by kernel_rfl) (by kernel_rfl) (fun _ _ _ h => h) (by kernel_rfl) ?hy1x4 (by assumption) ?r1x4
    case hy1x4 => (intro W hSw; (try dsimp only at hSw); go_simp; try with_reducible rfl)
    simp only [Act.put, List.setIfInBounds_toArray, List.set_cons_zero, List.set_cons_succ]
    refine takeD 5 8 (v := ?v1x5) rfl rfl (by kernel_rfl) (by kernel_rfl) (by kernel_rfl) (fun _ _ _ h => h) (by kernel_rfl) ?hy1x5 (by assumption) ?r1x5
    case hy1x5 => (intro W hSw; (try dsimp only at hSw); go_simp; try with_reducible rfl)
    simp only [Act.put, List.setIfInBounds_toArray, List.set_cons_zero, List.set_cons_succ]
    refine skipAll [(6, 9), (7, 10), (8, 11), (9, 12), (10, 13), (11, 14), (12, 15), (13, 16), (14, 17), (15, 18)] (by kernel_rfl) (fun _ _ _ _ _ h => h) (by assumption) (by kernel_rfl) ?_
    simp only [putAll, listAll, List.foldl_cons, List.foldl_nil, Act.put, List.setIfInBounds_toArray, List.set_cons_zero, List.set_cons_succ]
    refine takeD 16 19 (v := ?v1x16) rfl rfl (by kernel_rfl) (by kernel_rfl) (by kernel_rfl) (fun _ _ _ h => h) (by kernel_rfl) ?hy1x16 (by assumption) ?r1x16
    case hy1x16 => (intro W hSw; (try dsimp only at hSw); go_simp; try with_reducible rfl)
    simp only [Act.put, List.setIfInBounds_toArray, List.set_cons_zero, List.set_cons_succ]
    refine takeD 17 2 (v := ?v1x17) rfl rfl (by kernel_rfl) (by kernel_rfl) (by kernel_rfl) (fun _ _ _ h => h) (by kernel_rfl) ?hy1x17 (by assumption) ?r1x17
    case hy1x17 => (intro W hSw; (try dsimp only at hSw); go_simp; try with_reducible rfl)
    simp only [Act.put, List.setIfInBounds_toArray, List.set_cons_zero, List.set_cons_succ]
    refine wpAnyH_done (by kernel_rfl) ?_ _
    refine NoPanic.normal ?_
    go_wp2
    go_ret
    exact ⟨rfl, rfl⟩
end Go.Proofs.Ytpmaklbbkmghbaa

/-
  Contracts: is all read? (the program's)
-/
namespace Go.Proofs.Ytpmaklbbkmghbaa
open Go.RowKit
set_option maxRecDepth 100000

set_option maxHeartbeats 2000000 in
theorem readAll_any (g : Nat) (s : ByteArray) (st : St) (w : World) (h : CurAt g s st w) :
    Calls Try.prog 64 #[.pointer (some ⟨g, 0, none⟩)] w fun e w' => e = .returned (.bool (decide (st = some s.size))) ∧ w' = w.drew := by
  obtain ⟨hs, a, b, hg, hst⟩ := h
  obtain ⟨c0, c1, c2, cf⟩ := cells3 hg
  clear hg
  rcases hst with ⟨p, rfl, rfl, rfl, hp⟩ | ⟨rfl, c, rfl⟩
  · by_cases he : p = s.size
    · subst he
      go_enter Try.func64, Try.ntmps64
      go_wp2
      go_region_held3 (fun W => W.cell? ⟨g, 0, none⟩ = some (.string s) ∧ W.cell? ⟨g, 1, none⟩ = some (.int .i64 s.size) ∧ W.cell? ⟨g, 2, none⟩ = some (.nilIface)) (go_keep) (fail)
      all_goals
        go_wp2
        go_ret
        exact ⟨by simp, rfl⟩
    · have hpe : ((p : Int) == (s.size : Int)) = false := by simp; omega
      go_enter Try.func64, Try.ntmps64
      go_wp2
      go_region_held3 (fun W => W.cell? ⟨g, 0, none⟩ = some (.string s) ∧ W.cell? ⟨g, 1, none⟩ = some (.int .i64 p) ∧ W.cell? ⟨g, 2, none⟩ = some (.nilIface)) (go_keep) (fail)
      all_goals
        go_wp2
        go_ret
        exact ⟨by simp [he], rfl⟩
  · have hfv : faultV c = .iface 161 (.agg #[.int .i64 c]) := rfl
    rw [hfv] at c2
    go_enter Try.func64, Try.ntmps64
    go_wp2
    refine wp_region_noPanic ?_
    refine wp_region_held_drew (S := (fun W => W.cell? ⟨g, 2, none⟩ = some (.iface 161 (.agg #[.int .i64 c])))) (by kernel_rfl) ?_ (fun hHeld => ?_)
    · (try dsimp only); go_keep
    refine takeD 0 3 (v := ?v2x0) rfl rfl (by kernel_rfl) (by kernel_rfl) (by kernel_rfl) (fun _ _ _ h => h) (by kernel_rfl) ?hy2x0 (by assumption) ?r2x0
    case hy2x0 => (intro W hSw; (try dsimp only at hSw); go_simp; try with_reducible rfl)
    simp only [Act.put, List.setIfInBounds_toArray, List.set_cons_zero, List.set_cons_succ]
    refine takeD 1 4 (v := ?v2x1) rfl rfl (by kernel_rfl) (by kernel_rfl) (by kernel_rfl) (fun _ _ _ h => h) (by kernel_rfl) ?hy2x1 (by assumption) ?r2x1
    case hy2x1 => (intro W hSw; (try dsimp only at hSw); go_simp; try with_reducible rfl)
    simp only [Act.put, List.setIfInBounds_toArray, List.set_cons_zero, List.set_cons_succ]
    refine takeD 2 5 (v := ?v2x2) rfl rfl (by kernel_rfl) (by kernel_rfl) (by kernel_rfl) (fun _ _ _ h => h) (by kernel_rfl) ?hy2x2 (by assumption) ?r2x2
    case hy2x2 => (intro W hSw; (try dsimp only at hSw); go_simp; try with_reducible rfl)
    simp only [Act.put, List.setIfInBounds_toArray, List.set_cons_zero, List.set_cons_succ]
    refine takeD 3 6 (v := ?v2x3) rfl rfl (by kernel_rfl) (by kernel_rfl) (by kernel_rfl) (fun _ _ _ h => h) (by kernel_rfl) ?hy2x3 (by assumption) ?r2x3
    case hy2x3 => (intro W hSw; (try dsimp only at hSw); go_simp; try with_reducible rfl)
    simp only [Act.put, List.setIfInBounds_toArray, List.set_cons_zero, List.set_cons_succ]
    refine takeD 4 7 (v := ?v2x4) rfl rfl (by kernel_rfl) (by kernel_rfl) (by kernel_rfl) (fun _ _ _ h => h) (by kernel_rfl) ?hy2x4 (by assumption) ?r2x4
    case hy2x4 => (intro W hSw; (try dsimp only at hSw); go_simp; try with_reducible rfl)
    simp only [Act.put, List.setIfInBounds_toArray, List.set_cons_zero, List.set_cons_succ]
    refine takeD 5 8 (v := ?v2x5) rfl rfl (by kernel_rfl) (by kernel_rfl) (by kernel_rfl) (fun _ _ _ h => h) (by kernel_rfl) ?hy2x5 (by assumption) ?r2x5
    case hy2x5 => (intro W hSw; (try dsimp only at hSw); go_simp; try with_reducible rfl)
    simp only [Act.put, List.setIfInBounds_toArray, List.set_cons_zero, List.set_cons_succ]
    refine skipAll [(6, 9), (7, 10), (8, 11), (9, 12), (10, 13), (11, 14), (12, 15), (13, 16), (14, 17), (15, 18)] (by kernel_rfl) (fun _ _ _ _ _ h => h) (by assumption) (by kernel_rfl) ?_
    simp only [putAll, listAll, List.foldl_cons, List.foldl_nil, Act.put, List.setIfInBounds_toArray, List.set_cons_zero, List.set_cons_succ]
    refine takeD 16 19 (v := ?v2x16) rfl rfl (by kernel_rfl) (by kernel_rfl) (by kernel_rfl) (fun _ _ _ h => h) (by kernel_rfl) ?hy2x16 (by assumption) ?r2x16
    case hy2x16 => (intro W hSw; (try dsimp only at hSw); go_simp; try with_reducible rfl)
    simp only [Act.put, List.setIfInBounds_toArray, List.set_cons_zero, List.set_cons_succ]
    refine takeD 17 2 (v := ?v2x17) rfl rfl (by kernel_rfl) (by kernel_rfl) (by kernel_rfl) (fun _ _ _ h => h) (by kernel_rfl) ?hy2x17 (by assumption) ?r2x17
    case hy2x17 => (intro W hSw; (try dsimp only at hSw); go_simp; try with_reducible rfl)
    simp only [Act.put, List.setIfInBounds_toArray, List.set_cons_zero, List.set_cons_succ]
    refine wpAnyH_done (by kernel_rfl) ?_ _
    refine NoPanic.normal ?_
    go_wp2
    go_ret
    exact ⟨rfl, rfl⟩
end Go.Proofs.Ytpmaklbbkmghbaa

/-
  Contracts: a schema is read of a text, by the program and by the specification.
-/
namespace Go.Proofs.Ytpmaklbbkmghbaa
open Go.RowKit
set_option maxRecDepth 100000

theorem resSO {fn : Func} {p : Tmp} (h : fn.results = #[.cell p 38]) (tmps : Array Value) (w : World) (g : Nat) (x y z u c : Value) (hp : tmps.getD p undef = .pointer (some ⟨g, 0, none⟩))
    (hg : w.heap[g]? = some (.cells #[x, y, z, u, c] 38 (0, 0))) : (results fn tmps).run Try.prog w = .ok (.agg #[x, y, z, u, c]) w :=
  results_cell_row h tmps w g 38 #[x, y, z, u, c] (0, 0) _ hp hg Try.underlying38 rfl (by kernel_rfl)
theorem set5 {W : World} {g : Nat} {a b c d e x y z u v : Value} {t : TypeId} (h : W.heap[g]? = some (.cells #[a, b, c, d, e] t (0, 0))) :
    (((((W.setCell ⟨g, 0, none⟩ x).setCell ⟨g, 1, none⟩ y).setCell ⟨g, 2, none⟩ z).setCell ⟨g, 3, none⟩ u).setCell ⟨g, 4, none⟩ v).heap[g]? = some (.cells #[x, y, z, u, v] t (0, 0)) := by
  have h0 := heap_setCell_same W g 0 _ t x h
  have h1 := heap_setCell_same _ g 1 _ t y h0
  have h2 := heap_setCell_same _ g 2 _ t z h1
  have h3 := heap_setCell_same _ g 3 _ t u h2
  have h4 := heap_setCell_same _ g 4 _ t v h3
  simpa using h4
theorem below5 {B g : Nat} {w W : World} {x y z u v : Value} (h : Below B w W) (hg : B ≤ g) : Below B w (((((W.setCell ⟨g, 0, none⟩ x).setCell ⟨g, 1, none⟩ y).setCell ⟨g, 2, none⟩ z).setCell ⟨g, 3, none⟩ u).setCell ⟨g, 4, none⟩ v) :=
  ((((h.setCell hg _).setCell hg _).setCell hg _).setCell hg _).setCell hg _
theorem SOwn.set5 {W : World} {base g : Nat} {a k x p q r s t : Value} {us : List Value} {S : Sch} (h : SOwn base a k x us S W) (hg : g < base) : SOwn base a k x us S (((((W.setCell ⟨g, 0, none⟩ p).setCell ⟨g, 1, none⟩ q).setCell ⟨g, 2, none⟩ r).setCell ⟨g, 3, none⟩ s).setCell ⟨g, 4, none⟩ t) :=
  ((((h.set hg).set hg).set hg).set hg).set hg
theorem readSch_long {t : ByteArray} (h : 20000 < t.size) : readSch t = (noSch, 2) := by unfold readSch; rw [if_pos h]
theorem readSch_bad {t : ByteArray} (h : ¬ 20000 < t.size) {S : Sch} {st : St} (he : rSch t (some 0) = (S, st)) (hn : ¬ (st = some t.size ∧ schRight S = true)) : readSch t = (noSch, 3) := by unfold readSch; rw [if_neg h, he, if_neg hn]
theorem readSch_good {t : ByteArray} (h : ¬ 20000 < t.size) {S : Sch} {st : St} (he : rSch t (some 0) = (S, st)) (hn : st = some t.size ∧ schRight S = true) : readSch t = (S, 0) := by unfold readSch; rw [if_neg h, he, if_pos hn]
set_option maxHeartbeats 4000000 in
theorem implSchemaRead_any (t : ByteArray) (w : World) :
    Calls Try.prog 17 #[.string t] w fun e w' => ∃ a k x us, e = .returned (.agg #[.string (readSch t).1.name, a, k, x, .int .i64 (readSch t).2]) ∧ SOwn w.heap.size a k x us (readSch t).1 w' ∧ Below w.heap.size w w' := by
  have HK : Hid ((w.alloc (.cells #[.string ⟨#[]⟩, .slice none 0 0, .slice none 0 0, .slice none 0 0, .int .i64 0] 38)).heap[w.heap.size]? = some (.cells #[.string ⟨#[]⟩, .slice none 0 0, .slice none 0 0, .slice none 0 0, .int .i64 0] 38 (0, 0))) := heap_alloc_new _ _
  have B0 := hide ((Below.refl w.heap.size w).alloc (Nat.le_refl _) (.cells #[.string ⟨#[]⟩, .slice none 0 0, .slice none 0 0, .slice none 0 0, .int .i64 0] 38))
  by_cases hl : 20000 < t.size
  · have HR := hide (readSch_long hl)
    have HT := hide (fun W => tooLong_yes t hl W)
    clear hl
    go_enter Try.func17, Try.ntmps17
    go_wp2_with fail
    refine (HT.out _).mono ?_
    rintro e w1 ⟨rfl, rfl⟩
    obtain ⟨x0, x1, x2, x3, x4, xf⟩ := cells5 HK.out
    go_wp2
    refine bodyPost_ret (v := .agg #[.string ⟨#[]⟩, .slice none 0 0, .slice none 0 0, .slice none 0 0, .int .i64 2]) (resSO Try.results17 _ _ w.heap.size _ _ _ _ _ rfl (heap_alloc_new _ _)) rfl ⟨_, _, _, [], by rw [HR.out]; rfl, by rw [HR.out]; exact noSch_own _ _, (Below.refl _ _).alloc (Nat.le_refl _) _⟩
  · have HT := hide (fun W => tooLong_no t (by omega) W)
    have HL := hide hl
    obtain ⟨S, st, he⟩ : ∃ S st, rSch t (some 0) = (S, st) := ⟨_, _, rfl⟩
    have HSI := hide (show schIn S by have := rSch_in t (some 0) (by unfold maxLen; omega); rw [he] at this; exact this)
    have HE := hide he
    have HC1 : Hid (CurAt (w.heap.size + 1) t (some 0) ((w.alloc (.cells #[.string ⟨#[]⟩, .slice none 0 0, .slice none 0 0, .slice none 0 0, .int .i64 0] 38)).alloc (.cells #[.string t, .int .i64 0, .nilIface] 99))) := by
      refine ⟨by omega, 0, .nilIface, ?_, .inl ⟨0, rfl, rfl, rfl, Nat.zero_le _⟩⟩
      have := heap_alloc_new (w.alloc (.cells #[.string ⟨#[]⟩, .slice none 0 0, .slice none 0 0, .slice none 0 0, .int .i64 0] 38)) (.cells #[.string t, .int .i64 0, .nilIface] 99)
      simpa using this
    have HK1 := hide ((heap_old _ (.cells #[.string t, .int .i64 0, .nilIface] 99) _ (by simp)).trans HK.out)
    have B1 := hide (B0.out.alloc (by simp) (.cells #[.string t, .int .i64 0, .nilIface] 99))
    have HRD := hide (schema_rd (w.heap.size + 1) t (some 0) _ HC1.out)
    have HZ : Hid (((w.alloc (.cells #[.string ⟨#[]⟩, .slice none 0 0, .slice none 0 0, .slice none 0 0, .int .i64 0] 38)).alloc (.cells #[.string t, .int .i64 0, .nilIface] 99)).heap.size = w.heap.size + 2) := by show _ = _; simp
    rw [he] at HRD
    clear hl he HK B0 HC1
    go_enter Try.func17, Try.ntmps17
    go_wp2_with fail
    refine (HT.out _).mono ?_
    rintro e w1 ⟨rfl, rfl⟩
    go_wp2_with fail
    refine HRD.out.mono ?_
    generalize (w.alloc (.cells #[.string ⟨#[]⟩, .slice none 0 0, .slice none 0 0, .slice none 0 0, .int .i64 0] 38)).alloc (.cells #[.string t, .int .i64 0, .nilIface] 99) = W1 at *
    rintro e w2 ⟨a, k, x, us, rfl, o2, c2, g2⟩
    obtain ⟨ao, p1, ko, p2, xo, p3, rfl, rfl, rfl, hrow⟩ := o2.row HSI.out
    obtain ⟨nm, cs, ky, xs⟩ := S
    simp only at *
    have hz2 : w.heap.size + 2 ≤ w2.heap.size := by have := g2.size; rw [HZ.out] at this; exact this
    have HK2 := hide ((heap_old w2 (.cells #[.string nm, .slice ao cs.length p1, .slice ko ky.length p2, .slice xo xs.length p3] 32) w.heap.size (by omega)).trans ((g2.block w.heap.size (by rw [HZ.out]; omega) (fun e => by have := Option.some.inj e; omega)).trans HK1.out))
    have B2 := hide ((B1.out.grown g2 (by rw [HZ.out]; omega) (fun j hj => by have := Option.some.inj hj; omega)).alloc (by omega) (.cells #[.string nm, .slice ao cs.length p1, .slice ko ky.length p2, .slice xo xs.length p3] 32))
    have BA := (Below.refl w2.heap.size w2).alloc (Nat.le_refl _) (.cells #[.string nm, .slice ao cs.length p1, .slice ko ky.length p2, .slice xo xs.length p3] 32)
    have O2 := hide ((o2.below BA).base (show w.heap.size + 1 ≤ W1.heap.size + 1 by rw [HZ.out]; omega))
    have C2 := hide (c2.below BA (by omega))
    have R2 := hide (hrow.kept BA)
    have X2 := hide (heap_alloc_new w2 (.cells #[.string nm, .slice ao cs.length p1, .slice ko ky.length p2, .slice xo xs.length p3] 32))
    have hza : (w2.alloc (.cells #[.string nm, .slice ao cs.length p1, .slice ko ky.length p2, .slice xo xs.length p3] 32)).heap.size = w2.heap.size + 1 := by simp
    have HRA := hide (readAll_any (w.heap.size + 1) t st _ C2.out)
    have HSR := hide (implSchemaRight_any _ _ ao p1 ko p2 xo p3 ⟨nm, cs, ky, xs⟩ (w2.alloc (.cells #[.string nm, .slice ao cs.length p1, .slice ko ky.length p2, .slice xo xs.length p3] 32)).drew (show w2.heap.size ≤ _ by show w2.heap.size ≤ (w2.alloc _).heap.size; rw [hza]; omega) (R2.out.kept (Below.refl _ _).drew))
    have HZA := hide hza
    clear hza BA o2 c2 g2 hrow HK1 B1 HRD HZ HT R2
    obtain ⟨y0, y1, y2, y3, yf⟩ := cells4 X2.out
    go_wp2_with fail
    refine HRA.out.mono ?_
    rintro e w3 ⟨rfl, rfl⟩
    have B3 := hide B2.out.drew
    have O3 : Hid (SOwn (w.heap.size + 1) (.slice ao cs.length p1) (.slice ko ky.length p2) (.slice xo xs.length p3) us ⟨nm, cs, ky, xs⟩ (w2.alloc (.cells #[.string nm, .slice ao cs.length p1, .slice ko ky.length p2, .slice xo xs.length p3] 32)).drew) := O2.out.below (Below.refl _ _).drew
    have HK3 : Hid ((w2.alloc (.cells #[.string nm, .slice ao cs.length p1, .slice ko ky.length p2, .slice xo xs.length p3] 32)).drew.heap[w.heap.size]? = some (.cells #[.string ⟨#[]⟩, .slice none 0 0, .slice none 0 0, .slice none 0 0, .int .i64 0] 38 (0, 0))) := HK2.out
    have X3 : Hid ((w2.alloc (.cells #[.string nm, .slice ao cs.length p1, .slice ko ky.length p2, .slice xo xs.length p3] 32)).drew.heap[w2.heap.size]? = some (.cells #[.string nm, .slice ao cs.length p1, .slice ko ky.length p2, .slice xo xs.length p3] 32 (0, 0))) := X2.out
    have hz3 : w2.heap.size < (w2.alloc (.cells #[.string nm, .slice ao cs.length p1, .slice ko ky.length p2, .slice xo xs.length p3] 32)).drew.heap.size := by show w2.heap.size < (w2.alloc _).heap.size; rw [HZA.out]; omega
    clear B2 O2 HK2 X2 C2 HRA HZA y0 y1 y2 y3 yf
    generalize (w2.alloc (.cells #[.string nm, .slice ao cs.length p1, .slice ko ky.length p2, .slice xo xs.length p3] 32)).drew = W3 at *
    generalize w2.heap.size = g3 at *
    obtain ⟨y0, y1, y2, y3, yf⟩ := cells4 X3.out
    obtain ⟨x0, x1, x2, x3, x4, xf⟩ := cells5 HK3.out
    by_cases hst : st = some t.size
    · have hd : decide (st = some t.size) = true := decide_eq_true hst
      rw [hd]
      clear hd
      have HST := hide hst
      clear hst x0 x1 x2 x3 x4 xf
      go_wp2_with fail
      refine HSR.out.mono ?_
      rintro e w4 ⟨rfl, hb4⟩
      have HK4 := hide ((hb4.block w.heap.size (by omega)).trans HK3.out)
      have X4 := hide ((hb4.block g3 hz3).trans X3.out)
      have O4 := hide (O3.out.below hb4)
      have B4 := hide (B3.out.trans (hb4.mono (by omega)))
      clear hb4 B3 O3 HK3 X3 HSR y0 y1 y2 y3 yf
      obtain ⟨y0, y1, y2, y3, yf⟩ := cells4 X4.out
      obtain ⟨x0, x1, x2, x3, x4, xf⟩ := cells5 HK4.out
      by_cases hr : schRight ⟨nm, cs, ky, xs⟩ = true
      · have HG := hide (readSch_good HL.out HE.out ⟨HST.out, hr⟩)
        rw [hr]
        clear hr
        go_wp2
        refine bodyPost_ret (v := .agg #[.string nm, .slice ao cs.length p1, .slice ko ky.length p2, .slice xo xs.length p3, .int .i64 0]) (resSO Try.results17 _ _ w.heap.size _ _ _ _ _ rfl (set5 HK4.out)) rfl ⟨_, _, _, us, by rw [HG.out], by rw [HG.out]; exact (O4.out.set5 (Nat.lt_succ_self _)).base (Nat.le_succ _), below5 B4.out (Nat.le_refl _)⟩
      · have HG := hide (readSch_bad HL.out HE.out (fun h => hr h.2))
        rw [Bool.not_eq_true] at hr
        rw [hr]
        clear hr
        go_wp2
        refine bodyPost_ret (v := .agg #[.string ⟨#[]⟩, .slice none 0 0, .slice none 0 0, .slice none 0 0, .int .i64 3]) (resSO Try.results17 _ _ w.heap.size _ _ _ _ _ rfl (set5 HK4.out)) rfl ⟨_, _, _, [], by rw [HG.out]; rfl, by rw [HG.out]; exact noSch_own _ _, below5 B4.out (Nat.le_refl _)⟩
    · have hd : decide (st = some t.size) = false := decide_eq_false hst
      have HG := hide (readSch_bad HL.out HE.out (fun h => hst h.1))
      rw [hd]
      clear hd hst HSR
      go_wp2
      refine bodyPost_ret (v := .agg #[.string ⟨#[]⟩, .slice none 0 0, .slice none 0 0, .slice none 0 0, .int .i64 3]) (resSO Try.results17 _ _ w.heap.size _ _ _ _ _ rfl (set5 HK3.out)) rfl ⟨_, _, _, [], by rw [HG.out]; rfl, by rw [HG.out]; exact noSch_own _ _, below5 B3.out (Nat.le_refl _)⟩
end Go.Proofs.Ytpmaklbbkmghbaa

/-
  Contracts: a schema is marked, held and compared as a whole.
-/
namespace Go.Proofs.Ytpmaklbbkmghbaa
open Go.RowKit
set_option maxRecDepth 100000

theorem figs_size (j : Nat) : ∀ o : ByteArray, (figs j o).size ≤ j + o.size := by
  induction j using Nat.strongRecOn with
  | _ j ih =>
    intro o
    by_cases h : j = 0
    · subst h; rw [figs_zero]; omega
    · rw [figs_pos j o (by omega)]
      have := ih (j / 10) (by omega) (mkS [UInt8.ofNat (48 + j % 10)] ++ o)
      rw [ByteArray.size_append, mkS_size] at this
      simp only [List.length_cons, List.length_nil] at this
      omega
theorem markS_size (k : Nat) : (markS k).size ≤ k + 1 := by
  have := figs_size k ⟨#[]⟩
  rw [m_size, ByteArray.size_append]
  have e1 : (⟨#[109]⟩ : ByteArray).size = 1 := rfl
  have e2 : (⟨#[]⟩ : ByteArray).size = 0 := rfl
  omega
def mSch (s : Sch) : Sch := ⟨s.name, mCols 1 s.cols.length, mNums (1 + 3 * s.cols.length) s.key.length, mIdx (1 + 3 * s.cols.length + s.key.length) s.idx⟩
def cntS (s : Sch) : Nat := 1 + 3 * s.cols.length + s.key.length + nI s.idx
theorem mNums_in (k0 n : Nat) (h0 : k0 ≤ 1000) (hn : n ≤ 10) : ∀ x ∈ mNums k0 n, inI64 x := fun x hx => by
  unfold mNums at hx
  rw [List.mem_map] at hx
  obtain ⟨i, hi, rfl⟩ := hx
  rw [List.mem_range] at hi
  unfold inI64
  omega
theorem mIdx_in : ∀ (xs : List Idx) (q : Nat), q + 11 * xs.length ≤ 1000 → (∀ x ∈ xs, x.cols.length ≤ 10) → ∀ y ∈ mIdx q xs, y.cols.length ≤ 10 ∧ ∀ z ∈ y.cols, inI64 z
  | [], q, _, _, y, hy => by simp [mIdx] at hy
  | x :: r, q, hq, h, y, hy => by
    simp only [mIdx, List.mem_cons] at hy
    have hx := h x (by simp)
    simp only [List.length_cons] at hq
    rcases hy with rfl | hy
    · unfold mI
      simp only [mNums_len]
      exact ⟨hx, mNums_in q _ (by omega) hx⟩
    · exact mIdx_in r _ (by omega) (fun z hz => h z (by simp [hz])) y hy
theorem mSch_in {s : Sch} (h : schIn s) : schIn (mSch s) := by
  have h1 := h.nc
  have h2 := h.nk
  have h3 := h.nx
  refine ⟨h.name, by unfold mSch; rw [mCols_len]; exact h1, by unfold mSch; rw [mNums_len]; exact h2, by unfold mSch; rw [mIdx_len]; exact h3, fun c hc => ?_, mNums_in _ _ (by omega) h2, mIdx_in _ _ (by omega) (fun x hx => (h.idx x hx).1)⟩
  unfold mSch mCols at hc
  rw [List.mem_map] at hc
  obtain ⟨i, hi, rfl⟩ := hc
  rw [List.mem_range] at hi
  have := markS_size (1 + 3 * i)
  unfold mCol inI64 maxLen
  simp only
  omega
theorem ownBlock_lt {base n size : Nat} {t : TypeId} {v : Value} {xs : List Value} {w : World} (h : w.ownsRow base t size v n xs) : some w.heap.size ≠ v.ownBlock := fun e => by
  have := (World.ownsRow.lt h _ e.symm).2
  omega
set_option maxHeartbeats 4000000 in
theorem markSchema_cnt (base : Nat) (a k x : Value) (us : List Value) (s : Sch) (w : World) (hc : cntS s ≤ 5000000) (h : SOwn base a k x us s w) :
    Calls Try.prog 36 #[.agg #[.string s.name, a, k, x], .int .i64 1] w fun e w' => e = .returned (.int .i64 ((cntS s : Nat) : Int)) ∧ SOwn base a k x us (mSch s) w' ∧ GL (a :: k :: x :: us) w w' := by
  obtain ⟨q1, hq1⟩ : ∃ q, q = 1 + 3 * s.cols.length := ⟨_, rfl⟩
  obtain ⟨q2, hq2⟩ : ∃ q, q = q1 + s.key.length := ⟨_, rfl⟩
  have HM : Hid (mSch s = ⟨s.name, mCols 1 s.cols.length, mNums q1 s.key.length, mIdx q2 s.idx⟩ ∧ cntS s = q2 + nI s.idx) := by rw [hq2, hq1]; exact ⟨rfl, rfl⟩
  unfold cntS at hc
  have HC1 := hide (fun (W : World) (hW : OwnC base a s.cols W) => show Calls Try.prog 78 #[a, .int .i64 1] W fun e w' => e = .returned (.int .i64 (q1 : Int)) ∧ OwnC base a (mCols 1 s.cols.length) w' ∧ W.grownBy w' a.ownBlock by rw [hq1]; exact markColumnS_own base a s.cols 1 W (by omega) (by omega) hW)
  have HC2 := hide (fun (W : World) (hW : OwnN base k s.key W) => show Calls Try.prog 31 #[k, .int .i64 (q1 : Int)] W fun e w' => e = .returned (.int .i64 (q2 : Int)) ∧ OwnN base k (mNums q1 s.key.length) w' ∧ W.grownBy w' k.ownBlock by rw [hq2]; exact markInt64S_mk base k s.key q1 W (by omega) hW)
  have hap := h.apart
  have hapx : Apart (x :: us) := by unfold Apart at hap ⊢; simp only [List.pairwise_cons] at hap ⊢; exact ⟨hap.2.2.1, hap.2.2.2⟩
  have HC3 := hide (fun (W : World) (hW : OwnX base x us s.idx W) => markIndexS_own base x us s.idx q2 W (by omega) hapx hW)
  have HAP := hide hap
  have HBU := hide h.blocks
  obtain ⟨ao, p1, rfl⟩ := ownC_shape h.cols
  obtain ⟨ko, p2, rfl⟩ := ownN_shape h.key
  obtain ⟨xo, p3, rfl⟩ := ownX_shape h.idx
  obtain ⟨nm, cs, ky, xs⟩ := s
  simp only at *
  have BA := (Below.refl w.heap.size w).alloc (Nat.le_refl _) (.cells #[.string nm, .slice ao cs.length p1, .slice ko ky.length p2, .slice xo xs.length p3] 32)
  have HS0 := hide (h.below BA)
  have HX0 := hide (heap_alloc_new w (.cells #[.string nm, .slice ao cs.length p1, .slice ko ky.length p2, .slice xo xs.length p3] 32))
  have B0 := hide (GL.alloc (.slice ao cs.length p1 :: .slice ko ky.length p2 :: .slice xo xs.length p3 :: us) w (.cells #[.string nm, .slice ao cs.length p1, .slice ko ky.length p2, .slice xo xs.length p3] 32))
  have HZ : Hid ((w.alloc (.cells #[.string nm, .slice ao cs.length p1, .slice ko ky.length p2, .slice xo xs.length p3] 32)).heap.size = w.heap.size + 1) := by show _ = _; simp
  clear h hc hap hapx BA hq1 hq2
  go_enter Try.func36, Try.ntmps36
  go_wp2_with fail
  refine (HC1.out _ HS0.out.cols).mono ?_
  generalize w.alloc (.cells #[.string nm, .slice ao cs.length p1, .slice ko ky.length p2, .slice xo xs.length p3] 32) = W0 at *
  rintro e w1 ⟨rfl, o1, g1⟩
  have hap := HAP.out
  unfold Apart at hap
  simp only [List.pairwise_cons, List.mem_cons, forall_eq_or_imp] at hap
  obtain ⟨⟨hak, hax, hau⟩, ⟨hkx, hku⟩, hxu, huu⟩ := hap
  have nb : ∀ v ∈ (.slice ao cs.length p1 : Value) :: .slice ko ky.length p2 :: .slice xo xs.length p3 :: us, some w.heap.size ≠ v.ownBlock := fun v hv e => by have := HBU.out v hv _ e.symm; omega
  have HX1 := hide ((g1.block w.heap.size (by rw [HZ.out]; omega) (nb _ (by simp))).trans HX0.out)
  have K1 := hide (World.ownsRow.kept HS0.out.key g1 (ne_symm hak))
  have I1 : Hid (OwnX base (.slice xo xs.length p3) us xs w1) := ⟨HS0.out.idx.len, World.ownsRow.kept HS0.out.idx.row g1 (ne_symm hax), fun p hp => World.ownsRow.kept (HS0.out.idx.inner p hp) g1 (ne_symm (hau _ (List.of_mem_zip hp).1))⟩
  have O1 := hide o1
  have B1 := hide (B0.out.trans (GL.of g1 (by simp)))
  have z1 : w.heap.size + 1 ≤ w1.heap.size := by have := g1.size; rw [HZ.out] at this; exact this
  clear o1 g1 HX0 B0 HS0 HC1 HZ
  obtain ⟨x0, x1, x2, x3, xf⟩ := cells4 HX1.out
  go_wp2_with fail
  refine (HC2.out _ K1.out).mono ?_
  rintro e w2 ⟨rfl, o2, g2⟩
  have HX2 := hide ((g2.block w.heap.size (by omega) (nb _ (by simp))).trans HX1.out)
  have O2 := hide (World.ownsRow.kept O1.out g2 (hak))
  have I2 : Hid (OwnX base (.slice xo xs.length p3) us xs w2) := ⟨I1.out.len, World.ownsRow.kept I1.out.row g2 (ne_symm hkx), fun p hp => World.ownsRow.kept (I1.out.inner p hp) g2 (ne_symm (hku _ (List.of_mem_zip hp).1))⟩
  have K2 := hide o2
  have B2 := hide (B1.out.trans (GL.of g2 (by simp)))
  have z2 : w.heap.size + 1 ≤ w2.heap.size := by have := g2.size; omega
  clear o2 g2 HX1 B1 K1 I1 O1 HC2 x0 x1 x2 x3 xf
  obtain ⟨x0, x1, x2, x3, xf⟩ := cells4 HX2.out
  go_wp2_with fail
  refine (HC3.out _ I2.out).mono ?_
  rintro e w3 ⟨rfl, o3, g3⟩
  have O3 := hide (g3.own O2.out (fun v hv => by
    rcases List.mem_cons.1 hv with rfl | hv
    · exact hax
    · exact hau v hv))
  have K3 := hide (g3.own K2.out (fun v hv => by
    rcases List.mem_cons.1 hv with rfl | hv
    · exact hkx
    · exact hku v hv))
  have I3 := hide o3
  have B3 := hide (B2.out.trans (g3.mono (fun v hv => by
    rcases List.mem_cons.1 hv with rfl | hv
    · simp
    · simp [hv])))
  clear o3 g3 HX2 B2 K2 I2 O2 HC3 x0 x1 x2 x3 xf nb
  have HCN := hide HM.out.2
  go_wp2
  go_ret
  refine ⟨by rw [HCN.out]; rfl, ?_, B3.out⟩
  rw [HM.out.1]
  exact ⟨by unfold OwnC at *; exact O3.out, K3.out, I3.out, HAP.out⟩
theorem schIn.cnt {s : Sch} (h : schIn s) : cntS s ≤ 5000000 := by
  have h1 := h.nc
  have h2 := h.nk
  have h3 := h.nx
  have h4 := nI_le s.idx (fun x hx => (h.idx x hx).1)
  unfold cntS
  omega
theorem markSchema_own (base : Nat) (a k x : Value) (us : List Value) (s : Sch) (w : World) (hs : schIn s) (h : SOwn base a k x us s w) :
    Calls Try.prog 36 #[.agg #[.string s.name, a, k, x], .int .i64 1] w fun e w' => e = .returned (.int .i64 ((cntS s : Nat) : Int)) ∧ SOwn base a k x us (mSch s) w' ∧ GL (a :: k :: x :: us) w w' :=
  markSchema_cnt base a k x us s w hs.cnt h
set_option maxHeartbeats 4000000 in
theorem heldSchema_any (A B : Nat) (ao : Option Addr) (p1 : Nat) (ko : Option Addr) (p2 : Nat) (xo : Option Addr) (p3 : Nat) (s : Sch) (w : World) (hB : B ≤ w.heap.size) (hs : schIn s) (hr : SchRow w A B ao ko xo p2 (mSch s)) :
    Calls Try.prog 65 #[.agg #[.string s.name, .slice ao s.cols.length p1, .slice ko s.key.length p2, .slice xo s.idx.length p3], .int .i64 1] w fun e w' => e = .returned (.int .i64 ((cntS s : Nat) : Int)) ∧ Below w.heap.size w w' := by
  obtain ⟨q1, hq1⟩ : ∃ q, q = 1 + 3 * s.cols.length := ⟨_, rfl⟩
  obtain ⟨q2, hq2⟩ : ∃ q, q = q1 + s.key.length := ⟨_, rfl⟩
  have HM : Hid (cntS s = q2 + nI s.idx) := by rw [hq2, hq1]; rfl
  have n1 := hs.nc
  have n2 := hs.nk
  have HC1 := hide (fun (W : World) (hW : Below w.heap.size w W) => show Calls Try.prog 104 #[.slice ao s.cols.length p1, .int .i64 1] W fun e w' => e = .returned (.int .i64 (q1 : Int)) ∧ Below W.heap.size W w' by rw [hq1]; exact heldColumnS_any A B ao s.cols.length p1 1 W (Nat.le_trans hB hW.size) n1 (by omega) (by omega) (hr.2.1.kept (hW.mono hB)))
  have HC2 := hide (fun (W : World) (hW : Below w.heap.size w W) => show Calls Try.prog 105 #[.slice ko s.key.length p2, .int .i64 (q1 : Int)] W fun e w' => e = .returned (.int .i64 (q2 : Int)) ∧ Below W.heap.size W w' by
    have h2 := hr.2.2.1
    unfold mSch at h2
    simp only [← hq1] at h2
    rw [hq2]; exact heldInt64S_any A B ko s.key.length p2 q1 W (Nat.le_trans hB hW.size) n2 (by omega) (h2.kept (hW.mono hB)))
  have HC3 := hide (fun (W : World) (hW : Below w.heap.size w W) => show Calls Try.prog 106 #[.slice xo s.idx.length p3, .int .i64 (q2 : Int)] W fun e w' => e = .returned (.int .i64 ((q2 + nI s.idx : Nat) : Int)) ∧ Below W.heap.size W w' by
    have h3 := hr.2.2.2
    unfold mSch at h3
    simp only [← hq1, ← hq2] at h3
    exact heldIndexS_any A B xo s.idx s.idx.length p3 q2 W (Nat.le_trans hB hW.size) rfl hs.nx (by omega) (fun y hy => (hs.idx y hy).1) (h3.kept (hW.mono hB)))
  obtain ⟨nm, cs, ky, xs⟩ := s
  simp only at *
  have B0 := hide ((Below.refl w.heap.size w).alloc (Nat.le_refl _) (.cells #[.string nm, .slice ao cs.length p1, .slice ko ky.length p2, .slice xo xs.length p3] 32))
  have HX0 := hide (heap_alloc_new w (.cells #[.string nm, .slice ao cs.length p1, .slice ko ky.length p2, .slice xo xs.length p3] 32))
  have HZ : Hid ((w.alloc (.cells #[.string nm, .slice ao cs.length p1, .slice ko ky.length p2, .slice xo xs.length p3] 32)).heap.size = w.heap.size + 1) := by show _ = _; simp
  have hn1 : ¬ ((q1 : Int) < 0) := by omega
  have hn2 : ¬ ((q2 : Int) < 0) := by omega
  have hn3 : ¬ (((q2 + nI xs : Nat) : Int) < 0) := by omega
  clear hr hs hq1 hq2 n1 n2
  generalize q2 + nI xs = q3 at *
  go_enter Try.func65, Try.ntmps65
  go_wp2_with fail
  refine (HC1.out _ B0.out).mono ?_
  generalize w.alloc (.cells #[.string nm, .slice ao cs.length p1, .slice ko ky.length p2, .slice xo xs.length p3] 32) = W0 at *
  rintro e w1 ⟨rfl, g1⟩
  have HX1 := hide ((g1.block w.heap.size (by rw [HZ.out]; omega)).trans HX0.out)
  have B1 := hide (B0.out.trans (g1.mono (by rw [HZ.out]; omega)))
  have z1 : w.heap.size + 1 ≤ w1.heap.size := by have := g1.size; rw [HZ.out] at this; exact this
  clear g1 HX0 B0 HC1 HZ
  obtain ⟨x0, x1, x2, x3, xf⟩ := cells4 HX1.out
  go_wp2_with fail
  refine (HC2.out _ B1.out).mono ?_
  rintro e w2 ⟨rfl, g2⟩
  have HX2 := hide ((g2.block w.heap.size (by omega)).trans HX1.out)
  have B2 := hide (B1.out.trans (g2.mono (by omega)))
  have z2 : w.heap.size + 1 ≤ w2.heap.size := by have := g2.size; omega
  clear g2 HX1 B1 HC2 x0 x1 x2 x3 xf
  obtain ⟨x0, x1, x2, x3, xf⟩ := cells4 HX2.out
  go_wp2_with fail
  refine (HC3.out _ B2.out).mono ?_
  rintro e w3 ⟨rfl, g3⟩
  have B3 := hide (B2.out.trans (g3.mono (by omega)))
  clear g3 HX2 B2 HC3 x0 x1 x2 x3 xf
  go_wp2
  go_ret
  exact ⟨by rw [HM.out]; rfl, B3.out⟩
end Go.Proofs.Ytpmaklbbkmghbaa
