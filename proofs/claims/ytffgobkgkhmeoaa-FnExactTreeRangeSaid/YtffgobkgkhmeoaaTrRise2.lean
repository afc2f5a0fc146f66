/-
  Contracts: do a tree's keys rise? The loop.
-/
import Derived.Test.YtffgobkgkhmeoaaTrRise
namespace Go.Proofs.Ytffgobkgkhmeoaa
open Go.RowKit Go.Shelf
attribute [local go_sem] Oper.semAt_some
set_option maxRecDepth 100000
set_option linter.unusedVariables false

/-- What the loop's variables hold. -/
def RiseAt (R : Nat) (w : World) (pre : List ByteArray) (W : World) : Prop :=
  (rises pre = true ∧ (W.cell? ⟨R, 0, none⟩ = some (.bool false) ∧ W.frozen? ⟨R, 0, none⟩ = false) ∧ (W.cell? ⟨R + 1, 0, none⟩ = some (.string (lastOf pre)) ∧ W.frozen? ⟨R + 1, 0, none⟩ = false) ∧ (W.cell? ⟨R + 1 + 1, 0, none⟩ = some (.bool (decide (pre = []))) ∧ W.frozen? ⟨R + 1 + 1, 0, none⟩ = false)) ∧ Below w.heap.size w W
theorem keep2 {W W' : World} {a : Addr} {v : Value} {row : Option Nat} (h : W.cell? a = some v ∧ W.frozen? a = false) (hg : W.grownBy W' row) (hr : ∀ r, row = some r → ∃ o : Obj, W.heap[r]? = some o ∧ o.isCells = false) : W'.cell? a = some v ∧ W'.frozen? a = false :=
  ⟨cell_kept h.1 hg hr, (frozen_kept h.1 hg hr).trans h.2⟩
theorem riseAt_own (R : Nat) (w : World) (B : Nat) (hB : w.heap.size ≤ B) : OwnFrom B (RiseAt R w) :=
  OwnFrom.and (Own.from (fun s A B row hs hg hr => ⟨hs.1, keep2 hs.2.1 hg hr, keep2 hs.2.2.1 hg hr, keep2 hs.2.2.2 hg hr⟩) _) (ownFrom_below (Nat.le_refl _) hB)
def RiseX (R : Nat) (w : World) (c : Code) (pre : List ByteArray) (W : World) : Prop :=
  (c = .ret ∧ rises pre = false ∧ (W.cell? ⟨R, 0, none⟩ = some (.bool false) ∧ W.frozen? ⟨R, 0, none⟩ = false)) ∧ Below w.heap.size w W
theorem riseX_own (R : Nat) (w : World) (B : Nat) (hB : w.heap.size ≤ B) (c : Code) : OwnFrom B (RiseX R w c) :=
  OwnFrom.and (Own.from (fun s A B row hs hg hr => ⟨hs.1, hs.2.1, keep2 hs.2.2 hg hr⟩) _) (ownFrom_below (Nat.le_refl _) hB)
theorem box_new (W : World) (v : Value) (t : TypeId) : (W.alloc (.cells #[v] t)).cell? ⟨W.heap.size, 0, none⟩ = some v ∧ (W.alloc (.cells #[v] t)).frozen? ⟨W.heap.size, 0, none⟩ = false := by
  have h : (W.alloc (.cells #[v] t)).heap[W.heap.size]? = some (.cells #[v] t (0, 0)) := World.alloc_heap_new W (.cells #[v] t)
  exact ⟨by rw [cell_of_row _ _ _ _ _ _ h]; rfl, frozen_of_row _ _ _ _ _ h⟩
theorem box_old {W : World} {a : Addr} {v : Value} (o : Obj) (h : W.cell? a = some v ∧ W.frozen? a = false) : (W.alloc o).cell? a = some v ∧ (W.alloc o).frozen? a = false := keep2 h (World.grownBy_alloc W o none) (fun r e => by cases e)
theorem rise_step {R : Nat} {w : World} (hR : w.heap.size ≤ R) {pre : List ByteArray} {x : ByteArray} {W : World} (h : RiseAt R w pre W) (hx : rises (pre ++ [x]) = true) :
    KeepsOthers W ((W.setCell ⟨R + 1, 0, none⟩ (.string x)).setCell ⟨R + 1 + 1, 0, none⟩ (.bool false)) ∧ Below w.heap.size W ((W.setCell ⟨R + 1, 0, none⟩ (.string x)).setCell ⟨R + 1 + 1, 0, none⟩ (.bool false)) ∧ RiseAt R w (pre ++ [x]) ((W.setCell ⟨R + 1, 0, none⟩ (.string x)).setCell ⟨R + 1 + 1, 0, none⟩ (.bool false)) := by
  obtain ⟨⟨_, ⟨d0, f0⟩, ⟨d1, f1⟩, ⟨d2, f2⟩⟩, hB⟩ := h
  have hb : Below w.heap.size W ((W.setCell ⟨R + 1, 0, none⟩ (.string x)).setCell ⟨R + 1 + 1, 0, none⟩ (.bool false)) := ((Below.refl w.heap.size W).setCell (p := ⟨R + 1, 0, none⟩) (by show w.heap.size ≤ R + 1; omega) _).setCell (p := ⟨R + 1 + 1, 0, none⟩) (by show w.heap.size ≤ R + 1 + 1; omega) _
  have n1 : (⟨R + 1, 0, none⟩ : Addr) ≠ ⟨R, 0, none⟩ := fun e => by have : R + 1 = R := congrArg Addr.block e; omega
  have n2 : (⟨R + 1 + 1, 0, none⟩ : Addr) ≠ ⟨R, 0, none⟩ := fun e => by have : R + 1 + 1 = R := congrArg Addr.block e; omega
  have n3 : (⟨R + 1 + 1, 0, none⟩ : Addr) ≠ ⟨R + 1, 0, none⟩ := fun e => by have : R + 1 + 1 = R + 1 := congrArg Addr.block e; omega
  have n4 : (⟨R + 1, 0, none⟩ : Addr) ≠ ⟨R + 1 + 1, 0, none⟩ := fun e => n3 e.symm
  refine ⟨(KeepsOthers.setCell _ _ _).trans (KeepsOthers.setCell _ _ _), hb, ⟨hx, ⟨?_, ?_⟩, ⟨?_, ?_⟩, ⟨?_, ?_⟩⟩, hB.trans hb⟩
  · rw [World.cell?_setCell_other _ _ _ _ n2, World.cell?_setCell_other _ _ _ _ n1]; exact d0
  · rw [World.frozen?_setCell, World.frozen?_setCell]; exact f0
  · rw [World.cell?_setCell_other _ _ _ _ n3, lastOf_snoc]; exact World.cell?_setCell_same' _ _ _ (by rw [d1]; rfl)
  · rw [World.frozen?_setCell, World.frozen?_setCell]; exact f1
  · have : decide (pre ++ [x] = []) = false := decide_eq_false (by simp)
    rw [this]
    exact World.cell?_setCell_same' _ _ _ (by rw [World.cell?_setCell_other _ _ _ _ n4, d2]; rfl)
  · rw [World.frozen?_setCell, World.frozen?_setCell]; exact f2
set_option maxHeartbeats 2000000 in
theorem keysRise_in (F : Fence) (hF : F = Fence.wide) (n : Nat) (hn : 4 ≤ n) (r A k : Nat) (t : Tr) (g o : Nat) (w : World) (hl : (lev r t).isSome = true) (hat : TrAt w A w.heap.size k t g o) :
    CallsIn F n Try.prog 37 #[.pointer (some ⟨g, o, none⟩)] w fun e w' => e = .returned (.bool (rises (inord r t))) ∧ Below w.heap.size w w' := by
  have h1 : 1 ≤ n := by omega
  have hf : F.fn 37 := by rw [hF]; trivial
  have hf1 : F.fn 31 := by rw [hF]; trivial
  have hf2 : F.fn 38 := by rw [hF]; trivial
  have hro : F.round = none := by rw [hF]; rfl
  have HF := hide hF
  obtain ⟨all, hall⟩ : ∃ all, inord r t = all := ⟨_, rfl⟩
  have HA := hide hall
  rw [hall]
  clear hF hall
  refine callsIn_of_wp_marks Try.func37 rfl hf ?_ hro
  simp only [Try.ntmps37, List.size_toArray, List.length_cons, List.length_nil, Nat.reduceAdd, Nat.reduceSub, Array.replicate_succ, Array.replicate_zero, List.push_toArray, List.append_toArray, List.nil_append, List.cons_append]
  gi_wp2_with (gi_at_call 31; refine (keysOf_in F (n - 1) hf1 hro _ _).mono ?_; rintro e w' ⟨rfl, rfl⟩)
  obtain ⟨W0, hW0⟩ : ∃ W0, (((w.alloc (.cells #[.bool false] 4)).alloc (.cells #[.string ⟨#[]⟩] 9)).alloc (.cells #[.bool true] 4)).alloc (.cells #[.pointer (some ⟨g, o, none⟩)] 47) = W0 := ⟨_, rfl⟩
  have hs0 : W0.heap.size = w.heap.size + 4 := by rw [← hW0]; simp
  have hB0 : Below w.heap.size w W0 := by
    rw [← hW0]
    exact ((((Below.refl w.heap.size w).alloc (Nat.le_refl _) _).alloc (by simp) _).alloc (by simp; omega) _).alloc (by simp; omega) _
  have c0 : W0.cell? ⟨w.heap.size, 0, none⟩ = some (.bool false) ∧ W0.frozen? ⟨w.heap.size, 0, none⟩ = false := by
    rw [← hW0]; exact box_old _ (box_old _ (box_old _ (box_new w _ _)))
  have c1 : W0.cell? ⟨w.heap.size + 1, 0, none⟩ = some (.string ⟨#[]⟩) ∧ W0.frozen? ⟨w.heap.size + 1, 0, none⟩ = false := by
    rw [← hW0]
    have := box_new (w.alloc (.cells #[.bool false] 4)) (.string ⟨#[]⟩) 9
    rw [World.size_alloc] at this
    exact box_old _ (box_old _ this)
  have c2 : W0.cell? ⟨w.heap.size + 1 + 1, 0, none⟩ = some (.bool true) ∧ W0.frozen? ⟨w.heap.size + 1 + 1, 0, none⟩ = false := by
    rw [← hW0]
    have := box_new ((w.alloc (.cells #[.bool false] 4)).alloc (.cells #[.string ⟨#[]⟩] 9)) (.bool true) 4
    rw [World.size_alloc, World.size_alloc] at this
    exact box_old _ this
  have c3 : W0.cell? ⟨w.heap.size + 1 + 1 + 1, 0, none⟩ = some (.pointer (some ⟨g, o, none⟩)) := by
    rw [← hW0]
    have := (box_new (((w.alloc (.cells #[.bool false] 4)).alloc (.cells #[.string ⟨#[]⟩] 9)).alloc (.cells #[.bool true] 4)) (.pointer (some ⟨g, o, none⟩)) 47).1
    rw [World.size_alloc, World.size_alloc, World.size_alloc] at this
    exact this
  rw [hW0]
  have HST := keys_stops F HF.out (n - 1) (w.heap.size + 1 + 1 + 1) w.heap.size r A k t g o W0 (by omega) (by omega) c3 hl (hat.kept hB0)
  rw [HA.out] at HST
  clear hat hl hW0
  refine wpIn_rangeFunc_ownF hro h1 (gf := 38) (lb := #[.pointer (some ⟨w.heap.size + 1 + 1 + 1, 0, none⟩)]) rfl hf2 (enters_of Try.func38 (by kernel_rfl) rfl)
    HST belowK_t (belowK_b (by omega)) (Below.refl _ _) (fun _ => rfl)
    (RiseAt w.heap.size w) (RiseX w.heap.size w) (riseAt_own _ _ _ (by omega)) (riseX_own _ _ _ (by omega))
    ⟨⟨rfl, c0, c1, c2⟩, hB0⟩
    (fun x => { tmps := #[.pointer (some ⟨g, o, none⟩), undef, .pointer (some ⟨w.heap.size, 0, none⟩), .pointer (some ⟨w.heap.size + 1, 0, none⟩), .pointer (some ⟨w.heap.size + 1 + 1, 0, none⟩), .string x, .pointer (some ⟨g, o, none⟩), .func (.func 38) #[] #[.pointer (some ⟨w.heap.size + 1 + 1 + 1, 0, none⟩)], .string x, undef, undef, undef, undef, undef, undef, undef, undef], defers := [] }) ?assign ?body ?done ?stop
  case assign =>
    intro l x W K hK
    gi_wp2
    exact hK
  case body =>
    rintro l pre x W hI _
    have HI := hide hI
    obtain ⟨⟨hr, ⟨d0, f0⟩, ⟨d1, f1⟩, ⟨d2, f2⟩⟩, hB⟩ := hI
    by_cases hp : pre = []
    · have HS := hide (rise_step (x := x) (Nat.le_refl _) HI.out (by rw [hp]; rfl))
      rw [decide_eq_true hp] at d2
      clear hp hr HI
      gi_wp2
      exact HS.out
    · rw [decide_eq_false hp] at d2
      have HRS := hide (rises_snoc pre x hp)
      have HR := hide hr
      have q2 := le_not_lt x (lastOf pre)
      clear hp hr
      generalize lastOf pre = y at *
      by_cases hlt : lt' y x = true
      · have HS := hide (rise_step (x := x) (Nat.le_refl _) HI.out (by rw [HRS.out, HR.out, hlt]; rfl))
        rw [hlt, Bool.not_true, Bool.or_eq_false_iff] at q2
        obtain ⟨q3, q4⟩ := q2
        clear hlt HRS HR HI
        gi_wp2
        exact HS.out
      · rw [Bool.not_eq_true] at hlt
        have HX : Hid (rises (pre ++ [x]) = false) := by show _ = _; rw [HRS.out, hlt, Bool.and_false]
        rw [hlt, Bool.not_false] at q2
        have HP : Hid (KeepsOthers W (W.setCell ⟨w.heap.size, 0, none⟩ (.bool false)) ∧ RiseX w.heap.size w .ret (pre ++ [x]) (W.setCell ⟨w.heap.size, 0, none⟩ (.bool false))) := ⟨KeepsOthers.setCell _ _ _, ⟨rfl, HX.out, World.cell?_setCell_same' _ _ _ (by rw [d0]; rfl), by rw [World.frozen?_setCell]; exact f0⟩, hB.setCell (p := ⟨w.heap.size, 0, none⟩) (Nat.le_refl _) _⟩
        by_cases q3 : Go.Op.bytesLess x.toList y.toList = true
        · clear hlt HRS HR HI HX q2
          gi_wp2
          exact HP.out
        · rw [Bool.not_eq_true] at q3
          rw [q3, Bool.false_or] at q2
          clear hlt HRS HR HI HX
          gi_wp2
          exact HP.out
  case done =>
    rintro D ys W hD rfl ⟨⟨hr, ⟨d0, f0⟩, _, _⟩, hB⟩ hK
    have HR := hide hr
    clear hr
    gi_wp2
    have hK' := (KeepsOthers.setCell W ⟨w.heap.size, 0, none⟩ (.bool true)).same D _ hK rfl
    refine ⟨by simp, .inl ⟨_, _, rfl, run_takeDeferred hK', ?_⟩⟩
    have hc5 := cell_kept (World.cell?_setCell_same' W ⟨w.heap.size, 0, none⟩ (.bool true) (by rw [d0]; rfl)) (grownBy_putObj' _ D (.deferred none)) (fun r e => by cases e; exact ⟨_, hK', rfl⟩)
    refine ⟨.bool true, ?_, by rw [HR.out], ?_⟩
    · simp [results, Try.f37, go_sem, hc5]
    · exact (hB.setCell (p := ⟨w.heap.size, 0, none⟩) (Nat.le_refl _) _).trans (belowK_b (w := w) (Nat.le_refl _) _ D _ _ (by omega) hK' rfl rfl)
  case stop =>
    rintro D c pre W hD hp ⟨⟨rfl, hr, ⟨d0, f0⟩⟩, hB⟩ hK
    have HR := hide (rises_prefix hp hr)
    clear hr hp
    gi_wp2
    refine ⟨by simp, .inl ⟨_, _, rfl, run_takeDeferred hK, ?_⟩⟩
    have hc5 := cell_kept d0 (grownBy_putObj' _ D (.deferred none)) (fun r e => by cases e; exact ⟨_, hK, rfl⟩)
    refine ⟨.bool false, ?_, by rw [HR.out], ?_⟩
    · simp [results, Try.f37, go_sem, hc5]
    · exact hB.trans (belowK_b (w := w) (Nat.le_refl _) _ D _ _ (by omega) hK rfl rfl)
theorem keysRise_any (r A k : Nat) (t : Tr) (g o : Nat) (w : World) (hl : (lev r t).isSome = true) (hat : TrAt w A w.heap.size k t g o) :
    Calls Try.prog 37 #[.pointer (some ⟨g, o, none⟩)] w fun e w' => e = .returned (.bool (rises (inord r t))) ∧ Below w.heap.size w w' :=
  callsIn_wide.1 (keysRise_in Fence.wide rfl 4 (Nat.le_refl _) r A k t g o w hl hat)
end Go.Proofs.Ytffgobkgkhmeoaa
